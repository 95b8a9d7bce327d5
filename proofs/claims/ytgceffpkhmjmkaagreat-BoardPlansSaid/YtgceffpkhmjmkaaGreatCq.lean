/- BoardPlans: for every board, wear, weeks, turn and limit the call returns true, and the arguments read as they did. No condition. -/
import Derived.Test.YtgceffpkhmjmkaaGreatD
import Derived.Test.YtgceffpkhmjmkaaGreatRows
import Derived.WalkKit
import Derived.ProofKit
import Derived.OpenShut
import Derived.ShutString
import Derived.ChangeOld
import Derived.Below
import Derived.Lib.SmallJoins
import Derived.Deep.SlicePairs
import Derived.Test.YtgceffpkhmjmkaaGreatCp
import Derived.Test.YtgceffpkhmjmkaaGreatWe
import Derived.Deep.Matrix
set_option linter.unusedVariables false
set_option linter.unusedSimpArgs false
namespace Go.Proofs.YtgceffpkhmjmkaaGreat
open Go.ChangeShapes Go.WideShapes Go.ChangeAt Go.RowKit Go.Joins

theorem fr_own : ownKnob Tryz.prog.godebug = none := by kernel_rfl
theorem fr_laid : laidOutB Tryz.prog = true := by kernel_rfl
theorem fs_get {α : Type} {xs : List α} {n i : Nat} (h : xs.length = n) (hi : i < n) : ∃ y, xs[i]? = some y := ⟨_, List.getElem?_eq_getElem (by omega)⟩
theorem fs_list2 {α : Type} {cs : List α} (h : cs.length = 2) : ∃ a b, cs = [a, b] := by
  match cs, h with
  | [a, b], _ => exact ⟨a, b, rfl⟩
theorem fs_list4 {α : Type} {cs : List α} (h : cs.length = 4) : ∃ a b c d, cs = [a, b, c, d] := by
  match cs, h with
  | [a, b, c, d], _ => exact ⟨a, b, c, d, rfl⟩
theorem fs_list6 {α : Type} {cs : List α} (h : cs.length = 6) : ∃ a b c d e f, cs = [a, b, c, d, e, f] := by
  match cs, h with
  | [a, b, c, d, e, f], _ => exact ⟨a, b, c, d, e, f, rfl⟩

/-- What an int can be. -/
def I64 (n : Int) : Prop := -9223372036854775808 ≤ n ∧ n ≤ 9223372036854775807

section
variable {H : Type} {enc : TypeId × Value → H} {w : World} {base : Nat} {spare : Nat → Bool} {held : Bool} {fuel : Nat} {cs : List Value} {y : DataW H × List MemPlace}

theorem z_open (h : DataW.trod enc Tryz.prog w base spare held fuel 3 cs = some y) : ∃ a, cs = [.int .i64 a] ∧ I64 a := by
  obtain ⟨a, e0, _, wa⟩ := DataW.trod_int Tryz.underlying3 h
  exact ⟨a, e0, bounds_i64 wa⟩

/-- A slice of ints, read. -/
theorem ints_open (h : DataW.trod enc Tryz.prog w base spare held fuel 24 cs = some y) : ∃ v xs, cs = [v] ∧ Sl w 1 (fun x => [Value.int .i64 x]) v xs ∧ ∀ x ∈ xs, I64 x := by
  rcases open_ints Tryz.underlying24 Tryz.underlying3 (by kernel_rfl) h with ⟨hcs, _⟩ | ⟨a, len, cap, zs, hcs, _, hl, hm, hz, _, hcell, hwz⟩
  · exact ⟨_, [], hcs, ⟨none, 0, rfl, by simp, fun h => absurd rfl h⟩, by simp⟩
  · have hll : len ≤ zs.length := by rw [hz]; split <;> omega
    have hle : (zs.take len).length = len := by rw [List.length_take]; omega
    refine ⟨_, zs.take len, hcs, ⟨some a, cap, by rw [hle], ?_, ?_⟩, fun x hx => bounds_i64 (hwz x (List.mem_of_mem_take hx))⟩
    · rw [hle]; unfold maxLen at hm; omega
    · intro hne
      have hp : 0 < zs.length := by
        rcases Nat.eq_zero_or_pos zs.length with h0 | h0
        · rw [List.eq_nil_of_length_eq_zero h0] at hne; simp at hne
        · exact h0
      obtain ⟨b, off, rfl, hc⟩ := ints_at hcell hp
      refine ⟨b, off, rfl, World.block_lt_of_cell? w _ (hc 0 hp), ?_⟩
      intro j x hx i u hu
      match i, hu with
      | 0, hu =>
        simp at hu; subst hu
        have hj : j < zs.length := by
          have := (List.getElem?_eq_some_iff.1 hx).1
          rw [hle] at this; omega
        have hjl : j < len := by have := (List.getElem?_eq_some_iff.1 hx).1; rwa [hle] at this
        rw [Nat.mul_one, Nat.add_zero, hc j hj, List.getD_eq_getElem?_getD]
        rw [List.getElem?_take_of_lt hjl] at hx
        rw [hx]; rfl
      | i + 1, hu => simp at hu

/-- A slice of pairs of ints, read. -/
theorem pairs_open {t e : TypeId} {f0 f1 : Field} (ht : Tryz.prog.underlying t = some (.slice e)) (he : Tryz.prog.underlying e = some (.struct #[f0, f1])) (ce : Tryz.prog.cellsOf e = 2) (o0 : f0.offset = 0) (o1 : f1.offset = 1)
    (c0 : Tryz.prog.cellsOf f0.type = 1) (c1 : Tryz.prog.cellsOf f1.type = 1) (u0 : Tryz.prog.underlying f0.type = some (.int .i64)) (u1 : Tryz.prog.underlying f1.type = some (.int .i64))
    (h : DataW.trod enc Tryz.prog w base spare held fuel t cs = some y) : ∃ v xs, cs = [v] ∧ Sl w 2 encP v xs ∧ ∀ x ∈ xs, I64 x.1 ∧ I64 x.2 := by
  rcases Go.Deep.open_slice_pairs ht he ce o0 o1 c0 c1 h with ⟨hcs, _⟩ | ⟨a, len, cap, m, n, V0, V1, D0, D1, P0, P1, hcs, _, hl, hm, hmm, _, hc⟩
  · exact ⟨_, [], hcs, ⟨none, 0, rfl, by simp, fun h => absurd rfl h⟩, by simp⟩
  · have hll : len ≤ m := by rw [hmm]; split <;> omega
    have each : ∀ i, i < len → ∃ x : Int × Int, (w.cell? (a.add (i * 2)) = some (.int .i64 x.1) ∧ w.cell? (a.add (i * 2 + 1)) = some (.int .i64 x.2)) ∧ I64 x.1 ∧ I64 x.2 := by
      intro i hi
      obtain ⟨h1, h2, h3, h4⟩ := hc i (by omega)
      obtain ⟨x, e0, _, w0⟩ := DataW.trod_int u0 h3
      obtain ⟨z, e1, _, w1⟩ := DataW.trod_int u1 h4
      simp at e0 e1
      exact ⟨(x, z), ⟨by rw [h1, e0], by rw [h2, e1]⟩, bounds_i64 w0, bounds_i64 w1⟩
    obtain ⟨f, hf⟩ := Go.Deep.choose_lt each
    refine ⟨_, (List.range len).map f, hcs, ⟨some a, cap, by simp, ?_, ?_⟩, ?_⟩
    · simp; unfold maxLen at hm; omega
    · intro hne
      have hp : 0 < len := by
        rcases Nat.eq_zero_or_pos len with h0 | h0
        · subst h0; simp at hne
        · exact h0
      obtain ⟨b, off, spot⟩ := a
      have hspot : spot = none := by simpa [Addr.add] using World.cell?_spot (hf 0 hp).1.1
      subst hspot
      refine ⟨b, off, rfl, World.block_lt_of_cell? w _ (hf 0 hp).1.1, ?_⟩
      intro j x hx i u hu
      rw [List.getElem?_map] at hx
      have hj : j < len := by
        rcases Nat.lt_or_ge j len with h | h
        · exact h
        · rw [List.getElem?_eq_none (by simpa using h)] at hx; cases hx
      rw [List.getElem?_range hj] at hx
      simp at hx; subst hx
      obtain ⟨⟨g0, g1⟩, _⟩ := hf j hj
      rw [add_plain] at g0 g1
      match i, hu with
      | 0, hu => simp [encP] at hu; subst hu; rw [Nat.add_zero]; exact g0
      | 1, hu => simp [encP] at hu; subst hu; rw [Nat.add_assoc]; exact g1
      | i + 2, hu => simp [encP] at hu
    · intro x hx
      obtain ⟨i, hi, rfl⟩ := List.mem_map.1 hx
      exact (hf i (List.mem_range.1 hi)).2

theorem rings_open (h : DataW.trod enc Tryz.prog w base spare held fuel 22 cs = some y) : ∃ v xs, cs = [v] ∧ Sl w 2 encP v xs ∧ ∀ x ∈ xs, I64 x.1 ∧ I64 x.2 :=
  pairs_open Tryz.underlying22 Tryz.underlying79 (by kernel_rfl) rfl rfl (by kernel_rfl) (by kernel_rfl) Tryz.underlying3 Tryz.underlying3 h
theorem lines_open (h : DataW.trod enc Tryz.prog w base spare held fuel 23 cs = some y) : ∃ v xs, cs = [v] ∧ Sl w 2 encP v xs ∧ ∀ x ∈ xs, I64 x.1 ∧ I64 x.2 :=
  pairs_open Tryz.underlying23 Tryz.underlying28 (by kernel_rfl) rfl rfl (by kernel_rfl) (by kernel_rfl) Tryz.underlying3 Tryz.underlying3 h

/-- A point, read. -/
theorem point_open (h : DataW.trod enc Tryz.prog w base spare held fuel 28 cs = some y) : ∃ a b, cs = [.int .i64 a, .int .i64 b] ∧ I64 a ∧ I64 b := by
  obtain ⟨xs, m, rfl, _, hl, hx, hf⟩ := DataW.trod_struct Tryz.underlying28 h
  obtain ⟨c0, c1, rfl⟩ := fs_list2 (hl.trans (by kernel_rfl))
  have e1 : Tryz.prog.cellsOf 3 = 1 := by kernel_rfl
  have f0 := hf 0 _ rfl
  have f1 := hf 1 _ rfl
  have hx2 : xs.length = 2 := hx
  obtain ⟨y0, g0⟩ := fs_get hx2 (show 0 < 2 by omega)
  obtain ⟨y1, g1⟩ := fs_get hx2 (show 1 < 2 by omega)
  rw [g0] at f0
  rw [g1] at f1
  simp [e1] at f0 f1
  obtain ⟨a, h1, h2⟩ := z_open f0
  obtain ⟨b, h3, h4⟩ := z_open f1
  simp at h1 h3
  subst h1 h3
  exact ⟨a, b, rfl, h2, h4⟩
theorem span_open (h : DataW.trod enc Tryz.prog w base spare held fuel 47 cs = some y) : ∃ a b, cs = [.int .i64 a, .int .i64 b] ∧ I64 a ∧ I64 b := by
  obtain ⟨xs, m, rfl, _, hl, hx, hf⟩ := DataW.trod_struct Tryz.underlying47 h
  obtain ⟨c0, c1, rfl⟩ := fs_list2 (hl.trans (by kernel_rfl))
  have e1 : Tryz.prog.cellsOf 3 = 1 := by kernel_rfl
  have f0 := hf 0 _ rfl
  have f1 := hf 1 _ rfl
  have hx2 : xs.length = 2 := hx
  obtain ⟨y0, g0⟩ := fs_get hx2 (show 0 < 2 by omega)
  obtain ⟨y1, g1⟩ := fs_get hx2 (show 1 < 2 by omega)
  rw [g0] at f0
  rw [g1] at f1
  simp [e1] at f0 f1
  obtain ⟨a, h1, h2⟩ := z_open f0
  obtain ⟨b, h3, h4⟩ := z_open f1
  simp at h1 h3
  subst h1 h3
  exact ⟨a, b, rfl, h2, h4⟩
/-- A box, read. -/
theorem box_open (h : DataW.trod enc Tryz.prog w base spare held fuel 49 cs = some y) : ∃ a b c d, cs = [.int .i64 a, .int .i64 b, .int .i64 c, .int .i64 d] ∧ I64 a ∧ I64 b ∧ I64 c ∧ I64 d := by
  obtain ⟨xs, m, rfl, _, hl, hx, hf⟩ := DataW.trod_struct Tryz.underlying49 h
  obtain ⟨c0, c1, c2, c3, rfl⟩ := fs_list4 (hl.trans (by kernel_rfl))
  have e1 : Tryz.prog.cellsOf 47 = 2 := by kernel_rfl
  have f0 := hf 0 _ rfl
  have f1 := hf 1 _ rfl
  have hx2 : xs.length = 2 := hx
  obtain ⟨y0, g0⟩ := fs_get hx2 (show 0 < 2 by omega)
  obtain ⟨y1, g1⟩ := fs_get hx2 (show 1 < 2 by omega)
  rw [g0] at f0
  rw [g1] at f1
  simp [e1] at f0 f1
  obtain ⟨a, b, h1, h2, h3⟩ := span_open f0
  obtain ⟨c, d, h4, h5, h6⟩ := span_open f1
  simp at h1 h4
  obtain ⟨rfl, rfl⟩ := h1
  obtain ⟨rfl, rfl⟩ := h4
  exact ⟨a, b, c, d, rfl, h2, h3, h5, h6⟩

/-- A board, read. -/
theorem board_open (h : DataW.trod enc Tryz.prog w base spare held fuel 26 cs = some y) :
    ∃ (vs : Array Value) (b : Brd), cs = vs.toList ∧ BrdAt w (.agg vs) b := by
  obtain ⟨xs, m, rfl, _, hl, hx, hf⟩ := DataW.trod_struct Tryz.underlying26 h
  obtain ⟨c0, c1, c2, c3, c4, c5, rfl⟩ := fs_list6 (hl.trans (by kernel_rfl))
  have e1 : Tryz.prog.cellsOf 3 = 1 := by kernel_rfl
  have e2 : Tryz.prog.cellsOf 24 = 1 := by kernel_rfl
  have e3 : Tryz.prog.cellsOf 22 = 1 := by kernel_rfl
  have e4 : Tryz.prog.cellsOf 23 = 1 := by kernel_rfl
  have f0 := hf 0 _ rfl
  have f1 := hf 1 _ rfl
  have f2 := hf 2 _ rfl
  have f3 := hf 3 _ rfl
  have f4 := hf 4 _ rfl
  have f5 := hf 5 _ rfl
  have hx6 : xs.length = 6 := hx
  obtain ⟨y0, g0⟩ := fs_get hx6 (show 0 < 6 by omega)
  obtain ⟨y1, g1⟩ := fs_get hx6 (show 1 < 6 by omega)
  obtain ⟨y2, g2⟩ := fs_get hx6 (show 2 < 6 by omega)
  obtain ⟨y3, g3⟩ := fs_get hx6 (show 3 < 6 by omega)
  obtain ⟨y4, g4⟩ := fs_get hx6 (show 4 < 6 by omega)
  obtain ⟨y5, g5⟩ := fs_get hx6 (show 5 < 6 by omega)
  rw [g0] at f0
  rw [g1] at f1
  rw [g2] at f2
  rw [g3] at f3
  rw [g4] at f4
  rw [g5] at f5
  simp [e1, e2, e3, e4] at f0 f1 f2 f3 f4 f5
  obtain ⟨ey, h0, _⟩ := z_open f0
  obtain ⟨bu, h1, _⟩ := z_open f1
  obtain ⟨vr, rings, h2, s2, _⟩ := rings_open f2
  obtain ⟨vl, lines, h3, s3, _⟩ := lines_open f3
  obtain ⟨vn, nums, h4, s4, _⟩ := ints_open f4
  obtain ⟨wi, h5, _⟩ := z_open f5
  simp at h0 h1 h2 h3 h4 h5
  subst h0 h1 h2 h3 h4 h5
  exact ⟨#[.int .i64 ey, .int .i64 bu, c2, c3, c4, .int .i64 wi], ⟨ey, bu, rings, lines, nums, wi⟩, rfl, c2, c3, c4, rfl, s2, s3, s4⟩
end
end Go.Proofs.YtgceffpkhmjmkaaGreat

namespace Go.Proofs.YtgceffpkhmjmkaaGreat
open Go.RowKit Go.Shelf

/-- A slice of one int; a tuple of such a slice and an int. -/
def OneAt (q : Int) (x : Value) (W : World) : Prop := ∃ bp fp cp, x = .slice (some ⟨bp, fp, none⟩) 1 cp ∧ W.cell? ⟨bp, fp, none⟩ = some (.int .i64 q)
theorem OneAt.below {q : Int} {x : Value} {W W' : World} (h : OneAt q x W) (hB : Below W.heap.size W W') : OneAt q x W' := by
  obtain ⟨bp, fp, cp, e, h⟩ := h
  exact ⟨bp, fp, cp, e, keepc hB h⟩
/-- Weeks in memory. -/
def WksAt (LS : List (List Int)) (ns : Nat) (x : Value) (W : World) : Prop := ∃ (a2 : Option Addr) (c2 : Nat) (us : List (Value × List Int)), x = .slice a2 ns c2 ∧ Sl W 1 eR (.slice a2 ns c2) us ∧ us.map (·.2) = LS ∧ ∀ y ∈ us, Sl W 1 eI y.1 y.2
theorem WksAt.below {LS : List (List Int)} {ns : Nat} {x : Value} {W W' : World} (h : WksAt LS ns x W) (hB : Below W.heap.size W W') : WksAt LS ns x W' := by
  obtain ⟨a2, c2, us, e, h1, h2, h3⟩ := h
  exact ⟨a2, c2, us, e, h1.below hB, h2, fun y hy => (h3 y hy).below hB⟩
/-- The same row of weeks and of their copy. -/
def RowPair (v1 v2 : Value) (W : World) (j : Nat) : Prop := ∃ n1 c1 n2 c2 g off a1 q1 d1 g' off' a2 q2 d2, ∃ l : List Int, v1 = .slice (some ⟨g, off, none⟩) n1 c1 ∧ v2 = .slice (some ⟨g', off', none⟩) n2 c2 ∧ W.cell? ⟨g, off + j, none⟩ = some (.slice a1 q1 d1) ∧ W.cell? ⟨g', off' + j, none⟩ = some (.slice a2 q2 d2) ∧ Sl W 1 eI (.slice a1 q1 d1) l ∧ Sl W 1 eI (.slice a2 q2 d2) l
theorem row_pair {v1 v2 : Value} {W : World} {us ws : List (Value × List Int)} {j : Nat} (h1 : Sl W 1 eR v1 us) (r1 : ∀ y ∈ us, Sl W 1 eI y.1 y.2) (h2 : Sl W 1 eR v2 ws) (r2 : ∀ y ∈ ws, Sl W 1 eI y.1 y.2) (he : us.map (·.2) = ws.map (·.2)) (hj : j < ws.length) : RowPair v1 v2 W j := by
  have hl : us.length = ws.length := by have := congrArg List.length he; simpa using this
  obtain ⟨a1, c1, rfl, _, p1⟩ := rows_of h1 r1
  obtain ⟨a2, c2, rfl, _, p2⟩ := rows_of h2 r2
  obtain ⟨g, off, rfl, k1, s1⟩ := p1 j _ (List.getElem?_eq_getElem (by omega))
  obtain ⟨g', off', rfl, k2, s2⟩ := p2 j _ (List.getElem?_eq_getElem hj)
  have e : us[j].2 = ws[j].2 := by
    have h := congrArg (fun l => l[j]?) he
    simp only [List.getElem?_map, List.getElem?_eq_getElem (show j < us.length by omega), List.getElem?_eq_getElem hj, Option.map_some, Option.some.injEq] at h
    exact h
  rw [e] at s1
  obtain ⟨b1, d1, e1, z1⟩ := s1
  obtain ⟨b2, d2, e2, z2⟩ := s2
  exact ⟨_, _, _, _, g, off, b1, _, d1, g', off', b2, _, d2, ws[j].2, rfl, rfl, by rw [k1, e1], by rw [k2, e2], ⟨b1, d1, rfl, z1⟩, ⟨b2, d2, rfl, z2⟩⟩
theorem wk_len {worn : List Int} {ws : List (Value × List Int)} (h : bigW worn ws = false) : (wk ws).length ≤ 1000 := by
  unfold bigW at h
  cases ws with
  | nil => simp [wk]
  | cons y t => simp at h; simp only [wk]; omega
theorem chk_pos {b : Brd} (h : chk b = 0) : 1 ≤ b.nums.length ∧ b.nums.length ≤ 20 := by
  have g := good_of_chk h
  have := g.len
  have := List.length_pos_iff.2 g.lines
  have := g.same
  omega
theorem bestK_list (worn wkl : List Int) : digI worn.length 1 (bestP worn [wkl]) = [bestK worn wkl] := by
  obtain ⟨y, hy⟩ := List.length_eq_one_iff.1 (digI_length worn.length 1 (bestP worn [wkl]))
  unfold bestK
  rw [hy]; rfl

/-- What Plan and Last come to, case by case. -/
structure PlansSay (b : Brd) (worn : List Int) (ls : List (List Int)) (wkl : List Int) (L : Int) (ckv pE pmv fA pm lE lv fB lw : Int) (PL DG : List Int) : Prop where
  bad : ¬ ckv = 0 → pE = ckv ∧ PL = [] ∧ pmv = 0 ∧ lE = ckv ∧ lv = 0
  lng : ckv = 0 → 3 < ls.length → pE = 5 ∧ PL = [] ∧ pmv = 0
  frm : ckv = 0 → ¬ 3 < ls.length → ¬ fA = 0 → pE = fA ∧ PL = [] ∧ pmv = 0
  ple : ckv = 0 → ¬ 3 < ls.length → fA = 0 → pm ≤ 1000000000 → pE = 0 ∧ PL = DG ∧ pmv = pm
  pgt : ckv = 0 → ¬ 3 < ls.length → fA = 0 → ¬ pm ≤ 1000000000 → pE = 8 ∧ PL = [] ∧ pmv = 0
  lfm : ckv = 0 → ¬ fB = 0 → lE = fB ∧ lv = 0
  lli : ckv = 0 → fB = 0 → ¬ (0 ≤ L ∧ L ≤ 1000000000) → lE = 3 ∧ lv = 0
  lok : ckv = 0 → fB = 0 → 0 ≤ L → L ≤ 1000000000 → lE = 0 ∧ lv = lw
theorem plans_say (b : Brd) (worn : List Int) (ls : List (List Int)) (wkl : List Int) (L : Int) : PlansSay b worn ls wkl L (chk b) (planE b worn ls) (if planE b worn ls = 0 then planM worn ls else 0) (frm b.nums.length worn ls) (planM worn ls) (lastE b worn wkl L) (if lastE b worn wkl L = 0 then lastV worn wkl L else 0) (frm b.nums.length worn [wkl]) (lastV worn wkl L) (planL b worn ls) (digI worn.length ls.length (bestP worn ls)) := by
  refine ⟨fun hc => ?_, fun hc h3 => ?_, fun hc h3 hf => ?_, fun hc h3 hf hp => ?_, fun hc h3 hf hp => ?_, fun hc hf => ?_, fun hc hf hl => ?_, fun hc hf h0 h1 => ?_⟩
  · have e3 : planE b worn ls = chk b := by unfold planE; rw [if_neg hc]
    have e4 : lastE b worn wkl L = chk b := by unfold lastE; rw [if_neg hc]
    unfold planL
    rw [e3, e4, if_neg hc, if_neg hc, if_neg hc]
    exact ⟨rfl, rfl, rfl, rfl, rfl⟩
  · have e3 : planE b worn ls = 5 := by unfold planE; rw [if_pos hc, if_pos h3]
    unfold planL
    rw [e3, if_neg (by decide), if_neg (by decide)]
    exact ⟨rfl, rfl, rfl⟩
  · have e3 : planE b worn ls = frm b.nums.length worn ls := by unfold planE; rw [if_pos hc, if_neg h3, if_neg hf]
    unfold planL
    rw [e3, if_neg hf, if_neg hf]
    exact ⟨rfl, rfl, rfl⟩
  · have e3 : planE b worn ls = 0 := by unfold planE; rw [if_pos hc, if_neg h3, if_pos hf, if_pos hp]
    unfold planL
    rw [if_pos e3, if_pos e3]
    exact ⟨e3, rfl, rfl⟩
  · have e3 : planE b worn ls = 8 := by unfold planE; rw [if_pos hc, if_neg h3, if_pos hf, if_neg hp]
    unfold planL
    rw [e3, if_neg (by decide), if_neg (by decide)]
    exact ⟨rfl, rfl, rfl⟩
  · have e4 : lastE b worn wkl L = frm b.nums.length worn [wkl] := by unfold lastE; rw [if_pos hc, if_neg hf]
    rw [e4, if_neg hf]
    exact ⟨rfl, rfl⟩
  · have e4 : lastE b worn wkl L = 3 := by unfold lastE; rw [if_pos hc, if_pos hf, if_neg hl]
    rw [e4, if_neg (by decide)]
    exact ⟨rfl, rfl⟩
  · have e4 : lastE b worn wkl L = 0 := by unfold lastE; rw [if_pos hc, if_pos hf, if_pos ⟨h0, h1⟩]
    rw [if_pos e4]
    exact ⟨e4, rfl⟩

set_option maxRecDepth 100000 in
set_option maxHeartbeats 16000000 in
theorem plans_law (v vx : Value) (b : Brd) (worn : List Int) (ws : List (Value × List Int)) (K L : Int) (w : World) (h : BrdAt w v b) (hx : WoreAt w vx worn ws K L) :
  Calls Tryz.prog 6 #[v, vx] w (Ret (.bool true) w) := by
 have HB : Aside (BrdAt w v b) := h
 have HX : Aside (WoreAt w vx worn ws K L) := hx
 obtain ⟨vr, vl, vn, rfl, hr, hl, hn⟩ := h
 obtain ⟨ar, cr, rfl, lr, _⟩ := hr
 obtain ⟨al, cl, rfl, ll, _⟩ := hl
 obtain ⟨an, cn, rfl, ln, _⟩ := hn
 obtain ⟨v1, v2, rfl, s1, s2, s3⟩ := hx
 have HW1 : Aside (Sl w 1 eI v1 worn) := s1
 have HW2 : Aside (Sl w 1 eR v2 ws) := s2
 have HW3 : Aside (∀ y ∈ ws, Sl w 1 eI y.1 y.2) := s3
 have HWK : Aside (Sl w 1 eI (wkV ws) (wk ws)) := wk_sl s3
 obtain ⟨aw, cw, rfl, lw, _⟩ := s1
 obtain ⟨as_, cs, rfl, lws, _⟩ := s2
 obtain ⟨ak, ck_, eK, lk, _⟩ := HWK.out
 rw [eK] at HWK
 have HGR : Aside (∀ W, Below w.heap.size w W → Calls Tryz.prog 7 #[.agg #[.int .i64 b.eye, .int .i64 b.bull, .slice ar b.rings.length cr, .slice al b.lines.length cl, .slice an b.nums.length cn, .int .i64 b.wire]] W (Ret (.bool (greatB b)) W)) := fun W hW => great_any _ b W (HB.out.below hW)
 have HBG : Aside (∀ W, Below w.heap.size w W → Calls Tryz.prog 23 #[.agg #[.slice aw worn.length cw, .slice as_ ws.length cs, .int .i64 K, .int .i64 L]] W (Ret (.bool (bigW worn ws)) W)) := fun W hW => big_any _ worn ws K L W (HX.out.below hW)
 have HKN : Aside (∀ W, Calls Tryz.prog 8 #[] W (Ret (.bool true) W)) := fun W => known_any W
 have HOW : Aside (greatB b = false → ∀ W, Below w.heap.size w W → Calls Tryz.prog 9 #[.agg #[.int .i64 b.eye, .int .i64 b.bull, .slice ar b.rings.length cr, .slice al b.lines.length cl, .slice an b.nums.length cn, .int .i64 b.wire]] W (fun e w' => ∃ v', e = .returned v' ∧ BrdAt w' v' b ∧ Below W.heap.size W w')) := fun hg W hW => by
  have hs := small_of hg
  refine (own_all _ b W (HB.out.below hW) (by have := hs.rl; omega) (by have := hs.ll; omega) (by have := hs.nl; omega)).mono ?_
  rintro e w' ⟨_, _, _, _, _, _, rfl, hb, hB⟩
  exact ⟨_, rfl, hb, hB⟩
 have HIW : Aside (bigW worn ws = false → ∀ W, Below w.heap.size w W → Calls Tryz.prog 24 #[.slice aw worn.length cw] W (fun e w' => ∃ v', e = .returned v' ∧ Sl w' 1 eI v' worn ∧ Below W.heap.size W w')) := fun hg W hW => by
  refine (ints_allT _ worn W (HW1.out.below hW) (by unfold bigW at hg; simp at hg; omega)).mono ?_
  rintro e w' ⟨g, c, rfl, _, _, h1, _, hB⟩
  exact ⟨_, rfl, h1, hB⟩
 have HIK : Aside (bigW worn ws = false → ∀ W, Below w.heap.size w W → Calls Tryz.prog 24 #[.slice ak (wk ws).length ck_] W (fun e w' => ∃ v', e = .returned v' ∧ Sl w' 1 eI v' (wk ws) ∧ Below W.heap.size W w')) := fun hg W hW => by
  refine (ints_allT _ (wk ws) W (HWK.out.below hW) (wk_len hg)).mono ?_
  rintro e w' ⟨g, c, rfl, _, _, h1, _, hB⟩
  exact ⟨_, rfl, h1, hB⟩
 have HIS : Aside (bigW worn ws = false → ∀ W, Below w.heap.size w W → Calls Tryz.prog 34 #[.slice as_ ws.length cs] W (fun e w' => ∃ v', e = .returned v' ∧ WksAt (ws.map (·.2)) ws.length v' w' ∧ Below W.heap.size W w')) := fun hg W hW => by
  refine (weeks_all _ ws W (HW2.out.below hW) (fun y hy => (HW3.out y hy).below hW) (fun y hy => ?_) ?_).mono ?_
  ·
   unfold bigW at hg
   simp at hg
   have := hg.2 y.1 y.2 hy
   omega
  ·
   unfold bigW at hg; simp at hg; omega
  ·
   rintro e w' ⟨a2, c2, us, rfl, h1, h2, h3, hB⟩
   rw [List.length_map] at h1
   exact ⟨_, rfl, ⟨a2, c2, us, by rw [List.length_map], h1, h2, h3⟩, hB⟩
 have HWE : Aside (∀ W, Below w.heap.size w W → Calls Tryz.prog 25 #[.agg #[.slice aw worn.length cw, .slice as_ ws.length cs, .int .i64 K, .int .i64 L]] W (Ret (.slice ak (wk ws).length ck_) W)) := fun W hW => by
  have := week_any _ worn ws K L W (HX.out.below hW)
  rw [eK] at this
  exact this
 have HPL : Aside (∀ u u1 u2 W, BrdAt W u b → Sl W 1 eI u1 worn → WksAt (ws.map (·.2)) ws.length u2 W → Calls Tryz.prog 35 #[u, u1, u2] W (fun e w' => ∃ aa na ca, e = .returned (.tuple #[.slice aa na ca, .int .i64 (if planE b worn (ws.map (·.2)) = 0 then planM worn (ws.map (·.2)) else 0), .int .i64 (planE b worn (ws.map (·.2)))]) ∧ Sl w' 1 eI (.slice aa na ca) (planL b worn (ws.map (·.2))) ∧ na = (planL b worn (ws.map (·.2))).length ∧ Below W.heap.size W w')) := fun u u1 u2 W h h1 h2 => by
  obtain ⟨a2, c2, us, rfl, q1, q2, q3⟩ := h2
  have := plan_any u u1 _ b worn us W h h1 q1 q3
  rw [q2] at this
  exact this
 have HLA : Aside (∀ u u1 u2 W, BrdAt W u b → Sl W 1 eI u1 worn → Sl W 1 eI u2 (wk ws) → Calls Tryz.prog 36 #[u, u1, u2, .int .i64 L] W (Ret (.tuple #[.int .i64 (if lastE b worn (wk ws) L = 0 then lastV worn (wk ws) L else 0), .int .i64 (lastE b worn (wk ws) L)]) W)) := fun u u1 u2 W h h1 h2 => last_any u u1 u2 b worn (wk ws) L W h h1 h2
 have HAL : Aside (∀ u u' xs W, Sl W 1 eI u xs → Sl W 1 eI u' xs → Calls Tryz.prog 29 #[u, u'] W (Ret (.bool true) W)) := fun u u' xs W h h' => by
  have := alike_any u u' xs xs W h h'
  rwa [decide_eq_true rfl] at this
 have HRC : Aside (greatB b = false → ∀ W, Below w.heap.size w W → Calls Tryz.prog 13 #[.agg #[.int .i64 b.eye, .int .i64 b.bull, .slice ar b.rings.length cr, .slice al b.lines.length cl, .slice an b.nums.length cn, .int .i64 b.wire]] W (Ret (.int .i64 (chk b)) W)) := fun hg W hW => rCheck_any _ b W (HB.out.below hW) (small_of hg)
 have HFO : Aside (greatB b = false → ∀ u W, Below w.heap.size w W → Sl W 1 eR u [((.slice ak (wk ws).length ck_ : Value), wk ws)] → Calls Tryz.prog 30 #[.int .i64 b.nums.length, .slice aw worn.length cw, u] W (Ret (.int .i64 (frm b.nums.length worn [wk ws])) W)) := fun hg u W hW hu => by
  have hs := small_of hg
  have := rForm_any b.nums.length _ u worn _ W (by have := hs.nl; omega) (HW1.out.below hW) hu (fun z hz => by simp at hz; subst hz; exact HWK.out.below hW)
  exact this
 have HFA : Aside (greatB b = false → ∀ W, Below w.heap.size w W → Calls Tryz.prog 30 #[.int .i64 b.nums.length, .slice aw worn.length cw, .slice as_ ws.length cs] W (Ret (.int .i64 (frm b.nums.length worn (ws.map (·.2)))) W)) := fun hg W hW => by
  have hs := small_of hg
  exact rForm_any b.nums.length _ _ worn ws W (by have := hs.nl; omega) (HW1.out.below hW) (HW2.out.below hW) (fun y hy => (HW3.out y hy).below hW)
 have HRA : Aside (chk b = 0 → (b.nums.length : Int) ≤ 8 → ¬ 3 < ws.length → frm b.nums.length worn (ws.map (·.2)) = 0 → ∀ W, Below w.heap.size w W → Calls Tryz.prog 33 #[.slice aw worn.length cw, .slice as_ ws.length cs] W (fun e w' => ∃ v', e = .returned (.tuple #[v', .int .i64 (planM worn (ws.map (·.2)))]) ∧ Sl w' 1 eI v' (digI worn.length (ws.map (·.2)).length (bestP worn (ws.map (·.2)))) ∧ Below W.heap.size W w')) := fun hc h8 h3 hf W hW => by
  obtain ⟨f1, f2, f3, f4⟩ := wErr_ok (n := b.nums.length) (ws := ws) (by rw [wErr_frm]; exact hf)
  have p1 := (chk_pos hc).1
  have hle : worn.length ≤ 8 := by omega
  have hpow : worn.length ^ ws.length ≤ 1000000000 := by
   have q1 : worn.length ^ ws.length ≤ 8 ^ ws.length := Nat.pow_le_pow_left hle _
   have q2 : 8 ^ ws.length ≤ 8 ^ 3 := Nat.pow_le_pow_right (by omega) (by omega)
   omega
  rw [List.length_map]
  exact rPlan_any _ _ worn ws W (HW1.out.below hW) (HW2.out.below hW) (fun y hy => (HW3.out y hy).below hW) (by intro e; rw [e] at f1; simp at f1; omega) (by omega) (by omega) hpow (fun z hz => (f2 z hz).trans f1.symm) (fun x hx => by have := f3 x hx; omega) (fun z hz y hy => by have := f4 z hz y hy; omega)
 have HSB : Aside (chk b = 0 → frm b.nums.length worn [wk ws] = 0 → ∀ p : Nat, (wseq worn (wk ws) p).length = b.nums.length ∧ (∀ x ∈ wseq worn (wk ws) p, 0 ≤ x ∧ x ≤ 1000000000 + 1000000 * (p : Int)) ∧ (wk ws).length = b.nums.length ∧ (∀ x ∈ wk ws, 0 ≤ x ∧ x ≤ 1000000) ∧ 1 ≤ b.nums.length ∧ b.nums.length ≤ 20) := fun hc hf p => by
  obtain ⟨f1, f2, f3, f4⟩ := wErr_ok (n := b.nums.length) (ws := [(Value.bool true, wk ws)]) (by rw [wErr_frm]; exact hf)
  have f2' := f2 _ (List.mem_singleton.2 rfl)
  have f4' := f4 _ (List.mem_singleton.2 rfl)
  simp only [] at f2' f4'
  have p1 := chk_pos hc
  have q := wseq_bd (n := b.nums.length) (by omega) f1 f2' f3 f4' p
  exact ⟨q.1, q.2, f2', f4', p1.1, p1.2⟩
 have HSQ : Aside (chk b = 0 → frm b.nums.length worn [wk ws] = 0 → ∀ p : Nat, ∃ k : Nat, (k : Int) < (b.nums.length : Int) ∧ bestK (wseq worn (wk ws) p) (wk ws) = (k : Int) ∧ wseq worn (wk ws) (p + 1) = aft (wseq worn (wk ws) p) (wk ws) k) := fun hc hf p => by
  obtain ⟨q1, _, _, _, q5, _⟩ := HSB.out hc hf p
  obtain ⟨k, h1, h2, h3⟩ := wseq_one worn (wk ws) p b.nums.length q1 (by omega)
  exact ⟨k, by omega, h2, h3⟩
 have HRM : Aside (chk b = 0 → frm b.nums.length worn [wk ws] = 0 → ∀ (p : Nat) u W, Sl W 1 eI u (wseq worn (wk ws) p) → Calls Tryz.prog 32 #[u] W (Ret (.int .i64 (mx (wseq worn (wk ws) p))) W)) := fun hc hf p u W hu => rMost_any u _ W hu (by have := HSB.out hc hf p; intro e; rw [e] at this; simp at this; omega)
 have HRP : Aside (chk b = 0 → frm b.nums.length worn [wk ws] = 0 → ∀ (p : Nat) u u2 W, p ≤ 501 → Below w.heap.size w W → Sl W 1 eI u (wseq worn (wk ws) p) → Sl W 1 eR u2 [((.slice ak (wk ws).length ck_ : Value), wk ws)] → Calls Tryz.prog 33 #[u, u2] W (fun e w' => ∃ v' m, e = .returned (.tuple #[v', .int .i64 m]) ∧ OneAt (bestK (wseq worn (wk ws) p) (wk ws)) v' w' ∧ Below W.heap.size W w')) := fun hc hf p u u2 W hp hW hu hu2 => by
  obtain ⟨b1, b2, b3, b4, b5, b6⟩ := HSB.out hc hf p
  have q := rPlan_any u u2 _ _ W hu hu2 (fun z hz => by simp at hz; subst hz; exact HWK.out.below hW) (by intro e; rw [e] at b1; simp at b1; omega) (by omega) (by simp) (by simp; omega) (fun z hz => by simp at hz; subst hz; exact b3.trans b1.symm) (fun x hx => by have := b2 x hx; omega) (fun z hz y hy => by simp at hz; subst hz; have := b4 y hy; omega)
  simp only [List.map_cons, List.map_nil, List.length_cons, List.length_nil, Nat.zero_add] at q
  rw [bestK_list] at q
  refine q.mono ?_
  rintro e w' ⟨v', rfl, hs, hB⟩
  obtain ⟨a, c, rfl, _, hs⟩ := hs
  obtain ⟨bp, fp, rfl, _, hcc⟩ := hs (by simp)
  have := hcc 0 _ rfl 0 _ rfl
  exact ⟨_, _, rfl, ⟨bp, fp, c, rfl, by simpa using this⟩, hB⟩
 have HRW : Aside (chk b = 0 → frm b.nums.length worn [wk ws] = 0 → ∀ (p : Nat) (k : Nat) u W, p ≤ 501 → (k : Int) < (b.nums.length : Int) → Below w.heap.size w W → Sl W 1 eI u (wseq worn (wk ws) p) → Calls Tryz.prog 31 #[u, .slice ak (wk ws).length ck_, .int .i64 k] W (fun e w' => ∃ v', e = .returned v' ∧ Sl w' 1 eI v' (aft (wseq worn (wk ws) p) (wk ws) k) ∧ Below W.heap.size W w')) := fun hc hf p k u W hp hk hW hu => by
  obtain ⟨b1, b2, b3, b4, b5, b6⟩ := HSB.out hc hf p
  exact rWear_any _ _ _ (wk ws) k W hu (HWK.out.below hW) (by omega) (by omega) (by omega) (fun x hx => by have := b2 x hx; omega) (fun x hx => by have := b4 x hx; omega)
 have HTS : Aside (PlansSay b worn (ws.map (·.2)) (wk ws) L (chk b) (planE b worn (ws.map (·.2))) (if planE b worn (ws.map (·.2)) = 0 then planM worn (ws.map (·.2)) else 0) (frm b.nums.length worn (ws.map (·.2))) (planM worn (ws.map (·.2))) (lastE b worn (wk ws) L) (if lastE b worn (wk ws) L = 0 then lastV worn (wk ws) L else 0) (frm b.nums.length worn [wk ws]) (lastV worn (wk ws) L) (planL b worn (ws.map (·.2))) (digI worn.length (ws.map (·.2)).length (bestP worn (ws.map (·.2))))) := plans_say b worn _ (wk ws) L
 have HLV : Aside (lastV worn (wk ws) L = lastF (fun p => mx (wseq worn (wk ws) p)) L 501 0) := rfl
 have HCP : Aside (chk b = 0 → 1 ≤ b.nums.length ∧ b.nums.length ≤ 20) := fun hc => chk_pos hc
 have HRO : Aside (∀ W u2, Below w.heap.size w W → WksAt (ws.map (·.2)) ws.length u2 W → ∀ j, j < ws.length → RowPair u2 (.slice as_ ws.length cs) W j) := fun W u2 hW h2 j hj => by
  obtain ⟨a2, c2, us, rfl, q1, q2, q3⟩ := h2
  exact row_pair q1 q3 (HW2.out.below hW) (fun y hy => (HW3.out y hy).below hW) q2 hj
 have HLS : Aside ((ws.map (·.2)).length = ws.length) := List.length_map _
 have HWS : Aside (Sl w 1 eI (.slice aw worn.length cw) worn) := HW1.out
 clear HB HX HW1 HW2 HW3 HWK HSB eK
 obtain ⟨gb, hgb⟩ : ∃ z, greatB b = z := ⟨_, rfl⟩
 obtain ⟨gw, hgw⟩ : ∃ z, bigW worn ws = z := ⟨_, rfl⟩
 obtain ⟨ckv, hck⟩ : ∃ z, chk b = z := ⟨_, rfl⟩
 obtain ⟨LS, hLS⟩ : ∃ z, ws.map (·.2) = z := ⟨_, rfl⟩
 rw [hLS] at HIS HPL HFA HRA HTS HRO HLS
 clear hLS
 obtain ⟨PL, hPL⟩ : ∃ z, planL b worn LS = z := ⟨_, rfl⟩
 obtain ⟨pmv, hpmv⟩ : ∃ z, (if planE b worn LS = 0 then planM worn LS else 0) = z := ⟨_, rfl⟩
 rw [hpmv] at HPL HTS
 clear hpmv
 obtain ⟨pE, hpE⟩ : ∃ z, planE b worn LS = z := ⟨_, rfl⟩
 obtain ⟨lv, hlv⟩ : ∃ z, (if lastE b worn (wk ws) L = 0 then lastV worn (wk ws) L else 0) = z := ⟨_, rfl⟩
 rw [hlv] at HLA HTS
 clear hlv
 obtain ⟨lE, hlE⟩ : ∃ z, lastE b worn (wk ws) L = z := ⟨_, rfl⟩
 obtain ⟨fA, hfA⟩ : ∃ z, frm b.nums.length worn LS = z := ⟨_, rfl⟩
 obtain ⟨fB, hfB⟩ : ∃ z, frm b.nums.length worn [wk ws] = z := ⟨_, rfl⟩
 obtain ⟨pm, hpm⟩ : ∃ z, planM worn LS = z := ⟨_, rfl⟩
 obtain ⟨DG, hDG⟩ : ∃ z, digI worn.length LS.length (bestP worn LS) = z := ⟨_, rfl⟩
 obtain ⟨lvv, hlvv⟩ : ∃ z, lastV worn (wk ws) L = z := ⟨_, rfl⟩
 rw [hgb] at HGR HOW HRC HFO HFA
 rw [hgw] at HBG HIW HIK HIS
 rw [hck] at HRC HRA HSQ HRM HRP HRW HTS HCP
 rw [hPL] at HPL HTS
 rw [hpE] at HPL HTS
 rw [hlE] at HLA HTS
 rw [hfA] at HFA HRA HTS
 rw [hfB] at HFO HSQ HRM HRP HRW HTS
 rw [hpm] at HRA HTS
 rw [hDG] at HRA HTS
 rw [hlvv] at HTS HLV
 clear hgb hgw hck hPL hpE hlE hfA hfB hpm hDG hlvv
 generalize wk ws = wkl at *
 obtain ⟨SQ, hSQ⟩ : ∃ z : Nat → List Int, wseq worn wkl = z := ⟨_, rfl⟩
 have HS0 : Aside (SQ 0 = worn) := by show _ = _; rw [← hSQ]; rfl
 rw [hSQ] at HSQ HRM HRP HRW HLV
 clear hSQ
 obtain ⟨MF, hMF⟩ : ∃ z : Nat → Int, (fun p => mx (SQ p)) = z := ⟨_, rfl⟩
 have hMF' : ∀ p, mx (SQ p) = MF p := fun p => by rw [← hMF]
 rw [hMF] at HLV
 simp only [hMF'] at HRM
 clear hMF hMF'
 obtain ⟨ey, bu, rings, lines, nums, wi⟩ := b
 obtain ⟨nn, hnn⟩ : ∃ z, nums.length = z := ⟨_, rfl⟩
 simp only [] at *
 rw [hnn] at ln HGR HOW HRC HFO HFA HRA HRW HSQ HCP ⊢
 clear hnn
 generalize rings.length = nr at *
 generalize lines.length = nl at *
 generalize worn.length = nw at *
 generalize ws.length = ns at *
 generalize wkl.length = nk at *
 go_enter Tryz.func6, Tryz.ntmps6
 go_upto_region 1 with (fail)
 obtain ⟨W0, hW0⟩ : ∃ W0, W0 = (w.alloc (.cells #[.int .i64 ey, .int .i64 bu, .slice ar nr cr, .slice al nl cl, .slice an nn cn, .int .i64 wi] 26)).alloc (.cells #[.slice aw nw cw, .slice as_ ns cs, .int .i64 K, .int .i64 L] 56) := ⟨_, rfl⟩
 have BU : Aside (Below w.heap.size w W0) := by rw [hW0]; clear hW0; show Below _ _ _; (repeat' (first | exact Below.refl _ _ | assumption | (with_reducible refine Below.drew ?_) | (with_reducible refine Below.setCell ?_ (by (first | (simp; done) | (simp; omega))) _) | (with_reducible refine below_drewN' ?_ _) | (refine Below.alloc ?_ (by (try simp only [World.size_alloc, World.size_drew, World.size_setCell]); omega) _) | (refine Below.trans ?_ (Below.mono (by assumption) (by (try simp only [World.size_alloc, World.size_drew, World.size_setCell]); omega)))))
 have bc0 : W0.cell? ⟨w.heap.size, 0, none⟩ = some (.int .i64 ey) := by rw [hW0]; clear hW0; go_simp
 have bc1 : W0.cell? ⟨w.heap.size, 1, none⟩ = some (.int .i64 bu) := by rw [hW0]; clear hW0; go_simp
 have bc2 : W0.cell? ⟨w.heap.size, 2, none⟩ = some (.slice ar nr cr) := by rw [hW0]; clear hW0; go_simp
 have bc3 : W0.cell? ⟨w.heap.size, 3, none⟩ = some (.slice al nl cl) := by rw [hW0]; clear hW0; go_simp
 have bc4 : W0.cell? ⟨w.heap.size, 4, none⟩ = some (.slice an nn cn) := by rw [hW0]; clear hW0; go_simp
 have bc5 : W0.cell? ⟨w.heap.size, 5, none⟩ = some (.int .i64 wi) := by rw [hW0]; clear hW0; go_simp
 have wc0 : W0.cell? ⟨w.heap.size + 1, 0, none⟩ = some (.slice aw nw cw) := by rw [hW0]; clear hW0; go_simp
 have wc1 : W0.cell? ⟨w.heap.size + 1, 1, none⟩ = some (.slice as_ ns cs) := by rw [hW0]; clear hW0; go_simp
 have wc2 : W0.cell? ⟨w.heap.size + 1, 2, none⟩ = some (.int .i64 K) := by rw [hW0]; clear hW0; go_simp
 have wc3 : W0.cell? ⟨w.heap.size + 1, 3, none⟩ = some (.int .i64 L) := by rw [hW0]; clear hW0; go_simp
 rw [← hW0]
 clear hW0
 go_cut [40] (fun s40 wc => s40 = .bool (gb || gw || (decide ((8 : Int) < (nn : Int)) && decide ((nn : Int) ≤ 20))) ∧ Aside (Below W0.heap.size W0 wc))
 case first =>
  cases gb with
  | true =>
   have BX : Aside (Below W0.heap.size W0 W0) := Below.refl _ _
   go_wp2_with fail
   refine (HGR.out _ BU.out).mono ?_
   rintro e W1 ⟨rfl, hb1⟩
   replace bc0 := keepc hb1 bc0
   replace bc1 := keepc hb1 bc1
   replace bc2 := keepc hb1 bc2
   replace bc3 := keepc hb1 bc3
   replace bc4 := keepc hb1 bc4
   replace bc5 := keepc hb1 bc5
   replace wc0 := keepc hb1 wc0
   replace wc1 := keepc hb1 wc1
   replace wc2 := keepc hb1 wc2
   replace wc3 := keepc hb1 wc3
   replace BU : Aside (Below w.heap.size w W1) := BU.out.trans (hb1.mono BU.out.size)
   replace BX : Aside (Below W0.heap.size W0 W1) := BX.out.trans (hb1.mono BX.out.size)
   go_wp2_with fail
   go_meet
   exact ⟨by simp, BX.out⟩
  | false =>
   have BX : Aside (Below W0.heap.size W0 W0) := Below.refl _ _
   go_wp2_with fail
   refine (HGR.out _ BU.out).mono ?_
   rintro e W1 ⟨rfl, hb1⟩
   replace bc0 := keepc hb1 bc0
   replace bc1 := keepc hb1 bc1
   replace bc2 := keepc hb1 bc2
   replace bc3 := keepc hb1 bc3
   replace bc4 := keepc hb1 bc4
   replace bc5 := keepc hb1 bc5
   replace wc0 := keepc hb1 wc0
   replace wc1 := keepc hb1 wc1
   replace wc2 := keepc hb1 wc2
   replace wc3 := keepc hb1 wc3
   replace BU : Aside (Below w.heap.size w W1) := BU.out.trans (hb1.mono BU.out.size)
   replace BX : Aside (Below W0.heap.size W0 W1) := BX.out.trans (hb1.mono BX.out.size)
   cases gw with
   | true =>
    go_wp2_with fail
    refine (HBG.out _ BU.out).mono ?_
    rintro e W2 ⟨rfl, hb2⟩
    replace bc0 := keepc hb2 bc0
    replace bc1 := keepc hb2 bc1
    replace bc2 := keepc hb2 bc2
    replace bc3 := keepc hb2 bc3
    replace bc4 := keepc hb2 bc4
    replace bc5 := keepc hb2 bc5
    replace wc0 := keepc hb2 wc0
    replace wc1 := keepc hb2 wc1
    replace wc2 := keepc hb2 wc2
    replace wc3 := keepc hb2 wc3
    replace BU : Aside (Below w.heap.size w W2) := BU.out.trans (hb2.mono BU.out.size)
    replace BX : Aside (Below W0.heap.size W0 W2) := BX.out.trans (hb2.mono BX.out.size)
    go_wp2_with fail
    go_meet
    exact ⟨by simp, BX.out⟩
   | false =>
    go_wp2_with fail
    refine (HBG.out _ BU.out).mono ?_
    rintro e W2 ⟨rfl, hb2⟩
    replace bc0 := keepc hb2 bc0
    replace bc1 := keepc hb2 bc1
    replace bc2 := keepc hb2 bc2
    replace bc3 := keepc hb2 bc3
    replace bc4 := keepc hb2 bc4
    replace bc5 := keepc hb2 bc5
    replace wc0 := keepc hb2 wc0
    replace wc1 := keepc hb2 wc1
    replace wc2 := keepc hb2 wc2
    replace wc3 := keepc hb2 wc3
    replace BU : Aside (Below w.heap.size w W2) := BU.out.trans (hb2.mono BU.out.size)
    replace BX : Aside (Below W0.heap.size W0 W2) := BX.out.trans (hb2.mono BX.out.size)
    by_cases h8 : (8 : Int) < (nn : Int)
    ·
     by_cases h20 : (nn : Int) ≤ 20
     ·
      go_wp2_with fail
      go_meet
      exact ⟨by rw [decide_eq_true (p := (8 : Int) < (nn : Int)) (by omega), decide_eq_true (p := (nn : Int) ≤ 20) (by omega)]; rfl, BX.out⟩
     ·
      go_wp2_with fail
      go_meet
      exact ⟨by rw [decide_eq_true (p := (8 : Int) < (nn : Int)) (by omega), decide_eq_false (p := (nn : Int) ≤ 20) (by omega)]; rfl, BX.out⟩
    ·
     go_wp2_with fail
     go_meet
     exact ⟨by rw [decide_eq_false (p := (8 : Int) < (nn : Int)) (by omega)]; rfl, BX.out⟩
 case rest =>
  obtain ⟨rfl, hbx⟩ := hcut
  have hbx := hbx.out
  replace bc0 := keepc hbx bc0
  replace bc1 := keepc hbx bc1
  replace bc2 := keepc hbx bc2
  replace bc3 := keepc hbx bc3
  replace bc4 := keepc hbx bc4
  replace bc5 := keepc hbx bc5
  replace wc0 := keepc hbx wc0
  replace wc1 := keepc hbx wc1
  replace wc2 := keepc hbx wc2
  replace wc3 := keepc hbx wc3
  replace BU : Aside (Below w.heap.size w wc) := BU.out.trans (hbx.mono BU.out.size)
  clear hbx
  obtain ⟨bad, hbad⟩ : ∃ z, (gb || gw || (decide ((8 : Int) < (nn : Int)) && decide ((nn : Int) ≤ 20))) = z := ⟨_, rfl⟩
  rw [hbad]
  cases bad with
  | true =>
   clear hbad
   go_wp2_with fail
   refine (HKN.out _).mono ?_
   rintro e W1 ⟨rfl, hb1⟩
   replace bc0 := keepc hb1 bc0
   replace bc1 := keepc hb1 bc1
   replace bc2 := keepc hb1 bc2
   replace bc3 := keepc hb1 bc3
   replace bc4 := keepc hb1 bc4
   replace bc5 := keepc hb1 bc5
   replace wc0 := keepc hb1 wc0
   replace wc1 := keepc hb1 wc1
   replace wc2 := keepc hb1 wc2
   replace wc3 := keepc hb1 wc3
   replace BU : Aside (Below w.heap.size w W1) := BU.out.trans (hb1.mono BU.out.size)
   clear hb1
   go_wp2_with fail
   go_ret
   exact ⟨rfl, BU.out⟩
  | false =>
   obtain ⟨rfl, rfl, hn8⟩ : gb = false ∧ gw = false ∧ ¬ ((8 : Int) < (nn : Int) ∧ (nn : Int) ≤ 20) := by
    simp at hbad
    exact ⟨hbad.1.1, hbad.1.2, by omega⟩
   clear hbad HGR HBG
   have HOW2 : Aside _ := HOW.out rfl
   have HRC2 : Aside _ := HRC.out rfl
   have HFO2 : Aside _ := HFO.out rfl
   have HFA2 : Aside _ := HFA.out rfl
   have HIW2 : Aside _ := HIW.out rfl
   have HIK2 : Aside _ := HIK.out rfl
   have HIS2 : Aside _ := HIS.out rfl
   clear HOW HRC HFO HFA HIW HIK HIS
   go_upto_region 3 with (fail)
   refine region_laid (fl := 8) [true, true, true, true, true, true, true, true] 0 (fun (i : Nat) (x : Value) (ww : World) => (match i with | 0 => x = .pointer (some ⟨w.heap.size + 1, 0, none⟩) | 1 => x = .slice aw nw cw | 2 => Sl ww 1 eI x worn | 3 => x = .pointer (some ⟨w.heap.size + 1, 1, none⟩) | 4 => x = .slice as_ ns cs | 5 => WksAt LS ns x ww | 6 => Sl ww 1 eI x worn | 7 => WksAt LS ns x ww | _ => True : Prop)) (fun w' => Below wc.heap.size wc w') (by kernel_rfl) rfl (by show layable _ 228 _ 8 = true; decide +kernel) rfl ((Below.refl _ _).drew) ?mono3 ?step3 ?rest3
   case mono3 =>
    intro i x ww ww' hB h
    match i, h with
    | 0, h => exact h
    | 1, h => exact h
    | 2, h => exact Sl.below h hB
    | 3, h => exact h
    | 4, h => exact h
    | 5, h => exact WksAt.below h hB
    | 6, h => exact Sl.below h hB
    | 7, h => exact WksAt.below h hB
    | n + 8, h => exact h
   case step3 =>
    intro i o_ listed ac W hA ho hL he
    have hk2 : ac.tmps.getD 2 undef = .pointer (some ⟨w.heap.size, 0, none⟩) := hL.kept 2 (by decide +kernel)
    have hk3 : ac.tmps.getD 3 undef = .pointer (some ⟨w.heap.size + 1, 0, none⟩) := hL.kept 3 (by decide +kernel)
    have CL : ∀ W', Below W.heap.size W W' → Below wc.heap.size wc W' := fun W' h => hL.cls.trans (h.mono hL.cls.size)
    have k_wc0 := keepc hL.cls wc0
    have k_wc1 := keepc hL.cls wc1
    have k_wc2 := keepc hL.cls wc2
    have k_wc3 := keepc hL.cls wc3
    match i, hA, ho with
    | 0, _, ho =>
     cases ho
     refine wpOp_plain rfl rfl ?_
     unfold Oper.wp
     go_simp
     exact ⟨_, rfl, Below.refl _ _, CL _ (Below.refl _ _), rfl⟩
    | 1, _, ho =>
     cases ho
     have d0 : ac.tmps.getD 42 undef = .pointer (some ⟨w.heap.size + 1, 0, none⟩) := hL.new 0 _ 42 rfl (he ⟨0, .data⟩ (by simp) rfl) rfl
     refine wpOp_plain rfl rfl ?_
     unfold Oper.wp
     go_simp
     exact ⟨_, rfl, Below.refl _ _, CL _ (Below.refl _ _), rfl⟩
    | 2, _, ho =>
     cases ho
     have d1 : ac.tmps.getD 43 undef = .slice aw nw cw := hL.new 1 _ 43 rfl (he ⟨1, .data⟩ (by simp) rfl) rfl
     have x := HIW2.out W (BU.out.trans (hL.cls.mono BU.out.size))
     refine wpOp_plain rfl rfl ?_
     unfold Oper.wp
     go_simp
     refine x.mono ?_
     rintro e w' ⟨v', rfl, hs, hBn⟩
     exact ⟨_, rfl, hBn, CL _ hBn, hs⟩
    | 3, _, ho =>
     cases ho
     refine wpOp_plain rfl rfl ?_
     unfold Oper.wp
     go_simp
     exact ⟨_, rfl, Below.refl _ _, CL _ (Below.refl _ _), rfl⟩
    | 4, _, ho =>
     cases ho
     have d3 : ac.tmps.getD 45 undef = .pointer (some ⟨w.heap.size + 1, 1, none⟩) := hL.new 3 _ 45 rfl (he ⟨3, .data⟩ (by simp) rfl) rfl
     refine wpOp_plain rfl rfl ?_
     unfold Oper.wp
     go_simp
     exact ⟨_, rfl, Below.refl _ _, CL _ (Below.refl _ _), rfl⟩
    | 5, _, ho =>
     cases ho
     have d4 : ac.tmps.getD 46 undef = .slice as_ ns cs := hL.new 4 _ 46 rfl (he ⟨4, .data⟩ (by simp) rfl) rfl
     have x := HIS2.out W (BU.out.trans (hL.cls.mono BU.out.size))
     refine wpOp_plain rfl rfl ?_
     unfold Oper.wp
     go_simp
     refine x.mono ?_
     rintro e w' ⟨v', rfl, hs, hBn⟩
     exact ⟨_, rfl, hBn, CL _ hBn, hs⟩
    | 6, _, ho =>
     cases ho
     obtain ⟨x2, hx2⟩ : ∃ x, ac.tmps.getD 44 undef = x := ⟨_, rfl⟩
     have d2 := hL.new 2 _ 44 rfl (he ⟨2, .data⟩ (by simp) rfl) rfl
     rw [hx2] at d2
     refine wpOp_plain rfl rfl ?_
     unfold Oper.wp
     go_simp
     exact ⟨_, rfl, Below.refl _ _, CL _ (Below.refl _ _), d2⟩
    | 7, _, ho =>
     cases ho
     obtain ⟨x5, hx5⟩ : ∃ x, ac.tmps.getD 47 undef = x := ⟨_, rfl⟩
     have d5 := hL.new 5 _ 47 rfl (he ⟨5, .data⟩ (by simp) rfl) rfl
     rw [hx5] at d5
     refine wpOp_plain rfl rfl ?_
     unfold Oper.wp
     go_simp
     exact ⟨_, rfl, Below.refl _ _, CL _ (Below.refl _ _), d5⟩
    | n + 8, hA, _ => simp at hA
   case rest3 =>
    intro ac V3 hL
    have e42 : ac.tmps.getD 42 undef = .pointer (some ⟨w.heap.size + 1, 0, none⟩) := hL.new 0 _ 42 rfl rfl rfl
    have e43 : ac.tmps.getD 43 undef = .slice aw nw cw := hL.new 1 _ 43 rfl rfl rfl
    obtain ⟨y44, e44⟩ : ∃ x, ac.tmps.getD 44 undef = x := ⟨_, rfl⟩
    have e45 : ac.tmps.getD 45 undef = .pointer (some ⟨w.heap.size + 1, 1, none⟩) := hL.new 3 _ 45 rfl rfl rfl
    have e46 : ac.tmps.getD 46 undef = .slice as_ ns cs := hL.new 4 _ 46 rfl rfl rfl
    obtain ⟨y47, e47⟩ : ∃ x, ac.tmps.getD 47 undef = x := ⟨_, rfl⟩
    have hn5 := hL.new 6 _ 5 rfl rfl rfl
    obtain ⟨vwo, e5⟩ : ∃ x, ac.tmps.getD 5 undef = x := ⟨_, rfl⟩
    rw [e5] at hn5
    have Hvwo : Aside (Sl V3 1 eI vwo worn) := hn5
    clear hn5
    have hn6 := hL.new 7 _ 6 rfl rfl rfl
    obtain ⟨vws, e6⟩ : ∃ x, ac.tmps.getD 6 undef = x := ⟨_, rfl⟩
    rw [e6] at hn6
    have Hvws : Aside (WksAt LS ns vws V3) := hn6
    clear hn6
    have es := hL.sets [42, 43, 44, 45, 46, 47, 5, 6] (by decide +kernel)
    rw [List.foldl_cons, List.foldl_cons, List.foldl_cons, List.foldl_cons, List.foldl_cons, List.foldl_cons, List.foldl_cons, List.foldl_cons, List.foldl_nil, e42, e43, e44, e45, e46, e47, e5, e6] at es
    have BN : Below wc.heap.size wc V3 := hL.cls
    rw [es]
    clear es hL e42 e43 e44 e45 e46 e47 e5 e6
    refine wpAny_done (by decide +kernel) ?_ _
    simp only [List.setIfInBounds_toArray, List.set_cons_zero, List.set_cons_succ]
    replace bc0 := keepc BN bc0
    replace bc1 := keepc BN bc1
    replace bc2 := keepc BN bc2
    replace bc3 := keepc BN bc3
    replace bc4 := keepc BN bc4
    replace bc5 := keepc BN bc5
    replace wc0 := keepc BN wc0
    replace wc1 := keepc BN wc1
    replace wc2 := keepc BN wc2
    replace wc3 := keepc BN wc3
    replace BU : Aside (Below w.heap.size w V3) := BU.out.trans (BN.mono BU.out.size)
    clear BN
    obtain ⟨a2, c2, us, ews, _, _, _⟩ := Hvws.out
    subst ews
    go_wp2_with fail
    refine (HOW2.out _ BU.out).mono ?_
    rintro e W1 ⟨vb, rfl, hbr, hb1⟩
    replace bc0 := keepc hb1 bc0
    replace bc1 := keepc hb1 bc1
    replace bc2 := keepc hb1 bc2
    replace bc3 := keepc hb1 bc3
    replace bc4 := keepc hb1 bc4
    replace bc5 := keepc hb1 bc5
    replace wc0 := keepc hb1 wc0
    replace wc1 := keepc hb1 wc1
    replace wc2 := keepc hb1 wc2
    replace wc3 := keepc hb1 wc3
    replace BU : Aside (Below w.heap.size w W1) := BU.out.trans (hb1.mono BU.out.size)
    replace Hvwo : Aside (Sl W1 1 eI vwo worn) := Hvwo.out.below hb1
    replace Hvws : Aside (WksAt LS ns (.slice a2 ns c2) W1) := Hvws.out.below hb1
    have HBO : Aside (BrdAt W1 vb _) := hbr
    clear hbr
    clear hb1
    go_wp2_with fail
    refine (HPL.out _ _ _ _ (HBO.out) Hvwo.out Hvws.out).mono ?_
    rintro e W2 ⟨aa, na, ca, rfl, hsa, hna, hb2⟩
    replace bc0 := keepc hb2 bc0
    replace bc1 := keepc hb2 bc1
    replace bc2 := keepc hb2 bc2
    replace bc3 := keepc hb2 bc3
    replace bc4 := keepc hb2 bc4
    replace bc5 := keepc hb2 bc5
    replace wc0 := keepc hb2 wc0
    replace wc1 := keepc hb2 wc1
    replace wc2 := keepc hb2 wc2
    replace wc3 := keepc hb2 wc3
    replace BU : Aside (Below w.heap.size w W2) := BU.out.trans (hb2.mono BU.out.size)
    replace Hvwo : Aside (Sl W2 1 eI vwo worn) := Hvwo.out.below hb2
    replace Hvws : Aside (WksAt LS ns (.slice a2 ns c2) W2) := Hvws.out.below hb2
    have HSA : Aside (Sl W2 1 eI (.slice aa na ca) PL) := hsa
    have HNA : Aside (na = PL.length) := hna
    clear hsa hna HBO
    clear hb2
    go_upto_region 5 with (fail)
    refine region_laid (fl := 16) [true, true, true, true, true, true, true, true, true, true, true, true, true, true] 0 (fun (i : Nat) (x : Value) (ww : World) => (match i with | 0 => x = .agg #[.int .i64 ey, .int .i64 bu, .slice ar nr cr, .slice al nl cl, .slice an nn cn, .int .i64 wi] | 1 => BrdAt ww x ⟨ey, bu, rings, lines, nums, wi⟩ | 2 => Sl ww 1 eI x worn | 3 => x = .agg #[.slice aw nw cw, .slice as_ ns cs, .int .i64 K, .int .i64 L] | 4 => x = .slice ak nk ck_ | 5 => Sl ww 1 eI x wkl | 6 => x = .pointer (some ⟨w.heap.size + 1, 3, none⟩) | 7 => x = .int .i64 L | 8 => x = .tuple #[.int .i64 lv, .int .i64 lE] | 9 => x = .tuple #[.int .i64 lv, .int .i64 lE] | 10 => x = .int .i64 lv | 11 => x = .int .i64 lE | 12 => x = .int .i64 lv | 13 => x = .int .i64 lE | _ => True : Prop)) (fun w' => Below W2.heap.size W2 w') (by kernel_rfl) rfl (by show layable _ 228 _ 16 = true; decide +kernel) rfl ((Below.refl _ _).drew) ?mono5 ?step5 ?rest5
    case mono5 =>
     intro i x ww ww' hB h
     match i, h with
     | 0, h => exact h
     | 1, h => exact BrdAt.below h hB
     | 2, h => exact Sl.below h hB
     | 3, h => exact h
     | 4, h => exact h
     | 5, h => exact Sl.below h hB
     | 6, h => exact h
     | 7, h => exact h
     | 8, h => exact h
     | 9, h => exact h
     | 10, h => exact h
     | 11, h => exact h
     | 12, h => exact h
     | 13, h => exact h
     | n + 14, h => exact h
    case step5 =>
     intro i o_ listed ac W hA ho hL he
     have hk2 : ac.tmps.getD 2 undef = .pointer (some ⟨w.heap.size, 0, none⟩) := hL.kept 2 (by decide +kernel)
     have hk3 : ac.tmps.getD 3 undef = .pointer (some ⟨w.heap.size + 1, 0, none⟩) := hL.kept 3 (by decide +kernel)
     have hk5 : ac.tmps.getD 5 undef = vwo := hL.kept 5 (by decide +kernel)
     have CL : ∀ W', Below W.heap.size W W' → Below W2.heap.size W2 W' := fun W' h => hL.cls.trans (h.mono hL.cls.size)
     have k_bc0 := keepc hL.cls bc0
     have k_bc1 := keepc hL.cls bc1
     have k_bc2 := keepc hL.cls bc2
     have k_bc3 := keepc hL.cls bc3
     have k_bc4 := keepc hL.cls bc4
     have k_bc5 := keepc hL.cls bc5
     have k_wc0 := keepc hL.cls wc0
     have k_wc1 := keepc hL.cls wc1
     have k_wc2 := keepc hL.cls wc2
     have k_wc3 := keepc hL.cls wc3
     match i, hA, ho with
     | 0, _, ho =>
      cases ho
      refine wpOp_plain rfl rfl ?_
      unfold Oper.wp
      go_simp
      exact ⟨_, rfl, Below.refl _ _, CL _ (Below.refl _ _), rfl⟩
     | 1, _, ho =>
      cases ho
      have d0 : ac.tmps.getD 58 undef = .agg #[.int .i64 ey, .int .i64 bu, .slice ar nr cr, .slice al nl cl, .slice an nn cn, .int .i64 wi] := hL.new 0 _ 58 rfl (he ⟨0, .data⟩ (by simp) rfl) rfl
      have x := HOW2.out W (BU.out.trans (hL.cls.mono BU.out.size))
      refine wpOp_plain rfl rfl ?_
      unfold Oper.wp
      go_simp
      refine x.mono ?_
      rintro e w' ⟨v', rfl, hs, hBn⟩
      exact ⟨_, rfl, hBn, CL _ hBn, hs⟩
     | 2, _, ho =>
      cases ho
      refine wpOp_plain rfl rfl ?_
      unfold Oper.wp
      go_simp
      exact ⟨_, rfl, Below.refl _ _, CL _ (Below.refl _ _), Hvwo.out.below hL.cls⟩
     | 3, _, ho =>
      cases ho
      refine wpOp_plain rfl rfl ?_
      unfold Oper.wp
      go_simp
      exact ⟨_, rfl, Below.refl _ _, CL _ (Below.refl _ _), rfl⟩
     | 4, _, ho =>
      cases ho
      have d3 : ac.tmps.getD 61 undef = .agg #[.slice aw nw cw, .slice as_ ns cs, .int .i64 K, .int .i64 L] := hL.new 3 _ 61 rfl (he ⟨3, .data⟩ (by simp) rfl) rfl
      have x := HWE.out W (BU.out.trans (hL.cls.mono BU.out.size))
      refine wpOp_plain rfl rfl ?_
      unfold Oper.wp
      go_simp
      refine x.mono ?_
      rintro e w' ⟨rfl, hBn⟩
      exact ⟨_, rfl, hBn, CL _ hBn, rfl⟩
     | 5, _, ho =>
      cases ho
      have d4 : ac.tmps.getD 62 undef = .slice ak nk ck_ := hL.new 4 _ 62 rfl (he ⟨4, .data⟩ (by simp) rfl) rfl
      have x := HIK2.out W (BU.out.trans (hL.cls.mono BU.out.size))
      refine wpOp_plain rfl rfl ?_
      unfold Oper.wp
      go_simp
      refine x.mono ?_
      rintro e w' ⟨v', rfl, hs, hBn⟩
      exact ⟨_, rfl, hBn, CL _ hBn, hs⟩
     | 6, _, ho =>
      cases ho
      refine wpOp_plain rfl rfl ?_
      unfold Oper.wp
      go_simp
      exact ⟨_, rfl, Below.refl _ _, CL _ (Below.refl _ _), rfl⟩
     | 7, _, ho =>
      cases ho
      have d6 : ac.tmps.getD 64 undef = .pointer (some ⟨w.heap.size + 1, 3, none⟩) := hL.new 6 _ 64 rfl (he ⟨6, .data⟩ (by simp) rfl) rfl
      refine wpOp_plain rfl rfl ?_
      unfold Oper.wp
      go_simp
      exact ⟨_, rfl, Below.refl _ _, CL _ (Below.refl _ _), rfl⟩
     | 8, _, ho =>
      cases ho
      obtain ⟨x1, hx1⟩ : ∃ x, ac.tmps.getD 59 undef = x := ⟨_, rfl⟩
      have d1 := hL.new 1 _ 59 rfl (he ⟨1, .data⟩ (by simp) rfl) rfl
      rw [hx1] at d1
      obtain ⟨x2, hx2⟩ : ∃ x, ac.tmps.getD 60 undef = x := ⟨_, rfl⟩
      have d2 := hL.new 2 _ 60 rfl (he ⟨2, .data⟩ (by simp) rfl) rfl
      rw [hx2] at d2
      obtain ⟨x5, hx5⟩ : ∃ x, ac.tmps.getD 63 undef = x := ⟨_, rfl⟩
      have d5 := hL.new 5 _ 63 rfl (he ⟨5, .data⟩ (by simp) rfl) rfl
      rw [hx5] at d5
      have d7 : ac.tmps.getD 65 undef = .int .i64 L := hL.new 7 _ 65 rfl (he ⟨7, .data⟩ (by simp) rfl) rfl
      have x := HLA.out x1 x2 x5 W d1 d2 d5
      refine wpOp_plain rfl rfl ?_
      unfold Oper.wp
      go_simp
      refine x.mono ?_
      rintro e w' ⟨rfl, hBn⟩
      exact ⟨_, rfl, hBn, CL _ hBn, rfl⟩
     | 9, _, ho =>
      cases ho
      have d8 : ac.tmps.getD 66 undef = .tuple #[.int .i64 lv, .int .i64 lE] := hL.new 8 _ 66 rfl (he ⟨8, .data⟩ (by simp) rfl) rfl
      refine wpOp_plain rfl rfl ?_
      unfold Oper.wp
      go_simp
      exact ⟨_, rfl, Below.refl _ _, CL _ (Below.refl _ _), rfl⟩
     | 10, _, ho =>
      cases ho
      have d9 : ac.tmps.getD 57 undef = .tuple #[.int .i64 lv, .int .i64 lE] := hL.new 9 _ 57 rfl (he ⟨9, .data⟩ (by simp) rfl) rfl
      refine wpOp_plain rfl rfl ?_
      unfold Oper.wp
      go_simp
      exact ⟨_, rfl, Below.refl _ _, CL _ (Below.refl _ _), rfl⟩
     | 11, _, ho =>
      cases ho
      have d9 : ac.tmps.getD 57 undef = .tuple #[.int .i64 lv, .int .i64 lE] := hL.new 9 _ 57 rfl (he ⟨9, .data⟩ (by simp) rfl) rfl
      refine wpOp_plain rfl rfl ?_
      unfold Oper.wp
      go_simp
      exact ⟨_, rfl, Below.refl _ _, CL _ (Below.refl _ _), rfl⟩
     | 12, _, ho =>
      cases ho
      have d10 : ac.tmps.getD 67 undef = .int .i64 lv := hL.new 10 _ 67 rfl (he ⟨10, .data⟩ (by simp) rfl) rfl
      refine wpOp_plain rfl rfl ?_
      unfold Oper.wp
      go_simp
      exact ⟨_, rfl, Below.refl _ _, CL _ (Below.refl _ _), rfl⟩
     | 13, _, ho =>
      cases ho
      have d11 : ac.tmps.getD 68 undef = .int .i64 lE := hL.new 11 _ 68 rfl (he ⟨11, .data⟩ (by simp) rfl) rfl
      refine wpOp_plain rfl rfl ?_
      unfold Oper.wp
      go_simp
      exact ⟨_, rfl, Below.refl _ _, CL _ (Below.refl _ _), rfl⟩
     | n + 14, hA, _ => simp at hA
    case rest5 =>
     intro ac V5 hL
     have e58 : ac.tmps.getD 58 undef = .agg #[.int .i64 ey, .int .i64 bu, .slice ar nr cr, .slice al nl cl, .slice an nn cn, .int .i64 wi] := hL.new 0 _ 58 rfl rfl rfl
     obtain ⟨y59, e59⟩ : ∃ x, ac.tmps.getD 59 undef = x := ⟨_, rfl⟩
     obtain ⟨y60, e60⟩ : ∃ x, ac.tmps.getD 60 undef = x := ⟨_, rfl⟩
     have e61 : ac.tmps.getD 61 undef = .agg #[.slice aw nw cw, .slice as_ ns cs, .int .i64 K, .int .i64 L] := hL.new 3 _ 61 rfl rfl rfl
     have e62 : ac.tmps.getD 62 undef = .slice ak nk ck_ := hL.new 4 _ 62 rfl rfl rfl
     obtain ⟨y63, e63⟩ : ∃ x, ac.tmps.getD 63 undef = x := ⟨_, rfl⟩
     have e64 : ac.tmps.getD 64 undef = .pointer (some ⟨w.heap.size + 1, 3, none⟩) := hL.new 6 _ 64 rfl rfl rfl
     have e65 : ac.tmps.getD 65 undef = .int .i64 L := hL.new 7 _ 65 rfl rfl rfl
     have e66 : ac.tmps.getD 66 undef = .tuple #[.int .i64 lv, .int .i64 lE] := hL.new 8 _ 66 rfl rfl rfl
     have e57 : ac.tmps.getD 57 undef = .tuple #[.int .i64 lv, .int .i64 lE] := hL.new 9 _ 57 rfl rfl rfl
     have e67 : ac.tmps.getD 67 undef = .int .i64 lv := hL.new 10 _ 67 rfl rfl rfl
     have e68 : ac.tmps.getD 68 undef = .int .i64 lE := hL.new 11 _ 68 rfl rfl rfl
     have e10 : ac.tmps.getD 10 undef = .int .i64 lv := hL.new 12 _ 10 rfl rfl rfl
     have e11 : ac.tmps.getD 11 undef = .int .i64 lE := hL.new 13 _ 11 rfl rfl rfl
     have es := hL.sets [58, 59, 60, 61, 62, 63, 64, 65, 66, 57, 67, 68, 10, 11] (by decide +kernel)
     rw [List.foldl_cons, List.foldl_cons, List.foldl_cons, List.foldl_cons, List.foldl_cons, List.foldl_cons, List.foldl_cons, List.foldl_cons, List.foldl_cons, List.foldl_cons, List.foldl_cons, List.foldl_cons, List.foldl_cons, List.foldl_cons, List.foldl_nil, e58, e59, e60, e61, e62, e63, e64, e65, e66, e57, e67, e68, e10, e11] at es
     have BN : Below W2.heap.size W2 V5 := hL.cls
     rw [es]
     clear es hL e58 e59 e60 e61 e62 e63 e64 e65 e66 e57 e67 e68 e10 e11
     refine wpAny_done (by decide +kernel) ?_ _
     simp only [List.setIfInBounds_toArray, List.set_cons_zero, List.set_cons_succ]
     replace bc0 := keepc BN bc0
     replace bc1 := keepc BN bc1
     replace bc2 := keepc BN bc2
     replace bc3 := keepc BN bc3
     replace bc4 := keepc BN bc4
     replace bc5 := keepc BN bc5
     replace wc0 := keepc BN wc0
     replace wc1 := keepc BN wc1
     replace wc2 := keepc BN wc2
     replace wc3 := keepc BN wc3
     replace BU : Aside (Below w.heap.size w V5) := BU.out.trans (BN.mono BU.out.size)
     replace Hvwo : Aside (Sl V5 1 eI vwo worn) := Hvwo.out.below BN
     replace Hvws : Aside (WksAt LS ns (.slice a2 ns c2) V5) := Hvws.out.below BN
     replace HSA : Aside (Sl V5 1 eI (.slice aa na ca) PL) := HSA.out.below BN
     clear BN
     go_wp2_with fail
     refine (HAL.out _ _ _ _ Hvwo.out (HWS.out.below BU.out)).mono ?_
     rintro e W3 ⟨rfl, hb3⟩
     replace bc0 := keepc hb3 bc0
     replace bc1 := keepc hb3 bc1
     replace bc2 := keepc hb3 bc2
     replace bc3 := keepc hb3 bc3
     replace bc4 := keepc hb3 bc4
     replace bc5 := keepc hb3 bc5
     replace wc0 := keepc hb3 wc0
     replace wc1 := keepc hb3 wc1
     replace wc2 := keepc hb3 wc2
     replace wc3 := keepc hb3 wc3
     replace BU : Aside (Below w.heap.size w W3) := BU.out.trans (hb3.mono BU.out.size)
     replace Hvwo : Aside (Sl W3 1 eI vwo worn) := Hvwo.out.below hb3
     replace Hvws : Aside (WksAt LS ns (.slice a2 ns c2) W3) := Hvws.out.below hb3
     replace HSA : Aside (Sl W3 1 eI (.slice aa na ca) PL) := HSA.out.below hb3
     clear hb3
     clear Hvwo
     go_wp2_with fail
     go_loopg [12] ns (fun gg iv wr => ∃ j : Nat, j ≤ ns ∧ ns - j ≤ gg ∧ iv = .int .i64 j ∧ Aside (Below W3.heap.size W3 wr))
     case atStart => exact ⟨0, Nat.zero_le _, by omega, rfl, Below.refl _ _⟩
     case round =>
      obtain ⟨j, hj, hgg, rfl, HBX⟩ := hrel
      have hbx := HBX.out
      by_cases hlt : j < ns
      ·
       as_aux_lemma =>
        have hltz : (j : Int) < (ns : Int) := by omega
        replace bc0 := keepc hbx bc0
        replace bc1 := keepc hbx bc1
        replace bc2 := keepc hbx bc2
        replace bc3 := keepc hbx bc3
        replace bc4 := keepc hbx bc4
        replace bc5 := keepc hbx bc5
        replace wc0 := keepc hbx wc0
        replace wc1 := keepc hbx wc1
        replace wc2 := keepc hbx wc2
        replace wc3 := keepc hbx wc3
        replace BU : Aside (Below w.heap.size w wr) := BU.out.trans (hbx.mono BU.out.size)
        replace Hvws : Aside (WksAt LS ns (.slice a2 ns c2) wr) := Hvws.out.below hbx
        replace HSA : Aside (Sl wr 1 eI (.slice aa na ca) PL) := HSA.out.below hbx
        clear hbx
        obtain ⟨n1_, c1_, n2_, c2_, g1, o1, a1_, q1, d1_, g2, o2, a2_, q2, d2_, lj, e1, e2, k1, k2, hs1, hs2⟩ := HRO.out wr _ BU.out Hvws.out j hlt
        simp only [Value.slice.injEq] at e1 e2
        obtain ⟨rfl, rfl, rfl⟩ := e1
        obtain ⟨rfl, hq, rfl⟩ := e2
        clear hq
        have HS1 : Aside (Sl wr 1 eI (.slice a1_ q1 d1_) lj) := hs1
        have HS2 : Aside (Sl wr 1 eI (.slice a2_ q2 d2_) lj) := hs2
        clear hs1 hs2
        go_upto_region 11 with (fail)
        refine region_laid (fl := 12) [true, true, true, true, true, true, true, true, true, true, true] 0 (fun (i : Nat) (x : Value) (ww : World) => (match i with | 0 => x = .slice (some ⟨g1, o1, none⟩) ns c2 | 1 => x = .int .i64 j | 2 => x = .pointer (some ⟨g1, o1 + j, none⟩) | 3 => x = .slice a1_ q1 d1_ | 4 => x = .pointer (some ⟨w.heap.size + 1, 1, none⟩) | 5 => x = .slice (some ⟨g2, o2, none⟩) ns cs | 6 => x = .int .i64 j | 7 => x = .pointer (some ⟨g2, o2 + j, none⟩) | 8 => x = .slice a2_ q2 d2_ | 9 => x = .bool true | 10 => x = .bool false | _ => True : Prop)) (fun w' => Below wr.heap.size wr w') (by kernel_rfl) rfl (by show layable _ 228 _ 12 = true; decide +kernel) rfl ((Below.refl _ _).drew) ?mono11 ?step11 ?rest11
        case mono11 =>
         intro i x ww ww' hB h
         match i, h with
         | 0, h => exact h
         | 1, h => exact h
         | 2, h => exact h
         | 3, h => exact h
         | 4, h => exact h
         | 5, h => exact h
         | 6, h => exact h
         | 7, h => exact h
         | 8, h => exact h
         | 9, h => exact h
         | 10, h => exact h
         | n + 11, h => exact h
        case step11 =>
         intro i o_ listed ac W hA ho hL he
         have hk2 : ac.tmps.getD 2 undef = .pointer (some ⟨w.heap.size, 0, none⟩) := hL.kept 2 (by decide +kernel)
         have hk3 : ac.tmps.getD 3 undef = .pointer (some ⟨w.heap.size + 1, 0, none⟩) := hL.kept 3 (by decide +kernel)
         have hk6 : ac.tmps.getD 6 undef = .slice (some ⟨g1, o1, none⟩) ns c2 := hL.kept 6 (by decide +kernel)
         have hk12 : ac.tmps.getD 12 undef = .int .i64 j := hL.kept 12 (by decide +kernel)
         have CL : ∀ W', Below W.heap.size W W' → Below wr.heap.size wr W' := fun W' h => hL.cls.trans (h.mono hL.cls.size)
         have k_wc0 := keepc hL.cls wc0
         have k_wc1 := keepc hL.cls wc1
         have k_wc2 := keepc hL.cls wc2
         have k_wc3 := keepc hL.cls wc3
         have k_k1 := keepc hL.cls k1
         have k_k2 := keepc hL.cls k2
         match i, hA, ho with
         | 0, _, ho =>
          cases ho
          refine wpOp_plain rfl rfl ?_
          unfold Oper.wp
          go_simp
          exact ⟨_, rfl, Below.refl _ _, CL _ (Below.refl _ _), rfl⟩
         | 1, _, ho =>
          cases ho
          refine wpOp_plain rfl rfl ?_
          unfold Oper.wp
          go_simp
          exact ⟨_, rfl, Below.refl _ _, CL _ (Below.refl _ _), rfl⟩
         | 2, _, ho =>
          cases ho
          have d0 : ac.tmps.getD 80 undef = .slice (some ⟨g1, o1, none⟩) ns c2 := hL.new 0 _ 80 rfl (he ⟨0, .data⟩ (by simp) rfl) rfl
          have d1 : ac.tmps.getD 81 undef = .int .i64 j := hL.new 1 _ 81 rfl (he ⟨1, .data⟩ (by simp) rfl) rfl
          refine wpOp_plain rfl rfl ?_
          unfold Oper.wp
          go_simp
          exact ⟨_, rfl, Below.refl _ _, CL _ (Below.refl _ _), rfl⟩
         | 3, _, ho =>
          cases ho
          have d2 : ac.tmps.getD 82 undef = .pointer (some ⟨g1, o1 + j, none⟩) := hL.new 2 _ 82 rfl (he ⟨2, .data⟩ (by simp) rfl) rfl
          refine wpOp_plain rfl rfl ?_
          unfold Oper.wp
          go_simp
          exact ⟨_, rfl, Below.refl _ _, CL _ (Below.refl _ _), rfl⟩
         | 4, _, ho =>
          cases ho
          refine wpOp_plain rfl rfl ?_
          unfold Oper.wp
          go_simp
          exact ⟨_, rfl, Below.refl _ _, CL _ (Below.refl _ _), rfl⟩
         | 5, _, ho =>
          cases ho
          have d4 : ac.tmps.getD 84 undef = .pointer (some ⟨w.heap.size + 1, 1, none⟩) := hL.new 4 _ 84 rfl (he ⟨4, .data⟩ (by simp) rfl) rfl
          refine wpOp_plain rfl rfl ?_
          unfold Oper.wp
          go_simp
          exact ⟨_, rfl, Below.refl _ _, CL _ (Below.refl _ _), rfl⟩
         | 6, _, ho =>
          cases ho
          refine wpOp_plain rfl rfl ?_
          unfold Oper.wp
          go_simp
          exact ⟨_, rfl, Below.refl _ _, CL _ (Below.refl _ _), rfl⟩
         | 7, _, ho =>
          cases ho
          have d5 : ac.tmps.getD 85 undef = .slice (some ⟨g2, o2, none⟩) ns cs := hL.new 5 _ 85 rfl (he ⟨5, .data⟩ (by simp) rfl) rfl
          have d6 : ac.tmps.getD 86 undef = .int .i64 j := hL.new 6 _ 86 rfl (he ⟨6, .data⟩ (by simp) rfl) rfl
          refine wpOp_plain rfl rfl ?_
          unfold Oper.wp
          go_simp
          exact ⟨_, rfl, Below.refl _ _, CL _ (Below.refl _ _), rfl⟩
         | 8, _, ho =>
          cases ho
          have d7 : ac.tmps.getD 87 undef = .pointer (some ⟨g2, o2 + j, none⟩) := hL.new 7 _ 87 rfl (he ⟨7, .data⟩ (by simp) rfl) rfl
          refine wpOp_plain rfl rfl ?_
          unfold Oper.wp
          go_simp
          exact ⟨_, rfl, Below.refl _ _, CL _ (Below.refl _ _), rfl⟩
         | 9, _, ho =>
          cases ho
          have d3 : ac.tmps.getD 83 undef = .slice a1_ q1 d1_ := hL.new 3 _ 83 rfl (he ⟨3, .data⟩ (by simp) rfl) rfl
          have d8 : ac.tmps.getD 88 undef = .slice a2_ q2 d2_ := hL.new 8 _ 88 rfl (he ⟨8, .data⟩ (by simp) rfl) rfl
          have x := HAL.out _ _ lj W (HS1.out.below hL.cls) (HS2.out.below hL.cls)
          refine wpOp_plain rfl rfl ?_
          unfold Oper.wp
          go_simp
          refine x.mono ?_
          rintro e w' ⟨rfl, hBn⟩
          exact ⟨_, rfl, hBn, CL _ hBn, rfl⟩
         | 10, _, ho =>
          cases ho
          have d9 : ac.tmps.getD 89 undef = .bool true := hL.new 9 _ 89 rfl (he ⟨9, .data⟩ (by simp) rfl) rfl
          refine wpOp_plain rfl rfl ?_
          unfold Oper.wp
          go_simp
          exact ⟨_, rfl, Below.refl _ _, CL _ (Below.refl _ _), rfl⟩
         | n + 11, hA, _ => simp at hA
        case rest11 =>
         intro ac V11 hL
         have e80 : ac.tmps.getD 80 undef = .slice (some ⟨g1, o1, none⟩) ns c2 := hL.new 0 _ 80 rfl rfl rfl
         have e81 : ac.tmps.getD 81 undef = .int .i64 j := hL.new 1 _ 81 rfl rfl rfl
         have e82 : ac.tmps.getD 82 undef = .pointer (some ⟨g1, o1 + j, none⟩) := hL.new 2 _ 82 rfl rfl rfl
         have e83 : ac.tmps.getD 83 undef = .slice a1_ q1 d1_ := hL.new 3 _ 83 rfl rfl rfl
         have e84 : ac.tmps.getD 84 undef = .pointer (some ⟨w.heap.size + 1, 1, none⟩) := hL.new 4 _ 84 rfl rfl rfl
         have e85 : ac.tmps.getD 85 undef = .slice (some ⟨g2, o2, none⟩) ns cs := hL.new 5 _ 85 rfl rfl rfl
         have e86 : ac.tmps.getD 86 undef = .int .i64 j := hL.new 6 _ 86 rfl rfl rfl
         have e87 : ac.tmps.getD 87 undef = .pointer (some ⟨g2, o2 + j, none⟩) := hL.new 7 _ 87 rfl rfl rfl
         have e88 : ac.tmps.getD 88 undef = .slice a2_ q2 d2_ := hL.new 8 _ 88 rfl rfl rfl
         have e89 : ac.tmps.getD 89 undef = .bool true := hL.new 9 _ 89 rfl rfl rfl
         have e90 : ac.tmps.getD 90 undef = .bool false := hL.new 10 _ 90 rfl rfl rfl
         have es := hL.sets [80, 81, 82, 83, 84, 85, 86, 87, 88, 89, 90] (by decide +kernel)
         rw [List.foldl_cons, List.foldl_cons, List.foldl_cons, List.foldl_cons, List.foldl_cons, List.foldl_cons, List.foldl_cons, List.foldl_cons, List.foldl_cons, List.foldl_cons, List.foldl_cons, List.foldl_nil, e80, e81, e82, e83, e84, e85, e86, e87, e88, e89, e90] at es
         have BN : Below wr.heap.size wr V11 := hL.cls
         rw [es]
         clear es hL e80 e81 e82 e83 e84 e85 e86 e87 e88 e89 e90
         refine wpAny_done (by decide +kernel) ?_ _
         simp only [List.setIfInBounds_toArray, List.set_cons_zero, List.set_cons_succ]
         go_wp2_with fail
         go_roundg (ns - (j + 1))
         case measure => omega
         case rel => exact ⟨j + 1, by omega, by omega, by go_num, HBX.out.trans (BN.mono HBX.out.size)⟩
      ·
       obtain rfl : j = ns := by omega
       as_aux_lemma =>
        have hltz : ¬ (j : Int) < (j : Int) := by omega
        replace bc0 := keepc hbx bc0
        replace bc1 := keepc hbx bc1
        replace bc2 := keepc hbx bc2
        replace bc3 := keepc hbx bc3
        replace bc4 := keepc hbx bc4
        replace bc5 := keepc hbx bc5
        replace wc0 := keepc hbx wc0
        replace wc1 := keepc hbx wc1
        replace wc2 := keepc hbx wc2
        replace wc3 := keepc hbx wc3
        replace BU : Aside (Below w.heap.size w wr) := BU.out.trans (hbx.mono BU.out.size)
        replace Hvws : Aside (WksAt LS j (.slice a2 j c2) wr) := Hvws.out.below hbx
        replace HSA : Aside (Sl wr 1 eI (.slice aa na ca) PL) := HSA.out.below hbx
        clear hbx HBX
        clear Hvws
        go_upto_region 13 with (fail)
        refine region_laid (fl := 8) [true, true, true, true, true, true, true] 0 (fun (i : Nat) (x : Value) (ww : World) => (match i with | 0 => x = .agg #[.int .i64 ey, .int .i64 bu, .slice ar nr cr, .slice al nl cl, .slice an nn cn, .int .i64 wi] | 1 => x = .int .i64 ckv | 2 => x = .pointer (some ⟨w.heap.size, 4, none⟩) | 3 => x = .slice an nn cn | 4 => x = .int .i64 nn | 5 => x = .int .i64 ckv | 6 => x = .int .i64 nn | _ => True : Prop)) (fun w' => Below wr.heap.size wr w') (by kernel_rfl) rfl (by show layable _ 228 _ 8 = true; decide +kernel) rfl ((Below.refl _ _).drew) ?mono13 ?step13 ?rest13
        case mono13 =>
         intro i x ww ww' hB h
         match i, h with
         | 0, h => exact h
         | 1, h => exact h
         | 2, h => exact h
         | 3, h => exact h
         | 4, h => exact h
         | 5, h => exact h
         | 6, h => exact h
         | n + 7, h => exact h
        case step13 =>
         intro i o_ listed ac W hA ho hL he
         have hk2 : ac.tmps.getD 2 undef = .pointer (some ⟨w.heap.size, 0, none⟩) := hL.kept 2 (by decide +kernel)
         have hk3 : ac.tmps.getD 3 undef = .pointer (some ⟨w.heap.size + 1, 0, none⟩) := hL.kept 3 (by decide +kernel)
         have CL : ∀ W', Below W.heap.size W W' → Below wr.heap.size wr W' := fun W' h => hL.cls.trans (h.mono hL.cls.size)
         have k_bc0 := keepc hL.cls bc0
         have k_bc1 := keepc hL.cls bc1
         have k_bc2 := keepc hL.cls bc2
         have k_bc3 := keepc hL.cls bc3
         have k_bc4 := keepc hL.cls bc4
         have k_bc5 := keepc hL.cls bc5
         match i, hA, ho with
         | 0, _, ho =>
          cases ho
          refine wpOp_plain rfl rfl ?_
          unfold Oper.wp
          go_simp
          exact ⟨_, rfl, Below.refl _ _, CL _ (Below.refl _ _), rfl⟩
         | 1, _, ho =>
          cases ho
          have d0 : ac.tmps.getD 91 undef = .agg #[.int .i64 ey, .int .i64 bu, .slice ar nr cr, .slice al nl cl, .slice an nn cn, .int .i64 wi] := hL.new 0 _ 91 rfl (he ⟨0, .data⟩ (by simp) rfl) rfl
          have x := HRC2.out W (BU.out.trans (hL.cls.mono BU.out.size))
          refine wpOp_plain rfl rfl ?_
          unfold Oper.wp
          go_simp
          refine x.mono ?_
          rintro e w' ⟨rfl, hBn⟩
          exact ⟨_, rfl, hBn, CL _ hBn, rfl⟩
         | 2, _, ho =>
          cases ho
          refine wpOp_plain rfl rfl ?_
          unfold Oper.wp
          go_simp
          exact ⟨_, rfl, Below.refl _ _, CL _ (Below.refl _ _), rfl⟩
         | 3, _, ho =>
          cases ho
          have d2 : ac.tmps.getD 93 undef = .pointer (some ⟨w.heap.size, 4, none⟩) := hL.new 2 _ 93 rfl (he ⟨2, .data⟩ (by simp) rfl) rfl
          refine wpOp_plain rfl rfl ?_
          unfold Oper.wp
          go_simp
          exact ⟨_, rfl, Below.refl _ _, CL _ (Below.refl _ _), rfl⟩
         | 4, _, ho =>
          cases ho
          have d3 : ac.tmps.getD 94 undef = .slice an nn cn := hL.new 3 _ 94 rfl (he ⟨3, .data⟩ (by simp) rfl) rfl
          refine wpOp_plain rfl rfl ?_
          unfold Oper.wp
          go_simp
          exact ⟨_, rfl, Below.refl _ _, CL _ (Below.refl _ _), rfl⟩
         | 5, _, ho =>
          cases ho
          have d1 : ac.tmps.getD 92 undef = .int .i64 ckv := hL.new 1 _ 92 rfl (he ⟨1, .data⟩ (by simp) rfl) rfl
          refine wpOp_plain rfl rfl ?_
          unfold Oper.wp
          go_simp
          exact ⟨_, rfl, Below.refl _ _, CL _ (Below.refl _ _), rfl⟩
         | 6, _, ho =>
          cases ho
          have d4 : ac.tmps.getD 95 undef = .int .i64 nn := hL.new 4 _ 95 rfl (he ⟨4, .data⟩ (by simp) rfl) rfl
          refine wpOp_plain rfl rfl ?_
          unfold Oper.wp
          go_simp
          exact ⟨_, rfl, Below.refl _ _, CL _ (Below.refl _ _), rfl⟩
         | n + 7, hA, _ => simp at hA
        case rest13 =>
         intro ac V13 hL
         have e91 : ac.tmps.getD 91 undef = .agg #[.int .i64 ey, .int .i64 bu, .slice ar nr cr, .slice al nl cl, .slice an nn cn, .int .i64 wi] := hL.new 0 _ 91 rfl rfl rfl
         have e92 : ac.tmps.getD 92 undef = .int .i64 ckv := hL.new 1 _ 92 rfl rfl rfl
         have e93 : ac.tmps.getD 93 undef = .pointer (some ⟨w.heap.size, 4, none⟩) := hL.new 2 _ 93 rfl rfl rfl
         have e94 : ac.tmps.getD 94 undef = .slice an nn cn := hL.new 3 _ 94 rfl rfl rfl
         have e95 : ac.tmps.getD 95 undef = .int .i64 nn := hL.new 4 _ 95 rfl rfl rfl
         have e13 : ac.tmps.getD 13 undef = .int .i64 ckv := hL.new 5 _ 13 rfl rfl rfl
         have e14 : ac.tmps.getD 14 undef = .int .i64 nn := hL.new 6 _ 14 rfl rfl rfl
         have es := hL.sets [91, 92, 93, 94, 95, 13, 14] (by decide +kernel)
         rw [List.foldl_cons, List.foldl_cons, List.foldl_cons, List.foldl_cons, List.foldl_cons, List.foldl_cons, List.foldl_cons, List.foldl_nil, e91, e92, e93, e94, e95, e13, e14] at es
         have BN : Below wr.heap.size wr V13 := hL.cls
         rw [es]
         clear es hL e91 e92 e93 e94 e95 e13 e14
         refine wpAny_done (by decide +kernel) ?_ _
         simp only [List.setIfInBounds_toArray, List.set_cons_zero, List.set_cons_succ]
         replace bc0 := keepc BN bc0
         replace bc1 := keepc BN bc1
         replace bc2 := keepc BN bc2
         replace bc3 := keepc BN bc3
         replace bc4 := keepc BN bc4
         replace bc5 := keepc BN bc5
         replace wc0 := keepc BN wc0
         replace wc1 := keepc BN wc1
         replace wc2 := keepc BN wc2
         replace wc3 := keepc BN wc3
         replace BU : Aside (Below w.heap.size w V13) := BU.out.trans (BN.mono BU.out.size)
         replace HSA : Aside (Sl V13 1 eI (.slice aa na ca) PL) := HSA.out.below BN
         clear BN
         by_cases hc : ckv = 0
         rotate_left
         ·
          obtain ⟨rfl, rfl, rfl, rfl, rfl⟩ := HTS.out.bad hc
          obtain rfl : na = 0 := HNA.out
          go_wp2_with fail
          refine (HKN.out _).mono ?_
          rintro e W4 ⟨rfl, hb4⟩
          replace bc0 := keepc hb4 bc0
          replace bc1 := keepc hb4 bc1
          replace bc2 := keepc hb4 bc2
          replace bc3 := keepc hb4 bc3
          replace bc4 := keepc hb4 bc4
          replace bc5 := keepc hb4 bc5
          replace wc0 := keepc hb4 wc0
          replace wc1 := keepc hb4 wc1
          replace wc2 := keepc hb4 wc2
          replace wc3 := keepc hb4 wc3
          replace BU : Aside (Below w.heap.size w W4) := BU.out.trans (hb4.mono BU.out.size)
          clear hb4
          go_wp2_with fail
          go_ret
          exact ⟨rfl, BU.out⟩
         ·
          subst hc
          have HCP2 : Aside (1 ≤ nn ∧ nn ≤ 20) := HCP.out rfl
          have hn1 := HCP2.out.1
          have hn2 := HCP2.out.2
          have hn9 : (nn : Int) ≤ 8 := by omega
          by_cases h3 : (3 : Int) < (j : Int)
          ·
           obtain ⟨rfl, rfl, rfl⟩ := HTS.out.lng rfl (by rw [HLS.out]; omega)
           obtain rfl : na = 0 := HNA.out
           as_aux_lemma =>
            go_upto_region 28 with (fail)
            refine region_laid (fl := 8) [true, true, true, true, true, true, true, true] 0 (fun (i : Nat) (x : Value) (ww : World) => (match i with | 0 => x = .int .i64 nn | 1 => x = .pointer (some ⟨w.heap.size + 1, 0, none⟩) | 2 => x = .slice aw nw cw | 3 => x = .agg #[.slice aw nw cw, .slice as_ j cs, .int .i64 K, .int .i64 L] | 4 => x = .slice ak nk ck_ | 5 => Sl ww 1 eR x [((.slice ak nk ck_ : Value), wkl)] | 6 => x = .int .i64 fB | 7 => x = .int .i64 fB | _ => True : Prop)) (fun w' => Below V13.heap.size V13 w') (by kernel_rfl) rfl (by show layable _ 228 _ 8 = true; decide +kernel) rfl ((Below.refl _ _).drew) ?mono28b ?step28b ?rest28b
            case mono28b =>
             intro i x ww ww' hB h
             match i, h with
             | 0, h => exact h
             | 1, h => exact h
             | 2, h => exact h
             | 3, h => exact h
             | 4, h => exact h
             | 5, h => exact Sl.below h hB
             | 6, h => exact h
             | 7, h => exact h
             | n + 8, h => exact h
            case step28b =>
             intro i o_ listed ac W hA ho hL he
             have hk2 : ac.tmps.getD 2 undef = .pointer (some ⟨w.heap.size, 0, none⟩) := hL.kept 2 (by decide +kernel)
             have hk3 : ac.tmps.getD 3 undef = .pointer (some ⟨w.heap.size + 1, 0, none⟩) := hL.kept 3 (by decide +kernel)
             have hk14 : ac.tmps.getD 14 undef = .int .i64 nn := hL.kept 14 (by decide +kernel)
             have CL : ∀ W', Below W.heap.size W W' → Below V13.heap.size V13 W' := fun W' h => hL.cls.trans (h.mono hL.cls.size)
             have k_wc0 := keepc hL.cls wc0
             have k_wc1 := keepc hL.cls wc1
             have k_wc2 := keepc hL.cls wc2
             have k_wc3 := keepc hL.cls wc3
             match i, hA, ho with
             | 0, _, ho =>
              cases ho
              refine wpOp_plain rfl rfl ?_
              unfold Oper.wp
              go_simp
              exact ⟨_, rfl, Below.refl _ _, CL _ (Below.refl _ _), rfl⟩
             | 1, _, ho =>
              cases ho
              refine wpOp_plain rfl rfl ?_
              unfold Oper.wp
              go_simp
              exact ⟨_, rfl, Below.refl _ _, CL _ (Below.refl _ _), rfl⟩
             | 2, _, ho =>
              cases ho
              have d1 : ac.tmps.getD 157 undef = .pointer (some ⟨w.heap.size + 1, 0, none⟩) := hL.new 1 _ 157 rfl (he ⟨1, .data⟩ (by simp) rfl) rfl
              refine wpOp_plain rfl rfl ?_
              unfold Oper.wp
              go_simp
              exact ⟨_, rfl, Below.refl _ _, CL _ (Below.refl _ _), rfl⟩
             | 3, _, ho =>
              cases ho
              refine wpOp_plain rfl rfl ?_
              unfold Oper.wp
              go_simp
              exact ⟨_, rfl, Below.refl _ _, CL _ (Below.refl _ _), rfl⟩
             | 4, _, ho =>
              cases ho
              have d3 : ac.tmps.getD 159 undef = .agg #[.slice aw nw cw, .slice as_ j cs, .int .i64 K, .int .i64 L] := hL.new 3 _ 159 rfl (he ⟨3, .data⟩ (by simp) rfl) rfl
              have x := HWE.out W (BU.out.trans (hL.cls.mono BU.out.size))
              refine wpOp_plain rfl rfl ?_
              unfold Oper.wp
              go_simp
              refine x.mono ?_
              rintro e w' ⟨rfl, hBn⟩
              exact ⟨_, rfl, hBn, CL _ hBn, rfl⟩
             | 5, _, ho =>
              cases ho
              have d4 : ac.tmps.getD 160 undef = .slice ak nk ck_ := hL.new 4 _ 160 rfl (he ⟨4, .data⟩ (by simp) rfl) rfl
              have dq : ac.tmps[160]?.getD undef = .slice ak nk ck_ := by rw [← Array.getD_eq_getD_getElem?]; exact d4
              refine wpOp_plain rfl rfl ?_
              unfold Oper.wp
              go_simp
              (try simp only [dq])
              (try go_simp)
              exact ⟨_, rfl, (Below.refl _ _).alloc (Nat.le_refl _) _, CL _ ((Below.refl _ _).alloc (Nat.le_refl _) _), sl_week _ _ rfl _ _ _⟩
             | 6, _, ho =>
              cases ho
              have d0 : ac.tmps.getD 156 undef = .int .i64 nn := hL.new 0 _ 156 rfl (he ⟨0, .data⟩ (by simp) rfl) rfl
              have d2 : ac.tmps.getD 158 undef = .slice aw nw cw := hL.new 2 _ 158 rfl (he ⟨2, .data⟩ (by simp) rfl) rfl
              obtain ⟨x5, hx5⟩ : ∃ x, ac.tmps.getD 161 undef = x := ⟨_, rfl⟩
              have d5 := hL.new 5 _ 161 rfl (he ⟨5, .data⟩ (by simp) rfl) rfl
              rw [hx5] at d5
              have x := HFO2.out x5 W (BU.out.trans (hL.cls.mono BU.out.size)) d5
              refine wpOp_plain rfl rfl ?_
              unfold Oper.wp
              go_simp
              refine x.mono ?_
              rintro e w' ⟨rfl, hBn⟩
              exact ⟨_, rfl, hBn, CL _ hBn, rfl⟩
             | 7, _, ho =>
              cases ho
              have d6 : ac.tmps.getD 162 undef = .int .i64 fB := hL.new 6 _ 162 rfl (he ⟨6, .data⟩ (by simp) rfl) rfl
              refine wpOp_plain rfl rfl ?_
              unfold Oper.wp
              go_simp
              exact ⟨_, rfl, Below.refl _ _, CL _ (Below.refl _ _), rfl⟩
             | n + 8, hA, _ => simp at hA
            case rest28b =>
             intro ac V28b hL
             have e156 : ac.tmps.getD 156 undef = .int .i64 nn := hL.new 0 _ 156 rfl rfl rfl
             have e157 : ac.tmps.getD 157 undef = .pointer (some ⟨w.heap.size + 1, 0, none⟩) := hL.new 1 _ 157 rfl rfl rfl
             have e158 : ac.tmps.getD 158 undef = .slice aw nw cw := hL.new 2 _ 158 rfl rfl rfl
             have e159 : ac.tmps.getD 159 undef = .agg #[.slice aw nw cw, .slice as_ j cs, .int .i64 K, .int .i64 L] := hL.new 3 _ 159 rfl rfl rfl
             have e160 : ac.tmps.getD 160 undef = .slice ak nk ck_ := hL.new 4 _ 160 rfl rfl rfl
             obtain ⟨y161, e161⟩ : ∃ x, ac.tmps.getD 161 undef = x := ⟨_, rfl⟩
             have e162 : ac.tmps.getD 162 undef = .int .i64 fB := hL.new 6 _ 162 rfl rfl rfl
             have e15 : ac.tmps.getD 15 undef = .int .i64 fB := hL.new 7 _ 15 rfl rfl rfl
             have es := hL.sets [156, 157, 158, 159, 160, 161, 162, 15] (by decide +kernel)
             rw [List.foldl_cons, List.foldl_cons, List.foldl_cons, List.foldl_cons, List.foldl_cons, List.foldl_cons, List.foldl_cons, List.foldl_cons, List.foldl_nil, e156, e157, e158, e159, e160, e161, e162, e15] at es
             have BN : Below V13.heap.size V13 V28b := hL.cls
             rw [es]
             clear es hL e156 e157 e158 e159 e160 e161 e162 e15
             refine wpAny_done (by decide +kernel) ?_ _
             simp only [List.setIfInBounds_toArray, List.set_cons_zero, List.set_cons_succ]
             replace bc0 := keepc BN bc0
             replace bc1 := keepc BN bc1
             replace bc2 := keepc BN bc2
             replace bc3 := keepc BN bc3
             replace bc4 := keepc BN bc4
             replace bc5 := keepc BN bc5
             replace wc0 := keepc BN wc0
             replace wc1 := keepc BN wc1
             replace wc2 := keepc BN wc2
             replace wc3 := keepc BN wc3
             replace BU : Aside (Below w.heap.size w V28b) := BU.out.trans (BN.mono BU.out.size)
             clear BN
             by_cases hf : fB = 0
             rotate_left
             ·
              obtain ⟨rfl, rfl⟩ := HTS.out.lfm rfl hf
              go_wp2_with fail
              refine (HKN.out _).mono ?_
              rintro e W4 ⟨rfl, hb4⟩
              replace bc0 := keepc hb4 bc0
              replace bc1 := keepc hb4 bc1
              replace bc2 := keepc hb4 bc2
              replace bc3 := keepc hb4 bc3
              replace bc4 := keepc hb4 bc4
              replace bc5 := keepc hb4 bc5
              replace wc0 := keepc hb4 wc0
              replace wc1 := keepc hb4 wc1
              replace wc2 := keepc hb4 wc2
              replace wc3 := keepc hb4 wc3
              replace BU : Aside (Below w.heap.size w W4) := BU.out.trans (hb4.mono BU.out.size)
              clear hb4
              go_wp2_with fail
              go_ret
              exact ⟨rfl, BU.out⟩
             ·
              subst hf
              by_cases hl0 : L < 0
              ·
               obtain ⟨rfl, rfl⟩ := HTS.out.lli rfl rfl (by omega)
               go_wp2_with fail
               refine (HKN.out _).mono ?_
               rintro e W4 ⟨rfl, hb4⟩
               replace bc0 := keepc hb4 bc0
               replace bc1 := keepc hb4 bc1
               replace bc2 := keepc hb4 bc2
               replace bc3 := keepc hb4 bc3
               replace bc4 := keepc hb4 bc4
               replace bc5 := keepc hb4 bc5
               replace wc0 := keepc hb4 wc0
               replace wc1 := keepc hb4 wc1
               replace wc2 := keepc hb4 wc2
               replace wc3 := keepc hb4 wc3
               replace BU : Aside (Below w.heap.size w W4) := BU.out.trans (hb4.mono BU.out.size)
               clear hb4
               go_wp2_with fail
               go_ret
               exact ⟨rfl, BU.out⟩
              ·
               by_cases hl1 : (1000000000 : Int) < L
               ·
                obtain ⟨rfl, rfl⟩ := HTS.out.lli rfl rfl (by omega)
                go_wp2_with fail
                refine (HKN.out _).mono ?_
                rintro e W4 ⟨rfl, hb4⟩
                replace bc0 := keepc hb4 bc0
                replace bc1 := keepc hb4 bc1
                replace bc2 := keepc hb4 bc2
                replace bc3 := keepc hb4 bc3
                replace bc4 := keepc hb4 bc4
                replace bc5 := keepc hb4 bc5
                replace wc0 := keepc hb4 wc0
                replace wc1 := keepc hb4 wc1
                replace wc2 := keepc hb4 wc2
                replace wc3 := keepc hb4 wc3
                replace BU : Aside (Below w.heap.size w W4) := BU.out.trans (hb4.mono BU.out.size)
                clear hb4
                go_wp2_with fail
                go_ret
                exact ⟨rfl, BU.out⟩
               ·
                obtain ⟨rfl, rfl⟩ := HTS.out.lok rfl rfl (by omega) (by omega)
                have HSQ2 : Aside _ := HSQ.out (by simp) (by simp)
                have HRM2 : Aside _ := HRM.out (by simp) (by simp)
                have HRP2 : Aside _ := HRP.out (by simp) (by simp)
                have HRW2 : Aside _ := HRW.out (by simp) (by simp)
                have HN0 : Aside (Sl V28b 1 eI (.slice aw nw cw) (SQ 0)) := by rw [HS0.out]; exact HWS.out.below BU.out
                go_wp2_with fail
                go_loopg [18, 19, 20] 501 (fun gg s18 s19 s20 wr => ∃ (p : Nat) (u : Value) (r : Int), p ≤ 501 ∧ 501 - p ≤ gg ∧ s20 = .int .i64 p ∧ u = s18 ∧ s19 = .int .i64 r ∧ Aside (Sl wr 1 eI u (SQ p)) ∧ Aside ((r = -1 ∧ lastF MF L 501 0 = lastF MF L (501 - p) p) ∨ (0 ≤ r ∧ lastF MF L 501 0 = r)) ∧ Aside (Below V28b.heap.size V28b wr))
                case atStart => exact ⟨0, _, -1, by omega, by omega, rfl, rfl, rfl, HN0.out, .inl ⟨rfl, rfl⟩, Below.refl _ _⟩
                case round =>
                 obtain ⟨p, u, r, hp, hgg, rfl, rfl, rfl, HU, HF, HBX⟩ := hrel
                 have hbx := HBX.out
                 by_cases hgo : p < 501 ∧ r < 0
                 ·
                  have hp5 : (p : Int) ≤ 500 := by omega
                  have hr0 : r < 0 := hgo.2
                  obtain ⟨rfl, HF1⟩ : r = -1 ∧ lastF MF L 501 0 = lastF MF L (501 - p) p := by
                   rcases HF.out with h | h
                   ·
                    exact h
                   ·
                    omega
                  have HF2 : Aside (lastF MF L 501 0 = if L < MF p then (p : Int) else lastF MF L (501 - (p + 1)) (p + 1)) := by
                   show _ = _
                   rw [HF1, show 501 - p = (501 - (p + 1)) + 1 by omega]; rfl
                  clear HF HF1 hr0 hgo
                  replace bc0 := keepc hbx bc0
                  replace bc1 := keepc hbx bc1
                  replace bc2 := keepc hbx bc2
                  replace bc3 := keepc hbx bc3
                  replace bc4 := keepc hbx bc4
                  replace bc5 := keepc hbx bc5
                  replace wc0 := keepc hbx wc0
                  replace wc1 := keepc hbx wc1
                  replace wc2 := keepc hbx wc2
                  replace wc3 := keepc hbx wc3
                  replace BU : Aside (Below w.heap.size w wr) := BU.out.trans (hbx.mono BU.out.size)
                  clear hbx
                  obtain ⟨k, hk, hbk, hsq⟩ := HSQ2.out p
                  have x32 := HRM2.out p
                  obtain ⟨mp, hmp⟩ : ∃ z, MF p = z := ⟨_, rfl⟩
                  rw [hmp] at x32 HF2
                  clear hmp
                  have HX32 : Aside _ := x32
                  clear x32
                  have HSQ3 : Aside (SQ (p + 1) = aft (SQ p) wkl k) := hsq
                  have HBK : Aside (bestK (SQ p) wkl = (k : Int)) := hbk
                  have HKN1 : Aside ((k : Int) < (nn : Int)) := hk
                  clear hsq hbk hk
                  have HX33 : Aside _ := HRP2.out p
                  rw [HBK.out] at HX33
                  by_cases hgt : L < mp
                  ·
                   as_aux_lemma =>
                    go_upto_region 37 with (fail)
                    refine region_laid (fl := 8) [true, true, true, true, true] 0 (fun (i : Nat) (x : Value) (ww : World) => (match i with | 0 => Sl ww 1 eI x (SQ p) | 1 => x = .int .i64 mp | 2 => x = .pointer (some ⟨w.heap.size + 1, 3, none⟩) | 3 => x = .int .i64 L | 4 => x = .bool true | _ => True : Prop)) (fun w' => Below wr.heap.size wr w') (by kernel_rfl) rfl (by show layable _ 228 _ 8 = true; decide +kernel) rfl ((Below.refl _ _).drew) ?mono37bg ?step37bg ?rest37bg
                    case mono37bg =>
                     intro i x ww ww' hB h
                     match i, h with
                     | 0, h => exact Sl.below h hB
                     | 1, h => exact h
                     | 2, h => exact h
                     | 3, h => exact h
                     | 4, h => exact h
                     | n + 5, h => exact h
                    case step37bg =>
                     intro i o_ listed ac W hA ho hL he
                     have hk2 : ac.tmps.getD 2 undef = .pointer (some ⟨w.heap.size, 0, none⟩) := hL.kept 2 (by decide +kernel)
                     have hk3 : ac.tmps.getD 3 undef = .pointer (some ⟨w.heap.size + 1, 0, none⟩) := hL.kept 3 (by decide +kernel)
                     have hk18 : ac.tmps.getD 18 undef = u := hL.kept 18 (by decide +kernel)
                     have CL : ∀ W', Below W.heap.size W W' → Below wr.heap.size wr W' := fun W' h => hL.cls.trans (h.mono hL.cls.size)
                     have k_wc0 := keepc hL.cls wc0
                     have k_wc1 := keepc hL.cls wc1
                     have k_wc2 := keepc hL.cls wc2
                     have k_wc3 := keepc hL.cls wc3
                     match i, hA, ho with
                     | 0, _, ho =>
                      cases ho
                      refine wpOp_plain rfl rfl ?_
                      unfold Oper.wp
                      go_simp
                      exact ⟨_, rfl, Below.refl _ _, CL _ (Below.refl _ _), HU.out.below hL.cls⟩
                     | 1, _, ho =>
                      cases ho
                      obtain ⟨x0, hx0⟩ : ∃ x, ac.tmps.getD 197 undef = x := ⟨_, rfl⟩
                      have d0 := hL.new 0 _ 197 rfl (he ⟨0, .data⟩ (by simp) rfl) rfl
                      rw [hx0] at d0
                      have x := HX32.out x0 W d0
                      refine wpOp_plain rfl rfl ?_
                      unfold Oper.wp
                      go_simp
                      refine x.mono ?_
                      rintro e w' ⟨rfl, hBn⟩
                      exact ⟨_, rfl, hBn, CL _ hBn, rfl⟩
                     | 2, _, ho =>
                      cases ho
                      refine wpOp_plain rfl rfl ?_
                      unfold Oper.wp
                      go_simp
                      exact ⟨_, rfl, Below.refl _ _, CL _ (Below.refl _ _), rfl⟩
                     | 3, _, ho =>
                      cases ho
                      have d2 : ac.tmps.getD 199 undef = .pointer (some ⟨w.heap.size + 1, 3, none⟩) := hL.new 2 _ 199 rfl (he ⟨2, .data⟩ (by simp) rfl) rfl
                      refine wpOp_plain rfl rfl ?_
                      unfold Oper.wp
                      go_simp
                      exact ⟨_, rfl, Below.refl _ _, CL _ (Below.refl _ _), rfl⟩
                     | 4, _, ho =>
                      cases ho
                      have d1 : ac.tmps.getD 198 undef = .int .i64 mp := hL.new 1 _ 198 rfl (he ⟨1, .data⟩ (by simp) rfl) rfl
                      have d3 : ac.tmps.getD 200 undef = .int .i64 L := hL.new 3 _ 200 rfl (he ⟨3, .data⟩ (by simp) rfl) rfl
                      refine wpOp_plain rfl rfl ?_
                      unfold Oper.wp
                      go_simp
                      exact ⟨_, rfl, Below.refl _ _, CL _ (Below.refl _ _), rfl⟩
                     | n + 5, hA, _ => simp at hA
                    case rest37bg =>
                     intro ac V37bg hL
                     obtain ⟨y197, e197⟩ : ∃ x, ac.tmps.getD 197 undef = x := ⟨_, rfl⟩
                     have e198 : ac.tmps.getD 198 undef = .int .i64 mp := hL.new 1 _ 198 rfl rfl rfl
                     have e199 : ac.tmps.getD 199 undef = .pointer (some ⟨w.heap.size + 1, 3, none⟩) := hL.new 2 _ 199 rfl rfl rfl
                     have e200 : ac.tmps.getD 200 undef = .int .i64 L := hL.new 3 _ 200 rfl rfl rfl
                     have e201 : ac.tmps.getD 201 undef = .bool true := hL.new 4 _ 201 rfl rfl rfl
                     have es := hL.sets [197, 198, 199, 200, 201] (by decide +kernel)
                     rw [List.foldl_cons, List.foldl_cons, List.foldl_cons, List.foldl_cons, List.foldl_cons, List.foldl_nil, e197, e198, e199, e200, e201] at es
                     have BN : Below wr.heap.size wr V37bg := hL.cls
                     rw [es]
                     clear es hL e197 e198 e199 e200 e201
                     refine wpAny_done (by decide +kernel) ?_ _
                     simp only [List.setIfInBounds_toArray, List.set_cons_zero, List.set_cons_succ]
                     have HU1 : Aside (Sl V37bg 1 eI u (SQ p)) := HU.out.below BN
                     have HBX1 : Aside (Below V28b.heap.size V28b V37bg) := HBX.out.trans (BN.mono HBX.out.size)
                     replace bc0 := keepc BN bc0
                     replace bc1 := keepc BN bc1
                     replace bc2 := keepc BN bc2
                     replace bc3 := keepc BN bc3
                     replace bc4 := keepc BN bc4
                     replace bc5 := keepc BN bc5
                     replace wc0 := keepc BN wc0
                     replace wc1 := keepc BN wc1
                     replace wc2 := keepc BN wc2
                     replace wc3 := keepc BN wc3
                     replace BU : Aside (Below w.heap.size w V37bg) := BU.out.trans (BN.mono BU.out.size)
                     clear BN
                     go_wp2_with fail
                     refine (HWE.out _ BU.out).mono ?_
                     rintro e W4 ⟨rfl, hb4⟩
                     replace HBX1 : Aside (Below V28b.heap.size V28b W4) := HBX1.out.trans (hb4.mono HBX1.out.size)
                     replace bc0 := keepc hb4 bc0
                     replace bc1 := keepc hb4 bc1
                     replace bc2 := keepc hb4 bc2
                     replace bc3 := keepc hb4 bc3
                     replace bc4 := keepc hb4 bc4
                     replace bc5 := keepc hb4 bc5
                     replace wc0 := keepc hb4 wc0
                     replace wc1 := keepc hb4 wc1
                     replace wc2 := keepc hb4 wc2
                     replace wc3 := keepc hb4 wc3
                     replace BU : Aside (Below w.heap.size w W4) := BU.out.trans (hb4.mono BU.out.size)
                     replace HU1 : Aside (Sl W4 1 eI u (SQ p)) := HU1.out.below hb4
                     clear hb4
                     go_wp2_with fail
                     have ba : Below W4.heap.size W4 (W4.alloc (.cells #[.slice ak nk ck_] 24)) := (Below.refl _ _).alloc (Nat.le_refl _) _
                     refine (HX33.out _ _ _ hp (BU.out.trans (ba.mono BU.out.size)) (HU1.out.below ba) (sl_week _ _ rfl _ _ _)).mono ?_
                     rintro e W5 ⟨vp, mq, rfl, ho, hb_⟩
                     have hbb : Below W4.heap.size W4 W5 := ba.trans (hb_.mono ba.size)
                     replace HBX1 : Aside (Below V28b.heap.size V28b W5) := HBX1.out.trans (hbb.mono HBX1.out.size)
                     replace bc0 := keepc hbb bc0
                     replace bc1 := keepc hbb bc1
                     replace bc2 := keepc hbb bc2
                     replace bc3 := keepc hbb bc3
                     replace bc4 := keepc hbb bc4
                     replace bc5 := keepc hbb bc5
                     replace wc0 := keepc hbb wc0
                     replace wc1 := keepc hbb wc1
                     replace wc2 := keepc hbb wc2
                     replace wc3 := keepc hbb wc3
                     replace BU : Aside (Below w.heap.size w W5) := BU.out.trans (hbb.mono BU.out.size)
                     replace HU1 : Aside (Sl W5 1 eI u (SQ p)) := HU1.out.below hbb
                     clear hbb ba hb_
                     obtain ⟨bp, fp, cp, rfl, hcp⟩ := ho
                     go_upto_region 40 with (fail)
                     refine region_laidC (fl := 8) [true, true, true, true, true, true, true, true] 0 (fun (i : Nat) (x : Value) (ww : World) => (match i with | 0 => Sl ww 1 eI x (SQ p) | 1 => x = .agg #[.slice aw nw cw, .slice as_ j cs, .int .i64 K, .int .i64 L] | 2 => x = .slice ak nk ck_ | 3 => x = .slice (some ⟨bp, fp, none⟩) 1 cp | 4 => x = .pointer (some ⟨bp, fp, none⟩) | 5 => x = .int .i64 (k : Int) | 6 => Sl ww 1 eI x (SQ (p + 1)) | 7 => Sl ww 1 eI x (SQ (p + 1)) | _ => True : Prop)) (fun w' => Below W5.heap.size W5 w') (by kernel_rfl) rfl (by show layableC _ 228 _ 8 = true; decide +kernel) rfl ((Below.refl _ _).drew) ?mono40bg ?step40bg ?rest40bg
                     case mono40bg =>
                      intro i x ww ww' hB h
                      match i, h with
                      | 0, h => exact Sl.below h hB
                      | 1, h => exact h
                      | 2, h => exact h
                      | 3, h => exact h
                      | 4, h => exact h
                      | 5, h => exact h
                      | 6, h => exact Sl.below h hB
                      | 7, h => exact Sl.below h hB
                      | n + 8, h => exact h
                     case step40bg =>
                      intro i o_ listed ac W hA ho hL he hcl hli hsz
                      have hk2 : ac.tmps.getD 2 undef = .pointer (some ⟨w.heap.size, 0, none⟩) := hL.kept 2 (by decide +kernel)
                      have hk3 : ac.tmps.getD 3 undef = .pointer (some ⟨w.heap.size + 1, 0, none⟩) := hL.kept 3 (by decide +kernel)
                      have hk21 : ac.tmps.getD 21 undef = .slice (some ⟨bp, fp, none⟩) 1 cp := hL.kept 21 (by decide +kernel)
                      have CL : ∀ W', Below W.heap.size W W' → Below W5.heap.size W5 W' := fun W' h => hL.cls.trans (h.mono hL.cls.size)
                      have k_wc0 := keepc hL.cls wc0
                      have k_wc1 := keepc hL.cls wc1
                      have k_wc2 := keepc hL.cls wc2
                      have k_wc3 := keepc hL.cls wc3
                      have k_hcp := keepc hL.cls hcp
                      match i, hA, ho with
                      | 0, _, ho =>
                       cases ho
                       have hk18 : ac.tmps.getD 18 undef = u := hL.kept3 hcl hsz 18 0 7 12 hli (by decide +kernel) (by decide +kernel)
                       refine wpOp_plain rfl rfl ?_
                       unfold Oper.wp
                       go_simp
                       exact ⟨_, rfl, Below.refl _ _, CL _ (Below.refl _ _), HU1.out.below hL.cls⟩
                      | 1, _, ho =>
                       cases ho
                       refine wpOp_plain rfl rfl ?_
                       unfold Oper.wp
                       go_simp
                       exact ⟨_, rfl, Below.refl _ _, CL _ (Below.refl _ _), rfl⟩
                      | 2, _, ho =>
                       cases ho
                       have d1 : ac.tmps.getD 212 undef = .agg #[.slice aw nw cw, .slice as_ j cs, .int .i64 K, .int .i64 L] := hL.new 1 _ 212 rfl (he ⟨1, .data⟩ (by simp) rfl) rfl
                       have x := HWE.out W (BU.out.trans (hL.cls.mono BU.out.size))
                       refine wpOp_plain rfl rfl ?_
                       unfold Oper.wp
                       go_simp
                       refine x.mono ?_
                       rintro e w' ⟨rfl, hBn⟩
                       exact ⟨_, rfl, hBn, CL _ hBn, rfl⟩
                      | 3, _, ho =>
                       cases ho
                       refine wpOp_plain rfl rfl ?_
                       unfold Oper.wp
                       go_simp
                       exact ⟨_, rfl, Below.refl _ _, CL _ (Below.refl _ _), rfl⟩
                      | 4, _, ho =>
                       cases ho
                       have d3 : ac.tmps.getD 214 undef = .slice (some ⟨bp, fp, none⟩) 1 cp := hL.new 3 _ 214 rfl (he ⟨3, .data⟩ (by simp) rfl) rfl
                       refine wpOp_plain rfl rfl ?_
                       unfold Oper.wp
                       go_simp
                       exact ⟨_, rfl, Below.refl _ _, CL _ (Below.refl _ _), rfl⟩
                      | 5, _, ho =>
                       cases ho
                       have d4 : ac.tmps.getD 215 undef = .pointer (some ⟨bp, fp, none⟩) := hL.new 4 _ 215 rfl (he ⟨4, .data⟩ (by simp) rfl) rfl
                       refine wpOp_plain rfl rfl ?_
                       unfold Oper.wp
                       go_simp
                       exact ⟨_, rfl, Below.refl _ _, CL _ (Below.refl _ _), rfl⟩
                      | 6, _, ho =>
                       cases ho
                       obtain ⟨x0, hx0⟩ : ∃ x, ac.tmps.getD 211 undef = x := ⟨_, rfl⟩
                       have d0 := hL.new 0 _ 211 rfl (he ⟨0, .data⟩ (by simp) rfl) rfl
                       rw [hx0] at d0
                       have d2 : ac.tmps.getD 213 undef = .slice ak nk ck_ := hL.new 2 _ 213 rfl (he ⟨2, .data⟩ (by simp) rfl) rfl
                       have d5 : ac.tmps.getD 216 undef = .int .i64 (k : Int) := hL.new 5 _ 216 rfl (he ⟨5, .data⟩ (by simp) rfl) rfl
                       have x := HRW2.out p k x0 W hp HKN1.out (BU.out.trans (hL.cls.mono BU.out.size)) d0
                       rw [← HSQ3.out] at x
                       refine wpOp_plain rfl rfl ?_
                       unfold Oper.wp
                       go_simp
                       refine x.mono ?_
                       rintro e w' ⟨v', rfl, hs, hBn⟩
                       exact ⟨_, rfl, hBn, CL _ hBn, hs⟩
                      | 7, _, ho =>
                       cases ho
                       obtain ⟨x6, hx6⟩ : ∃ x, ac.tmps.getD 217 undef = x := ⟨_, rfl⟩
                       have d6 := hL.new 6 _ 217 rfl (he ⟨6, .data⟩ (by simp) rfl) rfl
                       rw [hx6] at d6
                       refine wpOp_plain rfl rfl ?_
                       unfold Oper.wp
                       go_simp
                       exact ⟨_, rfl, Below.refl _ _, CL _ (Below.refl _ _), d6⟩
                      | n + 8, hA, _ => simp at hA
                     case rest40bg =>
                      intro ac V40bg hL
                      obtain ⟨y211, e211⟩ : ∃ x, ac.tmps.getD 211 undef = x := ⟨_, rfl⟩
                      have e212 : ac.tmps.getD 212 undef = .agg #[.slice aw nw cw, .slice as_ j cs, .int .i64 K, .int .i64 L] := hL.new 1 _ 212 rfl rfl rfl
                      have e213 : ac.tmps.getD 213 undef = .slice ak nk ck_ := hL.new 2 _ 213 rfl rfl rfl
                      have e214 : ac.tmps.getD 214 undef = .slice (some ⟨bp, fp, none⟩) 1 cp := hL.new 3 _ 214 rfl rfl rfl
                      have e215 : ac.tmps.getD 215 undef = .pointer (some ⟨bp, fp, none⟩) := hL.new 4 _ 215 rfl rfl rfl
                      have e216 : ac.tmps.getD 216 undef = .int .i64 (k : Int) := hL.new 5 _ 216 rfl rfl rfl
                      obtain ⟨y217, e217⟩ : ∃ x, ac.tmps.getD 217 undef = x := ⟨_, rfl⟩
                      have hn18 := hL.new 7 _ 18 rfl rfl rfl
                      obtain ⟨vnx, e18⟩ : ∃ x, ac.tmps.getD 18 undef = x := ⟨_, rfl⟩
                      rw [e18] at hn18
                      have Hvnx : Aside (Sl V40bg 1 eI vnx (SQ (p + 1))) := hn18
                      clear hn18
                      have es := hL.sets [211, 212, 213, 214, 215, 216, 217, 18] (by decide +kernel)
                      rw [List.foldl_cons, List.foldl_cons, List.foldl_cons, List.foldl_cons, List.foldl_cons, List.foldl_cons, List.foldl_cons, List.foldl_cons, List.foldl_nil, e211, e212, e213, e214, e215, e216, e217, e18] at es
                      have BN : Below W5.heap.size W5 V40bg := hL.cls
                      rw [es]
                      clear es hL e211 e212 e213 e214 e215 e216 e217 e18
                      refine wpAny_done (by decide +kernel) ?_ _
                      simp only [List.setIfInBounds_toArray, List.set_cons_zero, List.set_cons_succ]
                      go_wp2_with fail
                      go_roundg (501 - (p + 1))
                      case measure => omega
                      case rel => exact ⟨p + 1, _, (p : Int), by omega, by omega, by go_num, rfl, rfl, Hvnx.out, .inr ⟨by omega, by rw [HF2.out, if_pos hgt]⟩, HBX1.out.trans (BN.mono HBX1.out.size)⟩
                  ·
                   as_aux_lemma =>
                    go_upto_region 37 with (fail)
                    refine region_laid (fl := 8) [true, true, true, true, true] 0 (fun (i : Nat) (x : Value) (ww : World) => (match i with | 0 => Sl ww 1 eI x (SQ p) | 1 => x = .int .i64 mp | 2 => x = .pointer (some ⟨w.heap.size + 1, 3, none⟩) | 3 => x = .int .i64 L | 4 => x = .bool false | _ => True : Prop)) (fun w' => Below wr.heap.size wr w') (by kernel_rfl) rfl (by show layable _ 228 _ 8 = true; decide +kernel) rfl ((Below.refl _ _).drew) ?mono37bn ?step37bn ?rest37bn
                    case mono37bn =>
                     intro i x ww ww' hB h
                     match i, h with
                     | 0, h => exact Sl.below h hB
                     | 1, h => exact h
                     | 2, h => exact h
                     | 3, h => exact h
                     | 4, h => exact h
                     | n + 5, h => exact h
                    case step37bn =>
                     intro i o_ listed ac W hA ho hL he
                     have hk2 : ac.tmps.getD 2 undef = .pointer (some ⟨w.heap.size, 0, none⟩) := hL.kept 2 (by decide +kernel)
                     have hk3 : ac.tmps.getD 3 undef = .pointer (some ⟨w.heap.size + 1, 0, none⟩) := hL.kept 3 (by decide +kernel)
                     have hk18 : ac.tmps.getD 18 undef = u := hL.kept 18 (by decide +kernel)
                     have CL : ∀ W', Below W.heap.size W W' → Below wr.heap.size wr W' := fun W' h => hL.cls.trans (h.mono hL.cls.size)
                     have k_wc0 := keepc hL.cls wc0
                     have k_wc1 := keepc hL.cls wc1
                     have k_wc2 := keepc hL.cls wc2
                     have k_wc3 := keepc hL.cls wc3
                     match i, hA, ho with
                     | 0, _, ho =>
                      cases ho
                      refine wpOp_plain rfl rfl ?_
                      unfold Oper.wp
                      go_simp
                      exact ⟨_, rfl, Below.refl _ _, CL _ (Below.refl _ _), HU.out.below hL.cls⟩
                     | 1, _, ho =>
                      cases ho
                      obtain ⟨x0, hx0⟩ : ∃ x, ac.tmps.getD 197 undef = x := ⟨_, rfl⟩
                      have d0 := hL.new 0 _ 197 rfl (he ⟨0, .data⟩ (by simp) rfl) rfl
                      rw [hx0] at d0
                      have x := HX32.out x0 W d0
                      refine wpOp_plain rfl rfl ?_
                      unfold Oper.wp
                      go_simp
                      refine x.mono ?_
                      rintro e w' ⟨rfl, hBn⟩
                      exact ⟨_, rfl, hBn, CL _ hBn, rfl⟩
                     | 2, _, ho =>
                      cases ho
                      refine wpOp_plain rfl rfl ?_
                      unfold Oper.wp
                      go_simp
                      exact ⟨_, rfl, Below.refl _ _, CL _ (Below.refl _ _), rfl⟩
                     | 3, _, ho =>
                      cases ho
                      have d2 : ac.tmps.getD 199 undef = .pointer (some ⟨w.heap.size + 1, 3, none⟩) := hL.new 2 _ 199 rfl (he ⟨2, .data⟩ (by simp) rfl) rfl
                      refine wpOp_plain rfl rfl ?_
                      unfold Oper.wp
                      go_simp
                      exact ⟨_, rfl, Below.refl _ _, CL _ (Below.refl _ _), rfl⟩
                     | 4, _, ho =>
                      cases ho
                      have d1 : ac.tmps.getD 198 undef = .int .i64 mp := hL.new 1 _ 198 rfl (he ⟨1, .data⟩ (by simp) rfl) rfl
                      have d3 : ac.tmps.getD 200 undef = .int .i64 L := hL.new 3 _ 200 rfl (he ⟨3, .data⟩ (by simp) rfl) rfl
                      refine wpOp_plain rfl rfl ?_
                      unfold Oper.wp
                      go_simp
                      exact ⟨_, rfl, Below.refl _ _, CL _ (Below.refl _ _), rfl⟩
                     | n + 5, hA, _ => simp at hA
                    case rest37bn =>
                     intro ac V37bn hL
                     obtain ⟨y197, e197⟩ : ∃ x, ac.tmps.getD 197 undef = x := ⟨_, rfl⟩
                     have e198 : ac.tmps.getD 198 undef = .int .i64 mp := hL.new 1 _ 198 rfl rfl rfl
                     have e199 : ac.tmps.getD 199 undef = .pointer (some ⟨w.heap.size + 1, 3, none⟩) := hL.new 2 _ 199 rfl rfl rfl
                     have e200 : ac.tmps.getD 200 undef = .int .i64 L := hL.new 3 _ 200 rfl rfl rfl
                     have e201 : ac.tmps.getD 201 undef = .bool false := hL.new 4 _ 201 rfl rfl rfl
                     have es := hL.sets [197, 198, 199, 200, 201] (by decide +kernel)
                     rw [List.foldl_cons, List.foldl_cons, List.foldl_cons, List.foldl_cons, List.foldl_cons, List.foldl_nil, e197, e198, e199, e200, e201] at es
                     have BN : Below wr.heap.size wr V37bn := hL.cls
                     rw [es]
                     clear es hL e197 e198 e199 e200 e201
                     refine wpAny_done (by decide +kernel) ?_ _
                     simp only [List.setIfInBounds_toArray, List.set_cons_zero, List.set_cons_succ]
                     have HU1 : Aside (Sl V37bn 1 eI u (SQ p)) := HU.out.below BN
                     have HBX1 : Aside (Below V28b.heap.size V28b V37bn) := HBX.out.trans (BN.mono HBX.out.size)
                     replace bc0 := keepc BN bc0
                     replace bc1 := keepc BN bc1
                     replace bc2 := keepc BN bc2
                     replace bc3 := keepc BN bc3
                     replace bc4 := keepc BN bc4
                     replace bc5 := keepc BN bc5
                     replace wc0 := keepc BN wc0
                     replace wc1 := keepc BN wc1
                     replace wc2 := keepc BN wc2
                     replace wc3 := keepc BN wc3
                     replace BU : Aside (Below w.heap.size w V37bn) := BU.out.trans (BN.mono BU.out.size)
                     clear BN
                     go_wp2_with fail
                     refine (HWE.out _ BU.out).mono ?_
                     rintro e W4 ⟨rfl, hb4⟩
                     replace HBX1 : Aside (Below V28b.heap.size V28b W4) := HBX1.out.trans (hb4.mono HBX1.out.size)
                     replace bc0 := keepc hb4 bc0
                     replace bc1 := keepc hb4 bc1
                     replace bc2 := keepc hb4 bc2
                     replace bc3 := keepc hb4 bc3
                     replace bc4 := keepc hb4 bc4
                     replace bc5 := keepc hb4 bc5
                     replace wc0 := keepc hb4 wc0
                     replace wc1 := keepc hb4 wc1
                     replace wc2 := keepc hb4 wc2
                     replace wc3 := keepc hb4 wc3
                     replace BU : Aside (Below w.heap.size w W4) := BU.out.trans (hb4.mono BU.out.size)
                     replace HU1 : Aside (Sl W4 1 eI u (SQ p)) := HU1.out.below hb4
                     clear hb4
                     go_wp2_with fail
                     have ba : Below W4.heap.size W4 (W4.alloc (.cells #[.slice ak nk ck_] 24)) := (Below.refl _ _).alloc (Nat.le_refl _) _
                     refine (HX33.out _ _ _ hp (BU.out.trans (ba.mono BU.out.size)) (HU1.out.below ba) (sl_week _ _ rfl _ _ _)).mono ?_
                     rintro e W5 ⟨vp, mq, rfl, ho, hb_⟩
                     have hbb : Below W4.heap.size W4 W5 := ba.trans (hb_.mono ba.size)
                     replace HBX1 : Aside (Below V28b.heap.size V28b W5) := HBX1.out.trans (hbb.mono HBX1.out.size)
                     replace bc0 := keepc hbb bc0
                     replace bc1 := keepc hbb bc1
                     replace bc2 := keepc hbb bc2
                     replace bc3 := keepc hbb bc3
                     replace bc4 := keepc hbb bc4
                     replace bc5 := keepc hbb bc5
                     replace wc0 := keepc hbb wc0
                     replace wc1 := keepc hbb wc1
                     replace wc2 := keepc hbb wc2
                     replace wc3 := keepc hbb wc3
                     replace BU : Aside (Below w.heap.size w W5) := BU.out.trans (hbb.mono BU.out.size)
                     replace HU1 : Aside (Sl W5 1 eI u (SQ p)) := HU1.out.below hbb
                     clear hbb ba hb_
                     obtain ⟨bp, fp, cp, rfl, hcp⟩ := ho
                     go_upto_region 40 with (fail)
                     refine region_laidC (fl := 8) [true, true, true, true, true, true, true, true] 0 (fun (i : Nat) (x : Value) (ww : World) => (match i with | 0 => Sl ww 1 eI x (SQ p) | 1 => x = .agg #[.slice aw nw cw, .slice as_ j cs, .int .i64 K, .int .i64 L] | 2 => x = .slice ak nk ck_ | 3 => x = .slice (some ⟨bp, fp, none⟩) 1 cp | 4 => x = .pointer (some ⟨bp, fp, none⟩) | 5 => x = .int .i64 (k : Int) | 6 => Sl ww 1 eI x (SQ (p + 1)) | 7 => Sl ww 1 eI x (SQ (p + 1)) | _ => True : Prop)) (fun w' => Below W5.heap.size W5 w') (by kernel_rfl) rfl (by show layableC _ 228 _ 8 = true; decide +kernel) rfl ((Below.refl _ _).drew) ?mono40bn ?step40bn ?rest40bn
                     case mono40bn =>
                      intro i x ww ww' hB h
                      match i, h with
                      | 0, h => exact Sl.below h hB
                      | 1, h => exact h
                      | 2, h => exact h
                      | 3, h => exact h
                      | 4, h => exact h
                      | 5, h => exact h
                      | 6, h => exact Sl.below h hB
                      | 7, h => exact Sl.below h hB
                      | n + 8, h => exact h
                     case step40bn =>
                      intro i o_ listed ac W hA ho hL he hcl hli hsz
                      have hk2 : ac.tmps.getD 2 undef = .pointer (some ⟨w.heap.size, 0, none⟩) := hL.kept 2 (by decide +kernel)
                      have hk3 : ac.tmps.getD 3 undef = .pointer (some ⟨w.heap.size + 1, 0, none⟩) := hL.kept 3 (by decide +kernel)
                      have hk21 : ac.tmps.getD 21 undef = .slice (some ⟨bp, fp, none⟩) 1 cp := hL.kept 21 (by decide +kernel)
                      have CL : ∀ W', Below W.heap.size W W' → Below W5.heap.size W5 W' := fun W' h => hL.cls.trans (h.mono hL.cls.size)
                      have k_wc0 := keepc hL.cls wc0
                      have k_wc1 := keepc hL.cls wc1
                      have k_wc2 := keepc hL.cls wc2
                      have k_wc3 := keepc hL.cls wc3
                      have k_hcp := keepc hL.cls hcp
                      match i, hA, ho with
                      | 0, _, ho =>
                       cases ho
                       have hk18 : ac.tmps.getD 18 undef = u := hL.kept3 hcl hsz 18 0 7 12 hli (by decide +kernel) (by decide +kernel)
                       refine wpOp_plain rfl rfl ?_
                       unfold Oper.wp
                       go_simp
                       exact ⟨_, rfl, Below.refl _ _, CL _ (Below.refl _ _), HU1.out.below hL.cls⟩
                      | 1, _, ho =>
                       cases ho
                       refine wpOp_plain rfl rfl ?_
                       unfold Oper.wp
                       go_simp
                       exact ⟨_, rfl, Below.refl _ _, CL _ (Below.refl _ _), rfl⟩
                      | 2, _, ho =>
                       cases ho
                       have d1 : ac.tmps.getD 212 undef = .agg #[.slice aw nw cw, .slice as_ j cs, .int .i64 K, .int .i64 L] := hL.new 1 _ 212 rfl (he ⟨1, .data⟩ (by simp) rfl) rfl
                       have x := HWE.out W (BU.out.trans (hL.cls.mono BU.out.size))
                       refine wpOp_plain rfl rfl ?_
                       unfold Oper.wp
                       go_simp
                       refine x.mono ?_
                       rintro e w' ⟨rfl, hBn⟩
                       exact ⟨_, rfl, hBn, CL _ hBn, rfl⟩
                      | 3, _, ho =>
                       cases ho
                       refine wpOp_plain rfl rfl ?_
                       unfold Oper.wp
                       go_simp
                       exact ⟨_, rfl, Below.refl _ _, CL _ (Below.refl _ _), rfl⟩
                      | 4, _, ho =>
                       cases ho
                       have d3 : ac.tmps.getD 214 undef = .slice (some ⟨bp, fp, none⟩) 1 cp := hL.new 3 _ 214 rfl (he ⟨3, .data⟩ (by simp) rfl) rfl
                       refine wpOp_plain rfl rfl ?_
                       unfold Oper.wp
                       go_simp
                       exact ⟨_, rfl, Below.refl _ _, CL _ (Below.refl _ _), rfl⟩
                      | 5, _, ho =>
                       cases ho
                       have d4 : ac.tmps.getD 215 undef = .pointer (some ⟨bp, fp, none⟩) := hL.new 4 _ 215 rfl (he ⟨4, .data⟩ (by simp) rfl) rfl
                       refine wpOp_plain rfl rfl ?_
                       unfold Oper.wp
                       go_simp
                       exact ⟨_, rfl, Below.refl _ _, CL _ (Below.refl _ _), rfl⟩
                      | 6, _, ho =>
                       cases ho
                       obtain ⟨x0, hx0⟩ : ∃ x, ac.tmps.getD 211 undef = x := ⟨_, rfl⟩
                       have d0 := hL.new 0 _ 211 rfl (he ⟨0, .data⟩ (by simp) rfl) rfl
                       rw [hx0] at d0
                       have d2 : ac.tmps.getD 213 undef = .slice ak nk ck_ := hL.new 2 _ 213 rfl (he ⟨2, .data⟩ (by simp) rfl) rfl
                       have d5 : ac.tmps.getD 216 undef = .int .i64 (k : Int) := hL.new 5 _ 216 rfl (he ⟨5, .data⟩ (by simp) rfl) rfl
                       have x := HRW2.out p k x0 W hp HKN1.out (BU.out.trans (hL.cls.mono BU.out.size)) d0
                       rw [← HSQ3.out] at x
                       refine wpOp_plain rfl rfl ?_
                       unfold Oper.wp
                       go_simp
                       refine x.mono ?_
                       rintro e w' ⟨v', rfl, hs, hBn⟩
                       exact ⟨_, rfl, hBn, CL _ hBn, hs⟩
                      | 7, _, ho =>
                       cases ho
                       obtain ⟨x6, hx6⟩ : ∃ x, ac.tmps.getD 217 undef = x := ⟨_, rfl⟩
                       have d6 := hL.new 6 _ 217 rfl (he ⟨6, .data⟩ (by simp) rfl) rfl
                       rw [hx6] at d6
                       refine wpOp_plain rfl rfl ?_
                       unfold Oper.wp
                       go_simp
                       exact ⟨_, rfl, Below.refl _ _, CL _ (Below.refl _ _), d6⟩
                      | n + 8, hA, _ => simp at hA
                     case rest40bn =>
                      intro ac V40bn hL
                      obtain ⟨y211, e211⟩ : ∃ x, ac.tmps.getD 211 undef = x := ⟨_, rfl⟩
                      have e212 : ac.tmps.getD 212 undef = .agg #[.slice aw nw cw, .slice as_ j cs, .int .i64 K, .int .i64 L] := hL.new 1 _ 212 rfl rfl rfl
                      have e213 : ac.tmps.getD 213 undef = .slice ak nk ck_ := hL.new 2 _ 213 rfl rfl rfl
                      have e214 : ac.tmps.getD 214 undef = .slice (some ⟨bp, fp, none⟩) 1 cp := hL.new 3 _ 214 rfl rfl rfl
                      have e215 : ac.tmps.getD 215 undef = .pointer (some ⟨bp, fp, none⟩) := hL.new 4 _ 215 rfl rfl rfl
                      have e216 : ac.tmps.getD 216 undef = .int .i64 (k : Int) := hL.new 5 _ 216 rfl rfl rfl
                      obtain ⟨y217, e217⟩ : ∃ x, ac.tmps.getD 217 undef = x := ⟨_, rfl⟩
                      have hn18 := hL.new 7 _ 18 rfl rfl rfl
                      obtain ⟨vnx, e18⟩ : ∃ x, ac.tmps.getD 18 undef = x := ⟨_, rfl⟩
                      rw [e18] at hn18
                      have Hvnx : Aside (Sl V40bn 1 eI vnx (SQ (p + 1))) := hn18
                      clear hn18
                      have es := hL.sets [211, 212, 213, 214, 215, 216, 217, 18] (by decide +kernel)
                      rw [List.foldl_cons, List.foldl_cons, List.foldl_cons, List.foldl_cons, List.foldl_cons, List.foldl_cons, List.foldl_cons, List.foldl_cons, List.foldl_nil, e211, e212, e213, e214, e215, e216, e217, e18] at es
                      have BN : Below W5.heap.size W5 V40bn := hL.cls
                      rw [es]
                      clear es hL e211 e212 e213 e214 e215 e216 e217 e18
                      refine wpAny_done (by decide +kernel) ?_ _
                      simp only [List.setIfInBounds_toArray, List.set_cons_zero, List.set_cons_succ]
                      go_wp2_with fail
                      go_roundg (501 - (p + 1))
                      case measure => omega
                      case rel => exact ⟨p + 1, _, -1, by omega, by omega, by go_num, rfl, rfl, Hvnx.out, .inl ⟨rfl, by rw [HF2.out, if_neg (show ¬ L < mp by omega)]⟩, HBX1.out.trans (BN.mono HBX1.out.size)⟩
                 ·
                  have hre : r = lv := by
                   rw [HLV.out]
                   rcases HF.out with ⟨h1, h2⟩ | ⟨h1, h2⟩
                   ·
                    have : p = 501 := by omega
                    subst this
                    rw [h2, h1]; rfl
                   ·
                    exact h2.symm
                  have hr1 : (p : Int) ≤ 500 → ¬ r < 0 := by intro h; omega
                  subst hre
                  clear HF
                  replace bc0 := keepc hbx bc0
                  replace bc1 := keepc hbx bc1
                  replace bc2 := keepc hbx bc2
                  replace bc3 := keepc hbx bc3
                  replace bc4 := keepc hbx bc4
                  replace bc5 := keepc hbx bc5
                  replace wc0 := keepc hbx wc0
                  replace wc1 := keepc hbx wc1
                  replace wc2 := keepc hbx wc2
                  replace wc3 := keepc hbx wc3
                  replace BU : Aside (Below w.heap.size w wr) := BU.out.trans (hbx.mono BU.out.size)
                  clear hbx HBX HU
                  by_cases hp5 : (p : Int) ≤ 500
                  ·
                   have hr2 := hr1 hp5
                   go_wp2_with fail
                   refine (HKN.out _).mono ?_
                   rintro e W4 ⟨rfl, hb4⟩
                   replace bc0 := keepc hb4 bc0
                   replace bc1 := keepc hb4 bc1
                   replace bc2 := keepc hb4 bc2
                   replace bc3 := keepc hb4 bc3
                   replace bc4 := keepc hb4 bc4
                   replace bc5 := keepc hb4 bc5
                   replace wc0 := keepc hb4 wc0
                   replace wc1 := keepc hb4 wc1
                   replace wc2 := keepc hb4 wc2
                   replace wc3 := keepc hb4 wc3
                   replace BU : Aside (Below w.heap.size w W4) := BU.out.trans (hb4.mono BU.out.size)
                   clear hb4
                   go_wp2_with fail
                   go_ret
                   exact ⟨rfl, BU.out⟩
                  ·
                   skip
                   go_wp2_with fail
                   refine (HKN.out _).mono ?_
                   rintro e W4 ⟨rfl, hb4⟩
                   replace bc0 := keepc hb4 bc0
                   replace bc1 := keepc hb4 bc1
                   replace bc2 := keepc hb4 bc2
                   replace bc3 := keepc hb4 bc3
                   replace bc4 := keepc hb4 bc4
                   replace bc5 := keepc hb4 bc5
                   replace wc0 := keepc hb4 wc0
                   replace wc1 := keepc hb4 wc1
                   replace wc2 := keepc hb4 wc2
                   replace wc3 := keepc hb4 wc3
                   replace BU : Aside (Below w.heap.size w W4) := BU.out.trans (hb4.mono BU.out.size)
                   clear hb4
                   go_wp2_with fail
                   go_ret
                   exact ⟨rfl, BU.out⟩
          ·
           have h3' : ¬ 3 < LS.length := by rw [HLS.out]; omega
           go_wp2_with fail
           refine (HFA2.out _ BU.out).mono ?_
           rintro e W4 ⟨rfl, hb4⟩
           replace bc0 := keepc hb4 bc0
           replace bc1 := keepc hb4 bc1
           replace bc2 := keepc hb4 bc2
           replace bc3 := keepc hb4 bc3
           replace bc4 := keepc hb4 bc4
           replace bc5 := keepc hb4 bc5
           replace wc0 := keepc hb4 wc0
           replace wc1 := keepc hb4 wc1
           replace wc2 := keepc hb4 wc2
           replace wc3 := keepc hb4 wc3
           replace BU : Aside (Below w.heap.size w W4) := BU.out.trans (hb4.mono BU.out.size)
           replace HSA : Aside (Sl W4 1 eI (.slice aa na ca) PL) := HSA.out.below hb4
           clear hb4
           by_cases hfa : fA = 0
           rotate_left
           ·
            obtain ⟨rfl, rfl, rfl⟩ := HTS.out.frm rfl h3' hfa
            obtain rfl : na = 0 := HNA.out
            as_aux_lemma =>
             go_upto_region 28 with (fail)
             refine region_laid (fl := 8) [true, true, true, true, true, true, true, true] 0 (fun (i : Nat) (x : Value) (ww : World) => (match i with | 0 => x = .int .i64 nn | 1 => x = .pointer (some ⟨w.heap.size + 1, 0, none⟩) | 2 => x = .slice aw nw cw | 3 => x = .agg #[.slice aw nw cw, .slice as_ j cs, .int .i64 K, .int .i64 L] | 4 => x = .slice ak nk ck_ | 5 => Sl ww 1 eR x [((.slice ak nk ck_ : Value), wkl)] | 6 => x = .int .i64 fB | 7 => x = .int .i64 fB | _ => True : Prop)) (fun w' => Below W4.heap.size W4 w') (by kernel_rfl) rfl (by show layable _ 228 _ 8 = true; decide +kernel) rfl ((Below.refl _ _).drew) ?mono28c ?step28c ?rest28c
             case mono28c =>
              intro i x ww ww' hB h
              match i, h with
              | 0, h => exact h
              | 1, h => exact h
              | 2, h => exact h
              | 3, h => exact h
              | 4, h => exact h
              | 5, h => exact Sl.below h hB
              | 6, h => exact h
              | 7, h => exact h
              | n + 8, h => exact h
             case step28c =>
              intro i o_ listed ac W hA ho hL he
              have hk2 : ac.tmps.getD 2 undef = .pointer (some ⟨w.heap.size, 0, none⟩) := hL.kept 2 (by decide +kernel)
              have hk3 : ac.tmps.getD 3 undef = .pointer (some ⟨w.heap.size + 1, 0, none⟩) := hL.kept 3 (by decide +kernel)
              have hk14 : ac.tmps.getD 14 undef = .int .i64 nn := hL.kept 14 (by decide +kernel)
              have CL : ∀ W', Below W.heap.size W W' → Below W4.heap.size W4 W' := fun W' h => hL.cls.trans (h.mono hL.cls.size)
              have k_wc0 := keepc hL.cls wc0
              have k_wc1 := keepc hL.cls wc1
              have k_wc2 := keepc hL.cls wc2
              have k_wc3 := keepc hL.cls wc3
              match i, hA, ho with
              | 0, _, ho =>
               cases ho
               refine wpOp_plain rfl rfl ?_
               unfold Oper.wp
               go_simp
               exact ⟨_, rfl, Below.refl _ _, CL _ (Below.refl _ _), rfl⟩
              | 1, _, ho =>
               cases ho
               refine wpOp_plain rfl rfl ?_
               unfold Oper.wp
               go_simp
               exact ⟨_, rfl, Below.refl _ _, CL _ (Below.refl _ _), rfl⟩
              | 2, _, ho =>
               cases ho
               have d1 : ac.tmps.getD 157 undef = .pointer (some ⟨w.heap.size + 1, 0, none⟩) := hL.new 1 _ 157 rfl (he ⟨1, .data⟩ (by simp) rfl) rfl
               refine wpOp_plain rfl rfl ?_
               unfold Oper.wp
               go_simp
               exact ⟨_, rfl, Below.refl _ _, CL _ (Below.refl _ _), rfl⟩
              | 3, _, ho =>
               cases ho
               refine wpOp_plain rfl rfl ?_
               unfold Oper.wp
               go_simp
               exact ⟨_, rfl, Below.refl _ _, CL _ (Below.refl _ _), rfl⟩
              | 4, _, ho =>
               cases ho
               have d3 : ac.tmps.getD 159 undef = .agg #[.slice aw nw cw, .slice as_ j cs, .int .i64 K, .int .i64 L] := hL.new 3 _ 159 rfl (he ⟨3, .data⟩ (by simp) rfl) rfl
               have x := HWE.out W (BU.out.trans (hL.cls.mono BU.out.size))
               refine wpOp_plain rfl rfl ?_
               unfold Oper.wp
               go_simp
               refine x.mono ?_
               rintro e w' ⟨rfl, hBn⟩
               exact ⟨_, rfl, hBn, CL _ hBn, rfl⟩
              | 5, _, ho =>
               cases ho
               have d4 : ac.tmps.getD 160 undef = .slice ak nk ck_ := hL.new 4 _ 160 rfl (he ⟨4, .data⟩ (by simp) rfl) rfl
               have dq : ac.tmps[160]?.getD undef = .slice ak nk ck_ := by rw [← Array.getD_eq_getD_getElem?]; exact d4
               refine wpOp_plain rfl rfl ?_
               unfold Oper.wp
               go_simp
               (try simp only [dq])
               (try go_simp)
               exact ⟨_, rfl, (Below.refl _ _).alloc (Nat.le_refl _) _, CL _ ((Below.refl _ _).alloc (Nat.le_refl _) _), sl_week _ _ rfl _ _ _⟩
              | 6, _, ho =>
               cases ho
               have d0 : ac.tmps.getD 156 undef = .int .i64 nn := hL.new 0 _ 156 rfl (he ⟨0, .data⟩ (by simp) rfl) rfl
               have d2 : ac.tmps.getD 158 undef = .slice aw nw cw := hL.new 2 _ 158 rfl (he ⟨2, .data⟩ (by simp) rfl) rfl
               obtain ⟨x5, hx5⟩ : ∃ x, ac.tmps.getD 161 undef = x := ⟨_, rfl⟩
               have d5 := hL.new 5 _ 161 rfl (he ⟨5, .data⟩ (by simp) rfl) rfl
               rw [hx5] at d5
               have x := HFO2.out x5 W (BU.out.trans (hL.cls.mono BU.out.size)) d5
               refine wpOp_plain rfl rfl ?_
               unfold Oper.wp
               go_simp
               refine x.mono ?_
               rintro e w' ⟨rfl, hBn⟩
               exact ⟨_, rfl, hBn, CL _ hBn, rfl⟩
              | 7, _, ho =>
               cases ho
               have d6 : ac.tmps.getD 162 undef = .int .i64 fB := hL.new 6 _ 162 rfl (he ⟨6, .data⟩ (by simp) rfl) rfl
               refine wpOp_plain rfl rfl ?_
               unfold Oper.wp
               go_simp
               exact ⟨_, rfl, Below.refl _ _, CL _ (Below.refl _ _), rfl⟩
              | n + 8, hA, _ => simp at hA
             case rest28c =>
              intro ac V28c hL
              have e156 : ac.tmps.getD 156 undef = .int .i64 nn := hL.new 0 _ 156 rfl rfl rfl
              have e157 : ac.tmps.getD 157 undef = .pointer (some ⟨w.heap.size + 1, 0, none⟩) := hL.new 1 _ 157 rfl rfl rfl
              have e158 : ac.tmps.getD 158 undef = .slice aw nw cw := hL.new 2 _ 158 rfl rfl rfl
              have e159 : ac.tmps.getD 159 undef = .agg #[.slice aw nw cw, .slice as_ j cs, .int .i64 K, .int .i64 L] := hL.new 3 _ 159 rfl rfl rfl
              have e160 : ac.tmps.getD 160 undef = .slice ak nk ck_ := hL.new 4 _ 160 rfl rfl rfl
              obtain ⟨y161, e161⟩ : ∃ x, ac.tmps.getD 161 undef = x := ⟨_, rfl⟩
              have e162 : ac.tmps.getD 162 undef = .int .i64 fB := hL.new 6 _ 162 rfl rfl rfl
              have e15 : ac.tmps.getD 15 undef = .int .i64 fB := hL.new 7 _ 15 rfl rfl rfl
              have es := hL.sets [156, 157, 158, 159, 160, 161, 162, 15] (by decide +kernel)
              rw [List.foldl_cons, List.foldl_cons, List.foldl_cons, List.foldl_cons, List.foldl_cons, List.foldl_cons, List.foldl_cons, List.foldl_cons, List.foldl_nil, e156, e157, e158, e159, e160, e161, e162, e15] at es
              have BN : Below W4.heap.size W4 V28c := hL.cls
              rw [es]
              clear es hL e156 e157 e158 e159 e160 e161 e162 e15
              refine wpAny_done (by decide +kernel) ?_ _
              simp only [List.setIfInBounds_toArray, List.set_cons_zero, List.set_cons_succ]
              replace bc0 := keepc BN bc0
              replace bc1 := keepc BN bc1
              replace bc2 := keepc BN bc2
              replace bc3 := keepc BN bc3
              replace bc4 := keepc BN bc4
              replace bc5 := keepc BN bc5
              replace wc0 := keepc BN wc0
              replace wc1 := keepc BN wc1
              replace wc2 := keepc BN wc2
              replace wc3 := keepc BN wc3
              replace BU : Aside (Below w.heap.size w V28c) := BU.out.trans (BN.mono BU.out.size)
              clear BN
              by_cases hf : fB = 0
              rotate_left
              ·
               obtain ⟨rfl, rfl⟩ := HTS.out.lfm rfl hf
               go_wp2_with fail
               refine (HKN.out _).mono ?_
               rintro e W5 ⟨rfl, hb5⟩
               replace bc0 := keepc hb5 bc0
               replace bc1 := keepc hb5 bc1
               replace bc2 := keepc hb5 bc2
               replace bc3 := keepc hb5 bc3
               replace bc4 := keepc hb5 bc4
               replace bc5 := keepc hb5 bc5
               replace wc0 := keepc hb5 wc0
               replace wc1 := keepc hb5 wc1
               replace wc2 := keepc hb5 wc2
               replace wc3 := keepc hb5 wc3
               replace BU : Aside (Below w.heap.size w W5) := BU.out.trans (hb5.mono BU.out.size)
               clear hb5
               go_wp2_with fail
               go_ret
               exact ⟨rfl, BU.out⟩
              ·
               subst hf
               by_cases hl0 : L < 0
               ·
                obtain ⟨rfl, rfl⟩ := HTS.out.lli rfl rfl (by omega)
                go_wp2_with fail
                refine (HKN.out _).mono ?_
                rintro e W5 ⟨rfl, hb5⟩
                replace bc0 := keepc hb5 bc0
                replace bc1 := keepc hb5 bc1
                replace bc2 := keepc hb5 bc2
                replace bc3 := keepc hb5 bc3
                replace bc4 := keepc hb5 bc4
                replace bc5 := keepc hb5 bc5
                replace wc0 := keepc hb5 wc0
                replace wc1 := keepc hb5 wc1
                replace wc2 := keepc hb5 wc2
                replace wc3 := keepc hb5 wc3
                replace BU : Aside (Below w.heap.size w W5) := BU.out.trans (hb5.mono BU.out.size)
                clear hb5
                go_wp2_with fail
                go_ret
                exact ⟨rfl, BU.out⟩
               ·
                by_cases hl1 : (1000000000 : Int) < L
                ·
                 obtain ⟨rfl, rfl⟩ := HTS.out.lli rfl rfl (by omega)
                 go_wp2_with fail
                 refine (HKN.out _).mono ?_
                 rintro e W5 ⟨rfl, hb5⟩
                 replace bc0 := keepc hb5 bc0
                 replace bc1 := keepc hb5 bc1
                 replace bc2 := keepc hb5 bc2
                 replace bc3 := keepc hb5 bc3
                 replace bc4 := keepc hb5 bc4
                 replace bc5 := keepc hb5 bc5
                 replace wc0 := keepc hb5 wc0
                 replace wc1 := keepc hb5 wc1
                 replace wc2 := keepc hb5 wc2
                 replace wc3 := keepc hb5 wc3
                 replace BU : Aside (Below w.heap.size w W5) := BU.out.trans (hb5.mono BU.out.size)
                 clear hb5
                 go_wp2_with fail
                 go_ret
                 exact ⟨rfl, BU.out⟩
                ·
                 obtain ⟨rfl, rfl⟩ := HTS.out.lok rfl rfl (by omega) (by omega)
                 have HSQ2 : Aside _ := HSQ.out (by simp) (by simp)
                 have HRM2 : Aside _ := HRM.out (by simp) (by simp)
                 have HRP2 : Aside _ := HRP.out (by simp) (by simp)
                 have HRW2 : Aside _ := HRW.out (by simp) (by simp)
                 have HN0 : Aside (Sl V28c 1 eI (.slice aw nw cw) (SQ 0)) := by rw [HS0.out]; exact HWS.out.below BU.out
                 go_wp2_with fail
                 go_loopg [18, 19, 20] 501 (fun gg s18 s19 s20 wr => ∃ (p : Nat) (u : Value) (r : Int), p ≤ 501 ∧ 501 - p ≤ gg ∧ s20 = .int .i64 p ∧ u = s18 ∧ s19 = .int .i64 r ∧ Aside (Sl wr 1 eI u (SQ p)) ∧ Aside ((r = -1 ∧ lastF MF L 501 0 = lastF MF L (501 - p) p) ∨ (0 ≤ r ∧ lastF MF L 501 0 = r)) ∧ Aside (Below V28c.heap.size V28c wr))
                 case atStart => exact ⟨0, _, -1, by omega, by omega, rfl, rfl, rfl, HN0.out, .inl ⟨rfl, rfl⟩, Below.refl _ _⟩
                 case round =>
                  obtain ⟨p, u, r, hp, hgg, rfl, rfl, rfl, HU, HF, HBX⟩ := hrel
                  have hbx := HBX.out
                  by_cases hgo : p < 501 ∧ r < 0
                  ·
                   have hp5 : (p : Int) ≤ 500 := by omega
                   have hr0 : r < 0 := hgo.2
                   obtain ⟨rfl, HF1⟩ : r = -1 ∧ lastF MF L 501 0 = lastF MF L (501 - p) p := by
                    rcases HF.out with h | h
                    ·
                     exact h
                    ·
                     omega
                   have HF2 : Aside (lastF MF L 501 0 = if L < MF p then (p : Int) else lastF MF L (501 - (p + 1)) (p + 1)) := by
                    show _ = _
                    rw [HF1, show 501 - p = (501 - (p + 1)) + 1 by omega]; rfl
                   clear HF HF1 hr0 hgo
                   replace bc0 := keepc hbx bc0
                   replace bc1 := keepc hbx bc1
                   replace bc2 := keepc hbx bc2
                   replace bc3 := keepc hbx bc3
                   replace bc4 := keepc hbx bc4
                   replace bc5 := keepc hbx bc5
                   replace wc0 := keepc hbx wc0
                   replace wc1 := keepc hbx wc1
                   replace wc2 := keepc hbx wc2
                   replace wc3 := keepc hbx wc3
                   replace BU : Aside (Below w.heap.size w wr) := BU.out.trans (hbx.mono BU.out.size)
                   clear hbx
                   obtain ⟨k, hk, hbk, hsq⟩ := HSQ2.out p
                   have x32 := HRM2.out p
                   obtain ⟨mp, hmp⟩ : ∃ z, MF p = z := ⟨_, rfl⟩
                   rw [hmp] at x32 HF2
                   clear hmp
                   have HX32 : Aside _ := x32
                   clear x32
                   have HSQ3 : Aside (SQ (p + 1) = aft (SQ p) wkl k) := hsq
                   have HBK : Aside (bestK (SQ p) wkl = (k : Int)) := hbk
                   have HKN1 : Aside ((k : Int) < (nn : Int)) := hk
                   clear hsq hbk hk
                   have HX33 : Aside _ := HRP2.out p
                   rw [HBK.out] at HX33
                   by_cases hgt : L < mp
                   ·
                    as_aux_lemma =>
                     go_upto_region 37 with (fail)
                     refine region_laid (fl := 8) [true, true, true, true, true] 0 (fun (i : Nat) (x : Value) (ww : World) => (match i with | 0 => Sl ww 1 eI x (SQ p) | 1 => x = .int .i64 mp | 2 => x = .pointer (some ⟨w.heap.size + 1, 3, none⟩) | 3 => x = .int .i64 L | 4 => x = .bool true | _ => True : Prop)) (fun w' => Below wr.heap.size wr w') (by kernel_rfl) rfl (by show layable _ 228 _ 8 = true; decide +kernel) rfl ((Below.refl _ _).drew) ?mono37cg ?step37cg ?rest37cg
                     case mono37cg =>
                      intro i x ww ww' hB h
                      match i, h with
                      | 0, h => exact Sl.below h hB
                      | 1, h => exact h
                      | 2, h => exact h
                      | 3, h => exact h
                      | 4, h => exact h
                      | n + 5, h => exact h
                     case step37cg =>
                      intro i o_ listed ac W hA ho hL he
                      have hk2 : ac.tmps.getD 2 undef = .pointer (some ⟨w.heap.size, 0, none⟩) := hL.kept 2 (by decide +kernel)
                      have hk3 : ac.tmps.getD 3 undef = .pointer (some ⟨w.heap.size + 1, 0, none⟩) := hL.kept 3 (by decide +kernel)
                      have hk18 : ac.tmps.getD 18 undef = u := hL.kept 18 (by decide +kernel)
                      have CL : ∀ W', Below W.heap.size W W' → Below wr.heap.size wr W' := fun W' h => hL.cls.trans (h.mono hL.cls.size)
                      have k_wc0 := keepc hL.cls wc0
                      have k_wc1 := keepc hL.cls wc1
                      have k_wc2 := keepc hL.cls wc2
                      have k_wc3 := keepc hL.cls wc3
                      match i, hA, ho with
                      | 0, _, ho =>
                       cases ho
                       refine wpOp_plain rfl rfl ?_
                       unfold Oper.wp
                       go_simp
                       exact ⟨_, rfl, Below.refl _ _, CL _ (Below.refl _ _), HU.out.below hL.cls⟩
                      | 1, _, ho =>
                       cases ho
                       obtain ⟨x0, hx0⟩ : ∃ x, ac.tmps.getD 197 undef = x := ⟨_, rfl⟩
                       have d0 := hL.new 0 _ 197 rfl (he ⟨0, .data⟩ (by simp) rfl) rfl
                       rw [hx0] at d0
                       have x := HX32.out x0 W d0
                       refine wpOp_plain rfl rfl ?_
                       unfold Oper.wp
                       go_simp
                       refine x.mono ?_
                       rintro e w' ⟨rfl, hBn⟩
                       exact ⟨_, rfl, hBn, CL _ hBn, rfl⟩
                      | 2, _, ho =>
                       cases ho
                       refine wpOp_plain rfl rfl ?_
                       unfold Oper.wp
                       go_simp
                       exact ⟨_, rfl, Below.refl _ _, CL _ (Below.refl _ _), rfl⟩
                      | 3, _, ho =>
                       cases ho
                       have d2 : ac.tmps.getD 199 undef = .pointer (some ⟨w.heap.size + 1, 3, none⟩) := hL.new 2 _ 199 rfl (he ⟨2, .data⟩ (by simp) rfl) rfl
                       refine wpOp_plain rfl rfl ?_
                       unfold Oper.wp
                       go_simp
                       exact ⟨_, rfl, Below.refl _ _, CL _ (Below.refl _ _), rfl⟩
                      | 4, _, ho =>
                       cases ho
                       have d1 : ac.tmps.getD 198 undef = .int .i64 mp := hL.new 1 _ 198 rfl (he ⟨1, .data⟩ (by simp) rfl) rfl
                       have d3 : ac.tmps.getD 200 undef = .int .i64 L := hL.new 3 _ 200 rfl (he ⟨3, .data⟩ (by simp) rfl) rfl
                       refine wpOp_plain rfl rfl ?_
                       unfold Oper.wp
                       go_simp
                       exact ⟨_, rfl, Below.refl _ _, CL _ (Below.refl _ _), rfl⟩
                      | n + 5, hA, _ => simp at hA
                     case rest37cg =>
                      intro ac V37cg hL
                      obtain ⟨y197, e197⟩ : ∃ x, ac.tmps.getD 197 undef = x := ⟨_, rfl⟩
                      have e198 : ac.tmps.getD 198 undef = .int .i64 mp := hL.new 1 _ 198 rfl rfl rfl
                      have e199 : ac.tmps.getD 199 undef = .pointer (some ⟨w.heap.size + 1, 3, none⟩) := hL.new 2 _ 199 rfl rfl rfl
                      have e200 : ac.tmps.getD 200 undef = .int .i64 L := hL.new 3 _ 200 rfl rfl rfl
                      have e201 : ac.tmps.getD 201 undef = .bool true := hL.new 4 _ 201 rfl rfl rfl
                      have es := hL.sets [197, 198, 199, 200, 201] (by decide +kernel)
                      rw [List.foldl_cons, List.foldl_cons, List.foldl_cons, List.foldl_cons, List.foldl_cons, List.foldl_nil, e197, e198, e199, e200, e201] at es
                      have BN : Below wr.heap.size wr V37cg := hL.cls
                      rw [es]
                      clear es hL e197 e198 e199 e200 e201
                      refine wpAny_done (by decide +kernel) ?_ _
                      simp only [List.setIfInBounds_toArray, List.set_cons_zero, List.set_cons_succ]
                      have HU1 : Aside (Sl V37cg 1 eI u (SQ p)) := HU.out.below BN
                      have HBX1 : Aside (Below V28c.heap.size V28c V37cg) := HBX.out.trans (BN.mono HBX.out.size)
                      replace bc0 := keepc BN bc0
                      replace bc1 := keepc BN bc1
                      replace bc2 := keepc BN bc2
                      replace bc3 := keepc BN bc3
                      replace bc4 := keepc BN bc4
                      replace bc5 := keepc BN bc5
                      replace wc0 := keepc BN wc0
                      replace wc1 := keepc BN wc1
                      replace wc2 := keepc BN wc2
                      replace wc3 := keepc BN wc3
                      replace BU : Aside (Below w.heap.size w V37cg) := BU.out.trans (BN.mono BU.out.size)
                      clear BN
                      go_wp2_with fail
                      refine (HWE.out _ BU.out).mono ?_
                      rintro e W5 ⟨rfl, hb5⟩
                      replace HBX1 : Aside (Below V28c.heap.size V28c W5) := HBX1.out.trans (hb5.mono HBX1.out.size)
                      replace bc0 := keepc hb5 bc0
                      replace bc1 := keepc hb5 bc1
                      replace bc2 := keepc hb5 bc2
                      replace bc3 := keepc hb5 bc3
                      replace bc4 := keepc hb5 bc4
                      replace bc5 := keepc hb5 bc5
                      replace wc0 := keepc hb5 wc0
                      replace wc1 := keepc hb5 wc1
                      replace wc2 := keepc hb5 wc2
                      replace wc3 := keepc hb5 wc3
                      replace BU : Aside (Below w.heap.size w W5) := BU.out.trans (hb5.mono BU.out.size)
                      replace HU1 : Aside (Sl W5 1 eI u (SQ p)) := HU1.out.below hb5
                      clear hb5
                      go_wp2_with fail
                      have ba : Below W5.heap.size W5 (W5.alloc (.cells #[.slice ak nk ck_] 24)) := (Below.refl _ _).alloc (Nat.le_refl _) _
                      refine (HX33.out _ _ _ hp (BU.out.trans (ba.mono BU.out.size)) (HU1.out.below ba) (sl_week _ _ rfl _ _ _)).mono ?_
                      rintro e W6 ⟨vp, mq, rfl, ho, hb_⟩
                      have hbb : Below W5.heap.size W5 W6 := ba.trans (hb_.mono ba.size)
                      replace HBX1 : Aside (Below V28c.heap.size V28c W6) := HBX1.out.trans (hbb.mono HBX1.out.size)
                      replace bc0 := keepc hbb bc0
                      replace bc1 := keepc hbb bc1
                      replace bc2 := keepc hbb bc2
                      replace bc3 := keepc hbb bc3
                      replace bc4 := keepc hbb bc4
                      replace bc5 := keepc hbb bc5
                      replace wc0 := keepc hbb wc0
                      replace wc1 := keepc hbb wc1
                      replace wc2 := keepc hbb wc2
                      replace wc3 := keepc hbb wc3
                      replace BU : Aside (Below w.heap.size w W6) := BU.out.trans (hbb.mono BU.out.size)
                      replace HU1 : Aside (Sl W6 1 eI u (SQ p)) := HU1.out.below hbb
                      clear hbb ba hb_
                      obtain ⟨bp, fp, cp, rfl, hcp⟩ := ho
                      go_upto_region 40 with (fail)
                      refine region_laidC (fl := 8) [true, true, true, true, true, true, true, true] 0 (fun (i : Nat) (x : Value) (ww : World) => (match i with | 0 => Sl ww 1 eI x (SQ p) | 1 => x = .agg #[.slice aw nw cw, .slice as_ j cs, .int .i64 K, .int .i64 L] | 2 => x = .slice ak nk ck_ | 3 => x = .slice (some ⟨bp, fp, none⟩) 1 cp | 4 => x = .pointer (some ⟨bp, fp, none⟩) | 5 => x = .int .i64 (k : Int) | 6 => Sl ww 1 eI x (SQ (p + 1)) | 7 => Sl ww 1 eI x (SQ (p + 1)) | _ => True : Prop)) (fun w' => Below W6.heap.size W6 w') (by kernel_rfl) rfl (by show layableC _ 228 _ 8 = true; decide +kernel) rfl ((Below.refl _ _).drew) ?mono40cg ?step40cg ?rest40cg
                      case mono40cg =>
                       intro i x ww ww' hB h
                       match i, h with
                       | 0, h => exact Sl.below h hB
                       | 1, h => exact h
                       | 2, h => exact h
                       | 3, h => exact h
                       | 4, h => exact h
                       | 5, h => exact h
                       | 6, h => exact Sl.below h hB
                       | 7, h => exact Sl.below h hB
                       | n + 8, h => exact h
                      case step40cg =>
                       intro i o_ listed ac W hA ho hL he hcl hli hsz
                       have hk2 : ac.tmps.getD 2 undef = .pointer (some ⟨w.heap.size, 0, none⟩) := hL.kept 2 (by decide +kernel)
                       have hk3 : ac.tmps.getD 3 undef = .pointer (some ⟨w.heap.size + 1, 0, none⟩) := hL.kept 3 (by decide +kernel)
                       have hk21 : ac.tmps.getD 21 undef = .slice (some ⟨bp, fp, none⟩) 1 cp := hL.kept 21 (by decide +kernel)
                       have CL : ∀ W', Below W.heap.size W W' → Below W6.heap.size W6 W' := fun W' h => hL.cls.trans (h.mono hL.cls.size)
                       have k_wc0 := keepc hL.cls wc0
                       have k_wc1 := keepc hL.cls wc1
                       have k_wc2 := keepc hL.cls wc2
                       have k_wc3 := keepc hL.cls wc3
                       have k_hcp := keepc hL.cls hcp
                       match i, hA, ho with
                       | 0, _, ho =>
                        cases ho
                        have hk18 : ac.tmps.getD 18 undef = u := hL.kept3 hcl hsz 18 0 7 12 hli (by decide +kernel) (by decide +kernel)
                        refine wpOp_plain rfl rfl ?_
                        unfold Oper.wp
                        go_simp
                        exact ⟨_, rfl, Below.refl _ _, CL _ (Below.refl _ _), HU1.out.below hL.cls⟩
                       | 1, _, ho =>
                        cases ho
                        refine wpOp_plain rfl rfl ?_
                        unfold Oper.wp
                        go_simp
                        exact ⟨_, rfl, Below.refl _ _, CL _ (Below.refl _ _), rfl⟩
                       | 2, _, ho =>
                        cases ho
                        have d1 : ac.tmps.getD 212 undef = .agg #[.slice aw nw cw, .slice as_ j cs, .int .i64 K, .int .i64 L] := hL.new 1 _ 212 rfl (he ⟨1, .data⟩ (by simp) rfl) rfl
                        have x := HWE.out W (BU.out.trans (hL.cls.mono BU.out.size))
                        refine wpOp_plain rfl rfl ?_
                        unfold Oper.wp
                        go_simp
                        refine x.mono ?_
                        rintro e w' ⟨rfl, hBn⟩
                        exact ⟨_, rfl, hBn, CL _ hBn, rfl⟩
                       | 3, _, ho =>
                        cases ho
                        refine wpOp_plain rfl rfl ?_
                        unfold Oper.wp
                        go_simp
                        exact ⟨_, rfl, Below.refl _ _, CL _ (Below.refl _ _), rfl⟩
                       | 4, _, ho =>
                        cases ho
                        have d3 : ac.tmps.getD 214 undef = .slice (some ⟨bp, fp, none⟩) 1 cp := hL.new 3 _ 214 rfl (he ⟨3, .data⟩ (by simp) rfl) rfl
                        refine wpOp_plain rfl rfl ?_
                        unfold Oper.wp
                        go_simp
                        exact ⟨_, rfl, Below.refl _ _, CL _ (Below.refl _ _), rfl⟩
                       | 5, _, ho =>
                        cases ho
                        have d4 : ac.tmps.getD 215 undef = .pointer (some ⟨bp, fp, none⟩) := hL.new 4 _ 215 rfl (he ⟨4, .data⟩ (by simp) rfl) rfl
                        refine wpOp_plain rfl rfl ?_
                        unfold Oper.wp
                        go_simp
                        exact ⟨_, rfl, Below.refl _ _, CL _ (Below.refl _ _), rfl⟩
                       | 6, _, ho =>
                        cases ho
                        obtain ⟨x0, hx0⟩ : ∃ x, ac.tmps.getD 211 undef = x := ⟨_, rfl⟩
                        have d0 := hL.new 0 _ 211 rfl (he ⟨0, .data⟩ (by simp) rfl) rfl
                        rw [hx0] at d0
                        have d2 : ac.tmps.getD 213 undef = .slice ak nk ck_ := hL.new 2 _ 213 rfl (he ⟨2, .data⟩ (by simp) rfl) rfl
                        have d5 : ac.tmps.getD 216 undef = .int .i64 (k : Int) := hL.new 5 _ 216 rfl (he ⟨5, .data⟩ (by simp) rfl) rfl
                        have x := HRW2.out p k x0 W hp HKN1.out (BU.out.trans (hL.cls.mono BU.out.size)) d0
                        rw [← HSQ3.out] at x
                        refine wpOp_plain rfl rfl ?_
                        unfold Oper.wp
                        go_simp
                        refine x.mono ?_
                        rintro e w' ⟨v', rfl, hs, hBn⟩
                        exact ⟨_, rfl, hBn, CL _ hBn, hs⟩
                       | 7, _, ho =>
                        cases ho
                        obtain ⟨x6, hx6⟩ : ∃ x, ac.tmps.getD 217 undef = x := ⟨_, rfl⟩
                        have d6 := hL.new 6 _ 217 rfl (he ⟨6, .data⟩ (by simp) rfl) rfl
                        rw [hx6] at d6
                        refine wpOp_plain rfl rfl ?_
                        unfold Oper.wp
                        go_simp
                        exact ⟨_, rfl, Below.refl _ _, CL _ (Below.refl _ _), d6⟩
                       | n + 8, hA, _ => simp at hA
                      case rest40cg =>
                       intro ac V40cg hL
                       obtain ⟨y211, e211⟩ : ∃ x, ac.tmps.getD 211 undef = x := ⟨_, rfl⟩
                       have e212 : ac.tmps.getD 212 undef = .agg #[.slice aw nw cw, .slice as_ j cs, .int .i64 K, .int .i64 L] := hL.new 1 _ 212 rfl rfl rfl
                       have e213 : ac.tmps.getD 213 undef = .slice ak nk ck_ := hL.new 2 _ 213 rfl rfl rfl
                       have e214 : ac.tmps.getD 214 undef = .slice (some ⟨bp, fp, none⟩) 1 cp := hL.new 3 _ 214 rfl rfl rfl
                       have e215 : ac.tmps.getD 215 undef = .pointer (some ⟨bp, fp, none⟩) := hL.new 4 _ 215 rfl rfl rfl
                       have e216 : ac.tmps.getD 216 undef = .int .i64 (k : Int) := hL.new 5 _ 216 rfl rfl rfl
                       obtain ⟨y217, e217⟩ : ∃ x, ac.tmps.getD 217 undef = x := ⟨_, rfl⟩
                       have hn18 := hL.new 7 _ 18 rfl rfl rfl
                       obtain ⟨vnx, e18⟩ : ∃ x, ac.tmps.getD 18 undef = x := ⟨_, rfl⟩
                       rw [e18] at hn18
                       have Hvnx : Aside (Sl V40cg 1 eI vnx (SQ (p + 1))) := hn18
                       clear hn18
                       have es := hL.sets [211, 212, 213, 214, 215, 216, 217, 18] (by decide +kernel)
                       rw [List.foldl_cons, List.foldl_cons, List.foldl_cons, List.foldl_cons, List.foldl_cons, List.foldl_cons, List.foldl_cons, List.foldl_cons, List.foldl_nil, e211, e212, e213, e214, e215, e216, e217, e18] at es
                       have BN : Below W6.heap.size W6 V40cg := hL.cls
                       rw [es]
                       clear es hL e211 e212 e213 e214 e215 e216 e217 e18
                       refine wpAny_done (by decide +kernel) ?_ _
                       simp only [List.setIfInBounds_toArray, List.set_cons_zero, List.set_cons_succ]
                       go_wp2_with fail
                       go_roundg (501 - (p + 1))
                       case measure => omega
                       case rel => exact ⟨p + 1, _, (p : Int), by omega, by omega, by go_num, rfl, rfl, Hvnx.out, .inr ⟨by omega, by rw [HF2.out, if_pos hgt]⟩, HBX1.out.trans (BN.mono HBX1.out.size)⟩
                   ·
                    as_aux_lemma =>
                     go_upto_region 37 with (fail)
                     refine region_laid (fl := 8) [true, true, true, true, true] 0 (fun (i : Nat) (x : Value) (ww : World) => (match i with | 0 => Sl ww 1 eI x (SQ p) | 1 => x = .int .i64 mp | 2 => x = .pointer (some ⟨w.heap.size + 1, 3, none⟩) | 3 => x = .int .i64 L | 4 => x = .bool false | _ => True : Prop)) (fun w' => Below wr.heap.size wr w') (by kernel_rfl) rfl (by show layable _ 228 _ 8 = true; decide +kernel) rfl ((Below.refl _ _).drew) ?mono37cn ?step37cn ?rest37cn
                     case mono37cn =>
                      intro i x ww ww' hB h
                      match i, h with
                      | 0, h => exact Sl.below h hB
                      | 1, h => exact h
                      | 2, h => exact h
                      | 3, h => exact h
                      | 4, h => exact h
                      | n + 5, h => exact h
                     case step37cn =>
                      intro i o_ listed ac W hA ho hL he
                      have hk2 : ac.tmps.getD 2 undef = .pointer (some ⟨w.heap.size, 0, none⟩) := hL.kept 2 (by decide +kernel)
                      have hk3 : ac.tmps.getD 3 undef = .pointer (some ⟨w.heap.size + 1, 0, none⟩) := hL.kept 3 (by decide +kernel)
                      have hk18 : ac.tmps.getD 18 undef = u := hL.kept 18 (by decide +kernel)
                      have CL : ∀ W', Below W.heap.size W W' → Below wr.heap.size wr W' := fun W' h => hL.cls.trans (h.mono hL.cls.size)
                      have k_wc0 := keepc hL.cls wc0
                      have k_wc1 := keepc hL.cls wc1
                      have k_wc2 := keepc hL.cls wc2
                      have k_wc3 := keepc hL.cls wc3
                      match i, hA, ho with
                      | 0, _, ho =>
                       cases ho
                       refine wpOp_plain rfl rfl ?_
                       unfold Oper.wp
                       go_simp
                       exact ⟨_, rfl, Below.refl _ _, CL _ (Below.refl _ _), HU.out.below hL.cls⟩
                      | 1, _, ho =>
                       cases ho
                       obtain ⟨x0, hx0⟩ : ∃ x, ac.tmps.getD 197 undef = x := ⟨_, rfl⟩
                       have d0 := hL.new 0 _ 197 rfl (he ⟨0, .data⟩ (by simp) rfl) rfl
                       rw [hx0] at d0
                       have x := HX32.out x0 W d0
                       refine wpOp_plain rfl rfl ?_
                       unfold Oper.wp
                       go_simp
                       refine x.mono ?_
                       rintro e w' ⟨rfl, hBn⟩
                       exact ⟨_, rfl, hBn, CL _ hBn, rfl⟩
                      | 2, _, ho =>
                       cases ho
                       refine wpOp_plain rfl rfl ?_
                       unfold Oper.wp
                       go_simp
                       exact ⟨_, rfl, Below.refl _ _, CL _ (Below.refl _ _), rfl⟩
                      | 3, _, ho =>
                       cases ho
                       have d2 : ac.tmps.getD 199 undef = .pointer (some ⟨w.heap.size + 1, 3, none⟩) := hL.new 2 _ 199 rfl (he ⟨2, .data⟩ (by simp) rfl) rfl
                       refine wpOp_plain rfl rfl ?_
                       unfold Oper.wp
                       go_simp
                       exact ⟨_, rfl, Below.refl _ _, CL _ (Below.refl _ _), rfl⟩
                      | 4, _, ho =>
                       cases ho
                       have d1 : ac.tmps.getD 198 undef = .int .i64 mp := hL.new 1 _ 198 rfl (he ⟨1, .data⟩ (by simp) rfl) rfl
                       have d3 : ac.tmps.getD 200 undef = .int .i64 L := hL.new 3 _ 200 rfl (he ⟨3, .data⟩ (by simp) rfl) rfl
                       refine wpOp_plain rfl rfl ?_
                       unfold Oper.wp
                       go_simp
                       exact ⟨_, rfl, Below.refl _ _, CL _ (Below.refl _ _), rfl⟩
                      | n + 5, hA, _ => simp at hA
                     case rest37cn =>
                      intro ac V37cn hL
                      obtain ⟨y197, e197⟩ : ∃ x, ac.tmps.getD 197 undef = x := ⟨_, rfl⟩
                      have e198 : ac.tmps.getD 198 undef = .int .i64 mp := hL.new 1 _ 198 rfl rfl rfl
                      have e199 : ac.tmps.getD 199 undef = .pointer (some ⟨w.heap.size + 1, 3, none⟩) := hL.new 2 _ 199 rfl rfl rfl
                      have e200 : ac.tmps.getD 200 undef = .int .i64 L := hL.new 3 _ 200 rfl rfl rfl
                      have e201 : ac.tmps.getD 201 undef = .bool false := hL.new 4 _ 201 rfl rfl rfl
                      have es := hL.sets [197, 198, 199, 200, 201] (by decide +kernel)
                      rw [List.foldl_cons, List.foldl_cons, List.foldl_cons, List.foldl_cons, List.foldl_cons, List.foldl_nil, e197, e198, e199, e200, e201] at es
                      have BN : Below wr.heap.size wr V37cn := hL.cls
                      rw [es]
                      clear es hL e197 e198 e199 e200 e201
                      refine wpAny_done (by decide +kernel) ?_ _
                      simp only [List.setIfInBounds_toArray, List.set_cons_zero, List.set_cons_succ]
                      have HU1 : Aside (Sl V37cn 1 eI u (SQ p)) := HU.out.below BN
                      have HBX1 : Aside (Below V28c.heap.size V28c V37cn) := HBX.out.trans (BN.mono HBX.out.size)
                      replace bc0 := keepc BN bc0
                      replace bc1 := keepc BN bc1
                      replace bc2 := keepc BN bc2
                      replace bc3 := keepc BN bc3
                      replace bc4 := keepc BN bc4
                      replace bc5 := keepc BN bc5
                      replace wc0 := keepc BN wc0
                      replace wc1 := keepc BN wc1
                      replace wc2 := keepc BN wc2
                      replace wc3 := keepc BN wc3
                      replace BU : Aside (Below w.heap.size w V37cn) := BU.out.trans (BN.mono BU.out.size)
                      clear BN
                      go_wp2_with fail
                      refine (HWE.out _ BU.out).mono ?_
                      rintro e W5 ⟨rfl, hb5⟩
                      replace HBX1 : Aside (Below V28c.heap.size V28c W5) := HBX1.out.trans (hb5.mono HBX1.out.size)
                      replace bc0 := keepc hb5 bc0
                      replace bc1 := keepc hb5 bc1
                      replace bc2 := keepc hb5 bc2
                      replace bc3 := keepc hb5 bc3
                      replace bc4 := keepc hb5 bc4
                      replace bc5 := keepc hb5 bc5
                      replace wc0 := keepc hb5 wc0
                      replace wc1 := keepc hb5 wc1
                      replace wc2 := keepc hb5 wc2
                      replace wc3 := keepc hb5 wc3
                      replace BU : Aside (Below w.heap.size w W5) := BU.out.trans (hb5.mono BU.out.size)
                      replace HU1 : Aside (Sl W5 1 eI u (SQ p)) := HU1.out.below hb5
                      clear hb5
                      go_wp2_with fail
                      have ba : Below W5.heap.size W5 (W5.alloc (.cells #[.slice ak nk ck_] 24)) := (Below.refl _ _).alloc (Nat.le_refl _) _
                      refine (HX33.out _ _ _ hp (BU.out.trans (ba.mono BU.out.size)) (HU1.out.below ba) (sl_week _ _ rfl _ _ _)).mono ?_
                      rintro e W6 ⟨vp, mq, rfl, ho, hb_⟩
                      have hbb : Below W5.heap.size W5 W6 := ba.trans (hb_.mono ba.size)
                      replace HBX1 : Aside (Below V28c.heap.size V28c W6) := HBX1.out.trans (hbb.mono HBX1.out.size)
                      replace bc0 := keepc hbb bc0
                      replace bc1 := keepc hbb bc1
                      replace bc2 := keepc hbb bc2
                      replace bc3 := keepc hbb bc3
                      replace bc4 := keepc hbb bc4
                      replace bc5 := keepc hbb bc5
                      replace wc0 := keepc hbb wc0
                      replace wc1 := keepc hbb wc1
                      replace wc2 := keepc hbb wc2
                      replace wc3 := keepc hbb wc3
                      replace BU : Aside (Below w.heap.size w W6) := BU.out.trans (hbb.mono BU.out.size)
                      replace HU1 : Aside (Sl W6 1 eI u (SQ p)) := HU1.out.below hbb
                      clear hbb ba hb_
                      obtain ⟨bp, fp, cp, rfl, hcp⟩ := ho
                      go_upto_region 40 with (fail)
                      refine region_laidC (fl := 8) [true, true, true, true, true, true, true, true] 0 (fun (i : Nat) (x : Value) (ww : World) => (match i with | 0 => Sl ww 1 eI x (SQ p) | 1 => x = .agg #[.slice aw nw cw, .slice as_ j cs, .int .i64 K, .int .i64 L] | 2 => x = .slice ak nk ck_ | 3 => x = .slice (some ⟨bp, fp, none⟩) 1 cp | 4 => x = .pointer (some ⟨bp, fp, none⟩) | 5 => x = .int .i64 (k : Int) | 6 => Sl ww 1 eI x (SQ (p + 1)) | 7 => Sl ww 1 eI x (SQ (p + 1)) | _ => True : Prop)) (fun w' => Below W6.heap.size W6 w') (by kernel_rfl) rfl (by show layableC _ 228 _ 8 = true; decide +kernel) rfl ((Below.refl _ _).drew) ?mono40cn ?step40cn ?rest40cn
                      case mono40cn =>
                       intro i x ww ww' hB h
                       match i, h with
                       | 0, h => exact Sl.below h hB
                       | 1, h => exact h
                       | 2, h => exact h
                       | 3, h => exact h
                       | 4, h => exact h
                       | 5, h => exact h
                       | 6, h => exact Sl.below h hB
                       | 7, h => exact Sl.below h hB
                       | n + 8, h => exact h
                      case step40cn =>
                       intro i o_ listed ac W hA ho hL he hcl hli hsz
                       have hk2 : ac.tmps.getD 2 undef = .pointer (some ⟨w.heap.size, 0, none⟩) := hL.kept 2 (by decide +kernel)
                       have hk3 : ac.tmps.getD 3 undef = .pointer (some ⟨w.heap.size + 1, 0, none⟩) := hL.kept 3 (by decide +kernel)
                       have hk21 : ac.tmps.getD 21 undef = .slice (some ⟨bp, fp, none⟩) 1 cp := hL.kept 21 (by decide +kernel)
                       have CL : ∀ W', Below W.heap.size W W' → Below W6.heap.size W6 W' := fun W' h => hL.cls.trans (h.mono hL.cls.size)
                       have k_wc0 := keepc hL.cls wc0
                       have k_wc1 := keepc hL.cls wc1
                       have k_wc2 := keepc hL.cls wc2
                       have k_wc3 := keepc hL.cls wc3
                       have k_hcp := keepc hL.cls hcp
                       match i, hA, ho with
                       | 0, _, ho =>
                        cases ho
                        have hk18 : ac.tmps.getD 18 undef = u := hL.kept3 hcl hsz 18 0 7 12 hli (by decide +kernel) (by decide +kernel)
                        refine wpOp_plain rfl rfl ?_
                        unfold Oper.wp
                        go_simp
                        exact ⟨_, rfl, Below.refl _ _, CL _ (Below.refl _ _), HU1.out.below hL.cls⟩
                       | 1, _, ho =>
                        cases ho
                        refine wpOp_plain rfl rfl ?_
                        unfold Oper.wp
                        go_simp
                        exact ⟨_, rfl, Below.refl _ _, CL _ (Below.refl _ _), rfl⟩
                       | 2, _, ho =>
                        cases ho
                        have d1 : ac.tmps.getD 212 undef = .agg #[.slice aw nw cw, .slice as_ j cs, .int .i64 K, .int .i64 L] := hL.new 1 _ 212 rfl (he ⟨1, .data⟩ (by simp) rfl) rfl
                        have x := HWE.out W (BU.out.trans (hL.cls.mono BU.out.size))
                        refine wpOp_plain rfl rfl ?_
                        unfold Oper.wp
                        go_simp
                        refine x.mono ?_
                        rintro e w' ⟨rfl, hBn⟩
                        exact ⟨_, rfl, hBn, CL _ hBn, rfl⟩
                       | 3, _, ho =>
                        cases ho
                        refine wpOp_plain rfl rfl ?_
                        unfold Oper.wp
                        go_simp
                        exact ⟨_, rfl, Below.refl _ _, CL _ (Below.refl _ _), rfl⟩
                       | 4, _, ho =>
                        cases ho
                        have d3 : ac.tmps.getD 214 undef = .slice (some ⟨bp, fp, none⟩) 1 cp := hL.new 3 _ 214 rfl (he ⟨3, .data⟩ (by simp) rfl) rfl
                        refine wpOp_plain rfl rfl ?_
                        unfold Oper.wp
                        go_simp
                        exact ⟨_, rfl, Below.refl _ _, CL _ (Below.refl _ _), rfl⟩
                       | 5, _, ho =>
                        cases ho
                        have d4 : ac.tmps.getD 215 undef = .pointer (some ⟨bp, fp, none⟩) := hL.new 4 _ 215 rfl (he ⟨4, .data⟩ (by simp) rfl) rfl
                        refine wpOp_plain rfl rfl ?_
                        unfold Oper.wp
                        go_simp
                        exact ⟨_, rfl, Below.refl _ _, CL _ (Below.refl _ _), rfl⟩
                       | 6, _, ho =>
                        cases ho
                        obtain ⟨x0, hx0⟩ : ∃ x, ac.tmps.getD 211 undef = x := ⟨_, rfl⟩
                        have d0 := hL.new 0 _ 211 rfl (he ⟨0, .data⟩ (by simp) rfl) rfl
                        rw [hx0] at d0
                        have d2 : ac.tmps.getD 213 undef = .slice ak nk ck_ := hL.new 2 _ 213 rfl (he ⟨2, .data⟩ (by simp) rfl) rfl
                        have d5 : ac.tmps.getD 216 undef = .int .i64 (k : Int) := hL.new 5 _ 216 rfl (he ⟨5, .data⟩ (by simp) rfl) rfl
                        have x := HRW2.out p k x0 W hp HKN1.out (BU.out.trans (hL.cls.mono BU.out.size)) d0
                        rw [← HSQ3.out] at x
                        refine wpOp_plain rfl rfl ?_
                        unfold Oper.wp
                        go_simp
                        refine x.mono ?_
                        rintro e w' ⟨v', rfl, hs, hBn⟩
                        exact ⟨_, rfl, hBn, CL _ hBn, hs⟩
                       | 7, _, ho =>
                        cases ho
                        obtain ⟨x6, hx6⟩ : ∃ x, ac.tmps.getD 217 undef = x := ⟨_, rfl⟩
                        have d6 := hL.new 6 _ 217 rfl (he ⟨6, .data⟩ (by simp) rfl) rfl
                        rw [hx6] at d6
                        refine wpOp_plain rfl rfl ?_
                        unfold Oper.wp
                        go_simp
                        exact ⟨_, rfl, Below.refl _ _, CL _ (Below.refl _ _), d6⟩
                       | n + 8, hA, _ => simp at hA
                      case rest40cn =>
                       intro ac V40cn hL
                       obtain ⟨y211, e211⟩ : ∃ x, ac.tmps.getD 211 undef = x := ⟨_, rfl⟩
                       have e212 : ac.tmps.getD 212 undef = .agg #[.slice aw nw cw, .slice as_ j cs, .int .i64 K, .int .i64 L] := hL.new 1 _ 212 rfl rfl rfl
                       have e213 : ac.tmps.getD 213 undef = .slice ak nk ck_ := hL.new 2 _ 213 rfl rfl rfl
                       have e214 : ac.tmps.getD 214 undef = .slice (some ⟨bp, fp, none⟩) 1 cp := hL.new 3 _ 214 rfl rfl rfl
                       have e215 : ac.tmps.getD 215 undef = .pointer (some ⟨bp, fp, none⟩) := hL.new 4 _ 215 rfl rfl rfl
                       have e216 : ac.tmps.getD 216 undef = .int .i64 (k : Int) := hL.new 5 _ 216 rfl rfl rfl
                       obtain ⟨y217, e217⟩ : ∃ x, ac.tmps.getD 217 undef = x := ⟨_, rfl⟩
                       have hn18 := hL.new 7 _ 18 rfl rfl rfl
                       obtain ⟨vnx, e18⟩ : ∃ x, ac.tmps.getD 18 undef = x := ⟨_, rfl⟩
                       rw [e18] at hn18
                       have Hvnx : Aside (Sl V40cn 1 eI vnx (SQ (p + 1))) := hn18
                       clear hn18
                       have es := hL.sets [211, 212, 213, 214, 215, 216, 217, 18] (by decide +kernel)
                       rw [List.foldl_cons, List.foldl_cons, List.foldl_cons, List.foldl_cons, List.foldl_cons, List.foldl_cons, List.foldl_cons, List.foldl_cons, List.foldl_nil, e211, e212, e213, e214, e215, e216, e217, e18] at es
                       have BN : Below W6.heap.size W6 V40cn := hL.cls
                       rw [es]
                       clear es hL e211 e212 e213 e214 e215 e216 e217 e18
                       refine wpAny_done (by decide +kernel) ?_ _
                       simp only [List.setIfInBounds_toArray, List.set_cons_zero, List.set_cons_succ]
                       go_wp2_with fail
                       go_roundg (501 - (p + 1))
                       case measure => omega
                       case rel => exact ⟨p + 1, _, -1, by omega, by omega, by go_num, rfl, rfl, Hvnx.out, .inl ⟨rfl, by rw [HF2.out, if_neg (show ¬ L < mp by omega)]⟩, HBX1.out.trans (BN.mono HBX1.out.size)⟩
                  ·
                   have hre : r = lv := by
                    rw [HLV.out]
                    rcases HF.out with ⟨h1, h2⟩ | ⟨h1, h2⟩
                    ·
                     have : p = 501 := by omega
                     subst this
                     rw [h2, h1]; rfl
                    ·
                     exact h2.symm
                   have hr1 : (p : Int) ≤ 500 → ¬ r < 0 := by intro h; omega
                   subst hre
                   clear HF
                   replace bc0 := keepc hbx bc0
                   replace bc1 := keepc hbx bc1
                   replace bc2 := keepc hbx bc2
                   replace bc3 := keepc hbx bc3
                   replace bc4 := keepc hbx bc4
                   replace bc5 := keepc hbx bc5
                   replace wc0 := keepc hbx wc0
                   replace wc1 := keepc hbx wc1
                   replace wc2 := keepc hbx wc2
                   replace wc3 := keepc hbx wc3
                   replace BU : Aside (Below w.heap.size w wr) := BU.out.trans (hbx.mono BU.out.size)
                   clear hbx HBX HU
                   by_cases hp5 : (p : Int) ≤ 500
                   ·
                    have hr2 := hr1 hp5
                    go_wp2_with fail
                    refine (HKN.out _).mono ?_
                    rintro e W5 ⟨rfl, hb5⟩
                    replace bc0 := keepc hb5 bc0
                    replace bc1 := keepc hb5 bc1
                    replace bc2 := keepc hb5 bc2
                    replace bc3 := keepc hb5 bc3
                    replace bc4 := keepc hb5 bc4
                    replace bc5 := keepc hb5 bc5
                    replace wc0 := keepc hb5 wc0
                    replace wc1 := keepc hb5 wc1
                    replace wc2 := keepc hb5 wc2
                    replace wc3 := keepc hb5 wc3
                    replace BU : Aside (Below w.heap.size w W5) := BU.out.trans (hb5.mono BU.out.size)
                    clear hb5
                    go_wp2_with fail
                    go_ret
                    exact ⟨rfl, BU.out⟩
                   ·
                    skip
                    go_wp2_with fail
                    refine (HKN.out _).mono ?_
                    rintro e W5 ⟨rfl, hb5⟩
                    replace bc0 := keepc hb5 bc0
                    replace bc1 := keepc hb5 bc1
                    replace bc2 := keepc hb5 bc2
                    replace bc3 := keepc hb5 bc3
                    replace bc4 := keepc hb5 bc4
                    replace bc5 := keepc hb5 bc5
                    replace wc0 := keepc hb5 wc0
                    replace wc1 := keepc hb5 wc1
                    replace wc2 := keepc hb5 wc2
                    replace wc3 := keepc hb5 wc3
                    replace BU : Aside (Below w.heap.size w W5) := BU.out.trans (hb5.mono BU.out.size)
                    clear hb5
                    go_wp2_with fail
                    go_ret
                    exact ⟨rfl, BU.out⟩
           ·
            subst hfa
            go_wp2_with fail
            refine (HRA.out (by simp) hn9 (by omega) (by simp) _ BU.out).mono ?_
            rintro e W5 ⟨vpp, rfl, hsp, hb5⟩
            replace bc0 := keepc hb5 bc0
            replace bc1 := keepc hb5 bc1
            replace bc2 := keepc hb5 bc2
            replace bc3 := keepc hb5 bc3
            replace bc4 := keepc hb5 bc4
            replace bc5 := keepc hb5 bc5
            replace wc0 := keepc hb5 wc0
            replace wc1 := keepc hb5 wc1
            replace wc2 := keepc hb5 wc2
            replace wc3 := keepc hb5 wc3
            replace BU : Aside (Below w.heap.size w W5) := BU.out.trans (hb5.mono BU.out.size)
            replace HSA : Aside (Sl W5 1 eI (.slice aa na ca) PL) := HSA.out.below hb5
            have HSP : Aside (Sl W5 1 eI vpp DG) := hsp
            clear hsp
            clear hb5
            by_cases hpm : pm ≤ 1000000000
            ·
             obtain ⟨rfl, rfl, rfl⟩ := HTS.out.ple rfl h3' rfl hpm
             go_wp2_with fail
             refine (HAL.out _ _ _ _ HSA.out HSP.out).mono ?_
             rintro e W6 ⟨rfl, hb6⟩
             replace bc0 := keepc hb6 bc0
             replace bc1 := keepc hb6 bc1
             replace bc2 := keepc hb6 bc2
             replace bc3 := keepc hb6 bc3
             replace bc4 := keepc hb6 bc4
             replace bc5 := keepc hb6 bc5
             replace wc0 := keepc hb6 wc0
             replace wc1 := keepc hb6 wc1
             replace wc2 := keepc hb6 wc2
             replace wc3 := keepc hb6 wc3
             replace BU : Aside (Below w.heap.size w W6) := BU.out.trans (hb6.mono BU.out.size)
             replace HSA : Aside (Sl W6 1 eI (.slice aa na ca) PL) := HSA.out.below hb6
             replace HSP : Aside (Sl W6 1 eI vpp PL) := HSP.out.below hb6
             clear hb6
             clear HSA HSP
             as_aux_lemma =>
              go_upto_region 28 with (fail)
              refine region_laid (fl := 8) [true, true, true, true, true, true, true, true] 0 (fun (i : Nat) (x : Value) (ww : World) => (match i with | 0 => x = .int .i64 nn | 1 => x = .pointer (some ⟨w.heap.size + 1, 0, none⟩) | 2 => x = .slice aw nw cw | 3 => x = .agg #[.slice aw nw cw, .slice as_ j cs, .int .i64 K, .int .i64 L] | 4 => x = .slice ak nk ck_ | 5 => Sl ww 1 eR x [((.slice ak nk ck_ : Value), wkl)] | 6 => x = .int .i64 fB | 7 => x = .int .i64 fB | _ => True : Prop)) (fun w' => Below W6.heap.size W6 w') (by kernel_rfl) rfl (by show layable _ 228 _ 8 = true; decide +kernel) rfl ((Below.refl _ _).drew) ?mono28e ?step28e ?rest28e
              case mono28e =>
               intro i x ww ww' hB h
               match i, h with
               | 0, h => exact h
               | 1, h => exact h
               | 2, h => exact h
               | 3, h => exact h
               | 4, h => exact h
               | 5, h => exact Sl.below h hB
               | 6, h => exact h
               | 7, h => exact h
               | n + 8, h => exact h
              case step28e =>
               intro i o_ listed ac W hA ho hL he
               have hk2 : ac.tmps.getD 2 undef = .pointer (some ⟨w.heap.size, 0, none⟩) := hL.kept 2 (by decide +kernel)
               have hk3 : ac.tmps.getD 3 undef = .pointer (some ⟨w.heap.size + 1, 0, none⟩) := hL.kept 3 (by decide +kernel)
               have hk14 : ac.tmps.getD 14 undef = .int .i64 nn := hL.kept 14 (by decide +kernel)
               have CL : ∀ W', Below W.heap.size W W' → Below W6.heap.size W6 W' := fun W' h => hL.cls.trans (h.mono hL.cls.size)
               have k_wc0 := keepc hL.cls wc0
               have k_wc1 := keepc hL.cls wc1
               have k_wc2 := keepc hL.cls wc2
               have k_wc3 := keepc hL.cls wc3
               match i, hA, ho with
               | 0, _, ho =>
                cases ho
                refine wpOp_plain rfl rfl ?_
                unfold Oper.wp
                go_simp
                exact ⟨_, rfl, Below.refl _ _, CL _ (Below.refl _ _), rfl⟩
               | 1, _, ho =>
                cases ho
                refine wpOp_plain rfl rfl ?_
                unfold Oper.wp
                go_simp
                exact ⟨_, rfl, Below.refl _ _, CL _ (Below.refl _ _), rfl⟩
               | 2, _, ho =>
                cases ho
                have d1 : ac.tmps.getD 157 undef = .pointer (some ⟨w.heap.size + 1, 0, none⟩) := hL.new 1 _ 157 rfl (he ⟨1, .data⟩ (by simp) rfl) rfl
                refine wpOp_plain rfl rfl ?_
                unfold Oper.wp
                go_simp
                exact ⟨_, rfl, Below.refl _ _, CL _ (Below.refl _ _), rfl⟩
               | 3, _, ho =>
                cases ho
                refine wpOp_plain rfl rfl ?_
                unfold Oper.wp
                go_simp
                exact ⟨_, rfl, Below.refl _ _, CL _ (Below.refl _ _), rfl⟩
               | 4, _, ho =>
                cases ho
                have d3 : ac.tmps.getD 159 undef = .agg #[.slice aw nw cw, .slice as_ j cs, .int .i64 K, .int .i64 L] := hL.new 3 _ 159 rfl (he ⟨3, .data⟩ (by simp) rfl) rfl
                have x := HWE.out W (BU.out.trans (hL.cls.mono BU.out.size))
                refine wpOp_plain rfl rfl ?_
                unfold Oper.wp
                go_simp
                refine x.mono ?_
                rintro e w' ⟨rfl, hBn⟩
                exact ⟨_, rfl, hBn, CL _ hBn, rfl⟩
               | 5, _, ho =>
                cases ho
                have d4 : ac.tmps.getD 160 undef = .slice ak nk ck_ := hL.new 4 _ 160 rfl (he ⟨4, .data⟩ (by simp) rfl) rfl
                have dq : ac.tmps[160]?.getD undef = .slice ak nk ck_ := by rw [← Array.getD_eq_getD_getElem?]; exact d4
                refine wpOp_plain rfl rfl ?_
                unfold Oper.wp
                go_simp
                (try simp only [dq])
                (try go_simp)
                exact ⟨_, rfl, (Below.refl _ _).alloc (Nat.le_refl _) _, CL _ ((Below.refl _ _).alloc (Nat.le_refl _) _), sl_week _ _ rfl _ _ _⟩
               | 6, _, ho =>
                cases ho
                have d0 : ac.tmps.getD 156 undef = .int .i64 nn := hL.new 0 _ 156 rfl (he ⟨0, .data⟩ (by simp) rfl) rfl
                have d2 : ac.tmps.getD 158 undef = .slice aw nw cw := hL.new 2 _ 158 rfl (he ⟨2, .data⟩ (by simp) rfl) rfl
                obtain ⟨x5, hx5⟩ : ∃ x, ac.tmps.getD 161 undef = x := ⟨_, rfl⟩
                have d5 := hL.new 5 _ 161 rfl (he ⟨5, .data⟩ (by simp) rfl) rfl
                rw [hx5] at d5
                have x := HFO2.out x5 W (BU.out.trans (hL.cls.mono BU.out.size)) d5
                refine wpOp_plain rfl rfl ?_
                unfold Oper.wp
                go_simp
                refine x.mono ?_
                rintro e w' ⟨rfl, hBn⟩
                exact ⟨_, rfl, hBn, CL _ hBn, rfl⟩
               | 7, _, ho =>
                cases ho
                have d6 : ac.tmps.getD 162 undef = .int .i64 fB := hL.new 6 _ 162 rfl (he ⟨6, .data⟩ (by simp) rfl) rfl
                refine wpOp_plain rfl rfl ?_
                unfold Oper.wp
                go_simp
                exact ⟨_, rfl, Below.refl _ _, CL _ (Below.refl _ _), rfl⟩
               | n + 8, hA, _ => simp at hA
              case rest28e =>
               intro ac V28e hL
               have e156 : ac.tmps.getD 156 undef = .int .i64 nn := hL.new 0 _ 156 rfl rfl rfl
               have e157 : ac.tmps.getD 157 undef = .pointer (some ⟨w.heap.size + 1, 0, none⟩) := hL.new 1 _ 157 rfl rfl rfl
               have e158 : ac.tmps.getD 158 undef = .slice aw nw cw := hL.new 2 _ 158 rfl rfl rfl
               have e159 : ac.tmps.getD 159 undef = .agg #[.slice aw nw cw, .slice as_ j cs, .int .i64 K, .int .i64 L] := hL.new 3 _ 159 rfl rfl rfl
               have e160 : ac.tmps.getD 160 undef = .slice ak nk ck_ := hL.new 4 _ 160 rfl rfl rfl
               obtain ⟨y161, e161⟩ : ∃ x, ac.tmps.getD 161 undef = x := ⟨_, rfl⟩
               have e162 : ac.tmps.getD 162 undef = .int .i64 fB := hL.new 6 _ 162 rfl rfl rfl
               have e15 : ac.tmps.getD 15 undef = .int .i64 fB := hL.new 7 _ 15 rfl rfl rfl
               have es := hL.sets [156, 157, 158, 159, 160, 161, 162, 15] (by decide +kernel)
               rw [List.foldl_cons, List.foldl_cons, List.foldl_cons, List.foldl_cons, List.foldl_cons, List.foldl_cons, List.foldl_cons, List.foldl_cons, List.foldl_nil, e156, e157, e158, e159, e160, e161, e162, e15] at es
               have BN : Below W6.heap.size W6 V28e := hL.cls
               rw [es]
               clear es hL e156 e157 e158 e159 e160 e161 e162 e15
               refine wpAny_done (by decide +kernel) ?_ _
               simp only [List.setIfInBounds_toArray, List.set_cons_zero, List.set_cons_succ]
               replace bc0 := keepc BN bc0
               replace bc1 := keepc BN bc1
               replace bc2 := keepc BN bc2
               replace bc3 := keepc BN bc3
               replace bc4 := keepc BN bc4
               replace bc5 := keepc BN bc5
               replace wc0 := keepc BN wc0
               replace wc1 := keepc BN wc1
               replace wc2 := keepc BN wc2
               replace wc3 := keepc BN wc3
               replace BU : Aside (Below w.heap.size w V28e) := BU.out.trans (BN.mono BU.out.size)
               clear BN
               by_cases hf : fB = 0
               rotate_left
               ·
                obtain ⟨rfl, rfl⟩ := HTS.out.lfm rfl hf
                go_wp2_with fail
                refine (HKN.out _).mono ?_
                rintro e W7 ⟨rfl, hb7⟩
                replace bc0 := keepc hb7 bc0
                replace bc1 := keepc hb7 bc1
                replace bc2 := keepc hb7 bc2
                replace bc3 := keepc hb7 bc3
                replace bc4 := keepc hb7 bc4
                replace bc5 := keepc hb7 bc5
                replace wc0 := keepc hb7 wc0
                replace wc1 := keepc hb7 wc1
                replace wc2 := keepc hb7 wc2
                replace wc3 := keepc hb7 wc3
                replace BU : Aside (Below w.heap.size w W7) := BU.out.trans (hb7.mono BU.out.size)
                clear hb7
                go_wp2_with fail
                go_ret
                exact ⟨rfl, BU.out⟩
               ·
                subst hf
                by_cases hl0 : L < 0
                ·
                 obtain ⟨rfl, rfl⟩ := HTS.out.lli rfl rfl (by omega)
                 go_wp2_with fail
                 refine (HKN.out _).mono ?_
                 rintro e W7 ⟨rfl, hb7⟩
                 replace bc0 := keepc hb7 bc0
                 replace bc1 := keepc hb7 bc1
                 replace bc2 := keepc hb7 bc2
                 replace bc3 := keepc hb7 bc3
                 replace bc4 := keepc hb7 bc4
                 replace bc5 := keepc hb7 bc5
                 replace wc0 := keepc hb7 wc0
                 replace wc1 := keepc hb7 wc1
                 replace wc2 := keepc hb7 wc2
                 replace wc3 := keepc hb7 wc3
                 replace BU : Aside (Below w.heap.size w W7) := BU.out.trans (hb7.mono BU.out.size)
                 clear hb7
                 go_wp2_with fail
                 go_ret
                 exact ⟨rfl, BU.out⟩
                ·
                 by_cases hl1 : (1000000000 : Int) < L
                 ·
                  obtain ⟨rfl, rfl⟩ := HTS.out.lli rfl rfl (by omega)
                  go_wp2_with fail
                  refine (HKN.out _).mono ?_
                  rintro e W7 ⟨rfl, hb7⟩
                  replace bc0 := keepc hb7 bc0
                  replace bc1 := keepc hb7 bc1
                  replace bc2 := keepc hb7 bc2
                  replace bc3 := keepc hb7 bc3
                  replace bc4 := keepc hb7 bc4
                  replace bc5 := keepc hb7 bc5
                  replace wc0 := keepc hb7 wc0
                  replace wc1 := keepc hb7 wc1
                  replace wc2 := keepc hb7 wc2
                  replace wc3 := keepc hb7 wc3
                  replace BU : Aside (Below w.heap.size w W7) := BU.out.trans (hb7.mono BU.out.size)
                  clear hb7
                  go_wp2_with fail
                  go_ret
                  exact ⟨rfl, BU.out⟩
                 ·
                  obtain ⟨rfl, rfl⟩ := HTS.out.lok rfl rfl (by omega) (by omega)
                  have HSQ2 : Aside _ := HSQ.out (by simp) (by simp)
                  have HRM2 : Aside _ := HRM.out (by simp) (by simp)
                  have HRP2 : Aside _ := HRP.out (by simp) (by simp)
                  have HRW2 : Aside _ := HRW.out (by simp) (by simp)
                  have HN0 : Aside (Sl V28e 1 eI (.slice aw nw cw) (SQ 0)) := by rw [HS0.out]; exact HWS.out.below BU.out
                  go_wp2_with fail
                  go_loopg [18, 19, 20] 501 (fun gg s18 s19 s20 wr => ∃ (p : Nat) (u : Value) (r : Int), p ≤ 501 ∧ 501 - p ≤ gg ∧ s20 = .int .i64 p ∧ u = s18 ∧ s19 = .int .i64 r ∧ Aside (Sl wr 1 eI u (SQ p)) ∧ Aside ((r = -1 ∧ lastF MF L 501 0 = lastF MF L (501 - p) p) ∨ (0 ≤ r ∧ lastF MF L 501 0 = r)) ∧ Aside (Below V28e.heap.size V28e wr))
                  case atStart => exact ⟨0, _, -1, by omega, by omega, rfl, rfl, rfl, HN0.out, .inl ⟨rfl, rfl⟩, Below.refl _ _⟩
                  case round =>
                   obtain ⟨p, u, r, hp, hgg, rfl, rfl, rfl, HU, HF, HBX⟩ := hrel
                   have hbx := HBX.out
                   by_cases hgo : p < 501 ∧ r < 0
                   ·
                    have hp5 : (p : Int) ≤ 500 := by omega
                    have hr0 : r < 0 := hgo.2
                    obtain ⟨rfl, HF1⟩ : r = -1 ∧ lastF MF L 501 0 = lastF MF L (501 - p) p := by
                     rcases HF.out with h | h
                     ·
                      exact h
                     ·
                      omega
                    have HF2 : Aside (lastF MF L 501 0 = if L < MF p then (p : Int) else lastF MF L (501 - (p + 1)) (p + 1)) := by
                     show _ = _
                     rw [HF1, show 501 - p = (501 - (p + 1)) + 1 by omega]; rfl
                    clear HF HF1 hr0 hgo
                    replace bc0 := keepc hbx bc0
                    replace bc1 := keepc hbx bc1
                    replace bc2 := keepc hbx bc2
                    replace bc3 := keepc hbx bc3
                    replace bc4 := keepc hbx bc4
                    replace bc5 := keepc hbx bc5
                    replace wc0 := keepc hbx wc0
                    replace wc1 := keepc hbx wc1
                    replace wc2 := keepc hbx wc2
                    replace wc3 := keepc hbx wc3
                    replace BU : Aside (Below w.heap.size w wr) := BU.out.trans (hbx.mono BU.out.size)
                    clear hbx
                    obtain ⟨k, hk, hbk, hsq⟩ := HSQ2.out p
                    have x32 := HRM2.out p
                    obtain ⟨mp, hmp⟩ : ∃ z, MF p = z := ⟨_, rfl⟩
                    rw [hmp] at x32 HF2
                    clear hmp
                    have HX32 : Aside _ := x32
                    clear x32
                    have HSQ3 : Aside (SQ (p + 1) = aft (SQ p) wkl k) := hsq
                    have HBK : Aside (bestK (SQ p) wkl = (k : Int)) := hbk
                    have HKN1 : Aside ((k : Int) < (nn : Int)) := hk
                    clear hsq hbk hk
                    have HX33 : Aside _ := HRP2.out p
                    rw [HBK.out] at HX33
                    by_cases hgt : L < mp
                    ·
                     as_aux_lemma =>
                      go_upto_region 37 with (fail)
                      refine region_laid (fl := 8) [true, true, true, true, true] 0 (fun (i : Nat) (x : Value) (ww : World) => (match i with | 0 => Sl ww 1 eI x (SQ p) | 1 => x = .int .i64 mp | 2 => x = .pointer (some ⟨w.heap.size + 1, 3, none⟩) | 3 => x = .int .i64 L | 4 => x = .bool true | _ => True : Prop)) (fun w' => Below wr.heap.size wr w') (by kernel_rfl) rfl (by show layable _ 228 _ 8 = true; decide +kernel) rfl ((Below.refl _ _).drew) ?mono37eg ?step37eg ?rest37eg
                      case mono37eg =>
                       intro i x ww ww' hB h
                       match i, h with
                       | 0, h => exact Sl.below h hB
                       | 1, h => exact h
                       | 2, h => exact h
                       | 3, h => exact h
                       | 4, h => exact h
                       | n + 5, h => exact h
                      case step37eg =>
                       intro i o_ listed ac W hA ho hL he
                       have hk2 : ac.tmps.getD 2 undef = .pointer (some ⟨w.heap.size, 0, none⟩) := hL.kept 2 (by decide +kernel)
                       have hk3 : ac.tmps.getD 3 undef = .pointer (some ⟨w.heap.size + 1, 0, none⟩) := hL.kept 3 (by decide +kernel)
                       have hk18 : ac.tmps.getD 18 undef = u := hL.kept 18 (by decide +kernel)
                       have CL : ∀ W', Below W.heap.size W W' → Below wr.heap.size wr W' := fun W' h => hL.cls.trans (h.mono hL.cls.size)
                       have k_wc0 := keepc hL.cls wc0
                       have k_wc1 := keepc hL.cls wc1
                       have k_wc2 := keepc hL.cls wc2
                       have k_wc3 := keepc hL.cls wc3
                       match i, hA, ho with
                       | 0, _, ho =>
                        cases ho
                        refine wpOp_plain rfl rfl ?_
                        unfold Oper.wp
                        go_simp
                        exact ⟨_, rfl, Below.refl _ _, CL _ (Below.refl _ _), HU.out.below hL.cls⟩
                       | 1, _, ho =>
                        cases ho
                        obtain ⟨x0, hx0⟩ : ∃ x, ac.tmps.getD 197 undef = x := ⟨_, rfl⟩
                        have d0 := hL.new 0 _ 197 rfl (he ⟨0, .data⟩ (by simp) rfl) rfl
                        rw [hx0] at d0
                        have x := HX32.out x0 W d0
                        refine wpOp_plain rfl rfl ?_
                        unfold Oper.wp
                        go_simp
                        refine x.mono ?_
                        rintro e w' ⟨rfl, hBn⟩
                        exact ⟨_, rfl, hBn, CL _ hBn, rfl⟩
                       | 2, _, ho =>
                        cases ho
                        refine wpOp_plain rfl rfl ?_
                        unfold Oper.wp
                        go_simp
                        exact ⟨_, rfl, Below.refl _ _, CL _ (Below.refl _ _), rfl⟩
                       | 3, _, ho =>
                        cases ho
                        have d2 : ac.tmps.getD 199 undef = .pointer (some ⟨w.heap.size + 1, 3, none⟩) := hL.new 2 _ 199 rfl (he ⟨2, .data⟩ (by simp) rfl) rfl
                        refine wpOp_plain rfl rfl ?_
                        unfold Oper.wp
                        go_simp
                        exact ⟨_, rfl, Below.refl _ _, CL _ (Below.refl _ _), rfl⟩
                       | 4, _, ho =>
                        cases ho
                        have d1 : ac.tmps.getD 198 undef = .int .i64 mp := hL.new 1 _ 198 rfl (he ⟨1, .data⟩ (by simp) rfl) rfl
                        have d3 : ac.tmps.getD 200 undef = .int .i64 L := hL.new 3 _ 200 rfl (he ⟨3, .data⟩ (by simp) rfl) rfl
                        refine wpOp_plain rfl rfl ?_
                        unfold Oper.wp
                        go_simp
                        exact ⟨_, rfl, Below.refl _ _, CL _ (Below.refl _ _), rfl⟩
                       | n + 5, hA, _ => simp at hA
                      case rest37eg =>
                       intro ac V37eg hL
                       obtain ⟨y197, e197⟩ : ∃ x, ac.tmps.getD 197 undef = x := ⟨_, rfl⟩
                       have e198 : ac.tmps.getD 198 undef = .int .i64 mp := hL.new 1 _ 198 rfl rfl rfl
                       have e199 : ac.tmps.getD 199 undef = .pointer (some ⟨w.heap.size + 1, 3, none⟩) := hL.new 2 _ 199 rfl rfl rfl
                       have e200 : ac.tmps.getD 200 undef = .int .i64 L := hL.new 3 _ 200 rfl rfl rfl
                       have e201 : ac.tmps.getD 201 undef = .bool true := hL.new 4 _ 201 rfl rfl rfl
                       have es := hL.sets [197, 198, 199, 200, 201] (by decide +kernel)
                       rw [List.foldl_cons, List.foldl_cons, List.foldl_cons, List.foldl_cons, List.foldl_cons, List.foldl_nil, e197, e198, e199, e200, e201] at es
                       have BN : Below wr.heap.size wr V37eg := hL.cls
                       rw [es]
                       clear es hL e197 e198 e199 e200 e201
                       refine wpAny_done (by decide +kernel) ?_ _
                       simp only [List.setIfInBounds_toArray, List.set_cons_zero, List.set_cons_succ]
                       have HU1 : Aside (Sl V37eg 1 eI u (SQ p)) := HU.out.below BN
                       have HBX1 : Aside (Below V28e.heap.size V28e V37eg) := HBX.out.trans (BN.mono HBX.out.size)
                       replace bc0 := keepc BN bc0
                       replace bc1 := keepc BN bc1
                       replace bc2 := keepc BN bc2
                       replace bc3 := keepc BN bc3
                       replace bc4 := keepc BN bc4
                       replace bc5 := keepc BN bc5
                       replace wc0 := keepc BN wc0
                       replace wc1 := keepc BN wc1
                       replace wc2 := keepc BN wc2
                       replace wc3 := keepc BN wc3
                       replace BU : Aside (Below w.heap.size w V37eg) := BU.out.trans (BN.mono BU.out.size)
                       clear BN
                       go_wp2_with fail
                       refine (HWE.out _ BU.out).mono ?_
                       rintro e W7 ⟨rfl, hb7⟩
                       replace HBX1 : Aside (Below V28e.heap.size V28e W7) := HBX1.out.trans (hb7.mono HBX1.out.size)
                       replace bc0 := keepc hb7 bc0
                       replace bc1 := keepc hb7 bc1
                       replace bc2 := keepc hb7 bc2
                       replace bc3 := keepc hb7 bc3
                       replace bc4 := keepc hb7 bc4
                       replace bc5 := keepc hb7 bc5
                       replace wc0 := keepc hb7 wc0
                       replace wc1 := keepc hb7 wc1
                       replace wc2 := keepc hb7 wc2
                       replace wc3 := keepc hb7 wc3
                       replace BU : Aside (Below w.heap.size w W7) := BU.out.trans (hb7.mono BU.out.size)
                       replace HU1 : Aside (Sl W7 1 eI u (SQ p)) := HU1.out.below hb7
                       clear hb7
                       go_wp2_with fail
                       have ba : Below W7.heap.size W7 (W7.alloc (.cells #[.slice ak nk ck_] 24)) := (Below.refl _ _).alloc (Nat.le_refl _) _
                       refine (HX33.out _ _ _ hp (BU.out.trans (ba.mono BU.out.size)) (HU1.out.below ba) (sl_week _ _ rfl _ _ _)).mono ?_
                       rintro e W8 ⟨vp, mq, rfl, ho, hb_⟩
                       have hbb : Below W7.heap.size W7 W8 := ba.trans (hb_.mono ba.size)
                       replace HBX1 : Aside (Below V28e.heap.size V28e W8) := HBX1.out.trans (hbb.mono HBX1.out.size)
                       replace bc0 := keepc hbb bc0
                       replace bc1 := keepc hbb bc1
                       replace bc2 := keepc hbb bc2
                       replace bc3 := keepc hbb bc3
                       replace bc4 := keepc hbb bc4
                       replace bc5 := keepc hbb bc5
                       replace wc0 := keepc hbb wc0
                       replace wc1 := keepc hbb wc1
                       replace wc2 := keepc hbb wc2
                       replace wc3 := keepc hbb wc3
                       replace BU : Aside (Below w.heap.size w W8) := BU.out.trans (hbb.mono BU.out.size)
                       replace HU1 : Aside (Sl W8 1 eI u (SQ p)) := HU1.out.below hbb
                       clear hbb ba hb_
                       obtain ⟨bp, fp, cp, rfl, hcp⟩ := ho
                       go_upto_region 40 with (fail)
                       refine region_laidC (fl := 8) [true, true, true, true, true, true, true, true] 0 (fun (i : Nat) (x : Value) (ww : World) => (match i with | 0 => Sl ww 1 eI x (SQ p) | 1 => x = .agg #[.slice aw nw cw, .slice as_ j cs, .int .i64 K, .int .i64 L] | 2 => x = .slice ak nk ck_ | 3 => x = .slice (some ⟨bp, fp, none⟩) 1 cp | 4 => x = .pointer (some ⟨bp, fp, none⟩) | 5 => x = .int .i64 (k : Int) | 6 => Sl ww 1 eI x (SQ (p + 1)) | 7 => Sl ww 1 eI x (SQ (p + 1)) | _ => True : Prop)) (fun w' => Below W8.heap.size W8 w') (by kernel_rfl) rfl (by show layableC _ 228 _ 8 = true; decide +kernel) rfl ((Below.refl _ _).drew) ?mono40eg ?step40eg ?rest40eg
                       case mono40eg =>
                        intro i x ww ww' hB h
                        match i, h with
                        | 0, h => exact Sl.below h hB
                        | 1, h => exact h
                        | 2, h => exact h
                        | 3, h => exact h
                        | 4, h => exact h
                        | 5, h => exact h
                        | 6, h => exact Sl.below h hB
                        | 7, h => exact Sl.below h hB
                        | n + 8, h => exact h
                       case step40eg =>
                        intro i o_ listed ac W hA ho hL he hcl hli hsz
                        have hk2 : ac.tmps.getD 2 undef = .pointer (some ⟨w.heap.size, 0, none⟩) := hL.kept 2 (by decide +kernel)
                        have hk3 : ac.tmps.getD 3 undef = .pointer (some ⟨w.heap.size + 1, 0, none⟩) := hL.kept 3 (by decide +kernel)
                        have hk21 : ac.tmps.getD 21 undef = .slice (some ⟨bp, fp, none⟩) 1 cp := hL.kept 21 (by decide +kernel)
                        have CL : ∀ W', Below W.heap.size W W' → Below W8.heap.size W8 W' := fun W' h => hL.cls.trans (h.mono hL.cls.size)
                        have k_wc0 := keepc hL.cls wc0
                        have k_wc1 := keepc hL.cls wc1
                        have k_wc2 := keepc hL.cls wc2
                        have k_wc3 := keepc hL.cls wc3
                        have k_hcp := keepc hL.cls hcp
                        match i, hA, ho with
                        | 0, _, ho =>
                         cases ho
                         have hk18 : ac.tmps.getD 18 undef = u := hL.kept3 hcl hsz 18 0 7 12 hli (by decide +kernel) (by decide +kernel)
                         refine wpOp_plain rfl rfl ?_
                         unfold Oper.wp
                         go_simp
                         exact ⟨_, rfl, Below.refl _ _, CL _ (Below.refl _ _), HU1.out.below hL.cls⟩
                        | 1, _, ho =>
                         cases ho
                         refine wpOp_plain rfl rfl ?_
                         unfold Oper.wp
                         go_simp
                         exact ⟨_, rfl, Below.refl _ _, CL _ (Below.refl _ _), rfl⟩
                        | 2, _, ho =>
                         cases ho
                         have d1 : ac.tmps.getD 212 undef = .agg #[.slice aw nw cw, .slice as_ j cs, .int .i64 K, .int .i64 L] := hL.new 1 _ 212 rfl (he ⟨1, .data⟩ (by simp) rfl) rfl
                         have x := HWE.out W (BU.out.trans (hL.cls.mono BU.out.size))
                         refine wpOp_plain rfl rfl ?_
                         unfold Oper.wp
                         go_simp
                         refine x.mono ?_
                         rintro e w' ⟨rfl, hBn⟩
                         exact ⟨_, rfl, hBn, CL _ hBn, rfl⟩
                        | 3, _, ho =>
                         cases ho
                         refine wpOp_plain rfl rfl ?_
                         unfold Oper.wp
                         go_simp
                         exact ⟨_, rfl, Below.refl _ _, CL _ (Below.refl _ _), rfl⟩
                        | 4, _, ho =>
                         cases ho
                         have d3 : ac.tmps.getD 214 undef = .slice (some ⟨bp, fp, none⟩) 1 cp := hL.new 3 _ 214 rfl (he ⟨3, .data⟩ (by simp) rfl) rfl
                         refine wpOp_plain rfl rfl ?_
                         unfold Oper.wp
                         go_simp
                         exact ⟨_, rfl, Below.refl _ _, CL _ (Below.refl _ _), rfl⟩
                        | 5, _, ho =>
                         cases ho
                         have d4 : ac.tmps.getD 215 undef = .pointer (some ⟨bp, fp, none⟩) := hL.new 4 _ 215 rfl (he ⟨4, .data⟩ (by simp) rfl) rfl
                         refine wpOp_plain rfl rfl ?_
                         unfold Oper.wp
                         go_simp
                         exact ⟨_, rfl, Below.refl _ _, CL _ (Below.refl _ _), rfl⟩
                        | 6, _, ho =>
                         cases ho
                         obtain ⟨x0, hx0⟩ : ∃ x, ac.tmps.getD 211 undef = x := ⟨_, rfl⟩
                         have d0 := hL.new 0 _ 211 rfl (he ⟨0, .data⟩ (by simp) rfl) rfl
                         rw [hx0] at d0
                         have d2 : ac.tmps.getD 213 undef = .slice ak nk ck_ := hL.new 2 _ 213 rfl (he ⟨2, .data⟩ (by simp) rfl) rfl
                         have d5 : ac.tmps.getD 216 undef = .int .i64 (k : Int) := hL.new 5 _ 216 rfl (he ⟨5, .data⟩ (by simp) rfl) rfl
                         have x := HRW2.out p k x0 W hp HKN1.out (BU.out.trans (hL.cls.mono BU.out.size)) d0
                         rw [← HSQ3.out] at x
                         refine wpOp_plain rfl rfl ?_
                         unfold Oper.wp
                         go_simp
                         refine x.mono ?_
                         rintro e w' ⟨v', rfl, hs, hBn⟩
                         exact ⟨_, rfl, hBn, CL _ hBn, hs⟩
                        | 7, _, ho =>
                         cases ho
                         obtain ⟨x6, hx6⟩ : ∃ x, ac.tmps.getD 217 undef = x := ⟨_, rfl⟩
                         have d6 := hL.new 6 _ 217 rfl (he ⟨6, .data⟩ (by simp) rfl) rfl
                         rw [hx6] at d6
                         refine wpOp_plain rfl rfl ?_
                         unfold Oper.wp
                         go_simp
                         exact ⟨_, rfl, Below.refl _ _, CL _ (Below.refl _ _), d6⟩
                        | n + 8, hA, _ => simp at hA
                       case rest40eg =>
                        intro ac V40eg hL
                        obtain ⟨y211, e211⟩ : ∃ x, ac.tmps.getD 211 undef = x := ⟨_, rfl⟩
                        have e212 : ac.tmps.getD 212 undef = .agg #[.slice aw nw cw, .slice as_ j cs, .int .i64 K, .int .i64 L] := hL.new 1 _ 212 rfl rfl rfl
                        have e213 : ac.tmps.getD 213 undef = .slice ak nk ck_ := hL.new 2 _ 213 rfl rfl rfl
                        have e214 : ac.tmps.getD 214 undef = .slice (some ⟨bp, fp, none⟩) 1 cp := hL.new 3 _ 214 rfl rfl rfl
                        have e215 : ac.tmps.getD 215 undef = .pointer (some ⟨bp, fp, none⟩) := hL.new 4 _ 215 rfl rfl rfl
                        have e216 : ac.tmps.getD 216 undef = .int .i64 (k : Int) := hL.new 5 _ 216 rfl rfl rfl
                        obtain ⟨y217, e217⟩ : ∃ x, ac.tmps.getD 217 undef = x := ⟨_, rfl⟩
                        have hn18 := hL.new 7 _ 18 rfl rfl rfl
                        obtain ⟨vnx, e18⟩ : ∃ x, ac.tmps.getD 18 undef = x := ⟨_, rfl⟩
                        rw [e18] at hn18
                        have Hvnx : Aside (Sl V40eg 1 eI vnx (SQ (p + 1))) := hn18
                        clear hn18
                        have es := hL.sets [211, 212, 213, 214, 215, 216, 217, 18] (by decide +kernel)
                        rw [List.foldl_cons, List.foldl_cons, List.foldl_cons, List.foldl_cons, List.foldl_cons, List.foldl_cons, List.foldl_cons, List.foldl_cons, List.foldl_nil, e211, e212, e213, e214, e215, e216, e217, e18] at es
                        have BN : Below W8.heap.size W8 V40eg := hL.cls
                        rw [es]
                        clear es hL e211 e212 e213 e214 e215 e216 e217 e18
                        refine wpAny_done (by decide +kernel) ?_ _
                        simp only [List.setIfInBounds_toArray, List.set_cons_zero, List.set_cons_succ]
                        go_wp2_with fail
                        go_roundg (501 - (p + 1))
                        case measure => omega
                        case rel => exact ⟨p + 1, _, (p : Int), by omega, by omega, by go_num, rfl, rfl, Hvnx.out, .inr ⟨by omega, by rw [HF2.out, if_pos hgt]⟩, HBX1.out.trans (BN.mono HBX1.out.size)⟩
                    ·
                     as_aux_lemma =>
                      go_upto_region 37 with (fail)
                      refine region_laid (fl := 8) [true, true, true, true, true] 0 (fun (i : Nat) (x : Value) (ww : World) => (match i with | 0 => Sl ww 1 eI x (SQ p) | 1 => x = .int .i64 mp | 2 => x = .pointer (some ⟨w.heap.size + 1, 3, none⟩) | 3 => x = .int .i64 L | 4 => x = .bool false | _ => True : Prop)) (fun w' => Below wr.heap.size wr w') (by kernel_rfl) rfl (by show layable _ 228 _ 8 = true; decide +kernel) rfl ((Below.refl _ _).drew) ?mono37en ?step37en ?rest37en
                      case mono37en =>
                       intro i x ww ww' hB h
                       match i, h with
                       | 0, h => exact Sl.below h hB
                       | 1, h => exact h
                       | 2, h => exact h
                       | 3, h => exact h
                       | 4, h => exact h
                       | n + 5, h => exact h
                      case step37en =>
                       intro i o_ listed ac W hA ho hL he
                       have hk2 : ac.tmps.getD 2 undef = .pointer (some ⟨w.heap.size, 0, none⟩) := hL.kept 2 (by decide +kernel)
                       have hk3 : ac.tmps.getD 3 undef = .pointer (some ⟨w.heap.size + 1, 0, none⟩) := hL.kept 3 (by decide +kernel)
                       have hk18 : ac.tmps.getD 18 undef = u := hL.kept 18 (by decide +kernel)
                       have CL : ∀ W', Below W.heap.size W W' → Below wr.heap.size wr W' := fun W' h => hL.cls.trans (h.mono hL.cls.size)
                       have k_wc0 := keepc hL.cls wc0
                       have k_wc1 := keepc hL.cls wc1
                       have k_wc2 := keepc hL.cls wc2
                       have k_wc3 := keepc hL.cls wc3
                       match i, hA, ho with
                       | 0, _, ho =>
                        cases ho
                        refine wpOp_plain rfl rfl ?_
                        unfold Oper.wp
                        go_simp
                        exact ⟨_, rfl, Below.refl _ _, CL _ (Below.refl _ _), HU.out.below hL.cls⟩
                       | 1, _, ho =>
                        cases ho
                        obtain ⟨x0, hx0⟩ : ∃ x, ac.tmps.getD 197 undef = x := ⟨_, rfl⟩
                        have d0 := hL.new 0 _ 197 rfl (he ⟨0, .data⟩ (by simp) rfl) rfl
                        rw [hx0] at d0
                        have x := HX32.out x0 W d0
                        refine wpOp_plain rfl rfl ?_
                        unfold Oper.wp
                        go_simp
                        refine x.mono ?_
                        rintro e w' ⟨rfl, hBn⟩
                        exact ⟨_, rfl, hBn, CL _ hBn, rfl⟩
                       | 2, _, ho =>
                        cases ho
                        refine wpOp_plain rfl rfl ?_
                        unfold Oper.wp
                        go_simp
                        exact ⟨_, rfl, Below.refl _ _, CL _ (Below.refl _ _), rfl⟩
                       | 3, _, ho =>
                        cases ho
                        have d2 : ac.tmps.getD 199 undef = .pointer (some ⟨w.heap.size + 1, 3, none⟩) := hL.new 2 _ 199 rfl (he ⟨2, .data⟩ (by simp) rfl) rfl
                        refine wpOp_plain rfl rfl ?_
                        unfold Oper.wp
                        go_simp
                        exact ⟨_, rfl, Below.refl _ _, CL _ (Below.refl _ _), rfl⟩
                       | 4, _, ho =>
                        cases ho
                        have d1 : ac.tmps.getD 198 undef = .int .i64 mp := hL.new 1 _ 198 rfl (he ⟨1, .data⟩ (by simp) rfl) rfl
                        have d3 : ac.tmps.getD 200 undef = .int .i64 L := hL.new 3 _ 200 rfl (he ⟨3, .data⟩ (by simp) rfl) rfl
                        refine wpOp_plain rfl rfl ?_
                        unfold Oper.wp
                        go_simp
                        exact ⟨_, rfl, Below.refl _ _, CL _ (Below.refl _ _), rfl⟩
                       | n + 5, hA, _ => simp at hA
                      case rest37en =>
                       intro ac V37en hL
                       obtain ⟨y197, e197⟩ : ∃ x, ac.tmps.getD 197 undef = x := ⟨_, rfl⟩
                       have e198 : ac.tmps.getD 198 undef = .int .i64 mp := hL.new 1 _ 198 rfl rfl rfl
                       have e199 : ac.tmps.getD 199 undef = .pointer (some ⟨w.heap.size + 1, 3, none⟩) := hL.new 2 _ 199 rfl rfl rfl
                       have e200 : ac.tmps.getD 200 undef = .int .i64 L := hL.new 3 _ 200 rfl rfl rfl
                       have e201 : ac.tmps.getD 201 undef = .bool false := hL.new 4 _ 201 rfl rfl rfl
                       have es := hL.sets [197, 198, 199, 200, 201] (by decide +kernel)
                       rw [List.foldl_cons, List.foldl_cons, List.foldl_cons, List.foldl_cons, List.foldl_cons, List.foldl_nil, e197, e198, e199, e200, e201] at es
                       have BN : Below wr.heap.size wr V37en := hL.cls
                       rw [es]
                       clear es hL e197 e198 e199 e200 e201
                       refine wpAny_done (by decide +kernel) ?_ _
                       simp only [List.setIfInBounds_toArray, List.set_cons_zero, List.set_cons_succ]
                       have HU1 : Aside (Sl V37en 1 eI u (SQ p)) := HU.out.below BN
                       have HBX1 : Aside (Below V28e.heap.size V28e V37en) := HBX.out.trans (BN.mono HBX.out.size)
                       replace bc0 := keepc BN bc0
                       replace bc1 := keepc BN bc1
                       replace bc2 := keepc BN bc2
                       replace bc3 := keepc BN bc3
                       replace bc4 := keepc BN bc4
                       replace bc5 := keepc BN bc5
                       replace wc0 := keepc BN wc0
                       replace wc1 := keepc BN wc1
                       replace wc2 := keepc BN wc2
                       replace wc3 := keepc BN wc3
                       replace BU : Aside (Below w.heap.size w V37en) := BU.out.trans (BN.mono BU.out.size)
                       clear BN
                       go_wp2_with fail
                       refine (HWE.out _ BU.out).mono ?_
                       rintro e W7 ⟨rfl, hb7⟩
                       replace HBX1 : Aside (Below V28e.heap.size V28e W7) := HBX1.out.trans (hb7.mono HBX1.out.size)
                       replace bc0 := keepc hb7 bc0
                       replace bc1 := keepc hb7 bc1
                       replace bc2 := keepc hb7 bc2
                       replace bc3 := keepc hb7 bc3
                       replace bc4 := keepc hb7 bc4
                       replace bc5 := keepc hb7 bc5
                       replace wc0 := keepc hb7 wc0
                       replace wc1 := keepc hb7 wc1
                       replace wc2 := keepc hb7 wc2
                       replace wc3 := keepc hb7 wc3
                       replace BU : Aside (Below w.heap.size w W7) := BU.out.trans (hb7.mono BU.out.size)
                       replace HU1 : Aside (Sl W7 1 eI u (SQ p)) := HU1.out.below hb7
                       clear hb7
                       go_wp2_with fail
                       have ba : Below W7.heap.size W7 (W7.alloc (.cells #[.slice ak nk ck_] 24)) := (Below.refl _ _).alloc (Nat.le_refl _) _
                       refine (HX33.out _ _ _ hp (BU.out.trans (ba.mono BU.out.size)) (HU1.out.below ba) (sl_week _ _ rfl _ _ _)).mono ?_
                       rintro e W8 ⟨vp, mq, rfl, ho, hb_⟩
                       have hbb : Below W7.heap.size W7 W8 := ba.trans (hb_.mono ba.size)
                       replace HBX1 : Aside (Below V28e.heap.size V28e W8) := HBX1.out.trans (hbb.mono HBX1.out.size)
                       replace bc0 := keepc hbb bc0
                       replace bc1 := keepc hbb bc1
                       replace bc2 := keepc hbb bc2
                       replace bc3 := keepc hbb bc3
                       replace bc4 := keepc hbb bc4
                       replace bc5 := keepc hbb bc5
                       replace wc0 := keepc hbb wc0
                       replace wc1 := keepc hbb wc1
                       replace wc2 := keepc hbb wc2
                       replace wc3 := keepc hbb wc3
                       replace BU : Aside (Below w.heap.size w W8) := BU.out.trans (hbb.mono BU.out.size)
                       replace HU1 : Aside (Sl W8 1 eI u (SQ p)) := HU1.out.below hbb
                       clear hbb ba hb_
                       obtain ⟨bp, fp, cp, rfl, hcp⟩ := ho
                       go_upto_region 40 with (fail)
                       refine region_laidC (fl := 8) [true, true, true, true, true, true, true, true] 0 (fun (i : Nat) (x : Value) (ww : World) => (match i with | 0 => Sl ww 1 eI x (SQ p) | 1 => x = .agg #[.slice aw nw cw, .slice as_ j cs, .int .i64 K, .int .i64 L] | 2 => x = .slice ak nk ck_ | 3 => x = .slice (some ⟨bp, fp, none⟩) 1 cp | 4 => x = .pointer (some ⟨bp, fp, none⟩) | 5 => x = .int .i64 (k : Int) | 6 => Sl ww 1 eI x (SQ (p + 1)) | 7 => Sl ww 1 eI x (SQ (p + 1)) | _ => True : Prop)) (fun w' => Below W8.heap.size W8 w') (by kernel_rfl) rfl (by show layableC _ 228 _ 8 = true; decide +kernel) rfl ((Below.refl _ _).drew) ?mono40en ?step40en ?rest40en
                       case mono40en =>
                        intro i x ww ww' hB h
                        match i, h with
                        | 0, h => exact Sl.below h hB
                        | 1, h => exact h
                        | 2, h => exact h
                        | 3, h => exact h
                        | 4, h => exact h
                        | 5, h => exact h
                        | 6, h => exact Sl.below h hB
                        | 7, h => exact Sl.below h hB
                        | n + 8, h => exact h
                       case step40en =>
                        intro i o_ listed ac W hA ho hL he hcl hli hsz
                        have hk2 : ac.tmps.getD 2 undef = .pointer (some ⟨w.heap.size, 0, none⟩) := hL.kept 2 (by decide +kernel)
                        have hk3 : ac.tmps.getD 3 undef = .pointer (some ⟨w.heap.size + 1, 0, none⟩) := hL.kept 3 (by decide +kernel)
                        have hk21 : ac.tmps.getD 21 undef = .slice (some ⟨bp, fp, none⟩) 1 cp := hL.kept 21 (by decide +kernel)
                        have CL : ∀ W', Below W.heap.size W W' → Below W8.heap.size W8 W' := fun W' h => hL.cls.trans (h.mono hL.cls.size)
                        have k_wc0 := keepc hL.cls wc0
                        have k_wc1 := keepc hL.cls wc1
                        have k_wc2 := keepc hL.cls wc2
                        have k_wc3 := keepc hL.cls wc3
                        have k_hcp := keepc hL.cls hcp
                        match i, hA, ho with
                        | 0, _, ho =>
                         cases ho
                         have hk18 : ac.tmps.getD 18 undef = u := hL.kept3 hcl hsz 18 0 7 12 hli (by decide +kernel) (by decide +kernel)
                         refine wpOp_plain rfl rfl ?_
                         unfold Oper.wp
                         go_simp
                         exact ⟨_, rfl, Below.refl _ _, CL _ (Below.refl _ _), HU1.out.below hL.cls⟩
                        | 1, _, ho =>
                         cases ho
                         refine wpOp_plain rfl rfl ?_
                         unfold Oper.wp
                         go_simp
                         exact ⟨_, rfl, Below.refl _ _, CL _ (Below.refl _ _), rfl⟩
                        | 2, _, ho =>
                         cases ho
                         have d1 : ac.tmps.getD 212 undef = .agg #[.slice aw nw cw, .slice as_ j cs, .int .i64 K, .int .i64 L] := hL.new 1 _ 212 rfl (he ⟨1, .data⟩ (by simp) rfl) rfl
                         have x := HWE.out W (BU.out.trans (hL.cls.mono BU.out.size))
                         refine wpOp_plain rfl rfl ?_
                         unfold Oper.wp
                         go_simp
                         refine x.mono ?_
                         rintro e w' ⟨rfl, hBn⟩
                         exact ⟨_, rfl, hBn, CL _ hBn, rfl⟩
                        | 3, _, ho =>
                         cases ho
                         refine wpOp_plain rfl rfl ?_
                         unfold Oper.wp
                         go_simp
                         exact ⟨_, rfl, Below.refl _ _, CL _ (Below.refl _ _), rfl⟩
                        | 4, _, ho =>
                         cases ho
                         have d3 : ac.tmps.getD 214 undef = .slice (some ⟨bp, fp, none⟩) 1 cp := hL.new 3 _ 214 rfl (he ⟨3, .data⟩ (by simp) rfl) rfl
                         refine wpOp_plain rfl rfl ?_
                         unfold Oper.wp
                         go_simp
                         exact ⟨_, rfl, Below.refl _ _, CL _ (Below.refl _ _), rfl⟩
                        | 5, _, ho =>
                         cases ho
                         have d4 : ac.tmps.getD 215 undef = .pointer (some ⟨bp, fp, none⟩) := hL.new 4 _ 215 rfl (he ⟨4, .data⟩ (by simp) rfl) rfl
                         refine wpOp_plain rfl rfl ?_
                         unfold Oper.wp
                         go_simp
                         exact ⟨_, rfl, Below.refl _ _, CL _ (Below.refl _ _), rfl⟩
                        | 6, _, ho =>
                         cases ho
                         obtain ⟨x0, hx0⟩ : ∃ x, ac.tmps.getD 211 undef = x := ⟨_, rfl⟩
                         have d0 := hL.new 0 _ 211 rfl (he ⟨0, .data⟩ (by simp) rfl) rfl
                         rw [hx0] at d0
                         have d2 : ac.tmps.getD 213 undef = .slice ak nk ck_ := hL.new 2 _ 213 rfl (he ⟨2, .data⟩ (by simp) rfl) rfl
                         have d5 : ac.tmps.getD 216 undef = .int .i64 (k : Int) := hL.new 5 _ 216 rfl (he ⟨5, .data⟩ (by simp) rfl) rfl
                         have x := HRW2.out p k x0 W hp HKN1.out (BU.out.trans (hL.cls.mono BU.out.size)) d0
                         rw [← HSQ3.out] at x
                         refine wpOp_plain rfl rfl ?_
                         unfold Oper.wp
                         go_simp
                         refine x.mono ?_
                         rintro e w' ⟨v', rfl, hs, hBn⟩
                         exact ⟨_, rfl, hBn, CL _ hBn, hs⟩
                        | 7, _, ho =>
                         cases ho
                         obtain ⟨x6, hx6⟩ : ∃ x, ac.tmps.getD 217 undef = x := ⟨_, rfl⟩
                         have d6 := hL.new 6 _ 217 rfl (he ⟨6, .data⟩ (by simp) rfl) rfl
                         rw [hx6] at d6
                         refine wpOp_plain rfl rfl ?_
                         unfold Oper.wp
                         go_simp
                         exact ⟨_, rfl, Below.refl _ _, CL _ (Below.refl _ _), d6⟩
                        | n + 8, hA, _ => simp at hA
                       case rest40en =>
                        intro ac V40en hL
                        obtain ⟨y211, e211⟩ : ∃ x, ac.tmps.getD 211 undef = x := ⟨_, rfl⟩
                        have e212 : ac.tmps.getD 212 undef = .agg #[.slice aw nw cw, .slice as_ j cs, .int .i64 K, .int .i64 L] := hL.new 1 _ 212 rfl rfl rfl
                        have e213 : ac.tmps.getD 213 undef = .slice ak nk ck_ := hL.new 2 _ 213 rfl rfl rfl
                        have e214 : ac.tmps.getD 214 undef = .slice (some ⟨bp, fp, none⟩) 1 cp := hL.new 3 _ 214 rfl rfl rfl
                        have e215 : ac.tmps.getD 215 undef = .pointer (some ⟨bp, fp, none⟩) := hL.new 4 _ 215 rfl rfl rfl
                        have e216 : ac.tmps.getD 216 undef = .int .i64 (k : Int) := hL.new 5 _ 216 rfl rfl rfl
                        obtain ⟨y217, e217⟩ : ∃ x, ac.tmps.getD 217 undef = x := ⟨_, rfl⟩
                        have hn18 := hL.new 7 _ 18 rfl rfl rfl
                        obtain ⟨vnx, e18⟩ : ∃ x, ac.tmps.getD 18 undef = x := ⟨_, rfl⟩
                        rw [e18] at hn18
                        have Hvnx : Aside (Sl V40en 1 eI vnx (SQ (p + 1))) := hn18
                        clear hn18
                        have es := hL.sets [211, 212, 213, 214, 215, 216, 217, 18] (by decide +kernel)
                        rw [List.foldl_cons, List.foldl_cons, List.foldl_cons, List.foldl_cons, List.foldl_cons, List.foldl_cons, List.foldl_cons, List.foldl_cons, List.foldl_nil, e211, e212, e213, e214, e215, e216, e217, e18] at es
                        have BN : Below W8.heap.size W8 V40en := hL.cls
                        rw [es]
                        clear es hL e211 e212 e213 e214 e215 e216 e217 e18
                        refine wpAny_done (by decide +kernel) ?_ _
                        simp only [List.setIfInBounds_toArray, List.set_cons_zero, List.set_cons_succ]
                        go_wp2_with fail
                        go_roundg (501 - (p + 1))
                        case measure => omega
                        case rel => exact ⟨p + 1, _, -1, by omega, by omega, by go_num, rfl, rfl, Hvnx.out, .inl ⟨rfl, by rw [HF2.out, if_neg (show ¬ L < mp by omega)]⟩, HBX1.out.trans (BN.mono HBX1.out.size)⟩
                   ·
                    have hre : r = lv := by
                     rw [HLV.out]
                     rcases HF.out with ⟨h1, h2⟩ | ⟨h1, h2⟩
                     ·
                      have : p = 501 := by omega
                      subst this
                      rw [h2, h1]; rfl
                     ·
                      exact h2.symm
                    have hr1 : (p : Int) ≤ 500 → ¬ r < 0 := by intro h; omega
                    subst hre
                    clear HF
                    replace bc0 := keepc hbx bc0
                    replace bc1 := keepc hbx bc1
                    replace bc2 := keepc hbx bc2
                    replace bc3 := keepc hbx bc3
                    replace bc4 := keepc hbx bc4
                    replace bc5 := keepc hbx bc5
                    replace wc0 := keepc hbx wc0
                    replace wc1 := keepc hbx wc1
                    replace wc2 := keepc hbx wc2
                    replace wc3 := keepc hbx wc3
                    replace BU : Aside (Below w.heap.size w wr) := BU.out.trans (hbx.mono BU.out.size)
                    clear hbx HBX HU
                    by_cases hp5 : (p : Int) ≤ 500
                    ·
                     have hr2 := hr1 hp5
                     go_wp2_with fail
                     refine (HKN.out _).mono ?_
                     rintro e W7 ⟨rfl, hb7⟩
                     replace bc0 := keepc hb7 bc0
                     replace bc1 := keepc hb7 bc1
                     replace bc2 := keepc hb7 bc2
                     replace bc3 := keepc hb7 bc3
                     replace bc4 := keepc hb7 bc4
                     replace bc5 := keepc hb7 bc5
                     replace wc0 := keepc hb7 wc0
                     replace wc1 := keepc hb7 wc1
                     replace wc2 := keepc hb7 wc2
                     replace wc3 := keepc hb7 wc3
                     replace BU : Aside (Below w.heap.size w W7) := BU.out.trans (hb7.mono BU.out.size)
                     clear hb7
                     go_wp2_with fail
                     go_ret
                     exact ⟨rfl, BU.out⟩
                    ·
                     skip
                     go_wp2_with fail
                     refine (HKN.out _).mono ?_
                     rintro e W7 ⟨rfl, hb7⟩
                     replace bc0 := keepc hb7 bc0
                     replace bc1 := keepc hb7 bc1
                     replace bc2 := keepc hb7 bc2
                     replace bc3 := keepc hb7 bc3
                     replace bc4 := keepc hb7 bc4
                     replace bc5 := keepc hb7 bc5
                     replace wc0 := keepc hb7 wc0
                     replace wc1 := keepc hb7 wc1
                     replace wc2 := keepc hb7 wc2
                     replace wc3 := keepc hb7 wc3
                     replace BU : Aside (Below w.heap.size w W7) := BU.out.trans (hb7.mono BU.out.size)
                     clear hb7
                     go_wp2_with fail
                     go_ret
                     exact ⟨rfl, BU.out⟩
            ·
             obtain ⟨rfl, rfl, rfl⟩ := HTS.out.pgt rfl h3' rfl hpm
             obtain rfl : na = 0 := HNA.out
             have hpm2 : 1000000000 < pm := by omega
             clear HSP
             as_aux_lemma =>
              go_upto_region 28 with (fail)
              refine region_laid (fl := 8) [true, true, true, true, true, true, true, true] 0 (fun (i : Nat) (x : Value) (ww : World) => (match i with | 0 => x = .int .i64 nn | 1 => x = .pointer (some ⟨w.heap.size + 1, 0, none⟩) | 2 => x = .slice aw nw cw | 3 => x = .agg #[.slice aw nw cw, .slice as_ j cs, .int .i64 K, .int .i64 L] | 4 => x = .slice ak nk ck_ | 5 => Sl ww 1 eR x [((.slice ak nk ck_ : Value), wkl)] | 6 => x = .int .i64 fB | 7 => x = .int .i64 fB | _ => True : Prop)) (fun w' => Below W5.heap.size W5 w') (by kernel_rfl) rfl (by show layable _ 228 _ 8 = true; decide +kernel) rfl ((Below.refl _ _).drew) ?mono28d ?step28d ?rest28d
              case mono28d =>
               intro i x ww ww' hB h
               match i, h with
               | 0, h => exact h
               | 1, h => exact h
               | 2, h => exact h
               | 3, h => exact h
               | 4, h => exact h
               | 5, h => exact Sl.below h hB
               | 6, h => exact h
               | 7, h => exact h
               | n + 8, h => exact h
              case step28d =>
               intro i o_ listed ac W hA ho hL he
               have hk2 : ac.tmps.getD 2 undef = .pointer (some ⟨w.heap.size, 0, none⟩) := hL.kept 2 (by decide +kernel)
               have hk3 : ac.tmps.getD 3 undef = .pointer (some ⟨w.heap.size + 1, 0, none⟩) := hL.kept 3 (by decide +kernel)
               have hk14 : ac.tmps.getD 14 undef = .int .i64 nn := hL.kept 14 (by decide +kernel)
               have CL : ∀ W', Below W.heap.size W W' → Below W5.heap.size W5 W' := fun W' h => hL.cls.trans (h.mono hL.cls.size)
               have k_wc0 := keepc hL.cls wc0
               have k_wc1 := keepc hL.cls wc1
               have k_wc2 := keepc hL.cls wc2
               have k_wc3 := keepc hL.cls wc3
               match i, hA, ho with
               | 0, _, ho =>
                cases ho
                refine wpOp_plain rfl rfl ?_
                unfold Oper.wp
                go_simp
                exact ⟨_, rfl, Below.refl _ _, CL _ (Below.refl _ _), rfl⟩
               | 1, _, ho =>
                cases ho
                refine wpOp_plain rfl rfl ?_
                unfold Oper.wp
                go_simp
                exact ⟨_, rfl, Below.refl _ _, CL _ (Below.refl _ _), rfl⟩
               | 2, _, ho =>
                cases ho
                have d1 : ac.tmps.getD 157 undef = .pointer (some ⟨w.heap.size + 1, 0, none⟩) := hL.new 1 _ 157 rfl (he ⟨1, .data⟩ (by simp) rfl) rfl
                refine wpOp_plain rfl rfl ?_
                unfold Oper.wp
                go_simp
                exact ⟨_, rfl, Below.refl _ _, CL _ (Below.refl _ _), rfl⟩
               | 3, _, ho =>
                cases ho
                refine wpOp_plain rfl rfl ?_
                unfold Oper.wp
                go_simp
                exact ⟨_, rfl, Below.refl _ _, CL _ (Below.refl _ _), rfl⟩
               | 4, _, ho =>
                cases ho
                have d3 : ac.tmps.getD 159 undef = .agg #[.slice aw nw cw, .slice as_ j cs, .int .i64 K, .int .i64 L] := hL.new 3 _ 159 rfl (he ⟨3, .data⟩ (by simp) rfl) rfl
                have x := HWE.out W (BU.out.trans (hL.cls.mono BU.out.size))
                refine wpOp_plain rfl rfl ?_
                unfold Oper.wp
                go_simp
                refine x.mono ?_
                rintro e w' ⟨rfl, hBn⟩
                exact ⟨_, rfl, hBn, CL _ hBn, rfl⟩
               | 5, _, ho =>
                cases ho
                have d4 : ac.tmps.getD 160 undef = .slice ak nk ck_ := hL.new 4 _ 160 rfl (he ⟨4, .data⟩ (by simp) rfl) rfl
                have dq : ac.tmps[160]?.getD undef = .slice ak nk ck_ := by rw [← Array.getD_eq_getD_getElem?]; exact d4
                refine wpOp_plain rfl rfl ?_
                unfold Oper.wp
                go_simp
                (try simp only [dq])
                (try go_simp)
                exact ⟨_, rfl, (Below.refl _ _).alloc (Nat.le_refl _) _, CL _ ((Below.refl _ _).alloc (Nat.le_refl _) _), sl_week _ _ rfl _ _ _⟩
               | 6, _, ho =>
                cases ho
                have d0 : ac.tmps.getD 156 undef = .int .i64 nn := hL.new 0 _ 156 rfl (he ⟨0, .data⟩ (by simp) rfl) rfl
                have d2 : ac.tmps.getD 158 undef = .slice aw nw cw := hL.new 2 _ 158 rfl (he ⟨2, .data⟩ (by simp) rfl) rfl
                obtain ⟨x5, hx5⟩ : ∃ x, ac.tmps.getD 161 undef = x := ⟨_, rfl⟩
                have d5 := hL.new 5 _ 161 rfl (he ⟨5, .data⟩ (by simp) rfl) rfl
                rw [hx5] at d5
                have x := HFO2.out x5 W (BU.out.trans (hL.cls.mono BU.out.size)) d5
                refine wpOp_plain rfl rfl ?_
                unfold Oper.wp
                go_simp
                refine x.mono ?_
                rintro e w' ⟨rfl, hBn⟩
                exact ⟨_, rfl, hBn, CL _ hBn, rfl⟩
               | 7, _, ho =>
                cases ho
                have d6 : ac.tmps.getD 162 undef = .int .i64 fB := hL.new 6 _ 162 rfl (he ⟨6, .data⟩ (by simp) rfl) rfl
                refine wpOp_plain rfl rfl ?_
                unfold Oper.wp
                go_simp
                exact ⟨_, rfl, Below.refl _ _, CL _ (Below.refl _ _), rfl⟩
               | n + 8, hA, _ => simp at hA
              case rest28d =>
               intro ac V28d hL
               have e156 : ac.tmps.getD 156 undef = .int .i64 nn := hL.new 0 _ 156 rfl rfl rfl
               have e157 : ac.tmps.getD 157 undef = .pointer (some ⟨w.heap.size + 1, 0, none⟩) := hL.new 1 _ 157 rfl rfl rfl
               have e158 : ac.tmps.getD 158 undef = .slice aw nw cw := hL.new 2 _ 158 rfl rfl rfl
               have e159 : ac.tmps.getD 159 undef = .agg #[.slice aw nw cw, .slice as_ j cs, .int .i64 K, .int .i64 L] := hL.new 3 _ 159 rfl rfl rfl
               have e160 : ac.tmps.getD 160 undef = .slice ak nk ck_ := hL.new 4 _ 160 rfl rfl rfl
               obtain ⟨y161, e161⟩ : ∃ x, ac.tmps.getD 161 undef = x := ⟨_, rfl⟩
               have e162 : ac.tmps.getD 162 undef = .int .i64 fB := hL.new 6 _ 162 rfl rfl rfl
               have e15 : ac.tmps.getD 15 undef = .int .i64 fB := hL.new 7 _ 15 rfl rfl rfl
               have es := hL.sets [156, 157, 158, 159, 160, 161, 162, 15] (by decide +kernel)
               rw [List.foldl_cons, List.foldl_cons, List.foldl_cons, List.foldl_cons, List.foldl_cons, List.foldl_cons, List.foldl_cons, List.foldl_cons, List.foldl_nil, e156, e157, e158, e159, e160, e161, e162, e15] at es
               have BN : Below W5.heap.size W5 V28d := hL.cls
               rw [es]
               clear es hL e156 e157 e158 e159 e160 e161 e162 e15
               refine wpAny_done (by decide +kernel) ?_ _
               simp only [List.setIfInBounds_toArray, List.set_cons_zero, List.set_cons_succ]
               replace bc0 := keepc BN bc0
               replace bc1 := keepc BN bc1
               replace bc2 := keepc BN bc2
               replace bc3 := keepc BN bc3
               replace bc4 := keepc BN bc4
               replace bc5 := keepc BN bc5
               replace wc0 := keepc BN wc0
               replace wc1 := keepc BN wc1
               replace wc2 := keepc BN wc2
               replace wc3 := keepc BN wc3
               replace BU : Aside (Below w.heap.size w V28d) := BU.out.trans (BN.mono BU.out.size)
               clear BN
               by_cases hf : fB = 0
               rotate_left
               ·
                obtain ⟨rfl, rfl⟩ := HTS.out.lfm rfl hf
                go_wp2_with fail
                refine (HKN.out _).mono ?_
                rintro e W6 ⟨rfl, hb6⟩
                replace bc0 := keepc hb6 bc0
                replace bc1 := keepc hb6 bc1
                replace bc2 := keepc hb6 bc2
                replace bc3 := keepc hb6 bc3
                replace bc4 := keepc hb6 bc4
                replace bc5 := keepc hb6 bc5
                replace wc0 := keepc hb6 wc0
                replace wc1 := keepc hb6 wc1
                replace wc2 := keepc hb6 wc2
                replace wc3 := keepc hb6 wc3
                replace BU : Aside (Below w.heap.size w W6) := BU.out.trans (hb6.mono BU.out.size)
                clear hb6
                go_wp2_with fail
                go_ret
                exact ⟨rfl, BU.out⟩
               ·
                subst hf
                by_cases hl0 : L < 0
                ·
                 obtain ⟨rfl, rfl⟩ := HTS.out.lli rfl rfl (by omega)
                 go_wp2_with fail
                 refine (HKN.out _).mono ?_
                 rintro e W6 ⟨rfl, hb6⟩
                 replace bc0 := keepc hb6 bc0
                 replace bc1 := keepc hb6 bc1
                 replace bc2 := keepc hb6 bc2
                 replace bc3 := keepc hb6 bc3
                 replace bc4 := keepc hb6 bc4
                 replace bc5 := keepc hb6 bc5
                 replace wc0 := keepc hb6 wc0
                 replace wc1 := keepc hb6 wc1
                 replace wc2 := keepc hb6 wc2
                 replace wc3 := keepc hb6 wc3
                 replace BU : Aside (Below w.heap.size w W6) := BU.out.trans (hb6.mono BU.out.size)
                 clear hb6
                 go_wp2_with fail
                 go_ret
                 exact ⟨rfl, BU.out⟩
                ·
                 by_cases hl1 : (1000000000 : Int) < L
                 ·
                  obtain ⟨rfl, rfl⟩ := HTS.out.lli rfl rfl (by omega)
                  go_wp2_with fail
                  refine (HKN.out _).mono ?_
                  rintro e W6 ⟨rfl, hb6⟩
                  replace bc0 := keepc hb6 bc0
                  replace bc1 := keepc hb6 bc1
                  replace bc2 := keepc hb6 bc2
                  replace bc3 := keepc hb6 bc3
                  replace bc4 := keepc hb6 bc4
                  replace bc5 := keepc hb6 bc5
                  replace wc0 := keepc hb6 wc0
                  replace wc1 := keepc hb6 wc1
                  replace wc2 := keepc hb6 wc2
                  replace wc3 := keepc hb6 wc3
                  replace BU : Aside (Below w.heap.size w W6) := BU.out.trans (hb6.mono BU.out.size)
                  clear hb6
                  go_wp2_with fail
                  go_ret
                  exact ⟨rfl, BU.out⟩
                 ·
                  obtain ⟨rfl, rfl⟩ := HTS.out.lok rfl rfl (by omega) (by omega)
                  have HSQ2 : Aside _ := HSQ.out (by simp) (by simp)
                  have HRM2 : Aside _ := HRM.out (by simp) (by simp)
                  have HRP2 : Aside _ := HRP.out (by simp) (by simp)
                  have HRW2 : Aside _ := HRW.out (by simp) (by simp)
                  have HN0 : Aside (Sl V28d 1 eI (.slice aw nw cw) (SQ 0)) := by rw [HS0.out]; exact HWS.out.below BU.out
                  go_wp2_with fail
                  go_loopg [18, 19, 20] 501 (fun gg s18 s19 s20 wr => ∃ (p : Nat) (u : Value) (r : Int), p ≤ 501 ∧ 501 - p ≤ gg ∧ s20 = .int .i64 p ∧ u = s18 ∧ s19 = .int .i64 r ∧ Aside (Sl wr 1 eI u (SQ p)) ∧ Aside ((r = -1 ∧ lastF MF L 501 0 = lastF MF L (501 - p) p) ∨ (0 ≤ r ∧ lastF MF L 501 0 = r)) ∧ Aside (Below V28d.heap.size V28d wr))
                  case atStart => exact ⟨0, _, -1, by omega, by omega, rfl, rfl, rfl, HN0.out, .inl ⟨rfl, rfl⟩, Below.refl _ _⟩
                  case round =>
                   obtain ⟨p, u, r, hp, hgg, rfl, rfl, rfl, HU, HF, HBX⟩ := hrel
                   have hbx := HBX.out
                   by_cases hgo : p < 501 ∧ r < 0
                   ·
                    have hp5 : (p : Int) ≤ 500 := by omega
                    have hr0 : r < 0 := hgo.2
                    obtain ⟨rfl, HF1⟩ : r = -1 ∧ lastF MF L 501 0 = lastF MF L (501 - p) p := by
                     rcases HF.out with h | h
                     ·
                      exact h
                     ·
                      omega
                    have HF2 : Aside (lastF MF L 501 0 = if L < MF p then (p : Int) else lastF MF L (501 - (p + 1)) (p + 1)) := by
                     show _ = _
                     rw [HF1, show 501 - p = (501 - (p + 1)) + 1 by omega]; rfl
                    clear HF HF1 hr0 hgo
                    replace bc0 := keepc hbx bc0
                    replace bc1 := keepc hbx bc1
                    replace bc2 := keepc hbx bc2
                    replace bc3 := keepc hbx bc3
                    replace bc4 := keepc hbx bc4
                    replace bc5 := keepc hbx bc5
                    replace wc0 := keepc hbx wc0
                    replace wc1 := keepc hbx wc1
                    replace wc2 := keepc hbx wc2
                    replace wc3 := keepc hbx wc3
                    replace BU : Aside (Below w.heap.size w wr) := BU.out.trans (hbx.mono BU.out.size)
                    clear hbx
                    obtain ⟨k, hk, hbk, hsq⟩ := HSQ2.out p
                    have x32 := HRM2.out p
                    obtain ⟨mp, hmp⟩ : ∃ z, MF p = z := ⟨_, rfl⟩
                    rw [hmp] at x32 HF2
                    clear hmp
                    have HX32 : Aside _ := x32
                    clear x32
                    have HSQ3 : Aside (SQ (p + 1) = aft (SQ p) wkl k) := hsq
                    have HBK : Aside (bestK (SQ p) wkl = (k : Int)) := hbk
                    have HKN1 : Aside ((k : Int) < (nn : Int)) := hk
                    clear hsq hbk hk
                    have HX33 : Aside _ := HRP2.out p
                    rw [HBK.out] at HX33
                    by_cases hgt : L < mp
                    ·
                     as_aux_lemma =>
                      go_upto_region 37 with (fail)
                      refine region_laid (fl := 8) [true, true, true, true, true] 0 (fun (i : Nat) (x : Value) (ww : World) => (match i with | 0 => Sl ww 1 eI x (SQ p) | 1 => x = .int .i64 mp | 2 => x = .pointer (some ⟨w.heap.size + 1, 3, none⟩) | 3 => x = .int .i64 L | 4 => x = .bool true | _ => True : Prop)) (fun w' => Below wr.heap.size wr w') (by kernel_rfl) rfl (by show layable _ 228 _ 8 = true; decide +kernel) rfl ((Below.refl _ _).drew) ?mono37dg ?step37dg ?rest37dg
                      case mono37dg =>
                       intro i x ww ww' hB h
                       match i, h with
                       | 0, h => exact Sl.below h hB
                       | 1, h => exact h
                       | 2, h => exact h
                       | 3, h => exact h
                       | 4, h => exact h
                       | n + 5, h => exact h
                      case step37dg =>
                       intro i o_ listed ac W hA ho hL he
                       have hk2 : ac.tmps.getD 2 undef = .pointer (some ⟨w.heap.size, 0, none⟩) := hL.kept 2 (by decide +kernel)
                       have hk3 : ac.tmps.getD 3 undef = .pointer (some ⟨w.heap.size + 1, 0, none⟩) := hL.kept 3 (by decide +kernel)
                       have hk18 : ac.tmps.getD 18 undef = u := hL.kept 18 (by decide +kernel)
                       have CL : ∀ W', Below W.heap.size W W' → Below wr.heap.size wr W' := fun W' h => hL.cls.trans (h.mono hL.cls.size)
                       have k_wc0 := keepc hL.cls wc0
                       have k_wc1 := keepc hL.cls wc1
                       have k_wc2 := keepc hL.cls wc2
                       have k_wc3 := keepc hL.cls wc3
                       match i, hA, ho with
                       | 0, _, ho =>
                        cases ho
                        refine wpOp_plain rfl rfl ?_
                        unfold Oper.wp
                        go_simp
                        exact ⟨_, rfl, Below.refl _ _, CL _ (Below.refl _ _), HU.out.below hL.cls⟩
                       | 1, _, ho =>
                        cases ho
                        obtain ⟨x0, hx0⟩ : ∃ x, ac.tmps.getD 197 undef = x := ⟨_, rfl⟩
                        have d0 := hL.new 0 _ 197 rfl (he ⟨0, .data⟩ (by simp) rfl) rfl
                        rw [hx0] at d0
                        have x := HX32.out x0 W d0
                        refine wpOp_plain rfl rfl ?_
                        unfold Oper.wp
                        go_simp
                        refine x.mono ?_
                        rintro e w' ⟨rfl, hBn⟩
                        exact ⟨_, rfl, hBn, CL _ hBn, rfl⟩
                       | 2, _, ho =>
                        cases ho
                        refine wpOp_plain rfl rfl ?_
                        unfold Oper.wp
                        go_simp
                        exact ⟨_, rfl, Below.refl _ _, CL _ (Below.refl _ _), rfl⟩
                       | 3, _, ho =>
                        cases ho
                        have d2 : ac.tmps.getD 199 undef = .pointer (some ⟨w.heap.size + 1, 3, none⟩) := hL.new 2 _ 199 rfl (he ⟨2, .data⟩ (by simp) rfl) rfl
                        refine wpOp_plain rfl rfl ?_
                        unfold Oper.wp
                        go_simp
                        exact ⟨_, rfl, Below.refl _ _, CL _ (Below.refl _ _), rfl⟩
                       | 4, _, ho =>
                        cases ho
                        have d1 : ac.tmps.getD 198 undef = .int .i64 mp := hL.new 1 _ 198 rfl (he ⟨1, .data⟩ (by simp) rfl) rfl
                        have d3 : ac.tmps.getD 200 undef = .int .i64 L := hL.new 3 _ 200 rfl (he ⟨3, .data⟩ (by simp) rfl) rfl
                        refine wpOp_plain rfl rfl ?_
                        unfold Oper.wp
                        go_simp
                        exact ⟨_, rfl, Below.refl _ _, CL _ (Below.refl _ _), rfl⟩
                       | n + 5, hA, _ => simp at hA
                      case rest37dg =>
                       intro ac V37dg hL
                       obtain ⟨y197, e197⟩ : ∃ x, ac.tmps.getD 197 undef = x := ⟨_, rfl⟩
                       have e198 : ac.tmps.getD 198 undef = .int .i64 mp := hL.new 1 _ 198 rfl rfl rfl
                       have e199 : ac.tmps.getD 199 undef = .pointer (some ⟨w.heap.size + 1, 3, none⟩) := hL.new 2 _ 199 rfl rfl rfl
                       have e200 : ac.tmps.getD 200 undef = .int .i64 L := hL.new 3 _ 200 rfl rfl rfl
                       have e201 : ac.tmps.getD 201 undef = .bool true := hL.new 4 _ 201 rfl rfl rfl
                       have es := hL.sets [197, 198, 199, 200, 201] (by decide +kernel)
                       rw [List.foldl_cons, List.foldl_cons, List.foldl_cons, List.foldl_cons, List.foldl_cons, List.foldl_nil, e197, e198, e199, e200, e201] at es
                       have BN : Below wr.heap.size wr V37dg := hL.cls
                       rw [es]
                       clear es hL e197 e198 e199 e200 e201
                       refine wpAny_done (by decide +kernel) ?_ _
                       simp only [List.setIfInBounds_toArray, List.set_cons_zero, List.set_cons_succ]
                       have HU1 : Aside (Sl V37dg 1 eI u (SQ p)) := HU.out.below BN
                       have HBX1 : Aside (Below V28d.heap.size V28d V37dg) := HBX.out.trans (BN.mono HBX.out.size)
                       replace bc0 := keepc BN bc0
                       replace bc1 := keepc BN bc1
                       replace bc2 := keepc BN bc2
                       replace bc3 := keepc BN bc3
                       replace bc4 := keepc BN bc4
                       replace bc5 := keepc BN bc5
                       replace wc0 := keepc BN wc0
                       replace wc1 := keepc BN wc1
                       replace wc2 := keepc BN wc2
                       replace wc3 := keepc BN wc3
                       replace BU : Aside (Below w.heap.size w V37dg) := BU.out.trans (BN.mono BU.out.size)
                       clear BN
                       go_wp2_with fail
                       refine (HWE.out _ BU.out).mono ?_
                       rintro e W6 ⟨rfl, hb6⟩
                       replace HBX1 : Aside (Below V28d.heap.size V28d W6) := HBX1.out.trans (hb6.mono HBX1.out.size)
                       replace bc0 := keepc hb6 bc0
                       replace bc1 := keepc hb6 bc1
                       replace bc2 := keepc hb6 bc2
                       replace bc3 := keepc hb6 bc3
                       replace bc4 := keepc hb6 bc4
                       replace bc5 := keepc hb6 bc5
                       replace wc0 := keepc hb6 wc0
                       replace wc1 := keepc hb6 wc1
                       replace wc2 := keepc hb6 wc2
                       replace wc3 := keepc hb6 wc3
                       replace BU : Aside (Below w.heap.size w W6) := BU.out.trans (hb6.mono BU.out.size)
                       replace HU1 : Aside (Sl W6 1 eI u (SQ p)) := HU1.out.below hb6
                       clear hb6
                       go_wp2_with fail
                       have ba : Below W6.heap.size W6 (W6.alloc (.cells #[.slice ak nk ck_] 24)) := (Below.refl _ _).alloc (Nat.le_refl _) _
                       refine (HX33.out _ _ _ hp (BU.out.trans (ba.mono BU.out.size)) (HU1.out.below ba) (sl_week _ _ rfl _ _ _)).mono ?_
                       rintro e W7 ⟨vp, mq, rfl, ho, hb_⟩
                       have hbb : Below W6.heap.size W6 W7 := ba.trans (hb_.mono ba.size)
                       replace HBX1 : Aside (Below V28d.heap.size V28d W7) := HBX1.out.trans (hbb.mono HBX1.out.size)
                       replace bc0 := keepc hbb bc0
                       replace bc1 := keepc hbb bc1
                       replace bc2 := keepc hbb bc2
                       replace bc3 := keepc hbb bc3
                       replace bc4 := keepc hbb bc4
                       replace bc5 := keepc hbb bc5
                       replace wc0 := keepc hbb wc0
                       replace wc1 := keepc hbb wc1
                       replace wc2 := keepc hbb wc2
                       replace wc3 := keepc hbb wc3
                       replace BU : Aside (Below w.heap.size w W7) := BU.out.trans (hbb.mono BU.out.size)
                       replace HU1 : Aside (Sl W7 1 eI u (SQ p)) := HU1.out.below hbb
                       clear hbb ba hb_
                       obtain ⟨bp, fp, cp, rfl, hcp⟩ := ho
                       go_upto_region 40 with (fail)
                       refine region_laidC (fl := 8) [true, true, true, true, true, true, true, true] 0 (fun (i : Nat) (x : Value) (ww : World) => (match i with | 0 => Sl ww 1 eI x (SQ p) | 1 => x = .agg #[.slice aw nw cw, .slice as_ j cs, .int .i64 K, .int .i64 L] | 2 => x = .slice ak nk ck_ | 3 => x = .slice (some ⟨bp, fp, none⟩) 1 cp | 4 => x = .pointer (some ⟨bp, fp, none⟩) | 5 => x = .int .i64 (k : Int) | 6 => Sl ww 1 eI x (SQ (p + 1)) | 7 => Sl ww 1 eI x (SQ (p + 1)) | _ => True : Prop)) (fun w' => Below W7.heap.size W7 w') (by kernel_rfl) rfl (by show layableC _ 228 _ 8 = true; decide +kernel) rfl ((Below.refl _ _).drew) ?mono40dg ?step40dg ?rest40dg
                       case mono40dg =>
                        intro i x ww ww' hB h
                        match i, h with
                        | 0, h => exact Sl.below h hB
                        | 1, h => exact h
                        | 2, h => exact h
                        | 3, h => exact h
                        | 4, h => exact h
                        | 5, h => exact h
                        | 6, h => exact Sl.below h hB
                        | 7, h => exact Sl.below h hB
                        | n + 8, h => exact h
                       case step40dg =>
                        intro i o_ listed ac W hA ho hL he hcl hli hsz
                        have hk2 : ac.tmps.getD 2 undef = .pointer (some ⟨w.heap.size, 0, none⟩) := hL.kept 2 (by decide +kernel)
                        have hk3 : ac.tmps.getD 3 undef = .pointer (some ⟨w.heap.size + 1, 0, none⟩) := hL.kept 3 (by decide +kernel)
                        have hk21 : ac.tmps.getD 21 undef = .slice (some ⟨bp, fp, none⟩) 1 cp := hL.kept 21 (by decide +kernel)
                        have CL : ∀ W', Below W.heap.size W W' → Below W7.heap.size W7 W' := fun W' h => hL.cls.trans (h.mono hL.cls.size)
                        have k_wc0 := keepc hL.cls wc0
                        have k_wc1 := keepc hL.cls wc1
                        have k_wc2 := keepc hL.cls wc2
                        have k_wc3 := keepc hL.cls wc3
                        have k_hcp := keepc hL.cls hcp
                        match i, hA, ho with
                        | 0, _, ho =>
                         cases ho
                         have hk18 : ac.tmps.getD 18 undef = u := hL.kept3 hcl hsz 18 0 7 12 hli (by decide +kernel) (by decide +kernel)
                         refine wpOp_plain rfl rfl ?_
                         unfold Oper.wp
                         go_simp
                         exact ⟨_, rfl, Below.refl _ _, CL _ (Below.refl _ _), HU1.out.below hL.cls⟩
                        | 1, _, ho =>
                         cases ho
                         refine wpOp_plain rfl rfl ?_
                         unfold Oper.wp
                         go_simp
                         exact ⟨_, rfl, Below.refl _ _, CL _ (Below.refl _ _), rfl⟩
                        | 2, _, ho =>
                         cases ho
                         have d1 : ac.tmps.getD 212 undef = .agg #[.slice aw nw cw, .slice as_ j cs, .int .i64 K, .int .i64 L] := hL.new 1 _ 212 rfl (he ⟨1, .data⟩ (by simp) rfl) rfl
                         have x := HWE.out W (BU.out.trans (hL.cls.mono BU.out.size))
                         refine wpOp_plain rfl rfl ?_
                         unfold Oper.wp
                         go_simp
                         refine x.mono ?_
                         rintro e w' ⟨rfl, hBn⟩
                         exact ⟨_, rfl, hBn, CL _ hBn, rfl⟩
                        | 3, _, ho =>
                         cases ho
                         refine wpOp_plain rfl rfl ?_
                         unfold Oper.wp
                         go_simp
                         exact ⟨_, rfl, Below.refl _ _, CL _ (Below.refl _ _), rfl⟩
                        | 4, _, ho =>
                         cases ho
                         have d3 : ac.tmps.getD 214 undef = .slice (some ⟨bp, fp, none⟩) 1 cp := hL.new 3 _ 214 rfl (he ⟨3, .data⟩ (by simp) rfl) rfl
                         refine wpOp_plain rfl rfl ?_
                         unfold Oper.wp
                         go_simp
                         exact ⟨_, rfl, Below.refl _ _, CL _ (Below.refl _ _), rfl⟩
                        | 5, _, ho =>
                         cases ho
                         have d4 : ac.tmps.getD 215 undef = .pointer (some ⟨bp, fp, none⟩) := hL.new 4 _ 215 rfl (he ⟨4, .data⟩ (by simp) rfl) rfl
                         refine wpOp_plain rfl rfl ?_
                         unfold Oper.wp
                         go_simp
                         exact ⟨_, rfl, Below.refl _ _, CL _ (Below.refl _ _), rfl⟩
                        | 6, _, ho =>
                         cases ho
                         obtain ⟨x0, hx0⟩ : ∃ x, ac.tmps.getD 211 undef = x := ⟨_, rfl⟩
                         have d0 := hL.new 0 _ 211 rfl (he ⟨0, .data⟩ (by simp) rfl) rfl
                         rw [hx0] at d0
                         have d2 : ac.tmps.getD 213 undef = .slice ak nk ck_ := hL.new 2 _ 213 rfl (he ⟨2, .data⟩ (by simp) rfl) rfl
                         have d5 : ac.tmps.getD 216 undef = .int .i64 (k : Int) := hL.new 5 _ 216 rfl (he ⟨5, .data⟩ (by simp) rfl) rfl
                         have x := HRW2.out p k x0 W hp HKN1.out (BU.out.trans (hL.cls.mono BU.out.size)) d0
                         rw [← HSQ3.out] at x
                         refine wpOp_plain rfl rfl ?_
                         unfold Oper.wp
                         go_simp
                         refine x.mono ?_
                         rintro e w' ⟨v', rfl, hs, hBn⟩
                         exact ⟨_, rfl, hBn, CL _ hBn, hs⟩
                        | 7, _, ho =>
                         cases ho
                         obtain ⟨x6, hx6⟩ : ∃ x, ac.tmps.getD 217 undef = x := ⟨_, rfl⟩
                         have d6 := hL.new 6 _ 217 rfl (he ⟨6, .data⟩ (by simp) rfl) rfl
                         rw [hx6] at d6
                         refine wpOp_plain rfl rfl ?_
                         unfold Oper.wp
                         go_simp
                         exact ⟨_, rfl, Below.refl _ _, CL _ (Below.refl _ _), d6⟩
                        | n + 8, hA, _ => simp at hA
                       case rest40dg =>
                        intro ac V40dg hL
                        obtain ⟨y211, e211⟩ : ∃ x, ac.tmps.getD 211 undef = x := ⟨_, rfl⟩
                        have e212 : ac.tmps.getD 212 undef = .agg #[.slice aw nw cw, .slice as_ j cs, .int .i64 K, .int .i64 L] := hL.new 1 _ 212 rfl rfl rfl
                        have e213 : ac.tmps.getD 213 undef = .slice ak nk ck_ := hL.new 2 _ 213 rfl rfl rfl
                        have e214 : ac.tmps.getD 214 undef = .slice (some ⟨bp, fp, none⟩) 1 cp := hL.new 3 _ 214 rfl rfl rfl
                        have e215 : ac.tmps.getD 215 undef = .pointer (some ⟨bp, fp, none⟩) := hL.new 4 _ 215 rfl rfl rfl
                        have e216 : ac.tmps.getD 216 undef = .int .i64 (k : Int) := hL.new 5 _ 216 rfl rfl rfl
                        obtain ⟨y217, e217⟩ : ∃ x, ac.tmps.getD 217 undef = x := ⟨_, rfl⟩
                        have hn18 := hL.new 7 _ 18 rfl rfl rfl
                        obtain ⟨vnx, e18⟩ : ∃ x, ac.tmps.getD 18 undef = x := ⟨_, rfl⟩
                        rw [e18] at hn18
                        have Hvnx : Aside (Sl V40dg 1 eI vnx (SQ (p + 1))) := hn18
                        clear hn18
                        have es := hL.sets [211, 212, 213, 214, 215, 216, 217, 18] (by decide +kernel)
                        rw [List.foldl_cons, List.foldl_cons, List.foldl_cons, List.foldl_cons, List.foldl_cons, List.foldl_cons, List.foldl_cons, List.foldl_cons, List.foldl_nil, e211, e212, e213, e214, e215, e216, e217, e18] at es
                        have BN : Below W7.heap.size W7 V40dg := hL.cls
                        rw [es]
                        clear es hL e211 e212 e213 e214 e215 e216 e217 e18
                        refine wpAny_done (by decide +kernel) ?_ _
                        simp only [List.setIfInBounds_toArray, List.set_cons_zero, List.set_cons_succ]
                        go_wp2_with fail
                        go_roundg (501 - (p + 1))
                        case measure => omega
                        case rel => exact ⟨p + 1, _, (p : Int), by omega, by omega, by go_num, rfl, rfl, Hvnx.out, .inr ⟨by omega, by rw [HF2.out, if_pos hgt]⟩, HBX1.out.trans (BN.mono HBX1.out.size)⟩
                    ·
                     as_aux_lemma =>
                      go_upto_region 37 with (fail)
                      refine region_laid (fl := 8) [true, true, true, true, true] 0 (fun (i : Nat) (x : Value) (ww : World) => (match i with | 0 => Sl ww 1 eI x (SQ p) | 1 => x = .int .i64 mp | 2 => x = .pointer (some ⟨w.heap.size + 1, 3, none⟩) | 3 => x = .int .i64 L | 4 => x = .bool false | _ => True : Prop)) (fun w' => Below wr.heap.size wr w') (by kernel_rfl) rfl (by show layable _ 228 _ 8 = true; decide +kernel) rfl ((Below.refl _ _).drew) ?mono37dn ?step37dn ?rest37dn
                      case mono37dn =>
                       intro i x ww ww' hB h
                       match i, h with
                       | 0, h => exact Sl.below h hB
                       | 1, h => exact h
                       | 2, h => exact h
                       | 3, h => exact h
                       | 4, h => exact h
                       | n + 5, h => exact h
                      case step37dn =>
                       intro i o_ listed ac W hA ho hL he
                       have hk2 : ac.tmps.getD 2 undef = .pointer (some ⟨w.heap.size, 0, none⟩) := hL.kept 2 (by decide +kernel)
                       have hk3 : ac.tmps.getD 3 undef = .pointer (some ⟨w.heap.size + 1, 0, none⟩) := hL.kept 3 (by decide +kernel)
                       have hk18 : ac.tmps.getD 18 undef = u := hL.kept 18 (by decide +kernel)
                       have CL : ∀ W', Below W.heap.size W W' → Below wr.heap.size wr W' := fun W' h => hL.cls.trans (h.mono hL.cls.size)
                       have k_wc0 := keepc hL.cls wc0
                       have k_wc1 := keepc hL.cls wc1
                       have k_wc2 := keepc hL.cls wc2
                       have k_wc3 := keepc hL.cls wc3
                       match i, hA, ho with
                       | 0, _, ho =>
                        cases ho
                        refine wpOp_plain rfl rfl ?_
                        unfold Oper.wp
                        go_simp
                        exact ⟨_, rfl, Below.refl _ _, CL _ (Below.refl _ _), HU.out.below hL.cls⟩
                       | 1, _, ho =>
                        cases ho
                        obtain ⟨x0, hx0⟩ : ∃ x, ac.tmps.getD 197 undef = x := ⟨_, rfl⟩
                        have d0 := hL.new 0 _ 197 rfl (he ⟨0, .data⟩ (by simp) rfl) rfl
                        rw [hx0] at d0
                        have x := HX32.out x0 W d0
                        refine wpOp_plain rfl rfl ?_
                        unfold Oper.wp
                        go_simp
                        refine x.mono ?_
                        rintro e w' ⟨rfl, hBn⟩
                        exact ⟨_, rfl, hBn, CL _ hBn, rfl⟩
                       | 2, _, ho =>
                        cases ho
                        refine wpOp_plain rfl rfl ?_
                        unfold Oper.wp
                        go_simp
                        exact ⟨_, rfl, Below.refl _ _, CL _ (Below.refl _ _), rfl⟩
                       | 3, _, ho =>
                        cases ho
                        have d2 : ac.tmps.getD 199 undef = .pointer (some ⟨w.heap.size + 1, 3, none⟩) := hL.new 2 _ 199 rfl (he ⟨2, .data⟩ (by simp) rfl) rfl
                        refine wpOp_plain rfl rfl ?_
                        unfold Oper.wp
                        go_simp
                        exact ⟨_, rfl, Below.refl _ _, CL _ (Below.refl _ _), rfl⟩
                       | 4, _, ho =>
                        cases ho
                        have d1 : ac.tmps.getD 198 undef = .int .i64 mp := hL.new 1 _ 198 rfl (he ⟨1, .data⟩ (by simp) rfl) rfl
                        have d3 : ac.tmps.getD 200 undef = .int .i64 L := hL.new 3 _ 200 rfl (he ⟨3, .data⟩ (by simp) rfl) rfl
                        refine wpOp_plain rfl rfl ?_
                        unfold Oper.wp
                        go_simp
                        exact ⟨_, rfl, Below.refl _ _, CL _ (Below.refl _ _), rfl⟩
                       | n + 5, hA, _ => simp at hA
                      case rest37dn =>
                       intro ac V37dn hL
                       obtain ⟨y197, e197⟩ : ∃ x, ac.tmps.getD 197 undef = x := ⟨_, rfl⟩
                       have e198 : ac.tmps.getD 198 undef = .int .i64 mp := hL.new 1 _ 198 rfl rfl rfl
                       have e199 : ac.tmps.getD 199 undef = .pointer (some ⟨w.heap.size + 1, 3, none⟩) := hL.new 2 _ 199 rfl rfl rfl
                       have e200 : ac.tmps.getD 200 undef = .int .i64 L := hL.new 3 _ 200 rfl rfl rfl
                       have e201 : ac.tmps.getD 201 undef = .bool false := hL.new 4 _ 201 rfl rfl rfl
                       have es := hL.sets [197, 198, 199, 200, 201] (by decide +kernel)
                       rw [List.foldl_cons, List.foldl_cons, List.foldl_cons, List.foldl_cons, List.foldl_cons, List.foldl_nil, e197, e198, e199, e200, e201] at es
                       have BN : Below wr.heap.size wr V37dn := hL.cls
                       rw [es]
                       clear es hL e197 e198 e199 e200 e201
                       refine wpAny_done (by decide +kernel) ?_ _
                       simp only [List.setIfInBounds_toArray, List.set_cons_zero, List.set_cons_succ]
                       have HU1 : Aside (Sl V37dn 1 eI u (SQ p)) := HU.out.below BN
                       have HBX1 : Aside (Below V28d.heap.size V28d V37dn) := HBX.out.trans (BN.mono HBX.out.size)
                       replace bc0 := keepc BN bc0
                       replace bc1 := keepc BN bc1
                       replace bc2 := keepc BN bc2
                       replace bc3 := keepc BN bc3
                       replace bc4 := keepc BN bc4
                       replace bc5 := keepc BN bc5
                       replace wc0 := keepc BN wc0
                       replace wc1 := keepc BN wc1
                       replace wc2 := keepc BN wc2
                       replace wc3 := keepc BN wc3
                       replace BU : Aside (Below w.heap.size w V37dn) := BU.out.trans (BN.mono BU.out.size)
                       clear BN
                       go_wp2_with fail
                       refine (HWE.out _ BU.out).mono ?_
                       rintro e W6 ⟨rfl, hb6⟩
                       replace HBX1 : Aside (Below V28d.heap.size V28d W6) := HBX1.out.trans (hb6.mono HBX1.out.size)
                       replace bc0 := keepc hb6 bc0
                       replace bc1 := keepc hb6 bc1
                       replace bc2 := keepc hb6 bc2
                       replace bc3 := keepc hb6 bc3
                       replace bc4 := keepc hb6 bc4
                       replace bc5 := keepc hb6 bc5
                       replace wc0 := keepc hb6 wc0
                       replace wc1 := keepc hb6 wc1
                       replace wc2 := keepc hb6 wc2
                       replace wc3 := keepc hb6 wc3
                       replace BU : Aside (Below w.heap.size w W6) := BU.out.trans (hb6.mono BU.out.size)
                       replace HU1 : Aside (Sl W6 1 eI u (SQ p)) := HU1.out.below hb6
                       clear hb6
                       go_wp2_with fail
                       have ba : Below W6.heap.size W6 (W6.alloc (.cells #[.slice ak nk ck_] 24)) := (Below.refl _ _).alloc (Nat.le_refl _) _
                       refine (HX33.out _ _ _ hp (BU.out.trans (ba.mono BU.out.size)) (HU1.out.below ba) (sl_week _ _ rfl _ _ _)).mono ?_
                       rintro e W7 ⟨vp, mq, rfl, ho, hb_⟩
                       have hbb : Below W6.heap.size W6 W7 := ba.trans (hb_.mono ba.size)
                       replace HBX1 : Aside (Below V28d.heap.size V28d W7) := HBX1.out.trans (hbb.mono HBX1.out.size)
                       replace bc0 := keepc hbb bc0
                       replace bc1 := keepc hbb bc1
                       replace bc2 := keepc hbb bc2
                       replace bc3 := keepc hbb bc3
                       replace bc4 := keepc hbb bc4
                       replace bc5 := keepc hbb bc5
                       replace wc0 := keepc hbb wc0
                       replace wc1 := keepc hbb wc1
                       replace wc2 := keepc hbb wc2
                       replace wc3 := keepc hbb wc3
                       replace BU : Aside (Below w.heap.size w W7) := BU.out.trans (hbb.mono BU.out.size)
                       replace HU1 : Aside (Sl W7 1 eI u (SQ p)) := HU1.out.below hbb
                       clear hbb ba hb_
                       obtain ⟨bp, fp, cp, rfl, hcp⟩ := ho
                       go_upto_region 40 with (fail)
                       refine region_laidC (fl := 8) [true, true, true, true, true, true, true, true] 0 (fun (i : Nat) (x : Value) (ww : World) => (match i with | 0 => Sl ww 1 eI x (SQ p) | 1 => x = .agg #[.slice aw nw cw, .slice as_ j cs, .int .i64 K, .int .i64 L] | 2 => x = .slice ak nk ck_ | 3 => x = .slice (some ⟨bp, fp, none⟩) 1 cp | 4 => x = .pointer (some ⟨bp, fp, none⟩) | 5 => x = .int .i64 (k : Int) | 6 => Sl ww 1 eI x (SQ (p + 1)) | 7 => Sl ww 1 eI x (SQ (p + 1)) | _ => True : Prop)) (fun w' => Below W7.heap.size W7 w') (by kernel_rfl) rfl (by show layableC _ 228 _ 8 = true; decide +kernel) rfl ((Below.refl _ _).drew) ?mono40dn ?step40dn ?rest40dn
                       case mono40dn =>
                        intro i x ww ww' hB h
                        match i, h with
                        | 0, h => exact Sl.below h hB
                        | 1, h => exact h
                        | 2, h => exact h
                        | 3, h => exact h
                        | 4, h => exact h
                        | 5, h => exact h
                        | 6, h => exact Sl.below h hB
                        | 7, h => exact Sl.below h hB
                        | n + 8, h => exact h
                       case step40dn =>
                        intro i o_ listed ac W hA ho hL he hcl hli hsz
                        have hk2 : ac.tmps.getD 2 undef = .pointer (some ⟨w.heap.size, 0, none⟩) := hL.kept 2 (by decide +kernel)
                        have hk3 : ac.tmps.getD 3 undef = .pointer (some ⟨w.heap.size + 1, 0, none⟩) := hL.kept 3 (by decide +kernel)
                        have hk21 : ac.tmps.getD 21 undef = .slice (some ⟨bp, fp, none⟩) 1 cp := hL.kept 21 (by decide +kernel)
                        have CL : ∀ W', Below W.heap.size W W' → Below W7.heap.size W7 W' := fun W' h => hL.cls.trans (h.mono hL.cls.size)
                        have k_wc0 := keepc hL.cls wc0
                        have k_wc1 := keepc hL.cls wc1
                        have k_wc2 := keepc hL.cls wc2
                        have k_wc3 := keepc hL.cls wc3
                        have k_hcp := keepc hL.cls hcp
                        match i, hA, ho with
                        | 0, _, ho =>
                         cases ho
                         have hk18 : ac.tmps.getD 18 undef = u := hL.kept3 hcl hsz 18 0 7 12 hli (by decide +kernel) (by decide +kernel)
                         refine wpOp_plain rfl rfl ?_
                         unfold Oper.wp
                         go_simp
                         exact ⟨_, rfl, Below.refl _ _, CL _ (Below.refl _ _), HU1.out.below hL.cls⟩
                        | 1, _, ho =>
                         cases ho
                         refine wpOp_plain rfl rfl ?_
                         unfold Oper.wp
                         go_simp
                         exact ⟨_, rfl, Below.refl _ _, CL _ (Below.refl _ _), rfl⟩
                        | 2, _, ho =>
                         cases ho
                         have d1 : ac.tmps.getD 212 undef = .agg #[.slice aw nw cw, .slice as_ j cs, .int .i64 K, .int .i64 L] := hL.new 1 _ 212 rfl (he ⟨1, .data⟩ (by simp) rfl) rfl
                         have x := HWE.out W (BU.out.trans (hL.cls.mono BU.out.size))
                         refine wpOp_plain rfl rfl ?_
                         unfold Oper.wp
                         go_simp
                         refine x.mono ?_
                         rintro e w' ⟨rfl, hBn⟩
                         exact ⟨_, rfl, hBn, CL _ hBn, rfl⟩
                        | 3, _, ho =>
                         cases ho
                         refine wpOp_plain rfl rfl ?_
                         unfold Oper.wp
                         go_simp
                         exact ⟨_, rfl, Below.refl _ _, CL _ (Below.refl _ _), rfl⟩
                        | 4, _, ho =>
                         cases ho
                         have d3 : ac.tmps.getD 214 undef = .slice (some ⟨bp, fp, none⟩) 1 cp := hL.new 3 _ 214 rfl (he ⟨3, .data⟩ (by simp) rfl) rfl
                         refine wpOp_plain rfl rfl ?_
                         unfold Oper.wp
                         go_simp
                         exact ⟨_, rfl, Below.refl _ _, CL _ (Below.refl _ _), rfl⟩
                        | 5, _, ho =>
                         cases ho
                         have d4 : ac.tmps.getD 215 undef = .pointer (some ⟨bp, fp, none⟩) := hL.new 4 _ 215 rfl (he ⟨4, .data⟩ (by simp) rfl) rfl
                         refine wpOp_plain rfl rfl ?_
                         unfold Oper.wp
                         go_simp
                         exact ⟨_, rfl, Below.refl _ _, CL _ (Below.refl _ _), rfl⟩
                        | 6, _, ho =>
                         cases ho
                         obtain ⟨x0, hx0⟩ : ∃ x, ac.tmps.getD 211 undef = x := ⟨_, rfl⟩
                         have d0 := hL.new 0 _ 211 rfl (he ⟨0, .data⟩ (by simp) rfl) rfl
                         rw [hx0] at d0
                         have d2 : ac.tmps.getD 213 undef = .slice ak nk ck_ := hL.new 2 _ 213 rfl (he ⟨2, .data⟩ (by simp) rfl) rfl
                         have d5 : ac.tmps.getD 216 undef = .int .i64 (k : Int) := hL.new 5 _ 216 rfl (he ⟨5, .data⟩ (by simp) rfl) rfl
                         have x := HRW2.out p k x0 W hp HKN1.out (BU.out.trans (hL.cls.mono BU.out.size)) d0
                         rw [← HSQ3.out] at x
                         refine wpOp_plain rfl rfl ?_
                         unfold Oper.wp
                         go_simp
                         refine x.mono ?_
                         rintro e w' ⟨v', rfl, hs, hBn⟩
                         exact ⟨_, rfl, hBn, CL _ hBn, hs⟩
                        | 7, _, ho =>
                         cases ho
                         obtain ⟨x6, hx6⟩ : ∃ x, ac.tmps.getD 217 undef = x := ⟨_, rfl⟩
                         have d6 := hL.new 6 _ 217 rfl (he ⟨6, .data⟩ (by simp) rfl) rfl
                         rw [hx6] at d6
                         refine wpOp_plain rfl rfl ?_
                         unfold Oper.wp
                         go_simp
                         exact ⟨_, rfl, Below.refl _ _, CL _ (Below.refl _ _), d6⟩
                        | n + 8, hA, _ => simp at hA
                       case rest40dn =>
                        intro ac V40dn hL
                        obtain ⟨y211, e211⟩ : ∃ x, ac.tmps.getD 211 undef = x := ⟨_, rfl⟩
                        have e212 : ac.tmps.getD 212 undef = .agg #[.slice aw nw cw, .slice as_ j cs, .int .i64 K, .int .i64 L] := hL.new 1 _ 212 rfl rfl rfl
                        have e213 : ac.tmps.getD 213 undef = .slice ak nk ck_ := hL.new 2 _ 213 rfl rfl rfl
                        have e214 : ac.tmps.getD 214 undef = .slice (some ⟨bp, fp, none⟩) 1 cp := hL.new 3 _ 214 rfl rfl rfl
                        have e215 : ac.tmps.getD 215 undef = .pointer (some ⟨bp, fp, none⟩) := hL.new 4 _ 215 rfl rfl rfl
                        have e216 : ac.tmps.getD 216 undef = .int .i64 (k : Int) := hL.new 5 _ 216 rfl rfl rfl
                        obtain ⟨y217, e217⟩ : ∃ x, ac.tmps.getD 217 undef = x := ⟨_, rfl⟩
                        have hn18 := hL.new 7 _ 18 rfl rfl rfl
                        obtain ⟨vnx, e18⟩ : ∃ x, ac.tmps.getD 18 undef = x := ⟨_, rfl⟩
                        rw [e18] at hn18
                        have Hvnx : Aside (Sl V40dn 1 eI vnx (SQ (p + 1))) := hn18
                        clear hn18
                        have es := hL.sets [211, 212, 213, 214, 215, 216, 217, 18] (by decide +kernel)
                        rw [List.foldl_cons, List.foldl_cons, List.foldl_cons, List.foldl_cons, List.foldl_cons, List.foldl_cons, List.foldl_cons, List.foldl_cons, List.foldl_nil, e211, e212, e213, e214, e215, e216, e217, e18] at es
                        have BN : Below W7.heap.size W7 V40dn := hL.cls
                        rw [es]
                        clear es hL e211 e212 e213 e214 e215 e216 e217 e18
                        refine wpAny_done (by decide +kernel) ?_ _
                        simp only [List.setIfInBounds_toArray, List.set_cons_zero, List.set_cons_succ]
                        go_wp2_with fail
                        go_roundg (501 - (p + 1))
                        case measure => omega
                        case rel => exact ⟨p + 1, _, -1, by omega, by omega, by go_num, rfl, rfl, Hvnx.out, .inl ⟨rfl, by rw [HF2.out, if_neg (show ¬ L < mp by omega)]⟩, HBX1.out.trans (BN.mono HBX1.out.size)⟩
                   ·
                    have hre : r = lv := by
                     rw [HLV.out]
                     rcases HF.out with ⟨h1, h2⟩ | ⟨h1, h2⟩
                     ·
                      have : p = 501 := by omega
                      subst this
                      rw [h2, h1]; rfl
                     ·
                      exact h2.symm
                    have hr1 : (p : Int) ≤ 500 → ¬ r < 0 := by intro h; omega
                    subst hre
                    clear HF
                    replace bc0 := keepc hbx bc0
                    replace bc1 := keepc hbx bc1
                    replace bc2 := keepc hbx bc2
                    replace bc3 := keepc hbx bc3
                    replace bc4 := keepc hbx bc4
                    replace bc5 := keepc hbx bc5
                    replace wc0 := keepc hbx wc0
                    replace wc1 := keepc hbx wc1
                    replace wc2 := keepc hbx wc2
                    replace wc3 := keepc hbx wc3
                    replace BU : Aside (Below w.heap.size w wr) := BU.out.trans (hbx.mono BU.out.size)
                    clear hbx HBX HU
                    by_cases hp5 : (p : Int) ≤ 500
                    ·
                     have hr2 := hr1 hp5
                     go_wp2_with fail
                     refine (HKN.out _).mono ?_
                     rintro e W6 ⟨rfl, hb6⟩
                     replace bc0 := keepc hb6 bc0
                     replace bc1 := keepc hb6 bc1
                     replace bc2 := keepc hb6 bc2
                     replace bc3 := keepc hb6 bc3
                     replace bc4 := keepc hb6 bc4
                     replace bc5 := keepc hb6 bc5
                     replace wc0 := keepc hb6 wc0
                     replace wc1 := keepc hb6 wc1
                     replace wc2 := keepc hb6 wc2
                     replace wc3 := keepc hb6 wc3
                     replace BU : Aside (Below w.heap.size w W6) := BU.out.trans (hb6.mono BU.out.size)
                     clear hb6
                     go_wp2_with fail
                     go_ret
                     exact ⟨rfl, BU.out⟩
                    ·
                     skip
                     go_wp2_with fail
                     refine (HKN.out _).mono ?_
                     rintro e W6 ⟨rfl, hb6⟩
                     replace bc0 := keepc hb6 bc0
                     replace bc1 := keepc hb6 bc1
                     replace bc2 := keepc hb6 bc2
                     replace bc3 := keepc hb6 bc3
                     replace bc4 := keepc hb6 bc4
                     replace bc5 := keepc hb6 bc5
                     replace wc0 := keepc hb6 wc0
                     replace wc1 := keepc hb6 wc1
                     replace wc2 := keepc hb6 wc2
                     replace wc3 := keepc hb6 wc3
                     replace BU : Aside (Below w.heap.size w W6) := BU.out.trans (hb6.mono BU.out.size)
                     clear hb6
                     go_wp2_with fail
                     go_ret
                     exact ⟨rfl, BU.out⟩
end Go.Proofs.YtgceffpkhmjmkaaGreat

namespace Go.Proofs.YtgceffpkhmjmkaaGreat
open Go.ChangeShapes Go.WideShapes Go.ChangeAt Go.RowKit Go.Joins

section
variable {H : Type} {enc : TypeId × Value → H} {w : World} {base : Nat} {held : Bool} {fuel : Nat} {cs : List Value} {y : DataW H × List MemPlace}

/-- A slice of slices of ints, read. -/
theorem rows_open (h : DataW.trod enc Tryz.prog w base (fun _ => true) held fuel 54 cs = some y) : ∃ (v : Value) (ws : List (Value × List Int)), cs = [v] ∧ Sl w 1 eR v ws ∧ ∀ x ∈ ws, Sl w 1 eI x.1 x.2 := by
  rcases Go.Deep.open_int_rows Tryz.underlying54 Tryz.underlying24 Tryz.underlying3 (by kernel_rfl) (by kernel_rfl) h with ⟨hcs, _⟩ | ⟨a, len, cap, A, L, C, Z, hcs, _, hl, hm, _, hr⟩
  · exact ⟨_, [], hcs, ⟨none, 0, rfl, by simp, fun h => absurd rfl h⟩, by simp⟩
  · refine ⟨_, (List.range len).map fun r => (.slice (A r) (L r) (C r), (Z r).take (L r)), hcs, ⟨some a, cap, by simp, ?_, ?_⟩, ?_⟩
    · simp; unfold maxLen at hm; omega
    · intro hne
      have hp : 0 < len := by
        rcases Nat.eq_zero_or_pos len with h0 | h0
        · subst h0; simp at hne
        · exact h0
      obtain ⟨b, off, spot⟩ := a
      have hspot : spot = none := by simpa [Addr.add] using World.cell?_spot (hr 0 (by omega)).1
      subst hspot
      refine ⟨b, off, rfl, World.block_lt_of_cell? w _ (hr 0 (by omega)).1, ?_⟩
      intro j x hx i u hu
      rw [List.getElem?_map] at hx
      have hj : j < len := by
        rcases Nat.lt_or_ge j len with h | h
        · exact h
        · rw [List.getElem?_eq_none (by simpa using h)] at hx; cases hx
      rw [List.getElem?_range hj] at hx
      simp at hx; subst hx
      have g0 := (hr j (by omega)).1
      rw [add_plain] at g0
      match i, hu with
      | 0, hu => simp [eR] at hu; subst hu; rw [Nat.mul_one, Nat.add_zero]; exact g0
      | i + 1, hu => simp [eR] at hu
    · intro x hx
      obtain ⟨r, hr0, rfl⟩ := List.mem_map.1 hx
      have hrl := List.mem_range.1 hr0
      obtain ⟨_, hLC, hCm, hZ, _, hnone, hcell⟩ := hr r (by omega)
      have hle : ((Z r).take (L r)).length = L r := by rw [List.length_take]; omega
      refine ⟨A r, C r, by rw [hle], by rw [hle]; unfold maxLen at hCm; omega, ?_⟩
      intro hne
      have hLp : 0 < L r := by
        rcases Nat.eq_zero_or_pos (L r) with h0 | h0
        · simp only [] at hne; rw [h0] at hne; simp at hne
        · exact h0
      cases hA : A r with
      | none => have := hnone hA; omega
      | some a' =>
        obtain ⟨_, hc⟩ := hcell a' hA
        obtain ⟨b', off', spot'⟩ := a'
        have hspot : spot' = none := by simpa [Addr.add] using World.cell?_spot (hc 0 (by omega))
        subst hspot
        refine ⟨b', off', rfl, World.block_lt_of_cell? w _ (hc 0 (by omega)), ?_⟩
        intro j u hu i q hq
        match i, hq with
        | 0, hq =>
          simp at hq; subst hq
          have hj : j < L r := by have := (List.getElem?_eq_some_iff.1 hu).1; simp only [] at this; rwa [hle] at this
          have g0 := hc j (by omega)
          rw [add_plain] at g0
          rw [Nat.mul_one, Nat.add_zero, g0]
          simp only [] at hu
          rw [List.getElem?_take_of_lt hj] at hu
          rw [List.getD_eq_getElem?_getD, hu]; rfl
        | i + 1, hq => simp at hq

/-- Wear, weeks, a turn and a limit, read. -/
theorem wore_open (h : DataW.trod enc Tryz.prog w base (fun _ => true) held fuel 56 cs = some y) :
    ∃ (vs : Array Value) (worn : List Int) (ws : List (Value × List Int)) (K L : Int), cs = vs.toList ∧ WoreAt w (.agg vs) worn ws K L := by
  obtain ⟨xs, m, rfl, _, hl, hx, hf⟩ := DataW.trod_struct Tryz.underlying56 h
  obtain ⟨c0, c1, c2, c3, rfl⟩ := fs_list4 (hl.trans (by kernel_rfl))
  have e1 : Tryz.prog.cellsOf 3 = 1 := by kernel_rfl
  have e2 : Tryz.prog.cellsOf 24 = 1 := by kernel_rfl
  have e3 : Tryz.prog.cellsOf 54 = 1 := by kernel_rfl
  have f0 := hf 0 _ rfl
  have f1 := hf 1 _ rfl
  have f2 := hf 2 _ rfl
  have f3 := hf 3 _ rfl
  have hx4 : xs.length = 4 := hx
  obtain ⟨y0, g0⟩ := fs_get hx4 (show 0 < 4 by omega)
  obtain ⟨y1, g1⟩ := fs_get hx4 (show 1 < 4 by omega)
  obtain ⟨y2, g2⟩ := fs_get hx4 (show 2 < 4 by omega)
  obtain ⟨y3, g3⟩ := fs_get hx4 (show 3 < 4 by omega)
  rw [g0] at f0
  rw [g1] at f1
  rw [g2] at f2
  rw [g3] at f3
  simp [e1, e2, e3] at f0 f1 f2 f3
  obtain ⟨v0, worn, h0, s0, _⟩ := ints_open f0
  obtain ⟨v1, ws, h1, s1, s2⟩ := rows_open f1
  obtain ⟨K, h2, _⟩ := z_open f2
  obtain ⟨L, h3, _⟩ := z_open f3
  simp at h0 h1 h2 h3
  subst h0 h1 h2 h3
  exact ⟨#[c0, c1, .int .i64 K, .int .i64 L], worn, ws, K, L, rfl, c0, c1, rfl, s0, s1, s2⟩
end

set_option maxRecDepth 100000 in
theorem plans_lifted (os : Os) (started : os.Started) (H : Type) (enc : TypeId × Value → H) :
    ReturnsInHanded {} Tryz.checked os 6 .any (Rows.boardPlansSpec.pre6 enc Tryz.prog Tryz.f6 Rows.boardPlansRow.domain false) (Rows.boardPlansSpec.post enc Tryz.prog Tryz.f6 false true false false) := by
  refine returnsInHanded_of_change (C := Tryz.checked) fr_own started (by kernel_rfl) Tryz.func6
    (ChangeSpec.witness6 (enc := enc) (C := Tryz.checked) false ⟨#[], #[.agg #[.int .i64 0, .int .i64 0, .slice none 0 0, .slice none 0 0, .slice none 0 0, .int .i64 0], .agg #[.slice none 0 0, .slice none 0 0, .int .i64 0, .int .i64 0]], []⟩ 8 (by kernel_rfl) (by kernel_rfl) (by kernel_rfl) (by kernel_rfl)) ?_
  intro W base args ds gs before hval0 hW hcnd _
  have hval : ∀ (j : Nat) t v, Tryz.f6.params[j]? = some t → args[j]? = some v → Value.okWide Tryz.prog W .any base t v := hval0
  have hW' := hW
  obtain ⟨p, q, hA0, hV, rfl, hfz, hnd⟩ := hW
  have hA : DataW.TrodAll enc Tryz.prog W 0 (fun _ => true) true Tryz.f6.params.toList args.toList ds p := hA0
  rw [Tryz.params6] at hA hval
  obtain ⟨v0, vs0, d0, ds0, p0, q0, hargs, rfl, rfl, h0, r0⟩ := trodAll_cons hA
  obtain ⟨v1, vs1, d1, ds1, p1, q1, rfl, rfl, rfl, h1, r1⟩ := trodAll_cons r0
  obtain ⟨rfl, rfl, rfl⟩ := trodAll_nil r1
  obtain rfl : args = #[v0, v1] := by cases args; simp_all
  obtain ⟨rfl, rfl⟩ := trodVars_none hV
  obtain ⟨cs0, rfl, _⟩ := okWide_struct Tryz.underlying26 (hval 0 26 v0 rfl rfl)
  obtain ⟨cs1, rfl, _⟩ := okWide_struct Tryz.underlying56 (hval 1 56 v1 rfl rfl)
  have k0 := h0
  have k1 := h1
  have lt0 : ∀ x ∈ p0, x.block < W.heap.size := by obtain ⟨m, hm⟩ := k0; exact DataW.trod_lt m _ _ _ hm
  have lt1 : ∀ x ∈ p1, x.block < W.heap.size := by obtain ⟨m, hm⟩ := k1; exact DataW.trod_lt m _ _ _ hm
  obtain ⟨b, hb⟩ : ∃ b, BrdAt W (.agg cs0) b := by
    obtain ⟨m, hm⟩ := h0
    obtain ⟨vs, b, e0, r⟩ := board_open hm
    exact ⟨b, by rw [show cs0 = vs from Array.toList_inj.1 (by simpa [Value.cells] using e0)]; exact r⟩
  obtain ⟨worn, ws, K, L, hwo⟩ : ∃ worn ws K L, WoreAt W (.agg cs1) worn ws K L := by
    obtain ⟨m, hm⟩ := h1
    obtain ⟨vs, worn, ws, K, L, e0, r⟩ := wore_open hm
    exact ⟨worn, ws, K, L, by rw [show cs1 = vs from Array.toList_inj.1 (by simpa [Value.cells] using e0)]; exact r⟩
  clear hA0 hval0
  refine (plans_law _ _ b worn ws K L W hb hwo).mono fun e W' hRet => ?_
  obtain ⟨he, bel⟩ := hRet
  subst he
  exact ⟨_, rfl, _, _, _, [], _, [], hW', trodAll_mk1 (shut_bool Tryz.underlying4 _), (trodAll_cons_mk (Below.trod fr_laid (by kernel_rfl) (of_decide_eq_true (by kernel_rfl)) k0 bel lt0) (trodAll_cons_mk (Below.trod fr_laid (by kernel_rfl) (of_decide_eq_true (by kernel_rfl)) k1 bel lt1) trodAll_mk0)), rfl, bel.frame _, fun h => by cases h⟩

theorem plans_over : Rows.boardPlansRow.holds Tryz.pinned (OpenSpec.ofChange Rows.boardPlansSpec) :=
  OpenClaim.holds_of_wide 6 Tryz.f6 rfl rfl rfl rfl rfl rfl rfl ⟨rfl, rfl, rfl, rfl, rfl⟩ rfl rfl rfl rfl rfl (by kernel_rfl) Tryz.func6 (by kernel_rfl)
    (of_decide_eq_true (by kernel_rfl)) (by unfold Func.isWrapper; rw [if_neg (of_decide_eq_false (by kernel_rfl))]; exact ⟨rfl, rfl⟩)
    (fun os started H enc _ => plans_lifted os started H enc)

theorem plans_proved : Rows.BoardPlansSaid := plans_over
#print axioms plans_proved
end Go.Proofs.YtgceffpkhmjmkaaGreat
