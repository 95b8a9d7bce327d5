/- Leg, part S: a leg as data, and how it lies in memory; a leg before the first visit. -/
import Derived.Test.YthcgbceapabikaaQ
import Derived.Test.YthcgbceapabikaaRt
import Derived.Test.YthcgbceapabikaaK
import Derived.Deep.RegionLaw
import Derived.Deep.OwnRows
set_option linter.unusedVariables false
set_option linter.unusedSimpArgs false
namespace Go.Proofs.Ythcgbceapabikaa
open Go.RowKit Go.Maps Go.Sort Go.Shelf

/-- The rules of a leg. -/
structure LegR where
  counts : List Cnt
  first : Int
  rounds : Int
  equal : Bool
/-- A leg while it is played. -/
structure LegG where
  left : List Int
  darts : List Int
  inn : List Bool
  next : Int
  round : Int
  over : Bool
  wins : List Int
  ended : List (Int × Int)
def beginG (r : LegR) : LegG := ⟨r.counts.map (·.1), r.counts.map (fun _ => 0), r.counts.map (fun c => c.2.1 == 0), r.first, 0, false, [], []⟩

/-- Elements vs stand in block g, one cell each. -/
def Row (w : World) (g : Nat) (T : TypeId) (vs : List Value) : Prop := ∃ cur, w.heap[g]? = some (.cells cur T (0, 0)) ∧ vs.length ≤ cur.size ∧ cur.toList.take vs.length = vs
theorem Row.lt {w : World} {g : Nat} {T : TypeId} {vs : List Value} (h : Row w g T vs) : g < w.heap.size := by obtain ⟨cur, h, _⟩ := h; exact (Array.getElem?_eq_some_iff.1 h).1
theorem Row.cell {w : World} {g : Nat} {T : TypeId} {vs : List Value} (h : Row w g T vs) {i : Nat} {x : Value} (hx : vs[i]? = some x) : w.cell? ⟨g, i, none⟩ = some x := by
  obtain ⟨cur, h, h1, h2⟩ := h
  refine blk_cell h ?_
  rw [← h2] at hx
  rw [List.getElem?_take] at hx
  split at hx
  · simpa using hx
  · cases hx
theorem Row.free {w : World} {g : Nat} {T : TypeId} {vs : List Value} (h : Row w g T vs) (i : Nat) : w.frozen? ⟨g, i, none⟩ = false := by
  obtain ⟨cur, h, _⟩ := h
  exact blk_free h i
theorem Row.set {w : World} {g : Nat} {T : TypeId} {vs : List Value} (h : Row w g T vs) (i : Nat) (x : Value) (hi : i < vs.length) : Row (w.setCell ⟨g, i, none⟩ x) g T (vs.set i x) := by
  obtain ⟨cur, h, h1, h2⟩ := h
  refine ⟨cur.setIfInBounds i x, Go.Joins.block_setCell h x, by simpa using h1, ?_⟩
  rw [List.length_set, Array.toList_setIfInBounds, List.take_set, h2]
theorem Row.same {w w' : World} {g : Nat} {T : TypeId} {vs : List Value} (h : Row w g T vs) (hb : w'.heap[g]? = w.heap[g]?) : Row w' g T vs := by
  obtain ⟨cur, h, h1⟩ := h
  exact ⟨cur, hb.trans h, h1⟩
theorem Row.sl {α : Type} {w : World} {g : Nat} {T : TypeId} {enc : α → Value} {xs : List α} (h : Row w g T (xs.map enc)) (hl : xs.length ≤ 9223372036854775807) (c : Nat) : Sl w 1 (fun x => [enc x]) (.slice (some ⟨g, 0, none⟩) xs.length c) xs :=
  ⟨_, c, rfl, hl, fun _ => ⟨g, 0, rfl, h.lt, fun j x hx i y hy => by
    match i, hy with
    | 0, hy =>
      simp at hy; subst hy
      rw [Nat.mul_one, Nat.zero_add, Nat.add_zero]
      exact h.cell (by rw [List.getElem?_map, hx]; rfl)
    | i + 1, hy => simp at hy⟩⟩

/-- All blocks but some are as they were. -/
structure Outs (S : List Nat) (w w' : World) : Prop where
  os : w'.os = w.os
  tape : w'.tape = w.tape
  output : w'.output = w.output
  size : w.heap.size ≤ w'.heap.size
  block : ∀ k, k ∉ S → k < w.heap.size → w'.heap[k]? = w.heap[k]?
theorem Outs.refl (S : List Nat) (w : World) : Outs S w w := ⟨rfl, rfl, rfl, Nat.le_refl _, fun _ _ _ => rfl⟩
theorem Outs.trans {S : List Nat} {a b c : World} (h : Outs S a b) (k : Outs S b c) : Outs S a c :=
  ⟨k.os.trans h.os, k.tape.trans h.tape, k.output.trans h.output, Nat.le_trans h.size k.size, fun i h1 h2 => (k.block i h1 (Nat.lt_of_lt_of_le h2 h.size)).trans (h.block i h1 h2)⟩
theorem Outs.of_below {S : List Nat} {w w' : World} (h : Below w.heap.size w w') : Outs S w w' := ⟨h.os, h.tape, h.output, h.size, fun k _ hk => h.block k hk⟩
theorem Outs.set {S : List Nat} {V : Nat} (hV : V ∈ S) (i : Nat) (w : World) (x : Value) : Outs S w (w.setCell ⟨V, i, none⟩ x) := ⟨rfl, rfl, rfl, by simp [World.setCell], fun k hk _ => Below.heap_setCell _ _ _ _ (fun e => hk (by rw [e]; exact hV))⟩
theorem Outs.grown {S : List Nat} {w w' : World} {V : Nat} (h : w.grownBy w' (some V)) (hV : V ∈ S) : Outs S w w' := ⟨h.os, h.tape, h.output, h.size, fun k hk hl => h.block k hl (fun e => hk (by cases e; exact hV))⟩
theorem Outs.mono {S T : List Nat} {w w' : World} (h : Outs S w w') (hs : ∀ k ∈ S, k ∈ T) : Outs T w w' := ⟨h.os, h.tape, h.output, h.size, fun k hk hl => h.block k (fun hm => hk (hs k hm)) hl⟩
theorem Outs.below {S : List Nat} {w w' : World} {B : Nat} (h : Outs S w w') (hS : ∀ k ∈ S, B ≤ k) (hB : B ≤ w.heap.size) : Below B w w' := ⟨h.os, h.tape, h.output, h.size, fun k hk => h.block k (fun hm => by have := hS k hm; omega) (by omega)⟩
theorem Only.outs {S : List Nat} {V : Nat} {w w' : World} (h : Only V w w') (hV : V ∈ S) : Outs S w w' := ⟨h.os, h.tape, h.output, h.size, fun k hk hl => h.block k (fun e => hk (by rw [e]; exact hV)) hl⟩
/-- A slice that lies in none of these blocks. -/
theorem Outs.sl {α : Type} {S : List Nat} {w w' : World} {k : Nat} {enc : α → List Value} {v : Value} {xs : List α} (h : Outs S w w') (hs : Sl w k enc v xs) (hS : ∀ g o n c, v = .slice (some ⟨g, o, none⟩) n c → g ∉ S) : Sl w' k enc v xs := by
  obtain ⟨a, c, rfl, hl, hs⟩ := hs
  refine ⟨a, c, rfl, hl, fun hne => ?_⟩
  obtain ⟨b, off, rfl, hb, hc⟩ := hs hne
  exact ⟨b, off, rfl, Nat.lt_of_lt_of_le hb h.size, fun j x hx i y hy => by
    have := hc j x hx i y hy
    exact (World.cell?_of_block (w := w) (a := ⟨b, off + j * k + i, none⟩) (h.block b (hS b off _ _ rfl) hb)).trans this⟩

/-- The slice that has a row. -/
abbrev rowV (g n c : Nat) : Value := .slice (some ⟨g, 0, none⟩) n c

/-- A leg in memory: in block V the struct; in gl, gd, gi, M its slices and its map. -/
structure LegW (w : World) (V gl gd gi M cl cd ci nn : Nat) (vc vw : Value) (D : DataW Unit) (r : LegR) (g : LegG) : Prop where
  blk : w.heap[V]? = some (.cells #[vc, .int .i64 r.first, .int .i64 r.rounds, .bool r.equal, rowV gl r.counts.length cl, rowV gd r.counts.length cd, rowV gi r.counts.length ci, .int .i64 g.next, .int .i64 g.round, .bool g.over, vw, .map (some M)] 118 (0, 0))
  left : Row w gl 3 (g.left.map (Value.int .i64))
  darts : Row w gd 3 (g.darts.map (Value.int .i64))
  inn : Row w gi 4 (g.inn.map Value.bool)
  own : OwnM w M nn D
  rep : Rep D g.ended
  counts : Sl w 3 encC vc r.counts
  wins : Sl w 1 eI vw g.wins
  l1 : g.left.length = r.counts.length
  l2 : g.darts.length = r.counts.length
  l3 : g.inn.length = r.counts.length
  d1 : V ∉ [gl, gd, gi, M]
  d2 : gl ∉ [gd, gi, M]
  d3 : gd ∉ [gi, M]
  d4 : gi ≠ M
  cout : ∀ b o n c, vc = .slice (some ⟨b, o, none⟩) n c → b ∉ [V, gl, gd, gi, M]
  wout : ∀ b o n c, vw = .slice (some ⟨b, o, none⟩) n c → b ∉ [V, gl, gd, gi, M]
end Go.Proofs.Ythcgbceapabikaa
