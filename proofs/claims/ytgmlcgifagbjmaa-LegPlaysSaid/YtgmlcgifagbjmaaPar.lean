/- Leg: parts Ec. -/
import Derived.Maps.AppendAt
import Derived.Test.YtgmlcgifagbjmaaPaq
set_option linter.unusedVariables false
set_option linter.unusedSimpArgs false
namespace Go.Proofs.Ytgmlcgifagbjmaa
section
open Go.RowKit Go.Maps Go.Sort Go.Shelf Go.Deep
/-- The reference's leg, but for its lists. -/
structure RG where
 next : Int
 round : Int
 over : Bool
 last : Nat → Int
 done : Int
abbrev rgC (g : RG) (vl vd vi vw ve : Value) : Array Value := #[vl, vd, vi, .int .i64 g.next, .int .i64 g.round, .bool g.over, vw, ve, .int .i64 (g.last 0), .int .i64 (g.last 1), .int .i64 (g.last 2), .int .i64 (g.last 3), .int .i64 (g.last 4), .int .i64 (g.last 5), .int .i64 (g.last 6), .int .i64 (g.last 7), .int .i64 g.done]
def zeroC : Array Value := #[.slice none 0 0, .slice none 0 0, .slice none 0 0, .int .i64 0, .int .i64 0, .bool false, .slice none 0 0, .slice none 0 0, .int .i64 0, .int .i64 0, .int .i64 0, .int .i64 0, .int .i64 0, .int .i64 0, .int .i64 0, .int .i64 0, .int .i64 0]
/-- The block of a leg. -/
def RgB (w : World) (B : Nat) (cs : Array Value) : Prop := w.heap[B]? = some (.cells cs 108 (0, 0))
/-- Numbers of players as the program's. -/
def cI (ps : List Nat) : List Int := ps.map fun (i : Nat) => (i : Int)
theorem mem_cI {ps : List Nat} {k : Nat} : (k : Int) ∈ cI ps ↔ k ∈ ps := by
 unfold cI
 rw [List.mem_map]
 constructor
 ·rintro ⟨a, h, e⟩; have h2 : a = k := by omega
  rw [← h2]; exact h
 ·exact fun h => ⟨k, h, rfl⟩
/-- The least number of players. -/
def loW (ps : List Nat) (ns : List Int) (k : Nat) : Int := ((ps.take k).map fun p => ns.getD p 0).foldl min (ns.getD (ps.headD 0) 0)
/-- The players below k who have the least number. -/
def ovK (ps : List Nat) (ns : List Int) (L : Int) (k : Nat) : List Nat := (List.range k).filter fun p => decide (p ∈ ps) && decide (ns.getD p 0 = L)
theorem ovK_step (ps : List Nat) (ns : List Int) (L : Int) (k : Nat) : ovK ps ns L (k + 1) = ovK ps ns L k ++ (if (decide (k ∈ ps) && decide (ns.getD k 0 = L)) = true then [k] else []) := by
 unfold ovK
 rw [List.range_succ, List.filter_append]
 by_cases h : (decide (k ∈ ps) && decide (ns.getD k 0 = L)) = true
 ·rw [if_pos h, List.filter_cons_of_pos (by simpa using h), List.filter_nil]
 ·rw [if_neg h, List.filter_cons_of_neg (by simpa using h), List.filter_nil]
theorem ovK_len (ps : List Nat) (ns : List Int) (L : Int) (k : Nat) : (ovK ps ns L k).length ≤ k := by
 unfold ovK
 exact Nat.le_trans (List.length_filter_le _ _) (by simp)
/-- Who has won. -/
def overW (ps : List Nat) (ns : List Int) : List Nat := ovK ps ns (loW ps ns ps.length) ns.length
theorem cI_map (l : List Nat) (k : Nat) : (cI (l ++ [k])).map (Value.int .i64) = (cI l).map (Value.int .i64) ++ [.int .i64 (k : Int)] := by
 unfold cI; rw [List.map_append, List.map_append]; rfl
theorem cI_len (l : List Nat) : (cI l).length = l.length := List.length_map _
theorem over_kept {w w7 w8 : World} {v : Value} {n : Nat} {xs : List Value} {g : RG} {vl vd vi ve x : Value} {T : TypeId} (ho : w7.ownsRow (w.heap.size + 2) 3 1 v n xs) (hg : (w7.alloc (.cells #[x] T)).grownBy w8 v.ownBlock)
  (hb : RgB w7 w.heap.size (rgC g vl vd vi v ve) ∧ RgB w7 (w.heap.size + 1) zeroC) (hw : Below w.heap.size w w7 ∧ w.heap.size + 2 ≤ w7.heap.size) :
  RgB w8 w.heap.size (rgC g vl vd vi v ve) ∧ RgB w8 (w.heap.size + 1) zeroC ∧ Below w.heap.size w w8 ∧ w.heap.size + 2 ≤ w8.heap.size := by
 have B : Below (w.heap.size + 2) w7 w8 := ((Below.refl (w.heap.size + 2) w7).alloc hw.2 _).grown hg (by have := hw.2; simp; omega) (fun j hj => (ho.lt j hj).1)
 exact ⟨(B.block _ (by omega)).trans hb.1, (B.block _ (by omega)).trans hb.2, hw.1.trans (B.mono (by omega)), Nat.le_trans hw.2 B.size⟩
theorem owns_sl {w : World} {b : Nat} {e : TypeId} {v : Value} {n : Nat} {xs : List Value} (h : w.ownsRow b e 1 v n xs) : ∃ a c, v = .slice a n c := by
 rcases h.2 with ⟨h0, h1⟩ | ⟨g, cap, cur, e, _⟩
 ·exact ⟨_, _, by rw [h0, h1]⟩
 ·exact ⟨_, _, e⟩
/-- A leg is written over a block. -/
def set17 (W : World) (R : Nat) (x0 x1 x2 x3 x4 x5 x6 x7 x8 x9 x10 x11 x12 x13 x14 x15 x16 : Value) : World := (((((((((((((((((W.setCell ⟨R, 0, none⟩ x0).setCell ⟨R, 1, none⟩ x1).setCell ⟨R, 2, none⟩ x2).setCell ⟨R, 3, none⟩ x3).setCell ⟨R, 4, none⟩ x4).setCell ⟨R, 5, none⟩ x5).setCell ⟨R, 6, none⟩ x6).setCell ⟨R, 7, none⟩ x7).setCell ⟨R, 8, none⟩ x8).setCell ⟨R, 9, none⟩ x9).setCell ⟨R, 10, none⟩ x10).setCell ⟨R, 11, none⟩ x11).setCell ⟨R, 12, none⟩ x12).setCell ⟨R, 13, none⟩ x13).setCell ⟨R, 14, none⟩ x14).setCell ⟨R, 15, none⟩ x15).setCell ⟨R, 16, none⟩ x16)
set_option maxRecDepth 100000 in
theorem rg17 {W : World} {R : Nat} {y0 y1 y2 y3 y4 y5 y6 y7 y8 y9 y10 y11 y12 y13 y14 y15 y16 : Value} (x0 x1 x2 x3 x4 x5 x6 x7 x8 x9 x10 x11 x12 x13 x14 x15 x16 : Value) (h : RgB W R #[y0, y1, y2, y3, y4, y5, y6, y7, y8, y9, y10, y11, y12, y13, y14, y15, y16]) : RgB (set17 W R x0 x1 x2 x3 x4 x5 x6 x7 x8 x9 x10 x11 x12 x13 x14 x15 x16) R #[x0, x1, x2, x3, x4, x5, x6, x7, x8, x9, x10, x11, x12, x13, x14, x15, x16] := by
 unfold set17
 have z0 : RgB (W.setCell ⟨R, 0, none⟩ x0) R #[x0, y1, y2, y3, y4, y5, y6, y7, y8, y9, y10, y11, y12, y13, y14, y15, y16] := Go.Joins.block_setCell (i := 0) h x0
 have z1 : RgB ((W.setCell ⟨R, 0, none⟩ x0).setCell ⟨R, 1, none⟩ x1) R #[x0, x1, y2, y3, y4, y5, y6, y7, y8, y9, y10, y11, y12, y13, y14, y15, y16] := Go.Joins.block_setCell (i := 1) z0 x1
 have z2 : RgB (((W.setCell ⟨R, 0, none⟩ x0).setCell ⟨R, 1, none⟩ x1).setCell ⟨R, 2, none⟩ x2) R #[x0, x1, x2, y3, y4, y5, y6, y7, y8, y9, y10, y11, y12, y13, y14, y15, y16] := Go.Joins.block_setCell (i := 2) z1 x2
 have z3 : RgB ((((W.setCell ⟨R, 0, none⟩ x0).setCell ⟨R, 1, none⟩ x1).setCell ⟨R, 2, none⟩ x2).setCell ⟨R, 3, none⟩ x3) R #[x0, x1, x2, x3, y4, y5, y6, y7, y8, y9, y10, y11, y12, y13, y14, y15, y16] := Go.Joins.block_setCell (i := 3) z2 x3
 have z4 : RgB (((((W.setCell ⟨R, 0, none⟩ x0).setCell ⟨R, 1, none⟩ x1).setCell ⟨R, 2, none⟩ x2).setCell ⟨R, 3, none⟩ x3).setCell ⟨R, 4, none⟩ x4) R #[x0, x1, x2, x3, x4, y5, y6, y7, y8, y9, y10, y11, y12, y13, y14, y15, y16] := Go.Joins.block_setCell (i := 4) z3 x4
 have z5 : RgB ((((((W.setCell ⟨R, 0, none⟩ x0).setCell ⟨R, 1, none⟩ x1).setCell ⟨R, 2, none⟩ x2).setCell ⟨R, 3, none⟩ x3).setCell ⟨R, 4, none⟩ x4).setCell ⟨R, 5, none⟩ x5) R #[x0, x1, x2, x3, x4, x5, y6, y7, y8, y9, y10, y11, y12, y13, y14, y15, y16] := Go.Joins.block_setCell (i := 5) z4 x5
 have z6 : RgB (((((((W.setCell ⟨R, 0, none⟩ x0).setCell ⟨R, 1, none⟩ x1).setCell ⟨R, 2, none⟩ x2).setCell ⟨R, 3, none⟩ x3).setCell ⟨R, 4, none⟩ x4).setCell ⟨R, 5, none⟩ x5).setCell ⟨R, 6, none⟩ x6) R #[x0, x1, x2, x3, x4, x5, x6, y7, y8, y9, y10, y11, y12, y13, y14, y15, y16] := Go.Joins.block_setCell (i := 6) z5 x6
 have z7 : RgB ((((((((W.setCell ⟨R, 0, none⟩ x0).setCell ⟨R, 1, none⟩ x1).setCell ⟨R, 2, none⟩ x2).setCell ⟨R, 3, none⟩ x3).setCell ⟨R, 4, none⟩ x4).setCell ⟨R, 5, none⟩ x5).setCell ⟨R, 6, none⟩ x6).setCell ⟨R, 7, none⟩ x7) R #[x0, x1, x2, x3, x4, x5, x6, x7, y8, y9, y10, y11, y12, y13, y14, y15, y16] := Go.Joins.block_setCell (i := 7) z6 x7
 have z8 : RgB (((((((((W.setCell ⟨R, 0, none⟩ x0).setCell ⟨R, 1, none⟩ x1).setCell ⟨R, 2, none⟩ x2).setCell ⟨R, 3, none⟩ x3).setCell ⟨R, 4, none⟩ x4).setCell ⟨R, 5, none⟩ x5).setCell ⟨R, 6, none⟩ x6).setCell ⟨R, 7, none⟩ x7).setCell ⟨R, 8, none⟩ x8) R #[x0, x1, x2, x3, x4, x5, x6, x7, x8, y9, y10, y11, y12, y13, y14, y15, y16] := Go.Joins.block_setCell (i := 8) z7 x8
 have z9 : RgB ((((((((((W.setCell ⟨R, 0, none⟩ x0).setCell ⟨R, 1, none⟩ x1).setCell ⟨R, 2, none⟩ x2).setCell ⟨R, 3, none⟩ x3).setCell ⟨R, 4, none⟩ x4).setCell ⟨R, 5, none⟩ x5).setCell ⟨R, 6, none⟩ x6).setCell ⟨R, 7, none⟩ x7).setCell ⟨R, 8, none⟩ x8).setCell ⟨R, 9, none⟩ x9) R #[x0, x1, x2, x3, x4, x5, x6, x7, x8, x9, y10, y11, y12, y13, y14, y15, y16] := Go.Joins.block_setCell (i := 9) z8 x9
 have z10 : RgB (((((((((((W.setCell ⟨R, 0, none⟩ x0).setCell ⟨R, 1, none⟩ x1).setCell ⟨R, 2, none⟩ x2).setCell ⟨R, 3, none⟩ x3).setCell ⟨R, 4, none⟩ x4).setCell ⟨R, 5, none⟩ x5).setCell ⟨R, 6, none⟩ x6).setCell ⟨R, 7, none⟩ x7).setCell ⟨R, 8, none⟩ x8).setCell ⟨R, 9, none⟩ x9).setCell ⟨R, 10, none⟩ x10) R #[x0, x1, x2, x3, x4, x5, x6, x7, x8, x9, x10, y11, y12, y13, y14, y15, y16] := Go.Joins.block_setCell (i := 10) z9 x10
 have z11 : RgB ((((((((((((W.setCell ⟨R, 0, none⟩ x0).setCell ⟨R, 1, none⟩ x1).setCell ⟨R, 2, none⟩ x2).setCell ⟨R, 3, none⟩ x3).setCell ⟨R, 4, none⟩ x4).setCell ⟨R, 5, none⟩ x5).setCell ⟨R, 6, none⟩ x6).setCell ⟨R, 7, none⟩ x7).setCell ⟨R, 8, none⟩ x8).setCell ⟨R, 9, none⟩ x9).setCell ⟨R, 10, none⟩ x10).setCell ⟨R, 11, none⟩ x11) R #[x0, x1, x2, x3, x4, x5, x6, x7, x8, x9, x10, x11, y12, y13, y14, y15, y16] := Go.Joins.block_setCell (i := 11) z10 x11
 have z12 : RgB (((((((((((((W.setCell ⟨R, 0, none⟩ x0).setCell ⟨R, 1, none⟩ x1).setCell ⟨R, 2, none⟩ x2).setCell ⟨R, 3, none⟩ x3).setCell ⟨R, 4, none⟩ x4).setCell ⟨R, 5, none⟩ x5).setCell ⟨R, 6, none⟩ x6).setCell ⟨R, 7, none⟩ x7).setCell ⟨R, 8, none⟩ x8).setCell ⟨R, 9, none⟩ x9).setCell ⟨R, 10, none⟩ x10).setCell ⟨R, 11, none⟩ x11).setCell ⟨R, 12, none⟩ x12) R #[x0, x1, x2, x3, x4, x5, x6, x7, x8, x9, x10, x11, x12, y13, y14, y15, y16] := Go.Joins.block_setCell (i := 12) z11 x12
 have z13 : RgB ((((((((((((((W.setCell ⟨R, 0, none⟩ x0).setCell ⟨R, 1, none⟩ x1).setCell ⟨R, 2, none⟩ x2).setCell ⟨R, 3, none⟩ x3).setCell ⟨R, 4, none⟩ x4).setCell ⟨R, 5, none⟩ x5).setCell ⟨R, 6, none⟩ x6).setCell ⟨R, 7, none⟩ x7).setCell ⟨R, 8, none⟩ x8).setCell ⟨R, 9, none⟩ x9).setCell ⟨R, 10, none⟩ x10).setCell ⟨R, 11, none⟩ x11).setCell ⟨R, 12, none⟩ x12).setCell ⟨R, 13, none⟩ x13) R #[x0, x1, x2, x3, x4, x5, x6, x7, x8, x9, x10, x11, x12, x13, y14, y15, y16] := Go.Joins.block_setCell (i := 13) z12 x13
 have z14 : RgB (((((((((((((((W.setCell ⟨R, 0, none⟩ x0).setCell ⟨R, 1, none⟩ x1).setCell ⟨R, 2, none⟩ x2).setCell ⟨R, 3, none⟩ x3).setCell ⟨R, 4, none⟩ x4).setCell ⟨R, 5, none⟩ x5).setCell ⟨R, 6, none⟩ x6).setCell ⟨R, 7, none⟩ x7).setCell ⟨R, 8, none⟩ x8).setCell ⟨R, 9, none⟩ x9).setCell ⟨R, 10, none⟩ x10).setCell ⟨R, 11, none⟩ x11).setCell ⟨R, 12, none⟩ x12).setCell ⟨R, 13, none⟩ x13).setCell ⟨R, 14, none⟩ x14) R #[x0, x1, x2, x3, x4, x5, x6, x7, x8, x9, x10, x11, x12, x13, x14, y15, y16] := Go.Joins.block_setCell (i := 14) z13 x14
 have z15 : RgB ((((((((((((((((W.setCell ⟨R, 0, none⟩ x0).setCell ⟨R, 1, none⟩ x1).setCell ⟨R, 2, none⟩ x2).setCell ⟨R, 3, none⟩ x3).setCell ⟨R, 4, none⟩ x4).setCell ⟨R, 5, none⟩ x5).setCell ⟨R, 6, none⟩ x6).setCell ⟨R, 7, none⟩ x7).setCell ⟨R, 8, none⟩ x8).setCell ⟨R, 9, none⟩ x9).setCell ⟨R, 10, none⟩ x10).setCell ⟨R, 11, none⟩ x11).setCell ⟨R, 12, none⟩ x12).setCell ⟨R, 13, none⟩ x13).setCell ⟨R, 14, none⟩ x14).setCell ⟨R, 15, none⟩ x15) R #[x0, x1, x2, x3, x4, x5, x6, x7, x8, x9, x10, x11, x12, x13, x14, x15, y16] := Go.Joins.block_setCell (i := 15) z14 x15
 have z16 : RgB (((((((((((((((((W.setCell ⟨R, 0, none⟩ x0).setCell ⟨R, 1, none⟩ x1).setCell ⟨R, 2, none⟩ x2).setCell ⟨R, 3, none⟩ x3).setCell ⟨R, 4, none⟩ x4).setCell ⟨R, 5, none⟩ x5).setCell ⟨R, 6, none⟩ x6).setCell ⟨R, 7, none⟩ x7).setCell ⟨R, 8, none⟩ x8).setCell ⟨R, 9, none⟩ x9).setCell ⟨R, 10, none⟩ x10).setCell ⟨R, 11, none⟩ x11).setCell ⟨R, 12, none⟩ x12).setCell ⟨R, 13, none⟩ x13).setCell ⟨R, 14, none⟩ x14).setCell ⟨R, 15, none⟩ x15).setCell ⟨R, 16, none⟩ x16) R #[x0, x1, x2, x3, x4, x5, x6, x7, x8, x9, x10, x11, x12, x13, x14, x15, x16] := Go.Joins.block_setCell (i := 16) z15 x16
 exact z16
theorem outs17 (W : World) (R : Nat) (x0 x1 x2 x3 x4 x5 x6 x7 x8 x9 x10 x11 x12 x13 x14 x15 x16 : Value) : Outs [R] W (set17 W R x0 x1 x2 x3 x4 x5 x6 x7 x8 x9 x10 x11 x12 x13 x14 x15 x16) := by
 unfold set17
 have z0 : Outs [R] W (W.setCell ⟨R, 0, none⟩ x0) := (Outs.refl [R] W).trans (Outs.set (by simp) _ _ _)
 have z1 : Outs [R] W ((W.setCell ⟨R, 0, none⟩ x0).setCell ⟨R, 1, none⟩ x1) := z0.trans (Outs.set (by simp) _ _ _)
 have z2 : Outs [R] W (((W.setCell ⟨R, 0, none⟩ x0).setCell ⟨R, 1, none⟩ x1).setCell ⟨R, 2, none⟩ x2) := z1.trans (Outs.set (by simp) _ _ _)
 have z3 : Outs [R] W ((((W.setCell ⟨R, 0, none⟩ x0).setCell ⟨R, 1, none⟩ x1).setCell ⟨R, 2, none⟩ x2).setCell ⟨R, 3, none⟩ x3) := z2.trans (Outs.set (by simp) _ _ _)
 have z4 : Outs [R] W (((((W.setCell ⟨R, 0, none⟩ x0).setCell ⟨R, 1, none⟩ x1).setCell ⟨R, 2, none⟩ x2).setCell ⟨R, 3, none⟩ x3).setCell ⟨R, 4, none⟩ x4) := z3.trans (Outs.set (by simp) _ _ _)
 have z5 : Outs [R] W ((((((W.setCell ⟨R, 0, none⟩ x0).setCell ⟨R, 1, none⟩ x1).setCell ⟨R, 2, none⟩ x2).setCell ⟨R, 3, none⟩ x3).setCell ⟨R, 4, none⟩ x4).setCell ⟨R, 5, none⟩ x5) := z4.trans (Outs.set (by simp) _ _ _)
 have z6 : Outs [R] W (((((((W.setCell ⟨R, 0, none⟩ x0).setCell ⟨R, 1, none⟩ x1).setCell ⟨R, 2, none⟩ x2).setCell ⟨R, 3, none⟩ x3).setCell ⟨R, 4, none⟩ x4).setCell ⟨R, 5, none⟩ x5).setCell ⟨R, 6, none⟩ x6) := z5.trans (Outs.set (by simp) _ _ _)
 have z7 : Outs [R] W ((((((((W.setCell ⟨R, 0, none⟩ x0).setCell ⟨R, 1, none⟩ x1).setCell ⟨R, 2, none⟩ x2).setCell ⟨R, 3, none⟩ x3).setCell ⟨R, 4, none⟩ x4).setCell ⟨R, 5, none⟩ x5).setCell ⟨R, 6, none⟩ x6).setCell ⟨R, 7, none⟩ x7) := z6.trans (Outs.set (by simp) _ _ _)
 have z8 : Outs [R] W (((((((((W.setCell ⟨R, 0, none⟩ x0).setCell ⟨R, 1, none⟩ x1).setCell ⟨R, 2, none⟩ x2).setCell ⟨R, 3, none⟩ x3).setCell ⟨R, 4, none⟩ x4).setCell ⟨R, 5, none⟩ x5).setCell ⟨R, 6, none⟩ x6).setCell ⟨R, 7, none⟩ x7).setCell ⟨R, 8, none⟩ x8) := z7.trans (Outs.set (by simp) _ _ _)
 have z9 : Outs [R] W ((((((((((W.setCell ⟨R, 0, none⟩ x0).setCell ⟨R, 1, none⟩ x1).setCell ⟨R, 2, none⟩ x2).setCell ⟨R, 3, none⟩ x3).setCell ⟨R, 4, none⟩ x4).setCell ⟨R, 5, none⟩ x5).setCell ⟨R, 6, none⟩ x6).setCell ⟨R, 7, none⟩ x7).setCell ⟨R, 8, none⟩ x8).setCell ⟨R, 9, none⟩ x9) := z8.trans (Outs.set (by simp) _ _ _)
 have z10 : Outs [R] W (((((((((((W.setCell ⟨R, 0, none⟩ x0).setCell ⟨R, 1, none⟩ x1).setCell ⟨R, 2, none⟩ x2).setCell ⟨R, 3, none⟩ x3).setCell ⟨R, 4, none⟩ x4).setCell ⟨R, 5, none⟩ x5).setCell ⟨R, 6, none⟩ x6).setCell ⟨R, 7, none⟩ x7).setCell ⟨R, 8, none⟩ x8).setCell ⟨R, 9, none⟩ x9).setCell ⟨R, 10, none⟩ x10) := z9.trans (Outs.set (by simp) _ _ _)
 have z11 : Outs [R] W ((((((((((((W.setCell ⟨R, 0, none⟩ x0).setCell ⟨R, 1, none⟩ x1).setCell ⟨R, 2, none⟩ x2).setCell ⟨R, 3, none⟩ x3).setCell ⟨R, 4, none⟩ x4).setCell ⟨R, 5, none⟩ x5).setCell ⟨R, 6, none⟩ x6).setCell ⟨R, 7, none⟩ x7).setCell ⟨R, 8, none⟩ x8).setCell ⟨R, 9, none⟩ x9).setCell ⟨R, 10, none⟩ x10).setCell ⟨R, 11, none⟩ x11) := z10.trans (Outs.set (by simp) _ _ _)
 have z12 : Outs [R] W (((((((((((((W.setCell ⟨R, 0, none⟩ x0).setCell ⟨R, 1, none⟩ x1).setCell ⟨R, 2, none⟩ x2).setCell ⟨R, 3, none⟩ x3).setCell ⟨R, 4, none⟩ x4).setCell ⟨R, 5, none⟩ x5).setCell ⟨R, 6, none⟩ x6).setCell ⟨R, 7, none⟩ x7).setCell ⟨R, 8, none⟩ x8).setCell ⟨R, 9, none⟩ x9).setCell ⟨R, 10, none⟩ x10).setCell ⟨R, 11, none⟩ x11).setCell ⟨R, 12, none⟩ x12) := z11.trans (Outs.set (by simp) _ _ _)
 have z13 : Outs [R] W ((((((((((((((W.setCell ⟨R, 0, none⟩ x0).setCell ⟨R, 1, none⟩ x1).setCell ⟨R, 2, none⟩ x2).setCell ⟨R, 3, none⟩ x3).setCell ⟨R, 4, none⟩ x4).setCell ⟨R, 5, none⟩ x5).setCell ⟨R, 6, none⟩ x6).setCell ⟨R, 7, none⟩ x7).setCell ⟨R, 8, none⟩ x8).setCell ⟨R, 9, none⟩ x9).setCell ⟨R, 10, none⟩ x10).setCell ⟨R, 11, none⟩ x11).setCell ⟨R, 12, none⟩ x12).setCell ⟨R, 13, none⟩ x13) := z12.trans (Outs.set (by simp) _ _ _)
 have z14 : Outs [R] W (((((((((((((((W.setCell ⟨R, 0, none⟩ x0).setCell ⟨R, 1, none⟩ x1).setCell ⟨R, 2, none⟩ x2).setCell ⟨R, 3, none⟩ x3).setCell ⟨R, 4, none⟩ x4).setCell ⟨R, 5, none⟩ x5).setCell ⟨R, 6, none⟩ x6).setCell ⟨R, 7, none⟩ x7).setCell ⟨R, 8, none⟩ x8).setCell ⟨R, 9, none⟩ x9).setCell ⟨R, 10, none⟩ x10).setCell ⟨R, 11, none⟩ x11).setCell ⟨R, 12, none⟩ x12).setCell ⟨R, 13, none⟩ x13).setCell ⟨R, 14, none⟩ x14) := z13.trans (Outs.set (by simp) _ _ _)
 have z15 : Outs [R] W ((((((((((((((((W.setCell ⟨R, 0, none⟩ x0).setCell ⟨R, 1, none⟩ x1).setCell ⟨R, 2, none⟩ x2).setCell ⟨R, 3, none⟩ x3).setCell ⟨R, 4, none⟩ x4).setCell ⟨R, 5, none⟩ x5).setCell ⟨R, 6, none⟩ x6).setCell ⟨R, 7, none⟩ x7).setCell ⟨R, 8, none⟩ x8).setCell ⟨R, 9, none⟩ x9).setCell ⟨R, 10, none⟩ x10).setCell ⟨R, 11, none⟩ x11).setCell ⟨R, 12, none⟩ x12).setCell ⟨R, 13, none⟩ x13).setCell ⟨R, 14, none⟩ x14).setCell ⟨R, 15, none⟩ x15) := z14.trans (Outs.set (by simp) _ _ _)
 have z16 : Outs [R] W (((((((((((((((((W.setCell ⟨R, 0, none⟩ x0).setCell ⟨R, 1, none⟩ x1).setCell ⟨R, 2, none⟩ x2).setCell ⟨R, 3, none⟩ x3).setCell ⟨R, 4, none⟩ x4).setCell ⟨R, 5, none⟩ x5).setCell ⟨R, 6, none⟩ x6).setCell ⟨R, 7, none⟩ x7).setCell ⟨R, 8, none⟩ x8).setCell ⟨R, 9, none⟩ x9).setCell ⟨R, 10, none⟩ x10).setCell ⟨R, 11, none⟩ x11).setCell ⟨R, 12, none⟩ x12).setCell ⟨R, 13, none⟩ x13).setCell ⟨R, 14, none⟩ x14).setCell ⟨R, 15, none⟩ x15).setCell ⟨R, 16, none⟩ x16) := z15.trans (Outs.set (by simp) _ _ _)
 exact z16
theorem below17 {B : Nat} {w W : World} (h : Below B w W) {R : Nat} (hR : B ≤ R) (x0 x1 x2 x3 x4 x5 x6 x7 x8 x9 x10 x11 x12 x13 x14 x15 x16 : Value) : Below B w (set17 W R x0 x1 x2 x3 x4 x5 x6 x7 x8 x9 x10 x11 x12 x13 x14 x15 x16) := by
 unfold set17
 have z0 : Below B w (W.setCell ⟨R, 0, none⟩ x0) := h.setCell (p := ⟨R, 0, none⟩) hR _
 have z1 : Below B w ((W.setCell ⟨R, 0, none⟩ x0).setCell ⟨R, 1, none⟩ x1) := z0.setCell (p := ⟨R, 1, none⟩) hR _
 have z2 : Below B w (((W.setCell ⟨R, 0, none⟩ x0).setCell ⟨R, 1, none⟩ x1).setCell ⟨R, 2, none⟩ x2) := z1.setCell (p := ⟨R, 2, none⟩) hR _
 have z3 : Below B w ((((W.setCell ⟨R, 0, none⟩ x0).setCell ⟨R, 1, none⟩ x1).setCell ⟨R, 2, none⟩ x2).setCell ⟨R, 3, none⟩ x3) := z2.setCell (p := ⟨R, 3, none⟩) hR _
 have z4 : Below B w (((((W.setCell ⟨R, 0, none⟩ x0).setCell ⟨R, 1, none⟩ x1).setCell ⟨R, 2, none⟩ x2).setCell ⟨R, 3, none⟩ x3).setCell ⟨R, 4, none⟩ x4) := z3.setCell (p := ⟨R, 4, none⟩) hR _
 have z5 : Below B w ((((((W.setCell ⟨R, 0, none⟩ x0).setCell ⟨R, 1, none⟩ x1).setCell ⟨R, 2, none⟩ x2).setCell ⟨R, 3, none⟩ x3).setCell ⟨R, 4, none⟩ x4).setCell ⟨R, 5, none⟩ x5) := z4.setCell (p := ⟨R, 5, none⟩) hR _
 have z6 : Below B w (((((((W.setCell ⟨R, 0, none⟩ x0).setCell ⟨R, 1, none⟩ x1).setCell ⟨R, 2, none⟩ x2).setCell ⟨R, 3, none⟩ x3).setCell ⟨R, 4, none⟩ x4).setCell ⟨R, 5, none⟩ x5).setCell ⟨R, 6, none⟩ x6) := z5.setCell (p := ⟨R, 6, none⟩) hR _
 have z7 : Below B w ((((((((W.setCell ⟨R, 0, none⟩ x0).setCell ⟨R, 1, none⟩ x1).setCell ⟨R, 2, none⟩ x2).setCell ⟨R, 3, none⟩ x3).setCell ⟨R, 4, none⟩ x4).setCell ⟨R, 5, none⟩ x5).setCell ⟨R, 6, none⟩ x6).setCell ⟨R, 7, none⟩ x7) := z6.setCell (p := ⟨R, 7, none⟩) hR _
 have z8 : Below B w (((((((((W.setCell ⟨R, 0, none⟩ x0).setCell ⟨R, 1, none⟩ x1).setCell ⟨R, 2, none⟩ x2).setCell ⟨R, 3, none⟩ x3).setCell ⟨R, 4, none⟩ x4).setCell ⟨R, 5, none⟩ x5).setCell ⟨R, 6, none⟩ x6).setCell ⟨R, 7, none⟩ x7).setCell ⟨R, 8, none⟩ x8) := z7.setCell (p := ⟨R, 8, none⟩) hR _
 have z9 : Below B w ((((((((((W.setCell ⟨R, 0, none⟩ x0).setCell ⟨R, 1, none⟩ x1).setCell ⟨R, 2, none⟩ x2).setCell ⟨R, 3, none⟩ x3).setCell ⟨R, 4, none⟩ x4).setCell ⟨R, 5, none⟩ x5).setCell ⟨R, 6, none⟩ x6).setCell ⟨R, 7, none⟩ x7).setCell ⟨R, 8, none⟩ x8).setCell ⟨R, 9, none⟩ x9) := z8.setCell (p := ⟨R, 9, none⟩) hR _
 have z10 : Below B w (((((((((((W.setCell ⟨R, 0, none⟩ x0).setCell ⟨R, 1, none⟩ x1).setCell ⟨R, 2, none⟩ x2).setCell ⟨R, 3, none⟩ x3).setCell ⟨R, 4, none⟩ x4).setCell ⟨R, 5, none⟩ x5).setCell ⟨R, 6, none⟩ x6).setCell ⟨R, 7, none⟩ x7).setCell ⟨R, 8, none⟩ x8).setCell ⟨R, 9, none⟩ x9).setCell ⟨R, 10, none⟩ x10) := z9.setCell (p := ⟨R, 10, none⟩) hR _
 have z11 : Below B w ((((((((((((W.setCell ⟨R, 0, none⟩ x0).setCell ⟨R, 1, none⟩ x1).setCell ⟨R, 2, none⟩ x2).setCell ⟨R, 3, none⟩ x3).setCell ⟨R, 4, none⟩ x4).setCell ⟨R, 5, none⟩ x5).setCell ⟨R, 6, none⟩ x6).setCell ⟨R, 7, none⟩ x7).setCell ⟨R, 8, none⟩ x8).setCell ⟨R, 9, none⟩ x9).setCell ⟨R, 10, none⟩ x10).setCell ⟨R, 11, none⟩ x11) := z10.setCell (p := ⟨R, 11, none⟩) hR _
 have z12 : Below B w (((((((((((((W.setCell ⟨R, 0, none⟩ x0).setCell ⟨R, 1, none⟩ x1).setCell ⟨R, 2, none⟩ x2).setCell ⟨R, 3, none⟩ x3).setCell ⟨R, 4, none⟩ x4).setCell ⟨R, 5, none⟩ x5).setCell ⟨R, 6, none⟩ x6).setCell ⟨R, 7, none⟩ x7).setCell ⟨R, 8, none⟩ x8).setCell ⟨R, 9, none⟩ x9).setCell ⟨R, 10, none⟩ x10).setCell ⟨R, 11, none⟩ x11).setCell ⟨R, 12, none⟩ x12) := z11.setCell (p := ⟨R, 12, none⟩) hR _
 have z13 : Below B w ((((((((((((((W.setCell ⟨R, 0, none⟩ x0).setCell ⟨R, 1, none⟩ x1).setCell ⟨R, 2, none⟩ x2).setCell ⟨R, 3, none⟩ x3).setCell ⟨R, 4, none⟩ x4).setCell ⟨R, 5, none⟩ x5).setCell ⟨R, 6, none⟩ x6).setCell ⟨R, 7, none⟩ x7).setCell ⟨R, 8, none⟩ x8).setCell ⟨R, 9, none⟩ x9).setCell ⟨R, 10, none⟩ x10).setCell ⟨R, 11, none⟩ x11).setCell ⟨R, 12, none⟩ x12).setCell ⟨R, 13, none⟩ x13) := z12.setCell (p := ⟨R, 13, none⟩) hR _
 have z14 : Below B w (((((((((((((((W.setCell ⟨R, 0, none⟩ x0).setCell ⟨R, 1, none⟩ x1).setCell ⟨R, 2, none⟩ x2).setCell ⟨R, 3, none⟩ x3).setCell ⟨R, 4, none⟩ x4).setCell ⟨R, 5, none⟩ x5).setCell ⟨R, 6, none⟩ x6).setCell ⟨R, 7, none⟩ x7).setCell ⟨R, 8, none⟩ x8).setCell ⟨R, 9, none⟩ x9).setCell ⟨R, 10, none⟩ x10).setCell ⟨R, 11, none⟩ x11).setCell ⟨R, 12, none⟩ x12).setCell ⟨R, 13, none⟩ x13).setCell ⟨R, 14, none⟩ x14) := z13.setCell (p := ⟨R, 14, none⟩) hR _
 have z15 : Below B w ((((((((((((((((W.setCell ⟨R, 0, none⟩ x0).setCell ⟨R, 1, none⟩ x1).setCell ⟨R, 2, none⟩ x2).setCell ⟨R, 3, none⟩ x3).setCell ⟨R, 4, none⟩ x4).setCell ⟨R, 5, none⟩ x5).setCell ⟨R, 6, none⟩ x6).setCell ⟨R, 7, none⟩ x7).setCell ⟨R, 8, none⟩ x8).setCell ⟨R, 9, none⟩ x9).setCell ⟨R, 10, none⟩ x10).setCell ⟨R, 11, none⟩ x11).setCell ⟨R, 12, none⟩ x12).setCell ⟨R, 13, none⟩ x13).setCell ⟨R, 14, none⟩ x14).setCell ⟨R, 15, none⟩ x15) := z14.setCell (p := ⟨R, 15, none⟩) hR _
 have z16 : Below B w (((((((((((((((((W.setCell ⟨R, 0, none⟩ x0).setCell ⟨R, 1, none⟩ x1).setCell ⟨R, 2, none⟩ x2).setCell ⟨R, 3, none⟩ x3).setCell ⟨R, 4, none⟩ x4).setCell ⟨R, 5, none⟩ x5).setCell ⟨R, 6, none⟩ x6).setCell ⟨R, 7, none⟩ x7).setCell ⟨R, 8, none⟩ x8).setCell ⟨R, 9, none⟩ x9).setCell ⟨R, 10, none⟩ x10).setCell ⟨R, 11, none⟩ x11).setCell ⟨R, 12, none⟩ x12).setCell ⟨R, 13, none⟩ x13).setCell ⟨R, 14, none⟩ x14).setCell ⟨R, 15, none⟩ x15).setCell ⟨R, 16, none⟩ x16) := z15.setCell (p := ⟨R, 16, none⟩) hR _
 exact z16
set_option maxRecDepth 100000 in
/-- The leg of a block is handed back. -/
theorem ret17 {K : Ending → World → Prop} {a : Act} {wz : World} {R : Nat} {x0 x1 x2 x3 x4 x5 x6 x7 x8 x9 x10 x11 x12 x13 x14 x15 x16 : Value} (ha : a.tmps.getD 6 undef = .pointer (some ⟨R, 0, none⟩)) (hd : a.defers = []) (hz : RgB wz R #[x0, x1, x2, x3, x4, x5, x6, x7, x8, x9, x10, x11, x12, x13, x14, x15, x16]) (h : K (.returned (.agg #[x0, x1, x2, x3, x4, x5, x6, x7, x8, x9, x10, x11, x12, x13, x14, x15, x16])) wz) :
  bodyPost Try.prog Try.f74 K Exit.ret a wz := by
 have ha' : a.tmps[6]?.getD undef = .pointer (some ⟨R, 0, none⟩) := by simpa using ha
 have r0 : wz.cell? ⟨R, 0, none⟩ = some x0 := blk_cell hz rfl
 have r1 : wz.cell? ⟨R, 1, none⟩ = some x1 := blk_cell hz rfl
 have r2 : wz.cell? ⟨R, 2, none⟩ = some x2 := blk_cell hz rfl
 have r3 : wz.cell? ⟨R, 3, none⟩ = some x3 := blk_cell hz rfl
 have r4 : wz.cell? ⟨R, 4, none⟩ = some x4 := blk_cell hz rfl
 have r5 : wz.cell? ⟨R, 5, none⟩ = some x5 := blk_cell hz rfl
 have r6 : wz.cell? ⟨R, 6, none⟩ = some x6 := blk_cell hz rfl
 have r7 : wz.cell? ⟨R, 7, none⟩ = some x7 := blk_cell hz rfl
 have r8 : wz.cell? ⟨R, 8, none⟩ = some x8 := blk_cell hz rfl
 have r9 : wz.cell? ⟨R, 9, none⟩ = some x9 := blk_cell hz rfl
 have r10 : wz.cell? ⟨R, 10, none⟩ = some x10 := blk_cell hz rfl
 have r11 : wz.cell? ⟨R, 11, none⟩ = some x11 := blk_cell hz rfl
 have r12 : wz.cell? ⟨R, 12, none⟩ = some x12 := blk_cell hz rfl
 have r13 : wz.cell? ⟨R, 13, none⟩ = some x13 := blk_cell hz rfl
 have r14 : wz.cell? ⟨R, 14, none⟩ = some x14 := blk_cell hz rfl
 have r15 : wz.cell? ⟨R, 15, none⟩ = some x15 := blk_cell hz rfl
 have r16 : wz.cell? ⟨R, 16, none⟩ = some x16 := blk_cell hz rfl
 exact bodyPost_ret (v := .agg #[x0, x1, x2, x3, x4, x5, x6, x7, x8, x9, x10, x11, x12, x13, x14, x15, x16]) (by simp [results, Try.results74, go_sem, ha, ha', r0, r1, r2, r3, r4, r5, r6, r7, r8, r9, r10, r11, r12, r13, r14, r15, r16]) hd h
def OverOk (g : RG) (vl vd vi ve : Value) (ps : List Nat) (ns : List Int) (w : World) (e : Ending) (w' : World) : Prop :=
 Below w.heap.size w w' ∧ ∃ v', e = .returned (.agg (rgC { g with over := true, next := -1 } vl vd vi v' ve)) ∧ w'.ownsRow w.heap.size 3 1 v' (overW ps ns).length ((cI (overW ps ns)).map (Value.int .i64))
set_option maxRecDepth 100000 in
set_option maxHeartbeats 4000000 in
theorem rover_any (g : RG) (al ad ai aw ae : Option Addr) (nl cl nd cd ni ci nw cw ne ce : Nat) (vp vn : Value) (ps : List Nat) (ns : List Int) (w : World) (hp : Sl w 1 eI vp (cI ps)) (hn : Sl w 1 eI vn ns) (hne : ps ≠ []) (hlt : ∀ p ∈ ps, p < ns.length) (h8 : ns.length ≤ 8) :
  Calls Try.prog 74 #[.agg (rgC g (.slice al nl cl) (.slice ad nd cd) (.slice ai ni ci) (.slice aw nw cw) (.slice ae ne ce)), vp, vn] w (OverOk g (.slice al nl cl) (.slice ad nd cd) (.slice ai ni ci) (.slice ae ne ce) ps ns w) := by
 obtain ⟨i0, hi0, hz0, hz1, hz2⟩ := info_parts info_int
 have yh := fun (k : Nat) W (hB : Below w.heap.size w W) => rhas_any (cI ps) vp k W (hp.below hB)
 obtain ⟨a, cp, rfl, hl, hs⟩ := hp
 obtain ⟨a2, cp2, rfl, hl2, hs2⟩ := hn
 rw [cI_len] at hl yh ⊢
 have YH : Aside (∀ (k : Nat) W, Below w.heap.size w W → Calls Try.prog 87 #[.slice a ps.length cp, .int .i64 (k : Int)] W (Ret (.bool (decide ((k : Int) ∈ cI ps))) W)) := yh
 clear yh
 have HP : Aside (∀ (j p : Nat), ps[j]? = some p → ∃ b off, a = some ⟨b, off, none⟩ ∧ b < w.heap.size ∧ w.cell? ⟨b, off + j, none⟩ = some (.int .i64 (p : Int))) := by
  intro j p hj
  have hj2 : (cI ps)[j]? = some (p : Int) := by unfold cI; rw [List.getElem?_map, hj]; rfl
  obtain ⟨b, off, e1, e2, e3⟩ := hs (by intro e; rw [e] at hj2; simp at hj2)
  refine ⟨b, off, e1, e2, ?_⟩
  have := e3 j _ hj2 0 _ rfl
  simpa using this
 have HQ : Aside (∀ j x, ns[j]? = some x → ∃ b off, a2 = some ⟨b, off, none⟩ ∧ b < w.heap.size ∧ w.cell? ⟨b, off + j, none⟩ = some (.int .i64 x)) := by
  intro j p hj
  obtain ⟨b, off, e1, e2, e3⟩ := hs2 (by intro e; rw [e] at hj; simp at hj)
  refine ⟨b, off, e1, e2, ?_⟩
  have := e3 j _ hj 0 _ rfl
  simpa using this
 obtain ⟨p0, hp0⟩ : ∃ p0, ps[0]? = some p0 := by cases ps with | nil => exact absurd rfl hne | cons x xs => exact ⟨x, rfl⟩
 have hp0l : p0 < ns.length := hlt _ (List.mem_of_getElem? hp0)
 obtain ⟨x0, hx0⟩ : ∃ x, ns[p0]? = some x := ⟨_, List.getElem?_eq_getElem hp0l⟩
 have HL0 : Aside (loW ps ns 0 = x0) := by
  show _ = _
  unfold loW
  have : ps.headD 0 = p0 := by cases ps with | nil => simp at hp0 | cons x xs => simp at hp0; simpa using hp0
  rw [List.take_zero, List.map_nil, List.foldl_nil, this, List.getD_eq_getElem?_getD, hx0]; rfl
 obtain ⟨B1, o1, rfl, hB1, k0⟩ := HP.out 0 p0 hp0
 obtain ⟨B2, o2, rfl, hB2, kx⟩ := HQ.out p0 x0 hx0
 replace HP : Aside (∀ (j p : Nat), ps[j]? = some p → w.cell? ⟨B1, o1 + j, none⟩ = some (.int .i64 (p : Int))) := by
  intro j p hj
  obtain ⟨b, off, e1, _, e3⟩ := HP.out j p hj
  cases e1
  exact e3
 replace HQ : Aside (∀ j x, ns[j]? = some x → w.cell? ⟨B2, o2 + j, none⟩ = some (.int .i64 x)) := by
  intro j p hj
  obtain ⟨b, off, e1, _, e3⟩ := HQ.out j p hj
  cases e1
  exact e3
 have HLT : Aside (∀ p ∈ ps, p < ns.length) := hlt
 obtain ⟨L, hL⟩ : ∃ L, loW ps ns ps.length = L := ⟨_, rfl⟩
 have HOV : Aside (overW ps ns = ovK ps ns L ns.length) := by show _ = _; rw [← hL]; rfl
 have HLL : Aside (loW ps ns ps.length = L) := hL
 have hm1 : 0 < ps.length := by have := List.getElem?_eq_some_iff.1 hp0; exact this.1
 obtain ⟨n, hn⟩ : ∃ n, ns.length = n := ⟨_, rfl⟩
 obtain ⟨m, hm⟩ : ∃ m, ps.length = m := ⟨_, rfl⟩
 have HN : Aside (ns.length = n) := hn
 have HM : Aside (ps.length = m) := hm
 unfold OverOk
 rw [hn] at hl2 hp0l h8 HLT HOV ⊢
 rw [hm] at hl hm1 YH HLL ⊢
 have hpz : (p0 : Int) < (n : Int) := by omega
 have hmz : (0 : Int) < (m : Int) := by omega
 simp only [Nat.add_zero] at k0
 clear hs hs2 hne hlt hp0 hx0 hL hn hm
 go_enter Try.func74, Try.ntmps74
 go_wp2_with fail
 obtain ⟨wa, hwa⟩ : ∃ u, u = (w.alloc (.cells (rgC g (.slice al nl cl) (.slice ad nd cd) (.slice ai ni ci) (.slice aw nw cw) (.slice ae ne ce)) 108)).alloc (.cells zeroC 108) := ⟨_, rfl⟩
 have hb0 : Aside (RgB wa w.heap.size (rgC g (.slice al nl cl) (.slice ad nd cd) (.slice ai ni ci) (.slice aw nw cw) (.slice ae ne ce))) := by rw [hwa]; exact (Below.heap_alloc _ _ _ (by simp)).trans (World.alloc_heap_new _ _)
 have hb1 : Aside (RgB wa (w.heap.size + 1) zeroC) := by rw [hwa]; exact World.alloc_heap_new' _ _ _ (by simp)
 have BA : Aside (Below w.heap.size w wa ∧ w.heap.size + 2 ≤ wa.heap.size) := ⟨by rw [hwa]; (repeat' (first | exact Below.refl _ _ | assumption | (with_reducible refine Below.drew ?_) | (with_reducible refine Below.setCell ?_ (by (first | (simp; done) | (simp; omega))) _) | (with_reducible refine below_drewN' ?_ _) | (refine Below.alloc ?_ (by (try simp only [World.size_alloc, World.size_drew, World.size_setCell]); omega) _) | (refine Below.trans ?_ (Below.mono (by assumption) (by (try simp only [World.size_alloc, World.size_drew, World.size_setCell]); omega))))), by rw [hwa]; simp⟩
 have hwa2 : wa = (w.alloc (.cells (rgC g (.slice al nl cl) (.slice ad nd cd) (.slice ai ni ci) (.slice aw nw cw) (.slice ae ne ce)) 108)).alloc (.cells #[.slice none 0 0, .slice none 0 0, .slice none 0 0, .int .i64 0, .int .i64 0, .bool false, .slice none 0 0, .slice none 0 0, .int .i64 0, .int .i64 0, .int .i64 0, .int .i64 0, .int .i64 0, .int .i64 0, .int .i64 0, .int .i64 0, .int .i64 0] 108) := hwa
 rw [← hwa2]
 clear hwa hwa2 k0 kx
 go_loopg [7, 8] m (fun gg b i wr => ∃ k : Nat, k ≤ m ∧ m - k ≤ gg ∧ b = .int .i64 (loW ps ns k) ∧ i = .int .i64 k ∧ wa = wr)
 case atStart => exact ⟨0, Nat.zero_le _, by omega, by rw [HL0.out], rfl, rfl⟩
 case round =>
  obtain ⟨k, hk, hg, rfl, rfl, rfl⟩ := hrel
  by_cases hltk : k < m
  ·have hltz : (k : Int) < (m : Int) := by omega
   obtain ⟨p, hp⟩ : ∃ p, ps[k]? = some p := ⟨_, List.getElem?_eq_getElem (by rw [HM.out]; exact hltk)⟩
   have hpl : p < n := HLT.out p (List.mem_of_getElem? hp)
   have hpz2 : (p : Int) < (n : Int) := by omega
   obtain ⟨x, hx⟩ : ∃ x, ns[p]? = some x := ⟨_, List.getElem?_eq_getElem (by rw [HN.out]; exact hpl)⟩
   have kp := keepc BA.out.1 (HP.out k p hp)
   have kx := keepc BA.out.1 (HQ.out p x hx)
   have HS : Aside (loW ps ns (k + 1) = min (loW ps ns k) x) := by
    show _ = _
    unfold loW
    rw [take_snoc' hp, List.map_append, List.foldl_append, List.map_cons, List.map_nil, List.foldl_cons, List.foldl_nil, List.getD_eq_getElem?_getD (l := ns) (i := p), hx]; rfl
   generalize loW ps ns k = M at *
   clear hp hx
   go_wp2_with fail
   go_roundg (m - (k + 1))
   case measure => omega
   case rel => exact ⟨k + 1, by omega, by omega, by rw [HS.out], by go_num, rfl⟩
  ·have hltz : ¬ (k : Int) < (m : Int) := by omega
   have hke : k = m := by omega
   subst hke
   rw [HLL.out]
   have fb := blk_free hb0.out
   have q3 : wa.cell? ⟨w.heap.size, 3, none⟩ = some (.int .i64 g.next) := blk_cell hb0.out rfl
   have q5 : wa.cell? ⟨w.heap.size, 5, none⟩ = some (.bool g.over) := blk_cell hb0.out rfl
   have q6 : wa.cell? ⟨w.heap.size, 6, none⟩ = some (.slice aw nw cw) := blk_cell hb0.out rfl
   go_wp2_with fail
   obtain ⟨wb, hwb⟩ : ∃ u, u = ((wa.setCell ⟨w.heap.size, 5, none⟩ (.bool true)).setCell ⟨w.heap.size, 3, none⟩ (.int .i64 (-1))).setCell ⟨w.heap.size, 6, none⟩ (.slice none 0 0) := ⟨_, rfl⟩
   have HBB : Aside (RgB wb w.heap.size (rgC { g with over := true, next := -1 } (.slice al nl cl) (.slice ad nd cd) (.slice ai ni ci) (.slice none 0 0) (.slice ae ne ce))) := by
    rw [hwb]
    have z1 : RgB (wa.setCell ⟨w.heap.size, 5, none⟩ (.bool true)) w.heap.size (rgC { g with over := true } (.slice al nl cl) (.slice ad nd cd) (.slice ai ni ci) (.slice aw nw cw) (.slice ae ne ce)) := Go.Joins.block_setCell (i := 5) hb0.out _
    have z2 : RgB ((wa.setCell ⟨w.heap.size, 5, none⟩ (.bool true)).setCell ⟨w.heap.size, 3, none⟩ (.int .i64 (-1))) w.heap.size (rgC { g with over := true, next := -1 } (.slice al nl cl) (.slice ad nd cd) (.slice ai ni ci) (.slice aw nw cw) (.slice ae ne ce)) := Go.Joins.block_setCell (i := 3) z1 _
    exact Go.Joins.block_setCell (i := 6) z2 _
   have HRB : Aside (RgB wb (w.heap.size + 1) zeroC) := by
    rw [hwb]
    unfold RgB
    rw [Below.heap_setCell _ _ _ _ (by simp), Below.heap_setCell _ _ _ _ (by simp), Below.heap_setCell _ _ _ _ (by simp)]
    exact hb1.out
   have BB : Aside (Below w.heap.size w wb ∧ w.heap.size + 2 ≤ wb.heap.size) := ⟨by rw [hwb]; exact ((BA.out.1.setCell (p := ⟨w.heap.size, 5, none⟩) (Nat.le_refl _) _).setCell (p := ⟨w.heap.size, 3, none⟩) (Nat.le_refl _) _).setCell (p := ⟨w.heap.size, 6, none⟩) (Nat.le_refl _) _, by rw [hwb]; simp; exact BA.out.2⟩
   rw [← hwb]
   clear hwb fb q3 q5 q6 hb0 hb1 BA
   go_loopg [9] n (fun gg i wr => ∃ k v, k ≤ n ∧ n - k ≤ gg ∧ i = .int .i64 (k : Nat) ∧ wr.ownsRow (w.heap.size + 2) 3 1 v (ovK ps ns L k).length ((cI (ovK ps ns L k)).map (Value.int .i64)) ∧ Aside (RgB wr w.heap.size (rgC { g with over := true, next := -1 } (.slice al nl cl) (.slice ad nd cd) (.slice ai ni ci) v (.slice ae ne ce)) ∧ RgB wr (w.heap.size + 1) zeroC) ∧ Aside (Below w.heap.size w wr ∧ w.heap.size + 2 ≤ wr.heap.size))
   case atStart => exact ⟨0, _, Nat.zero_le _, by omega, rfl, World.ownsRow_nil _ _ _ _, ⟨HBB.out, HRB.out⟩, BB.out⟩
   case round =>
    obtain ⟨j, v, hj, hgj, rfl, hown, HB, HW⟩ := hrel
    by_cases hltj : j < n
    ·have hltzj : (j : Int) < (n : Int) := by omega
     obtain ⟨x, hx⟩ : ∃ x, ns[j]? = some x := ⟨_, List.getElem?_eq_getElem (by rw [HN.out]; exact hltj)⟩
     have kx := keepc HW.out.1 (HQ.out j x hx)
     have HS : Aside (ovK ps ns L (j + 1) = ovK ps ns L j ++ (if (decide ((j : Int) ∈ cI ps) && decide (x = L)) = true then [j] else [])) := by
      show _ = _
      have h1 : ns.getD j 0 = x := by rw [List.getD_eq_getElem?_getD, hx]; rfl
      rw [ovK_step, h1, decide_eq_decide.2 mem_cI]
     have hln := ovK_len ps ns L j
     generalize ovK ps ns L j = lu at *
     obtain ⟨va, vc, rfl⟩ := owns_sl hown
     have yh := YH.out j _ HW.out.1
     clear hx HBB HRB BB
     cases hd : decide ((j : Int) ∈ cI ps) with
     | false =>
      rw [hd] at HS yh
      go_wp2_with fail
      refine yh.mono ?_
      rintro e w7 ⟨rfl, hb7⟩
      have hown7 := ownsRow_below hown hb7
      have HB7 : Aside (RgB w7 w.heap.size (rgC { g with over := true, next := -1 } (.slice al nl cl) (.slice ad nd cd) (.slice ai ni ci) (.slice va lu.length vc) (.slice ae ne ce)) ∧ RgB w7 (w.heap.size + 1) zeroC) := ⟨(hb7.block _ (by have := HW.out.2; omega)).trans HB.out.1, (hb7.block _ (by have := HW.out.2; omega)).trans HB.out.2⟩
      have HW7 : Aside (Below w.heap.size w w7 ∧ w.heap.size + 2 ≤ w7.heap.size) := ⟨HW.out.1.trans (hb7.mono (by have := HW.out.2; omega)), Nat.le_trans HW.out.2 hb7.size⟩
      clear hb7 yh hown HB HW kx
      go_wp2_with fail
      go_roundg (n - (j + 1))
      case measure => omega
      case rel => exact ⟨j + 1, _, by omega, by omega, by go_num, by rw [HS.out]; simpa using hown7, HB7.out, HW7.out⟩
     | true =>
      rw [hd] at HS yh
      go_wp2_with fail
      refine yh.mono ?_
      rintro e w7 ⟨rfl, hb7⟩
      have hown7 := ownsRow_below hown hb7
      have HB7 : Aside (RgB w7 w.heap.size (rgC { g with over := true, next := -1 } (.slice al nl cl) (.slice ad nd cd) (.slice ai ni ci) (.slice va lu.length vc) (.slice ae ne ce)) ∧ RgB w7 (w.heap.size + 1) zeroC) := ⟨(hb7.block _ (by have := HW.out.2; omega)).trans HB.out.1, (hb7.block _ (by have := HW.out.2; omega)).trans HB.out.2⟩
      have HW7 : Aside (Below w.heap.size w w7 ∧ w.heap.size + 2 ≤ w7.heap.size) := ⟨HW.out.1.trans (hb7.mono (by have := HW.out.2; omega)), Nat.le_trans HW.out.2 hb7.size⟩
      replace kx := keepc hb7 (by simpa using kx)
      clear hb7 yh hown HB HW
      by_cases hxl : x = L
      ·have HS2 : Aside (ovK ps ns L (j + 1) = lu ++ [j]) := by show _ = _; rw [HS.out, decide_eq_true hxl]; rfl
       clear HS
       subst hxl
       have q6 : w7.cell? ⟨w.heap.size, 6, none⟩ = some (.slice va lu.length vc) := blk_cell HB7.out.1 rfl
       have f6 := blk_free HB7.out.1
       have hBlt : w.heap.size < w7.heap.size := by have := HW7.out.2; omega
       go_wp2_with (at_builtin; refine wpList_append_own _ rfl _ _ 48 rfl (w.heap.size + 2) 3 i0 (.int .i64 0) 1 8 Try.underlying48 hi0 hz0 hz1 hz2 rfl (by decide) _ _ _ rfl (hown7.alloc _) ⟨w7.heap.size, 0, none⟩ 1 1 [.int .i64 (j : Int)] rfl rfl (cell_one_new _ _ _) (ints_oneCell .i64 [(j : Int)]) (by unfold maxLen; omega) (by omega) (by have := HW7.out.2; simp; omega) ?_; intro v' w8 hown8 hgrow8 hnil8; obtain ⟨va8, vc8, rfl⟩ := owns_sl hown8; have HB8 : Aside (RgB w8 w.heap.size (rgC { g with over := true, next := -1 } (.slice al nl cl) (.slice ad nd cd) (.slice ai ni ci) (.slice va lu.length vc) (.slice ae ne ce)) ∧ RgB w8 (w.heap.size + 1) zeroC ∧ Below w.heap.size w w8 ∧ w.heap.size + 2 ≤ w8.heap.size) := (over_kept hown7 hgrow8 HB7.out HW7.out); have q6 : w8.cell? ⟨w.heap.size, 6, none⟩ = some (.slice va lu.length vc) := blk_cell HB8.out.1 rfl; have f6 := blk_free HB8.out.1; have hBlt8 : w.heap.size < w8.heap.size := (Array.getElem?_eq_some_iff.1 HB8.out.1).1; clear hgrow8)
       go_roundg (n - (j + 1))
       case measure => omega
       case rel =>
        refine ⟨j + 1, _, by omega, by omega, by go_num, ?_, ⟨Go.Joins.block_setCell (i := 6) HB8.out.1 _, (Below.heap_setCell _ _ _ _ (by simp)).trans HB8.out.2.1⟩, HB8.out.2.2.1.setCell (p := ⟨w.heap.size, 6, none⟩) (Nat.le_refl _) _, by simp; exact HB8.out.2.2.2⟩
        rw [HS2.out, cI_map, List.length_append]
        exact ownsRow_outs (S := [w.heap.size]) (Outs.set (by simp) _ _ _) (by simpa using hown8) (by simp)
      ·have HS2 : Aside (ovK ps ns L (j + 1) = lu) := by show _ = _; rw [HS.out, decide_eq_false hxl]; simp
       clear HS
       go_wp2_with fail
       go_roundg (n - (j + 1))
       case measure => omega
       case rel => exact ⟨j + 1, _, by omega, by omega, by go_num, by rw [HS2.out]; exact hown7, HB7.out, HW7.out⟩
    ·have hltzj : ¬ (j : Int) < (n : Int) := by omega
     have hje : j = n := by omega
     subst hje
     obtain ⟨va, vc, rfl⟩ := owns_sl hown
     have HLN : Aside ((overW ps ns).length = (ovK ps ns L j).length) := by show _ = _; rw [HOV.out]
     have HO : Aside (wr.ownsRow (w.heap.size + 2) 3 1 (.slice va (ovK ps ns L j).length vc) (overW ps ns).length ((cI (overW ps ns)).map (Value.int .i64))) := by show World.ownsRow _ _ _ _ _ _ _; rw [HOV.out]; exact hown
     clear hown HBB HRB BB HOV HLL
     generalize (ovK ps ns L j).length = nw2 at *
     have q0 : wr.cell? ⟨w.heap.size, 0, none⟩ = some (.slice al nl cl) := blk_cell HB.out.1 rfl
     have q1 : wr.cell? ⟨w.heap.size, 1, none⟩ = some (.slice ad nd cd) := blk_cell HB.out.1 rfl
     have q2 : wr.cell? ⟨w.heap.size, 2, none⟩ = some (.slice ai ni ci) := blk_cell HB.out.1 rfl
     have q3 : wr.cell? ⟨w.heap.size, 3, none⟩ = some (.int .i64 (-1)) := blk_cell HB.out.1 rfl
     have q4 : wr.cell? ⟨w.heap.size, 4, none⟩ = some (.int .i64 g.round) := blk_cell HB.out.1 rfl
     have q5 : wr.cell? ⟨w.heap.size, 5, none⟩ = some (.bool true) := blk_cell HB.out.1 rfl
     have q6 : wr.cell? ⟨w.heap.size, 6, none⟩ = some (.slice va nw2 vc) := blk_cell HB.out.1 rfl
     have q7 : wr.cell? ⟨w.heap.size, 7, none⟩ = some (.slice ae ne ce) := blk_cell HB.out.1 rfl
     have q8 : wr.cell? ⟨w.heap.size, 8, none⟩ = some (.int .i64 (g.last 0)) := blk_cell HB.out.1 rfl
     have q9 : wr.cell? ⟨w.heap.size, 9, none⟩ = some (.int .i64 (g.last 1)) := blk_cell HB.out.1 rfl
     have q10 : wr.cell? ⟨w.heap.size, 10, none⟩ = some (.int .i64 (g.last 2)) := blk_cell HB.out.1 rfl
     have q11 : wr.cell? ⟨w.heap.size, 11, none⟩ = some (.int .i64 (g.last 3)) := blk_cell HB.out.1 rfl
     have q12 : wr.cell? ⟨w.heap.size, 12, none⟩ = some (.int .i64 (g.last 4)) := blk_cell HB.out.1 rfl
     have q13 : wr.cell? ⟨w.heap.size, 13, none⟩ = some (.int .i64 (g.last 5)) := blk_cell HB.out.1 rfl
     have q14 : wr.cell? ⟨w.heap.size, 14, none⟩ = some (.int .i64 (g.last 6)) := blk_cell HB.out.1 rfl
     have q15 : wr.cell? ⟨w.heap.size, 15, none⟩ = some (.int .i64 (g.last 7)) := blk_cell HB.out.1 rfl
     have q16 : wr.cell? ⟨w.heap.size, 16, none⟩ = some (.int .i64 g.done) := blk_cell HB.out.1 rfl
     have p0 : wr.cell? ⟨(w.heap.size + 1), 0, none⟩ = some (.slice none 0 0) := blk_cell HB.out.2 rfl
     have p1 : wr.cell? ⟨(w.heap.size + 1), 1, none⟩ = some (.slice none 0 0) := blk_cell HB.out.2 rfl
     have p2 : wr.cell? ⟨(w.heap.size + 1), 2, none⟩ = some (.slice none 0 0) := blk_cell HB.out.2 rfl
     have p3 : wr.cell? ⟨(w.heap.size + 1), 3, none⟩ = some (.int .i64 0) := blk_cell HB.out.2 rfl
     have p4 : wr.cell? ⟨(w.heap.size + 1), 4, none⟩ = some (.int .i64 0) := blk_cell HB.out.2 rfl
     have p5 : wr.cell? ⟨(w.heap.size + 1), 5, none⟩ = some (.bool false) := blk_cell HB.out.2 rfl
     have p6 : wr.cell? ⟨(w.heap.size + 1), 6, none⟩ = some (.slice none 0 0) := blk_cell HB.out.2 rfl
     have p7 : wr.cell? ⟨(w.heap.size + 1), 7, none⟩ = some (.slice none 0 0) := blk_cell HB.out.2 rfl
     have p8 : wr.cell? ⟨(w.heap.size + 1), 8, none⟩ = some (.int .i64 0) := blk_cell HB.out.2 rfl
     have p9 : wr.cell? ⟨(w.heap.size + 1), 9, none⟩ = some (.int .i64 0) := blk_cell HB.out.2 rfl
     have p10 : wr.cell? ⟨(w.heap.size + 1), 10, none⟩ = some (.int .i64 0) := blk_cell HB.out.2 rfl
     have p11 : wr.cell? ⟨(w.heap.size + 1), 11, none⟩ = some (.int .i64 0) := blk_cell HB.out.2 rfl
     have p12 : wr.cell? ⟨(w.heap.size + 1), 12, none⟩ = some (.int .i64 0) := blk_cell HB.out.2 rfl
     have p13 : wr.cell? ⟨(w.heap.size + 1), 13, none⟩ = some (.int .i64 0) := blk_cell HB.out.2 rfl
     have p14 : wr.cell? ⟨(w.heap.size + 1), 14, none⟩ = some (.int .i64 0) := blk_cell HB.out.2 rfl
     have p15 : wr.cell? ⟨(w.heap.size + 1), 15, none⟩ = some (.int .i64 0) := blk_cell HB.out.2 rfl
     have p16 : wr.cell? ⟨(w.heap.size + 1), 16, none⟩ = some (.int .i64 0) := blk_cell HB.out.2 rfl
     have pf := blk_free HB.out.2
     have hlt1 : w.heap.size + 1 < wr.heap.size := by have := HW.out.2; omega
     go_wp2_with fail
     refine ret17 (wz := set17 wr (w.heap.size + 1) (.slice al nl cl) (.slice ad nd cd) (.slice ai ni ci) (.int .i64 (-1)) (.int .i64 g.round) (.bool true) (.slice va nw2 vc) (.slice ae ne ce) (.int .i64 (g.last 0)) (.int .i64 (g.last 1)) (.int .i64 (g.last 2)) (.int .i64 (g.last 3)) (.int .i64 (g.last 4)) (.int .i64 (g.last 5)) (.int .i64 (g.last 6)) (.int .i64 (g.last 7)) (.int .i64 g.done)) rfl rfl (rg17 (.slice al nl cl) (.slice ad nd cd) (.slice ai ni ci) (.int .i64 (-1)) (.int .i64 g.round) (.bool true) (.slice va nw2 vc) (.slice ae ne ce) (.int .i64 (g.last 0)) (.int .i64 (g.last 1)) (.int .i64 (g.last 2)) (.int .i64 (g.last 3)) (.int .i64 (g.last 4)) (.int .i64 (g.last 5)) (.int .i64 (g.last 6)) (.int .i64 (g.last 7)) (.int .i64 g.done) HB.out.2) ?_
     exact ⟨below17 HW.out.1 (R := w.heap.size + 1) (Nat.le_succ _) (.slice al nl cl) (.slice ad nd cd) (.slice ai ni ci) (.int .i64 (-1)) (.int .i64 g.round) (.bool true) (.slice va nw2 vc) (.slice ae ne ce) (.int .i64 (g.last 0)) (.int .i64 (g.last 1)) (.int .i64 (g.last 2)) (.int .i64 (g.last 3)) (.int .i64 (g.last 4)) (.int .i64 (g.last 5)) (.int .i64 (g.last 6)) (.int .i64 (g.last 7)) (.int .i64 g.done), _, rfl, ownsRow_base (ownsRow_outs (outs17 wr (w.heap.size + 1) (.slice al nl cl) (.slice ad nd cd) (.slice ai ni ci) (.int .i64 (-1)) (.int .i64 g.round) (.bool true) (.slice va nw2 vc) (.slice ae ne ce) (.int .i64 (g.last 0)) (.int .i64 (g.last 1)) (.int .i64 (g.last 2)) (.int .i64 (g.last 3)) (.int .i64 (g.last 4)) (.int .i64 (g.last 5)) (.int .i64 (g.last 6)) (.int .i64 (g.last 7)) (.int .i64 g.done)) HO.out (by simp)) (by omega)⟩
end
end Go.Proofs.Ytgmlcgifagbjmaa
