/- Leg, part Ab: a leg after visits, as data, and what holds while they are taken. -/
import Derived.Test.YthcgbceapabikaaAa
set_option linter.unusedVariables false
set_option linter.unusedSimpArgs false
namespace Go.Proofs.Ythcgbceapabikaa
open Go.RowKit Go.Maps Go.Sort Go.Shelf Go.Deep

/-- A leg, and the faults: visit, dart, error. -/
def jstep (r : LegR) (s : LegG × List (Int × Int × Int)) (i : Nat) (v : Int × List Int) : LegG × List (Int × Int × Int) :=
  ((takeG r s.1 v.1 v.2).1, if (takeG r s.1 v.1 v.2).2.2 = 0 then s.2 else s.2 ++ [((i : Int), (takeG r s.1 v.1 v.2).2.1, (takeG r s.1 v.1 v.2).2.2)])
def judgeK (r : LegR) (l : List (Int × List Int)) : Nat → LegG × List (Int × Int × Int)
  | 0 => (beginG r, [])
  | k + 1 => match l[k]? with
    | some v => jstep r (judgeK r l k) k v
    | none => judgeK r l k
def judgeE (r : LegR) (l : List (Int × List Int)) : Int := if vleg r = true then (if 2000 < l.length then 5 else 0) else 2

def encF (x : Int × Int × Int) : List Value := [.int .i64 x.1, .int .i64 x.2.1, .int .i64 x.2.2]
def eB (x : Bool) : List Value := [.bool x]
def encV (x : Int × Value × List Int) : List Value := [.int .i64 x.1, x.2.1]
def zeroSt : Value := .agg #[.slice none 0 0, .slice none 0 0, .slice none 0 0, .int .i64 0, .int .i64 0, .bool false, .slice none 0 0]
/-- The state of a leg, as a value. -/
def StAt (w : World) (v : Value) (g : LegG) (B : Nat) : Prop := ∃ vl vd vi vw, v = .agg #[vl, vd, vi, .int .i64 g.next, .int .i64 g.round, .bool g.over, vw] ∧ Sl w 1 eI vl g.left ∧ Sl w 1 eI vd g.darts ∧ Sl w 1 eB vi g.inn ∧ Sl w 1 eI vw g.wins ∧
  (∀ b o n c, (vl = .slice (some ⟨b, o, none⟩) n c ∨ vd = .slice (some ⟨b, o, none⟩) n c ∨ vi = .slice (some ⟨b, o, none⟩) n c ∨ (g.wins ≠ [] ∧ vw = .slice (some ⟨b, o, none⟩) n c)) → B ≤ b)
def ZeroSt (w : World) (R : Nat) : Prop := w.heap[R]? = some (.cells #[.slice none 0 0, .slice none 0 0, .slice none 0 0, .int .i64 0, .int .i64 0, .bool false, .slice none 0 0] 51 (0, 0))

theorem ownsRow_outs {S : List Nat} {w w' : World} {b : Nat} {e : TypeId} {size : Nat} {v : Value} {n : Nat} {xs : List Value} (hO : Outs S w w') (h : w.ownsRow b e size v n xs) (hne : ∀ k ∈ S, k < b) : w'.ownsRow b e size v n xs := by
  obtain ⟨h1, h2⟩ := h
  refine ⟨h1, ?_⟩
  rcases h2 with h2 | ⟨g, cap, cur, h3, h4, h5, h6⟩
  · exact .inl h2
  · exact .inr ⟨g, cap, cur, h3, h4, (hO.block g (fun hm => by have := hne g hm; omega) (Array.getElem?_eq_some_iff.1 h5).1).trans h5, h6⟩
theorem Outs.sl' {α : Type} {S : List Nat} {w w' : World} {k : Nat} {enc : α → List Value} {v : Value} {xs : List α} (h : Outs S w w') (hs : Sl w k enc v xs) (hS : xs ≠ [] → ∀ g o n c, v = .slice (some ⟨g, o, none⟩) n c → g ∉ S) : Sl w' k enc v xs := by
  by_cases hne : xs = []
  · subst hne
    obtain ⟨a, c, rfl, hl, _⟩ := hs
    exact ⟨a, c, rfl, hl, fun h => absurd rfl h⟩
  · exact h.sl hs (hS hne)
theorem StAt.outs {S : List Nat} {w w' : World} {v : Value} {g : LegG} {B : Nat} (hO : Outs S w w') (h : StAt w v g B) (hS : ∀ k ∈ S, k < B) : StAt w' v g B := by
  obtain ⟨vl, vd, vi, vw, rfl, h1, h2, h3, h4, hB⟩ := h
  have key : ∀ b, B ≤ b → b ∉ S := fun b hb hm => by have := hS b hm; omega
  exact ⟨vl, vd, vi, vw, rfl, hO.sl h1 (fun b o n c e => key b (hB b o n c (.inl e))), hO.sl h2 (fun b o n c e => key b (hB b o n c (.inr (.inl e)))), hO.sl h3 (fun b o n c e => key b (hB b o n c (.inr (.inr (.inl e))))),
    hO.sl' h4 (fun hne b o n c e => key b (hB b o n c (.inr (.inr (.inr ⟨hne, e⟩))))), hB⟩
theorem LegW.outs {S : List Nat} {w w' : World} {V gl gd gi M cl cd ci nn : Nat} {vc vw : Value} {D : DataW Unit} {r : LegR} {g : LegG} (h : LegW w V gl gd gi M cl cd ci nn vc vw D r g) (hO : Outs S w w') (hS : ∀ k ∈ [V, gl, gd, gi, M], k ∉ S)
    (hc : ∀ b o n c, vc = .slice (some ⟨b, o, none⟩) n c → b ∉ S) (hw : g.wins ≠ [] → ∀ b o n c, vw = .slice (some ⟨b, o, none⟩) n c → b ∉ S) : LegW w' V gl gd gi M cl cd ci nn vc vw D r g := by
  have hs : ∀ k ∈ [V, gl, gd, gi, M], k < w.heap.size → w'.heap[k]? = w.heap[k]? := fun k hm hk => hO.block k (hS k hm) hk
  exact ⟨(hs V (by simp) (Array.getElem?_eq_some_iff.1 h.blk).1).trans h.blk, h.left.same (hs _ (by simp) h.left.lt), h.darts.same (hs _ (by simp) h.darts.lt), h.inn.same (hs _ (by simp) h.inn.lt), ownsMap_same h.own (hs _ (by simp) h.own.lt), h.rep, hO.sl h.counts hc, hO.sl' h.wins hw, h.l1, h.l2, h.l3, h.d1, h.d2, h.d3, h.d4, h.cout, h.wout⟩

/-- What holds at the head of a round. -/
structure JInv (r : LegR) (w : World) (V gl gd gi M cl cd ci : Nat) (vc : Value) (Z R i : Nat) (g : LegG) (fs : List (Int × Int × Int)) (vf : Value) (wr : World) : Prop where
  leg : ∃ nn vw D, nn ≤ i ∧ LegW wr V gl gd gi M cl cd ci nn vc vw D r g ∧ (g.wins ≠ [] → ∀ b o n c, vw = .slice (some ⟨b, o, none⟩) n c → vf.ownBlock ≠ some b ∧ w.heap.size + 2 ≤ b)
  ok : g.Ok r (2 * i)
  own : wr.ownsRow Z 61 3 vf fs.length ((fs.map encF).flatten)
  nil : fs = [] → vf = .slice none 0 0
  bel : Below w.heap.size w wr
  zero : ZeroSt wr R
  siz : Z ≤ wr.heap.size
/-- Where the blocks lie. -/
structure JFix (w : World) (V gl gd gi M : Nat) (vc : Value) (Z R : Nat) : Prop where
  lo : ∀ j ∈ [V, gl, gd, gi, M], w.heap.size + 2 ≤ j ∧ j < Z
  r0 : w.heap.size ≤ R
  r1 : R < w.heap.size + 2
  cnt : ∀ b o n c, vc = .slice (some ⟨b, o, none⟩) n c → b < Z
theorem JInv.below {r : LegR} {w : World} {V gl gd gi M cl cd ci : Nat} {vc : Value} {Z R i : Nat} {g : LegG} {fs : List (Int × Int × Int)} {vf : Value} {wr w' : World} (h : JInv r w V gl gd gi M cl cd ci vc Z R i g fs vf wr) (hB : Below wr.heap.size wr w') : JInv r w V gl gd gi M cl cd ci vc Z R i g fs vf w' := by
  obtain ⟨nn, vw, D, h1, h2, h3⟩ := h.leg
  exact ⟨⟨nn, vw, D, h1, h2.below hB, h3⟩, h.ok, ownsRow_below h.own hB, h.nil, h.bel.trans (hB.mono h.bel.size), (hB.block R (Array.getElem?_eq_some_iff.1 h.zero).1).trans h.zero, Nat.le_trans h.siz hB.size⟩
theorem JInv.step {r : LegR} {w : World} {V gl gd gi M cl cd ci : Nat} {vc : Value} {Z R i : Nat} {g : LegG} {fs : List (Int × Int × Int)} {vf : Value} {wr : World} (h : JInv r w V gl gd gi M cl cd ci vc Z R i g fs vf wr) (hf : JFix w V gl gd gi M vc Z R) (hr : r.Ok)
    {nn : Nat} {vw : Value} (hnn : nn ≤ i) (hwn : g.wins ≠ [] → ∀ b o n c, vw = .slice (some ⟨b, o, none⟩) n c → vf.ownBlock ≠ some b ∧ w.heap.size + 2 ≤ b) {p : Int} {bs : List Int} {e : Ending} {w2 : World} (hT : TakeG V gl gd gi M cl cd ci nn vc vw r g p bs wr e w2) :
    JInv r w V gl gd gi M cl cd ci vc Z R (i + 1) (takeG r g p bs).1 fs vf w2 := by
  obtain ⟨_, hO, nn', vw', D', h1, h2, h3⟩ := hT
  have hwr : w.heap.size ≤ wr.heap.size := h.bel.size
  refine ⟨⟨nn', vw', D', by omega, h3, fun hne b o n c e => ?_⟩, (takeG_ok hr h.ok p bs).mono (by omega), ownsRow_outs hO h.own (fun k hk => (hf.lo k hk).2), h.nil, h.bel.trans (hO.below (B := w.heap.size) (fun k hk => by have := (hf.lo k hk).1; omega) hwr), ?_, Nat.le_trans h.siz hO.size⟩
  · rcases h2 with ⟨rfl, h2⟩ | h2
    · exact hwn (by rw [← h2]; exact hne) b o n c e
    · have h5 := h2 b o n c e
      refine ⟨fun e2 => ?_, ?_⟩
      · have h6 := (h.own.lt b e2).2
        omega
      · have h6 := (hf.lo V (by simp))
        have h7 := hf.r1
        have h8 := h.siz
        omega
  · exact (hO.block R (fun hm => by have := (hf.lo R hm).1; have := hf.r1; omega) (Array.getElem?_eq_some_iff.1 h.zero).1).trans h.zero
theorem JInv.app {r : LegR} {w : World} {V gl gd gi M cl cd ci : Nat} {vc : Value} {Z R i : Nat} {g : LegG} {fs : List (Int × Int × Int)} {vf : Value} {W W3 : World} (h : JInv r w V gl gd gi M cl cd ci vc Z R i g fs vf W) (hf : JFix w V gl gd gi M vc Z R) {v' : Value} {f : Int × Int × Int}
    (hown : W3.ownsRow Z 61 3 v' (fs.length + 1) ((fs.map encF).flatten ++ encF f)) (hg : W.grownBy W3 vf.ownBlock) (hat : v'.ownBlock = vf.ownBlock ∨ v'.ownBlock = some W.heap.size) :
    JInv r w V gl gd gi M cl cd ci vc Z R i g (fs ++ [f]) v' W3 := by
  obtain ⟨nn, vw, D, h1, h2, h3⟩ := h.leg
  have hO : Outs (match vf.ownBlock with | some b => [b] | none => []) W W3 := by
    refine ⟨hg.os, hg.tape, hg.output, hg.size, fun k hk hl => hg.block k hl (fun e => ?_)⟩
    rw [← e] at hk
    simp at hk
  have hblk : ∀ b, b ∈ (match vf.ownBlock with | some b => [b] | none => []) → vf.ownBlock = some b := by
    intro b hb
    cases hv : vf.ownBlock with
    | none => rw [hv] at hb; cases hb
    | some x => rw [hv] at hb; simp at hb; rw [hb]
  have hlo : ∀ b, b ∈ (match vf.ownBlock with | some b => [b] | none => []) → Z ≤ b := fun b hb => (h.own.lt b (hblk b hb)).1
  have hZ : w.heap.size + 2 ≤ Z := by have := (hf.lo V (by simp)); omega
  refine ⟨⟨nn, vw, D, h1, h2.outs hO (fun k hk hm => by have := hlo k hm; have := (hf.lo k hk).2; omega) (fun b o n c e hm => by have := hlo b hm; have := hf.cnt b o n c e; omega) (fun hne b o n c e hm => (h3 hne b o n c e).1 (hblk b hm)), fun hne b o n c e => ?_⟩, h.ok, ?_, fun e => by simp at e, h.bel.trans (hO.below (B := w.heap.size) (fun k hk => by have := hlo k hk; omega) h.bel.size), (hO.block R (fun hm => by have := hlo R hm; have := hf.r1; omega) (Array.getElem?_eq_some_iff.1 h.zero).1).trans h.zero, Nat.le_trans h.siz hO.size⟩
  · rcases hat with e2 | e2
    · rw [e2]; exact h3 hne b o n c e
    · rw [e2]
      refine ⟨?_, (h3 hne b o n c e).2⟩
      intro e3
      obtain ⟨a, cc, ev, _, hs⟩ := h2.wins
      obtain ⟨bb, off, rfl, hlt, _⟩ := hs hne
      rw [e] at ev
      cases ev
      cases e3
      omega
  · have : ((fs ++ [f]).map encF).flatten = (fs.map encF).flatten ++ encF f := by simp
    rw [this, List.length_append]
    exact hown
theorem judgeK_step {r : LegR} {l : List (Int × List Int)} {k : Nat} {v : Int × List Int} (h : l[k]? = some v) : judgeK r l (k + 1) = jstep r (judgeK r l k) k v := by
  show (match l[k]? with | some v => jstep r (judgeK r l k) k v | none => judgeK r l k) = _
  rw [h]
end Go.Proofs.Ythcgbceapabikaa
