/- Leg: parts Gc, Gf, Gh. -/
import Derived.Test.YtgmlcgifagbjmaaPas
set_option linter.unusedVariables false
set_option linter.unusedSimpArgs false
namespace Go.Proofs.Ytgmlcgifagbjmaa
section
open Go.RowKit Go.Maps Go.Sort Go.Shelf Go.Deep
theorem rty_set {T : TypeId} {W : World} {g i : Nat} {cs : Array Value} (x : Value) (h : W.heap[g]? = some (.cells cs T (0, 0))) : RTy T W (W.setCell ⟨g, i, none⟩ x) :=
 ⟨by simp [World.setCell], fun k hk hne => Below.heap_setCell _ _ _ _ (fun e => hne cs (by
  have e2 : k = g := e
  rw [e2]; exact h))⟩
theorem getD_put {a : Act} {t u : Nat} {x : Value} (h : u ≠ t) : (a.put (some t) x).tmps.getD u undef = a.tmps.getD u undef := getDV_set_ne _ _ _ _ _ h
/-- Three rows are copied, and put into the leg. -/
structure C12 (w : World) (r : LegR) (vc : Value) (k : Nat) (vb : Value) (R : RG) (vw ve : Value) (n : Nat) (base : World) (listed : Array Bool) (a : Act) (W : World) : Prop where
 out : Outs [w.heap.size + 1] base W
 blk : ∃ v0 v1 v2, StB w r vc k vb (rgC R v0 v1 v2 vw ve) W ∧ (listed.getD 14 false = true → v0 = a.tmps.getD 76 undef) ∧ (listed.getD 17 false = true → v1 = a.tmps.getD 80 undef) ∧ (listed.getD 20 false = true → v2 = a.tmps.getD 84 undef)
 ne : listed.getD 3 false = true → listed.getD 7 false = true → ∀ gl cl gd cd, a.tmps.getD 76 undef = rowV gl n cl → a.tmps.getD 80 undef = rowV gd n cd → gl ≠ gd
section
variable {w base W W' : World} {r : LegR} {vc vb vw ve : Value} {k n : Nat} {R : RG} {listed : Array Bool} {a : Act}
theorem rep_false (m i : Nat) : (Array.replicate m false).getD i false = false := by
 simp only [Array.getD_eq_getD_getElem?, Array.getElem?_replicate]
 split <;> rfl
theorem C12.start {v0 v1 v2 : Value} (h : StB w r vc k vb (rgC R v0 v1 v2 vw ve) base) (m : Nat) (a : Act) : C12 w r vc k vb R vw ve n base (Array.replicate m false) a base.drew := by
 have hB : Below base.heap.size base base.drew := (Below.refl _ _).drew
 refine ⟨Outs.of_below hB, ⟨v0, v1, v2, h.below hB, fun e => ?_, fun e => ?_, fun e => ?_⟩, fun e => ?_⟩
 all_goals (rw [rep_false] at e; cases e)
theorem C12.other (h : C12 w r vc k vb R vw ve n base listed a W) {i t : Nat} {x : Value} (hi : (decide (i ≠ 3) && decide (i ≠ 7) && decide (i ≠ 14) && decide (i ≠ 17) && decide (i ≠ 20) && decide (t ≠ 76) && decide (t ≠ 80) && decide (t ≠ 84)) = true) (hB : Below W.heap.size W W') : C12 w r vc k vb R vw ve n base (listed.setIfInBounds i true) (a.put (some t) x) W' := by
 simp only [Bool.and_eq_true, decide_eq_true_eq] at hi
 obtain ⟨⟨⟨⟨⟨⟨⟨i3, i7⟩, i14⟩, i17⟩, i20⟩, t76⟩, t80⟩, t84⟩ := hi
 obtain ⟨v0, v1, v2, h1, h2, h3, h4⟩ := h.blk
 refine ⟨h.out.trans (Outs.of_below hB), ⟨v0, v1, v2, h1.below hB, fun e => ?_, fun e => ?_, fun e => ?_⟩, fun e e' => ?_⟩
 ·rw [getD_set_ne _ _ _ _ (Ne.symm i14)] at e; rw [getD_put (Ne.symm t76)]; exact h2 e
 ·rw [getD_set_ne _ _ _ _ (Ne.symm i17)] at e; rw [getD_put (Ne.symm t80)]; exact h3 e
 ·rw [getD_set_ne _ _ _ _ (Ne.symm i20)] at e; rw [getD_put (Ne.symm t84)]; exact h4 e
 ·rw [getD_set_ne _ _ _ _ (Ne.symm i3)] at e; rw [getD_set_ne _ _ _ _ (Ne.symm i7)] at e'; rw [getD_put (Ne.symm t76), getD_put (Ne.symm t80)]; exact h.ne e e'
theorem C12.at84 (h : C12 w r vc k vb R vw ve n base listed a W) {x : Value} (hn : listed.getD 20 false = false) (hB : Below W.heap.size W W') : C12 w r vc k vb R vw ve n base (listed.setIfInBounds 11 true) (a.put (some 84) x) W' := by
 obtain ⟨v0, v1, v2, h1, h2, h3, h4⟩ := h.blk
 refine ⟨h.out.trans (Outs.of_below hB), ⟨v0, v1, v2, h1.below hB, fun e => ?_, fun e => ?_, fun e => ?_⟩, fun e e' => ?_⟩
 ·rw [getD_set_ne _ _ _ _ (by decide)] at e; rw [getD_put (by decide)]; exact h2 e
 ·rw [getD_set_ne _ _ _ _ (by decide)] at e; rw [getD_put (by decide)]; exact h3 e
 ·rw [getD_set_ne _ _ _ _ (by decide), hn] at e; cases e
 ·rw [getD_set_ne _ _ _ _ (by decide)] at e e'; rw [getD_put (by decide), getD_put (by decide)]; exact h.ne e e'
theorem C12.at76 (h : C12 w r vc k vb R vw ve n base listed a W) {c : Nat} (hs : 76 < a.tmps.size) (hn : listed.getD 14 false = false) (hB : Below W.heap.size W W') (hr : listed.getD 7 false = true → ∀ gd cd, a.tmps.getD 80 undef = rowV gd n cd → gd < W.heap.size) : C12 w r vc k vb R vw ve n base (listed.setIfInBounds 3 true) (a.put (some 76) (rowV W.heap.size n c)) W' := by
 obtain ⟨v0, v1, v2, h1, h2, h3, h4⟩ := h.blk
 refine ⟨h.out.trans (Outs.of_below hB), ⟨v0, v1, v2, h1.below hB, fun e => ?_, fun e => ?_, fun e => ?_⟩, fun e e' gl cl gd cd f1 f2 => ?_⟩
 ·rw [getD_set_ne _ _ _ _ (by decide), hn] at e; cases e
 ·rw [getD_set_ne _ _ _ _ (by decide)] at e; rw [getD_put (by decide)]; exact h3 e
 ·rw [getD_set_ne _ _ _ _ (by decide)] at e; rw [getD_put (by decide)]; exact h4 e
 ·rw [getD_set_ne _ _ _ _ (by decide)] at e'
  rw [getD_put (by decide)] at f2
  rw [show (a.put (some 76) (rowV W.heap.size n c)).tmps.getD 76 undef = rowV W.heap.size n c from getDV_set_self _ _ _ _ hs] at f1
  simp only [Value.slice.injEq, Option.some.injEq, Addr.mk.injEq, and_true] at f1
  have := hr e' gd cd f2
  omega
theorem C12.at80 (h : C12 w r vc k vb R vw ve n base listed a W) {c : Nat} (hs : 80 < a.tmps.size) (hn : listed.getD 17 false = false) (hB : Below W.heap.size W W') (hr : listed.getD 3 false = true → ∀ gd cd, a.tmps.getD 76 undef = rowV gd n cd → gd < W.heap.size) : C12 w r vc k vb R vw ve n base (listed.setIfInBounds 7 true) (a.put (some 80) (rowV W.heap.size n c)) W' := by
 obtain ⟨v0, v1, v2, h1, h2, h3, h4⟩ := h.blk
 refine ⟨h.out.trans (Outs.of_below hB), ⟨v0, v1, v2, h1.below hB, fun e => ?_, fun e => ?_, fun e => ?_⟩, fun e e' gl cl gd cd f1 f2 => ?_⟩
 ·rw [getD_set_ne _ _ _ _ (by decide)] at e; rw [getD_put (by decide)]; exact h2 e
 ·rw [getD_set_ne _ _ _ _ (by decide), hn] at e; cases e
 ·rw [getD_set_ne _ _ _ _ (by decide)] at e; rw [getD_put (by decide)]; exact h4 e
 ·rw [getD_set_ne _ _ _ _ (by decide)] at e
  rw [getD_put (by decide)] at f1
  rw [show (a.put (some 80) (rowV W.heap.size n c)).tmps.getD 80 undef = rowV W.heap.size n c from getDV_set_self _ _ _ _ hs] at f2
  simp only [Value.slice.injEq, Option.some.injEq, Addr.mk.injEq, and_true] at f2
  have := hr e gl cl f1
  omega
theorem C12.st0 (h : C12 w r vc k vb R vw ve n base listed a W) : C12 w r vc k vb R vw ve n base (listed.setIfInBounds 14 true) a (W.setCell ⟨w.heap.size + 1, 0, none⟩ (a.tmps.getD 76 undef)) := by
 obtain ⟨v0, v1, v2, h1, h2, h3, h4⟩ := h.blk
 refine ⟨h.out.trans (Outs.set (by simp) _ _ _), ⟨a.tmps.getD 76 undef, v1, v2, h1.setL 0 _, fun _ => rfl, fun e => ?_, fun e => ?_⟩, fun e e' => ?_⟩
 ·rw [getD_set_ne _ _ _ _ (by decide)] at e; exact h3 e
 ·rw [getD_set_ne _ _ _ _ (by decide)] at e; exact h4 e
 ·rw [getD_set_ne _ _ _ _ (by decide)] at e e'; exact h.ne e e'
theorem C12.st1 (h : C12 w r vc k vb R vw ve n base listed a W) : C12 w r vc k vb R vw ve n base (listed.setIfInBounds 17 true) a (W.setCell ⟨w.heap.size + 1, 1, none⟩ (a.tmps.getD 80 undef)) := by
 obtain ⟨v0, v1, v2, h1, h2, h3, h4⟩ := h.blk
 refine ⟨h.out.trans (Outs.set (by simp) _ _ _), ⟨v0, a.tmps.getD 80 undef, v2, h1.setL 1 _, fun e => ?_, fun _ => rfl, fun e => ?_⟩, fun e e' => ?_⟩
 ·rw [getD_set_ne _ _ _ _ (by decide)] at e; exact h2 e
 ·rw [getD_set_ne _ _ _ _ (by decide)] at e; exact h4 e
 ·rw [getD_set_ne _ _ _ _ (by decide)] at e e'; exact h.ne e e'
theorem C12.st2 (h : C12 w r vc k vb R vw ve n base listed a W) : C12 w r vc k vb R vw ve n base (listed.setIfInBounds 20 true) a (W.setCell ⟨w.heap.size + 1, 2, none⟩ (a.tmps.getD 84 undef)) := by
 obtain ⟨v0, v1, v2, h1, h2, h3, h4⟩ := h.blk
 refine ⟨h.out.trans (Outs.set (by simp) _ _ _), ⟨v0, v1, a.tmps.getD 84 undef, h1.setL 2 _, fun e => ?_, fun e => ?_, fun _ => rfl⟩, fun e e' => ?_⟩
 ·rw [getD_set_ne _ _ _ _ (by decide)] at e; exact h2 e
 ·rw [getD_set_ne _ _ _ _ (by decide)] at e; exact h3 e
 ·rw [getD_set_ne _ _ _ _ (by decide)] at e e'; exact h.ne e e'
end
/-- A player is put behind those who have ended. -/
structure C17 (w : World) (r : LegR) (vc : Value) (k : Nat) (vb : Value) (R : RG) (vl vd vi vw ve : Value) (es : List Nat) (base : World) (listed : Array Bool) (a : Act) (W : World) : Prop where
 out : Outs [w.heap.size + 1] base W
 blk : ∃ v, StB w r vc k vb (rgC R vl vd vi vw v) W ∧ ((listed.getD 9 false = true → v = a.tmps.getD 138 undef) ∧ (listed.getD 9 false = false → v = ve))
 c0 : listed.getD 0 false = true → listed.getD 3 false = false → W.ownsRow base.heap.size 3 1 (a.tmps.getD 131 undef) 0 []
 c3 : listed.getD 3 false = true → listed.getD 7 false = false → W.ownsRow base.heap.size 3 1 (a.tmps.getD 134 undef) es.length ((cI es).map (Value.int .i64))
 c6 : listed.getD 6 false = true → listed.getD 7 false = false → ∃ g, a.tmps.getD 137 undef = .slice (some ⟨g, 0, none⟩) 1 1 ∧ (∀ b, (a.tmps.getD 131 undef).ownBlock = some b → listed.getD 0 false = true → listed.getD 3 false = false → b ≠ g) ∧ (W.heap[g]? = some (.cells #[.int .i64 (k : Int)] 3 (0, 0)))
 c7 : listed.getD 7 false = true → W.ownsRow base.heap.size 3 1 (a.tmps.getD 138 undef) (es.length + 1) ((cI (es ++ [k])).map (Value.int .i64))
theorem StB.grown {w : World} {r : LegR} {vc : Value} {k : Nat} {vb : Value} {cs : Array Value} {W W' : World} {ob : Option Nat} (h : StB w r vc k vb cs W) (hg : W.grownBy W' ob) (hb : ∀ b, ob = some b → w.heap.size + 4 ≤ b) : StB w r vc k vb cs W' := by
 have s := h.siz
 have hk : ∀ j, j < w.heap.size + 4 → W'.heap[j]? = W.heap[j]? := fun j hj => hg.block j (by omega) (fun e => by have := hb j e.symm; omega)
 exact ⟨(hk _ (by omega)).trans h.rul, (hk _ (by omega)).trans h.leg, (hk _ (by omega)).trans h.vis, (hk _ (by omega)).trans h.zero, ⟨hg.os.trans h.bel.os, hg.tape.trans h.bel.tape, hg.output.trans h.bel.output, Nat.le_trans h.bel.size hg.size, fun j hj => (hk j (by omega)).trans (h.bel.block j hj)⟩, Nat.le_trans s hg.size⟩
theorem Outs.more {S : List Nat} {B W W' : World} {ob : Option Nat} (h : Outs S B W) (hg : W.grownBy W' ob) (hb : ∀ b, ob = some b → B.heap.size ≤ b) : Outs S B W' :=
 ⟨hg.os.trans h.os, hg.tape.trans h.tape, hg.output.trans h.output, Nat.le_trans h.size hg.size, fun j hj hl => (hg.block j (Nat.lt_of_lt_of_le hl h.size) (fun e => by have := hb j e.symm; omega)).trans (h.block j hj hl)⟩
section
variable {w base W W' : World} {r : LegR} {vc vb vl vd vi vw ve : Value} {k : Nat} {R : RG} {es : List Nat} {listed : Array Bool} {a : Act}
theorem C17.start (h : StB w r vc k vb (rgC R vl vd vi vw ve) base) (m : Nat) (a : Act) : C17 w r vc k vb R vl vd vi vw ve es base (Array.replicate m false) a base.drew := by
 have hB : Below base.heap.size base base.drew := (Below.refl _ _).drew
 refine ⟨Outs.of_below hB, ⟨ve, h.below hB, fun e => ?_, fun _ => rfl⟩, fun e => ?_, fun e => ?_, fun e => ?_, fun e => ?_⟩
 all_goals (rw [rep_false] at e; cases e)
theorem C17.other (h : C17 w r vc k vb R vl vd vi vw ve es base listed a W) {i t : Nat} {x : Value} (hi : (decide (i ≠ 0) && decide (i ≠ 3) && decide (i ≠ 6) && decide (i ≠ 7) && decide (i ≠ 9) && decide (t ≠ 131) && decide (t ≠ 134) && decide (t ≠ 137) && decide (t ≠ 138)) = true) : C17 w r vc k vb R vl vd vi vw ve es base (listed.setIfInBounds i true) (a.put (some t) x) W := by
 simp only [Bool.and_eq_true, decide_eq_true_eq] at hi
 obtain ⟨⟨⟨⟨⟨⟨⟨⟨i0, i3⟩, i6⟩, i7⟩, i9⟩, t1⟩, t2⟩, t3⟩, t4⟩ := hi
 obtain ⟨v, h1, h2⟩ := h.blk
 refine ⟨h.out, ⟨v, h1, ?_⟩, ?_, ?_, ?_, ?_⟩
 ·rw [getD_set_ne _ _ _ _ (Ne.symm i9), getD_put (Ne.symm t4)]; exact h2
 ·rw [getD_set_ne _ _ _ _ (Ne.symm i0), getD_set_ne _ _ _ _ (Ne.symm i3), getD_put (Ne.symm t1)]; exact h.c0
 ·rw [getD_set_ne _ _ _ _ (Ne.symm i3), getD_set_ne _ _ _ _ (Ne.symm i7), getD_put (Ne.symm t2)]; exact h.c3
 ·rw [getD_set_ne _ _ _ _ (Ne.symm i6), getD_set_ne _ _ _ _ (Ne.symm i7), getD_set_ne _ _ _ _ (Ne.symm i0), getD_set_ne _ _ _ _ (Ne.symm i3), getD_put (Ne.symm t3), getD_put (Ne.symm t1)]; exact h.c6
 ·rw [getD_set_ne _ _ _ _ (Ne.symm i7), getD_put (Ne.symm t4)]; exact h.c7
theorem C17.at0 (h : C17 w r vc k vb R vl vd vi vw ve es base listed a W) (hs : 131 < a.tmps.size) : C17 w r vc k vb R vl vd vi vw ve es base (listed.setIfInBounds 0 true) (a.put (some 131) (.slice (some ⟨W.heap.size, 0, none⟩) 0 0)) (W.alloc (.cells #[] 3)) := by
 have hB : Below W.heap.size W (W.alloc (.cells #[] 3)) := (Below.refl _ _).alloc (Nat.le_refl _) _
 have e1 : (a.put (some 131) (.slice (some ⟨W.heap.size, 0, none⟩) 0 0)).tmps.getD 131 undef = .slice (some ⟨W.heap.size, 0, none⟩) 0 0 := getDV_set_self _ _ _ _ hs
 obtain ⟨v, h1, h2⟩ := h.blk
 refine ⟨h.out.trans (Outs.of_below hB), ⟨v, h1.below hB, ?_⟩, fun _ _ => ?_, ?_, ?_, ?_⟩
 ·rw [getD_set_ne _ _ _ _ (by decide), getD_put (by decide)]; exact h2
 ·rw [e1]; exact ownsRow_base (owns_empty _ _ _) h.out.size
 ·rw [getD_set_ne _ _ _ _ (by decide), getD_set_ne _ _ _ _ (by decide), getD_put (by decide)]; exact fun a b => ownsRow_below (h.c3 a b) hB
 ·rw [getD_set_ne _ _ _ _ (by decide), getD_set_ne _ _ _ _ (by decide), getD_put (by decide), e1]
  intro a b
  obtain ⟨g, g1, _, g3⟩ := h.c6 a b
  have hl := (Array.getElem?_eq_some_iff.1 g3).1
  exact ⟨g, g1, fun b hb _ _ e => by simp [Value.ownBlock] at hb; omega, (hB.block g hl).trans g3⟩
 ·rw [getD_set_ne _ _ _ _ (by decide), getD_put (by decide)]; exact fun a => ownsRow_below (h.c7 a) hB
theorem C17.at6 (h : C17 w r vc k vb R vl vd vi vw ve es base listed a W) (hs : 137 < a.tmps.size) : C17 w r vc k vb R vl vd vi vw ve es base (listed.setIfInBounds 6 true) (a.put (some 137) (.slice (some ⟨W.heap.size, 0, none⟩) 1 1)) (W.alloc (.cells #[.int .i64 (k : Int)] 3)) := by
 have hB : Below W.heap.size W (W.alloc (.cells #[.int .i64 (k : Int)] 3)) := (Below.refl _ _).alloc (Nat.le_refl _) _
 have e1 : (a.put (some 137) (.slice (some ⟨W.heap.size, 0, none⟩) 1 1)).tmps.getD 137 undef = .slice (some ⟨W.heap.size, 0, none⟩) 1 1 := getDV_set_self _ _ _ _ hs
 obtain ⟨v, h1, h2⟩ := h.blk
 refine ⟨h.out.trans (Outs.of_below hB), ⟨v, h1.below hB, ?_⟩, ?_, ?_, fun _ _ => ?_, ?_⟩
 ·rw [getD_set_ne _ _ _ _ (by decide), getD_put (by decide)]; exact h2
 ·rw [getD_set_ne _ _ _ _ (by decide), getD_set_ne _ _ _ _ (by decide), getD_put (by decide)]; exact fun a b => ownsRow_below (h.c0 a b) hB
 ·rw [getD_set_ne _ _ _ _ (by decide), getD_set_ne _ _ _ _ (by decide), getD_put (by decide)]; exact fun a b => ownsRow_below (h.c3 a b) hB
 ·refine ⟨W.heap.size, e1, ?_, World.alloc_heap_new _ _⟩
  rw [getD_set_ne _ _ _ _ (by decide), getD_set_ne _ _ _ _ (by decide), getD_put (by decide)]
  intro b hb a0 a3 e
  have := ((h.c0 a0 a3).lt b hb).2
  omega
 ·rw [getD_set_ne _ _ _ _ (by decide), getD_put (by decide)]; exact fun a => ownsRow_below (h.c7 a) hB
theorem C17.at3 (h : C17 w r vc k vb R vl vd vi vw ve es base listed a W) (h4 : w.heap.size + 4 ≤ base.heap.size) (hs : 134 < a.tmps.size) (l0 : listed.getD 0 false = true) (l3 : listed.getD 3 false = false) (l7 : listed.getD 7 false = false) (l9 : listed.getD 9 false = false) {v' : Value} (hl : 3 < listed.size)
  (hown : W'.ownsRow base.heap.size 3 1 v' es.length ((cI es).map (Value.int .i64))) (hg : W.grownBy W' (a.tmps.getD 131 undef).ownBlock) : C17 w r vc k vb R vl vd vi vw ve es base (listed.setIfInBounds 3 true) (a.put (some 134) v') W' := by
 have e1 : (a.put (some 134) v').tmps.getD 134 undef = v' := getDV_set_self _ _ _ _ hs
 have hb : ∀ b, (a.tmps.getD 131 undef).ownBlock = some b → base.heap.size ≤ b := fun b hb => ((h.c0 l0 l3).lt b hb).1
 obtain ⟨v, h1, h2⟩ := h.blk
 refine ⟨h.out.more hg hb, ⟨v, h1.grown hg (fun b e => by have := hb b e; omega), ?_⟩, ?_, fun _ _ => by rw [e1]; exact hown, ?_, ?_⟩
 ·rw [getD_set_ne _ _ _ _ (by decide), l9]; exact ⟨fun e => (by cases e), fun _ => h2.2 l9⟩
 ·intro _ e; rw [getD_set_self _ _ _ hl] at e; cases e
 ·rw [getD_set_ne _ _ _ _ (by decide), getD_set_ne _ _ _ _ (by decide), getD_put (by decide)]
  intro a6 a7
  obtain ⟨g, g1, g2, g3⟩ := h.c6 a6 a7
  refine ⟨g, g1, fun b _ _ e => (by rw [getD_set_self _ _ _ hl] at e; cases e), ?_⟩
  exact (hg.block g (Array.getElem?_eq_some_iff.1 g3).1 (fun e => g2 g e.symm l0 l3 rfl)).trans g3
 ·rw [getD_set_ne _ _ _ _ (by decide), l7]; intro e; cases e
theorem C17.at7 (h : C17 w r vc k vb R vl vd vi vw ve es base listed a W) (h4 : w.heap.size + 4 ≤ base.heap.size) (hs : 138 < a.tmps.size) (l0 : listed.getD 0 false = true) (l3 : listed.getD 3 false = true) (l7 : listed.getD 7 false = false) (l9 : listed.getD 9 false = false) {v' : Value} (hl : 7 < listed.size)
  (hown : W'.ownsRow base.heap.size 3 1 v' (es.length + 1) ((cI (es ++ [k])).map (Value.int .i64))) (hg : W.grownBy W' (a.tmps.getD 134 undef).ownBlock) : C17 w r vc k vb R vl vd vi vw ve es base (listed.setIfInBounds 7 true) (a.put (some 138) v') W' := by
 have e1 : (a.put (some 138) v').tmps.getD 138 undef = v' := getDV_set_self _ _ _ _ hs
 have hb : ∀ b, (a.tmps.getD 134 undef).ownBlock = some b → base.heap.size ≤ b := fun b hb => ((h.c3 l3 l7).lt b hb).1
 obtain ⟨v, h1, h2⟩ := h.blk
 refine ⟨h.out.more hg hb, ⟨v, h1.grown hg (fun b e => by have := hb b e; omega), ?_⟩, ?_, ?_, ?_, fun _ => by rw [e1]; exact hown⟩
 ·rw [getD_set_ne _ _ _ _ (by decide), l9]; exact ⟨fun e => (by cases e), fun _ => h2.2 l9⟩
 ·rw [getD_set_ne _ _ 3 _ (by decide), l3]; intro _ e; cases e
 ·intro _ e; rw [getD_set_self _ _ _ hl] at e; cases e
 ·intro _ e; rw [getD_set_self _ _ _ hl] at e; cases e
theorem C17.st9 (h : C17 w r vc k vb R vl vd vi vw ve es base listed a W) (h4 : w.heap.size + 4 ≤ base.heap.size) (l7 : listed.getD 7 false = true) (hl : 9 < listed.size) : C17 w r vc k vb R vl vd vi vw ve es base (listed.setIfInBounds 9 true) a (W.setCell ⟨w.heap.size + 1, 7, none⟩ (a.tmps.getD 138 undef)) := by
 have hO : Outs [w.heap.size + 1] W (W.setCell ⟨w.heap.size + 1, 7, none⟩ (a.tmps.getD 138 undef)) := Outs.set (by simp) _ _ _
 obtain ⟨v, h1, h2⟩ := h.blk
 refine ⟨h.out.trans hO, ⟨a.tmps.getD 138 undef, h1.setL 7 _, fun _ => rfl, fun e => by rw [getD_set_self _ _ _ hl] at e; cases e⟩, ?_, ?_, ?_, ?_⟩
 ·rw [getD_set_ne _ _ _ _ (by decide), getD_set_ne _ _ _ _ (by decide)]
  exact fun a b => ownsRow_outs hO (h.c0 a b) (by simp; omega)
 ·rw [getD_set_ne _ _ _ _ (by decide), getD_set_ne _ _ _ _ (by decide)]
  exact fun a b => ownsRow_outs hO (h.c3 a b) (by simp; omega)
 ·rw [getD_set_ne _ _ 7 _ (by decide), l7]; intro _ e; cases e
 ·intro e; exact ownsRow_outs hO (h.c7 l7) (by simp; omega)
theorem C17.old (h : C17 w r vc k vb R vl vd vi vw ve es base listed a W) (l9 : listed.getD 9 false = false) : W.cell? ⟨w.heap.size + 1, 7, none⟩ = some ve := by
 obtain ⟨v, h1, h2⟩ := h.blk
 rw [← h2.2 l9]
 exact blk_cell h1.leg rfl
end
/-- What a step returns. -/
def RfSl (w : World) (vl vd vi vw ve : Value) (g : LegG) (es : List Nat) : Prop := SlT 3 w 1 eI vl g.left ∧ SlT 3 w 1 eI vd g.darts ∧ SlT 4 w 1 eB vi g.inn ∧ SlT 3 w 1 eI vw g.wins ∧ SlT 3 w 1 eI ve (cI es)
theorem RfSl.below {w w' : World} {vl vd vi vw ve : Value} {g : LegG} {es : List Nat} (h : RfSl w vl vd vi vw ve g es) (hB : Below w.heap.size w w') : RfSl w' vl vd vi vw ve g es := ⟨h.1.below hB, h.2.1.below hB, h.2.2.1.below hB, h.2.2.2.1.below hB, h.2.2.2.2.below hB⟩
theorem RfSl.rty {w w' : World} {vl vd vi vw ve : Value} {g : LegG} {es : List Nat} (h : RfSl w vl vd vi vw ve g es) (hR : RTy 108 w w') : RfSl w' vl vd vi vw ve g es := ⟨h.1.rty hR (by decide), h.2.1.rty hR (by decide), h.2.2.1.rty hR (by decide), h.2.2.2.1.rty hR (by decide), h.2.2.2.2.rty hR (by decide)⟩
theorem RfAt.sl5 {X : Nat} {w : World} {vl vd vi vw ve : Value} {g : LegG} {es : List Nat} (h : RfAt X w vl vd vi vw ve g es) : RfSl w vl vd vi vw ve g es := ⟨⟨h.sl.1, h.sl.2.2⟩, ⟨h.sd.1, h.sd.2.2⟩, ⟨h.si.1, h.si.2.2⟩, ⟨h.sw.1, h.sw.2.2⟩, ⟨h.se.1, h.se.2.2⟩⟩
def StepOk (r : LegR) (g : LegG) (p : Int) (bs : List Int) (w : World) (e : Ending) (w' : World) : Prop :=
 Below w.heap.size w w' ∧ ∃ (R' : RG) (es' : List Nat) (vl vd vi vw ve : Value) (dt : Int), e = .returned (.tuple #[.agg (rgC R' vl vd vi vw ve), .int .i64 dt, .int .i64 (takeG r g p bs).2.2]) ∧ ((takeG r g p bs).2.2 ≠ 0 → dt = (takeG r g p bs).2.1) ∧ RfOk r (takeG r g p bs).1 R' es' ∧ RfSl w' vl vd vi vw ve (takeG r g p bs).1 es'
theorem step_same {r : LegR} {g : LegG} {R : RG} {es : List Nat} {p : Int} {bs : List Int} {w w' : World} {vl vd vi vw ve : Value} {dt er : Int} (hf : RfOk r g R es) (hs : RfSl w vl vd vi vw ve g es) (hB : Below w.heap.size w w') (ht : takeG r g p bs = (g, dt, er)) :
  StepOk r g p bs w (.returned (.tuple #[.agg (rgC R vl vd vi vw ve), .int .i64 dt, .int .i64 er])) w' := by
 unfold StepOk
 rw [ht]
 exact ⟨hB, R, es, vl, vd, vi, vw, ve, dt, rfl, fun _ => rfl, hf, hs.below hB⟩
theorem ret17s {K : Ending → World → Prop} {a : Act} {wz : World} {R : Nat} {x0 x1 x2 x3 x4 x5 x6 x7 x8 x9 x10 x11 x12 x13 x14 x15 x16 y z : Value} (ha : a.tmps.getD 6 undef = .pointer (some ⟨R, 0, none⟩)) (hy : a.tmps.getD 7 undef = y) (hz' : a.tmps.getD 8 undef = z) (hd : a.defers = []) (hz : RgB wz R #[x0, x1, x2, x3, x4, x5, x6, x7, x8, x9, x10, x11, x12, x13, x14, x15, x16]) (h : K (.returned (.tuple #[.agg #[x0, x1, x2, x3, x4, x5, x6, x7, x8, x9, x10, x11, x12, x13, x14, x15, x16], y, z])) wz) :
  bodyPost Try.prog Try.f50 K Exit.ret a wz := by
 have ha' : a.tmps[6]?.getD undef = .pointer (some ⟨R, 0, none⟩) := by simpa using ha
 have hy' : a.tmps[7]?.getD undef = y := by simpa using hy
 have hz'' : a.tmps[8]?.getD undef = z := by simpa using hz'
 have r0 : wz.cell? ⟨R, 0, none⟩ = some x0 := blk_cell hz rfl
 have r1 : wz.cell? ⟨R, 1, none⟩ = some x1 := blk_cell hz rfl
 have r2 : wz.cell? ⟨R, 2, none⟩ = some x2 := blk_cell hz rfl
 have r3 : wz.cell? ⟨R, 3, none⟩ = some x3 := blk_cell hz rfl
 have r4 : wz.cell? ⟨R, 4, none⟩ = some x4 := blk_cell hz rfl
 have r5 : wz.cell? ⟨R, 5, none⟩ = some x5 := blk_cell hz rfl
 have r6 : wz.cell? ⟨R, 6, none⟩ = some x6 := blk_cell hz rfl
 have r7 : wz.cell? ⟨R, 7, none⟩ = some x7 := blk_cell hz rfl
 have r8 : wz.cell? ⟨R, 8, none⟩ = some x8 := blk_cell hz rfl
 have r9 : wz.cell? ⟨R, 9, none⟩ = some x9 := blk_cell hz rfl
 have r10 : wz.cell? ⟨R, 10, none⟩ = some x10 := blk_cell hz rfl
 have r11 : wz.cell? ⟨R, 11, none⟩ = some x11 := blk_cell hz rfl
 have r12 : wz.cell? ⟨R, 12, none⟩ = some x12 := blk_cell hz rfl
 have r13 : wz.cell? ⟨R, 13, none⟩ = some x13 := blk_cell hz rfl
 have r14 : wz.cell? ⟨R, 14, none⟩ = some x14 := blk_cell hz rfl
 have r15 : wz.cell? ⟨R, 15, none⟩ = some x15 := blk_cell hz rfl
 have r16 : wz.cell? ⟨R, 16, none⟩ = some x16 := blk_cell hz rfl
 exact bodyPost_ret (v := .tuple #[.agg #[x0, x1, x2, x3, x4, x5, x6, x7, x8, x9, x10, x11, x12, x13, x14, x15, x16], y, z]) (by simp [results, Try.results50, go_sem, ha, ha', hy, hy', hz', hz'', r0, r1, r2, r3, r4, r5, r6, r7, r8, r9, r10, r11, r12, r13, r14, r15, r16]) hd h
theorem StB.start (w : World) (r : LegR) (vc : Value) (k : Nat) (vb : Value) (cs : Array Value) : StB w r vc k vb cs ((((w.alloc (.cells #[vc, .int .i64 r.first, .int .i64 r.rounds, .bool r.equal] 42)).alloc (.cells cs 108)).alloc (.cells #[.int .i64 (k : Int), vb] 84)).alloc (.cells zeroC 108)) := by
 refine ⟨?_, ?_, ?_, ?_, by (repeat' (first | exact Below.refl _ _ | assumption | (with_reducible refine Below.drew ?_) | (with_reducible refine Below.setCell ?_ (by (first | (simp; done) | (simp; omega))) _) | (with_reducible refine below_drewN' ?_ _) | (refine Below.alloc ?_ (by (try simp only [World.size_alloc, World.size_drew, World.size_setCell]); omega) _) | (refine Below.trans ?_ (Below.mono (by assumption) (by (try simp only [World.size_alloc, World.size_drew, World.size_setCell]); omega))))), by simp⟩
 ·exact (Below.heap_alloc _ _ _ (by simp; try omega)).trans ((Below.heap_alloc _ _ _ (by simp; try omega)).trans ((Below.heap_alloc _ _ _ (by simp; try omega)).trans (World.alloc_heap_new _ _)))
 ·exact (Below.heap_alloc _ _ _ (by simp; try omega)).trans ((Below.heap_alloc _ _ _ (by simp; try omega)).trans (World.alloc_heap_new' _ _ _ (by simp)))
 ·exact (Below.heap_alloc _ _ _ (by simp; try omega)).trans (World.alloc_heap_new' _ _ _ (by simp))
 ·exact World.alloc_heap_new' _ _ _ (by simp)
end
section
open Go.RowKit Go.Maps Go.Sort Go.Shelf Go.Deep
/-- The operations of a region, found by its number. -/
def opsAt (n : Nat) : Code → Option (List Oper)
 | .region id ops _ => match Nat.beq id n with
  | true => some ops.toList
  | false => none
 | .seq x y => match opsAt n x with
  | some l => some l
  | none => opsAt n y
 | .cond _ x y => match opsAt n x with
  | some l => some l
  | none => opsAt n y
 | .block _ x => opsAt n x
 | .loop x => opsAt n x
 | .scope x => opsAt n x
 | .rangeFunc _ _ x y => match opsAt n x with
  | some l => some l
  | none => opsAt n y
 | _ => none
def regOps (n : Nat) (F : Func) : Option (List Oper) := match F.body with
 | some c => opsAt n c
 | none => none
theorem RfOk.congr {r : LegR} {g : LegG} {R R' : RG} {es : List Nat} (h : RfOk r g R es) (e1 : R'.next = R.next) (e2 : R'.round = R.round) (e3 : R'.over = R.over) (e4 : R'.last = R.last) (e5 : R'.done = R.done) : RfOk r g R' es := by
 obtain ⟨a, b, c, d, e⟩ := R
 obtain ⟨a', b', c', d', e'⟩ := R'
 simp only [] at e1 e2 e3 e4 e5
 subst e1 e2 e3 e4 e5
 exact h
theorem passG_same (r : LegR) (g : LegG) : (passG r g).left = g.left ∧ (passG r g).darts = g.darts ∧ (passG r g).inn = g.inn := by
 unfold passG
 split <;> exact ⟨rfl, rfl, rfl⟩
theorem passG_wins {r : LegR} {g : LegG} : (passG r g).wins = if (passF r g).2.2 = true then winL g else g.wins := by
 unfold passG
 split <;> rfl
theorem RfAt.won {X : Nat} {w w' : World} {vl vd vi vw ve v : Value} {r : LegR} {g : LegG} {es : List Nat} {base : Nat} {ws : List Nat} (h : RfAt X w vl vd vi vw ve g es) (hB : Below w.heap.size w w') (hp : (passF r g).2.2 = true) (hw : winL g = cI ws) (hown : w'.ownsRow base 3 1 v ws.length ((cI ws).map (Value.int .i64))) (hX : X + 2 < base) (hl : ws.length ≤ 1000) : RfAt X w' vl vd vi v ve (passG r g) es := by
 obtain ⟨e1, e2, e3⟩ := passG_same r g
 refine ⟨by rw [e1]; exact h.sl.below hB, by rw [e2]; exact h.sd.below hB, by rw [e3]; exact h.si.below hB, ?_, h.se.below hB⟩
 rw [passG_wins, if_pos hp, hw]
 exact SlN.own (base := base) (by rw [cI_len]; exact hown) hX (by rw [cI_len]; omega)
theorem RfAt.same {X : Nat} {w : World} {vl vd vi vw ve : Value} {r : LegR} {g : LegG} {es : List Nat} (h : RfAt X w vl vd vi vw ve g es) (hp : (passF r g).2.2 = false) : RfAt X w vl vd vi vw ve (passG r g) es := by
 obtain ⟨e1, e2, e3⟩ := passG_same r g
 refine ⟨by rw [e1]; exact h.sl, by rw [e2]; exact h.sd, by rw [e3]; exact h.si, ?_, h.se⟩
 rw [passG_wins, if_neg (by rw [hp]; simp)]
 exact h.sw
theorem overW_len (ps : List Nat) (ns : List Int) : (overW ps ns).length ≤ ns.length := ovK_len _ _ _ _
/-- The next player and the count of players are written. -/
structure C15 (w : World) (r : LegR) (vc : Value) (k : Nat) (vb : Value) (rr rd nx : Int) (rl : Nat → Int) (vl vd vi vw ve : Value) (base : World) (listed : Array Bool) (_a : Act) (W : World) : Prop where
 out : Outs [w.heap.size + 1] base W
 blk : StB w r vc k vb (rgC ⟨if listed.getD 10 false = true then nx else (k : Int), rr, false, rl, if listed.getD 12 false = true then rd + 1 else rd⟩ vl vd vi vw ve) W
section
variable {w base W W' : World} {r : LegR} {vc vb vl vd vi vw ve : Value} {k : Nat} {rr rd nx : Int} {rl : Nat → Int} {listed : Array Bool} {a a' : Act}
theorem C15.start (h : StB w r vc k vb (rgC ⟨(k : Int), rr, false, rl, rd⟩ vl vd vi vw ve) base) (m : Nat) (a : Act) : C15 w r vc k vb rr rd nx rl vl vd vi vw ve base (Array.replicate m false) a base.drew := by
 have hB : Below base.heap.size base base.drew := (Below.refl _ _).drew
 refine ⟨Outs.of_below hB, ?_⟩
 rw [rep_false, rep_false]
 exact h.below hB
theorem C15.other (h : C15 w r vc k vb rr rd nx rl vl vd vi vw ve base listed a W) {i : Nat} (hi : (decide (i ≠ 10) && decide (i ≠ 12)) = true) : C15 w r vc k vb rr rd nx rl vl vd vi vw ve base (listed.setIfInBounds i true) a' W := by
 simp only [Bool.and_eq_true, decide_eq_true_eq] at hi
 refine ⟨h.out, ?_⟩
 rw [getD_set_ne _ _ _ _ (Ne.symm hi.1), getD_set_ne _ _ _ _ (Ne.symm hi.2)]
 exact h.blk
theorem C15.st10 (h : C15 w r vc k vb rr rd nx rl vl vd vi vw ve base listed a W) (hs : 10 < listed.size) : C15 w r vc k vb rr rd nx rl vl vd vi vw ve base (listed.setIfInBounds 10 true) a' (W.setCell ⟨w.heap.size + 1, 3, none⟩ (.int .i64 nx)) := by
 refine ⟨h.out.trans (Outs.set (by simp) _ _ _), ?_⟩
 rw [getD_set_self _ _ _ hs, getD_set_ne _ _ _ _ (by decide), if_pos rfl]
 exact h.blk.setL 3 _
theorem C15.st12 (h : C15 w r vc k vb rr rd nx rl vl vd vi vw ve base listed a W) (hs : 12 < listed.size) : C15 w r vc k vb rr rd nx rl vl vd vi vw ve base (listed.setIfInBounds 12 true) a' (W.setCell ⟨w.heap.size + 1, 16, none⟩ (.int .i64 (rd + 1))) := by
 refine ⟨h.out.trans (Outs.set (by simp) _ _ _), ?_⟩
 rw [getD_set_self _ _ _ hs, getD_set_ne _ _ _ _ (by decide), if_pos rfl]
 exact h.blk.setL 16 _
end
end
section
open Go.RowKit Go.Maps Go.Sort Go.Shelf Go.Deep
section
variable {w w1 w2 w3 w4 w5 w6 w7 w8 wb : World} {r : LegR} {g : LegG} {es : List Nat} {k n off cp b bl ol ccl bd od ccd bi oi cci nw cw ne ce S O ag dg ig ac_ dc ic : Nat} {aw ae : Option Addr} {vb : Value} {rr rd nx l0 c1 c2 c3 tl ts td dt er d0 : Int} {rl : Nat → Int} {b0 ti tb tw : Bool}
set_option maxRecDepth 100000 in
set_option maxHeartbeats 16000000 in
theorem reg8 {ops : List Oper} {Q : Exit → Act → World → Prop} {a0 : Act} (q0 : w1.cell? ⟨b, off + k * 3, none⟩ = some (.int .i64 c1)) (q1 : w1.cell? ⟨b, off + k * 3 + 1, none⟩ = some (.int .i64 c2)) (q2 : w1.cell? ⟨b, off + k * 3 + 2, none⟩ = some (.int .i64 c3)) (ql : w1.cell? ⟨bl, ol + k, none⟩ = some (.int .i64 l0)) (qi : w1.cell? ⟨bi, oi + k, none⟩ = some (.bool b0)) (u0 : w1.cell? ⟨w.heap.size, 0, none⟩ = some (.slice (some ⟨b, off, none⟩) n cp)) (v0 : w1.cell? ⟨w.heap.size + 1 + 1, 0, none⟩ = some (.int .i64 (k : Int))) (v1 : w1.cell? ⟨w.heap.size + 1 + 1, 1, none⟩ = some vb) (g0 : w1.cell? ⟨w.heap.size + 1, 0, none⟩ = some (.slice (some ⟨bl, ol, none⟩) n ccl)) (g2 : w1.cell? ⟨w.heap.size + 1, 2, none⟩ = some (.slice (some ⟨bi, oi, none⟩) n cci)) (HT : Aside (∀ W, Below w.heap.size w W → Calls Try.prog 17 #[.agg #[.int .i64 c1, .int .i64 c2, .int .i64 c3], .bool b0, .int .i64 l0, vb] W (Ret (.tuple #[.agg #[.int .i64 tl, .int .i64 ts, .int .i64 td, .bool ti, .bool tb, .bool tw], .int .i64 dt, .int .i64 er]) W))) (BW : Aside (Below w.heap.size w w1)) (hk : k < n) (hkI : (k : Int) < (n : Int)) (hops : regOps 8 Try.f50 = some ops) (hsz0 : a0.tmps.size = 231) (hs3 : a0.tmps.getD 3 undef = .pointer (some ⟨w.heap.size, 0, none⟩)) (hs4 : a0.tmps.getD 4 undef = .pointer (some ⟨w.heap.size + 1, 0, none⟩)) (hs5 : a0.tmps.getD 5 undef = .pointer (some ⟨w.heap.size + 1 + 1, 0, none⟩))
  (hrest : ∀ (ac : Act) (w2 : World), LaidG ops.toArray a0 (fun (i : Nat) (x : Value) (ww : World) => (match i with | 0 => x = .pointer (some ⟨w.heap.size, 0, none⟩) | 1 => x = .slice (some ⟨b, off, none⟩) n cp | 2 => x = .pointer (some ⟨w.heap.size + 1 + 1, 0, none⟩) | 3 => x = .int .i64 (k : Int) | 4 => x = .pointer (some ⟨b, off + k * 3, none⟩) | 5 => x = .agg #[.int .i64 c1, .int .i64 c2, .int .i64 c3] | 6 => x = .pointer (some ⟨w.heap.size + 1, 0, none⟩) | 7 => x = .pointer (some ⟨w.heap.size + 1, 2, none⟩) | 8 => x = .slice (some ⟨bi, oi, none⟩) n cci | 9 => x = .pointer (some ⟨w.heap.size + 1 + 1, 0, none⟩) | 10 => x = .int .i64 (k : Int) | 11 => x = .pointer (some ⟨bi, oi + k, none⟩) | 12 => x = .bool b0 | 13 => x = .pointer (some ⟨w.heap.size + 1, 0, none⟩) | 14 => x = .pointer (some ⟨w.heap.size + 1, 0, none⟩) | 15 => x = .slice (some ⟨bl, ol, none⟩) n ccl | 16 => x = .pointer (some ⟨w.heap.size + 1 + 1, 0, none⟩) | 17 => x = .int .i64 (k : Int) | 18 => x = .pointer (some ⟨bl, ol + k, none⟩) | 19 => x = .int .i64 l0 | 20 => x = .pointer (some ⟨w.heap.size + 1 + 1, 1, none⟩) | 21 => x = vb | 22 => x = .tuple #[.agg #[.int .i64 tl, .int .i64 ts, .int .i64 td, .bool ti, .bool tb, .bool tw], .int .i64 dt, .int .i64 er] | 23 => x = .tuple #[.agg #[.int .i64 tl, .int .i64 ts, .int .i64 td, .bool ti, .bool tb, .bool tw], .int .i64 dt, .int .i64 er] | 24 => x = .agg #[.int .i64 tl, .int .i64 ts, .int .i64 td, .bool ti, .bool tb, .bool tw] | 25 => x = .int .i64 dt | 26 => x = .int .i64 er | 27 => True | 28 => True | 29 => x = .int .i64 dt | 30 => x = .int .i64 er | _ => True : Prop)) (Cl w1 [(⟨27, 28, 10, .cells #[.int .i64 0, .int .i64 0, .int .i64 0, .bool false, .bool false, .bool false] 30 (0, 0), .cells #[.int .i64 tl, .int .i64 ts, .int .i64 td, .bool ti, .bool tb, .bool tw] 30 (0, 0)⟩ : AS)]) #[true, true, true, true, true, true, true, true, true, true, true, true, true, true, true, true, true, true, true, true, true, true, true, true, true, true, true, true, true, true, true] ac w2 → wpAny Try.prog .any ops.toArray Q 0 #[true, true, true, true, true, true, true, true, true, true, true, true, true, true, true, true, true, true, true, true, true, true, true, true, true, true, true, true, true, true, true] ac w2) : (Code.region 8 ops.toArray true).wp Try.prog Q a0 w1 := by
 (conv at hops => lhs; whnf)
 obtain rfl := Option.some.inj hops
 clear hops
 refine region_laidK (fun _ _ => True) (fl := 16) [true, true, true, true, true, true, true, true, true, true, true, true, true, true, true, true, true, true, true, true, true, true, true, true, true, true, true, true, true, true, true] 0 (fun (i : Nat) (x : Value) (ww : World) => (match i with | 0 => x = .pointer (some ⟨w.heap.size, 0, none⟩) | 1 => x = .slice (some ⟨b, off, none⟩) n cp | 2 => x = .pointer (some ⟨w.heap.size + 1 + 1, 0, none⟩) | 3 => x = .int .i64 (k : Int) | 4 => x = .pointer (some ⟨b, off + k * 3, none⟩) | 5 => x = .agg #[.int .i64 c1, .int .i64 c2, .int .i64 c3] | 6 => x = .pointer (some ⟨w.heap.size + 1, 0, none⟩) | 7 => x = .pointer (some ⟨w.heap.size + 1, 2, none⟩) | 8 => x = .slice (some ⟨bi, oi, none⟩) n cci | 9 => x = .pointer (some ⟨w.heap.size + 1 + 1, 0, none⟩) | 10 => x = .int .i64 (k : Int) | 11 => x = .pointer (some ⟨bi, oi + k, none⟩) | 12 => x = .bool b0 | 13 => x = .pointer (some ⟨w.heap.size + 1, 0, none⟩) | 14 => x = .pointer (some ⟨w.heap.size + 1, 0, none⟩) | 15 => x = .slice (some ⟨bl, ol, none⟩) n ccl | 16 => x = .pointer (some ⟨w.heap.size + 1 + 1, 0, none⟩) | 17 => x = .int .i64 (k : Int) | 18 => x = .pointer (some ⟨bl, ol + k, none⟩) | 19 => x = .int .i64 l0 | 20 => x = .pointer (some ⟨w.heap.size + 1 + 1, 1, none⟩) | 21 => x = vb | 22 => x = .tuple #[.agg #[.int .i64 tl, .int .i64 ts, .int .i64 td, .bool ti, .bool tb, .bool tw], .int .i64 dt, .int .i64 er] | 23 => x = .tuple #[.agg #[.int .i64 tl, .int .i64 ts, .int .i64 td, .bool ti, .bool tb, .bool tw], .int .i64 dt, .int .i64 er] | 24 => x = .agg #[.int .i64 tl, .int .i64 ts, .int .i64 td, .bool ti, .bool tb, .bool tw] | 25 => x = .int .i64 dt | 26 => x = .int .i64 er | 27 => True | 28 => True | 29 => x = .int .i64 dt | 30 => x = .int .i64 er | _ => True : Prop)) (Cl w1 [(⟨27, 28, 10, .cells #[.int .i64 0, .int .i64 0, .int .i64 0, .bool false, .bool false, .bool false] 30 (0, 0), .cells #[.int .i64 tl, .int .i64 ts, .int .i64 td, .bool ti, .bool tb, .bool tw] 30 (0, 0)⟩ : AS)]) (by kernel_rfl) rfl (by rw [hsz0]; decide +kernel) rfl (Cl.start _ _ _ _) ?mono ?step hrest
 case mono =>
  intro i x ww ww' hB h
  match i, h with
  | 0, h => exact h
  | 1, h => exact h
  | 2, h => exact h
  | 3, h => exact h
  | 4, h => exact h
  | 5, h => exact h
  | 6, h => exact h
  | 7, h => exact h
  | 8, h => exact h
  | 9, h => exact h
  | 10, h => exact h
  | 11, h => exact h
  | 12, h => exact h
  | 13, h => exact h
  | 14, h => exact h
  | 15, h => exact h
  | 16, h => exact h
  | 17, h => exact h
  | 18, h => exact h
  | 19, h => exact h
  | 20, h => exact h
  | 21, h => exact h
  | 22, h => exact h
  | 23, h => exact h
  | 24, h => exact h
  | 25, h => exact h
  | 26, h => exact h
  | 27, h => exact h
  | 28, h => exact h
  | 29, h => exact h
  | 30, h => exact h
  | n + 31, h => exact h
 case step =>
  intro i o_ listed ac W hA ho hL he hcl hli hsz
  have hk3 : ac.tmps.getD 3 undef = .pointer (some ⟨w.heap.size, 0, none⟩) := (hL.kept 3 (by decide +kernel)).trans hs3
  have hk4 : ac.tmps.getD 4 undef = .pointer (some ⟨w.heap.size + 1, 0, none⟩) := (hL.kept 4 (by decide +kernel)).trans hs4
  have hk5 : ac.tmps.getD 5 undef = .pointer (some ⟨w.heap.size + 1 + 1, 0, none⟩) := (hL.kept 5 (by decide +kernel)).trans hs5
  have k_q0 := keepc hL.cls.1 q0
  have k_q1 := keepc hL.cls.1 q1
  have k_q2 := keepc hL.cls.1 q2
  have k_ql := keepc hL.cls.1 ql
  have k_qi := keepc hL.cls.1 qi
  have k_u0 := keepc hL.cls.1 u0
  have k_v0 := keepc hL.cls.1 v0
  have k_v1 := keepc hL.cls.1 v1
  have k_g0 := keepc hL.cls.1 g0
  have k_g2 := keepc hL.cls.1 g2
  match i, hA, ho with
  | 0, _, ho =>
   cases ho
   refine wpOp_plain rfl rfl ?_
   unfold Oper.wp
   go_simp
   first | exact Cl.other hL.cls rfl (Below.refl _ _) | exact ⟨_, rfl, trivial, Cl.other hL.cls rfl (Below.refl _ _), rfl⟩
  | 1, _, ho =>
   cases ho
   have d0 : ac.tmps.getD 40 undef = .pointer (some ⟨w.heap.size, 0, none⟩) := hL.new 0 _ 40 rfl (he ⟨0, .data⟩ (by simp) rfl) rfl
   refine wpOp_plain rfl rfl ?_
   unfold Oper.wp
   go_simp
   first | exact Cl.other hL.cls rfl (Below.refl _ _) | exact ⟨_, rfl, trivial, Cl.other hL.cls rfl (Below.refl _ _), rfl⟩
  | 2, _, ho =>
   cases ho
   refine wpOp_plain rfl rfl ?_
   unfold Oper.wp
   go_simp
   first | exact Cl.other hL.cls rfl (Below.refl _ _) | exact ⟨_, rfl, trivial, Cl.other hL.cls rfl (Below.refl _ _), rfl⟩
  | 3, _, ho =>
   cases ho
   have d2 : ac.tmps.getD 42 undef = .pointer (some ⟨w.heap.size + 1 + 1, 0, none⟩) := hL.new 2 _ 42 rfl (he ⟨2, .data⟩ (by simp) rfl) rfl
   refine wpOp_plain rfl rfl ?_
   unfold Oper.wp
   go_simp
   first | exact Cl.other hL.cls rfl (Below.refl _ _) | exact ⟨_, rfl, trivial, Cl.other hL.cls rfl (Below.refl _ _), rfl⟩
  | 4, _, ho =>
   cases ho
   have d1 : ac.tmps.getD 41 undef = .slice (some ⟨b, off, none⟩) n cp := hL.new 1 _ 41 rfl (he ⟨1, .data⟩ (by simp) rfl) rfl
   have d3 : ac.tmps.getD 43 undef = .int .i64 (k : Int) := hL.new 3 _ 43 rfl (he ⟨3, .data⟩ (by simp) rfl) rfl
   refine wpOp_plain rfl rfl ?_
   unfold Oper.wp
   go_simp
   first | exact Cl.other hL.cls rfl (Below.refl _ _) | exact ⟨_, rfl, trivial, Cl.other hL.cls rfl (Below.refl _ _), rfl⟩
  | 5, _, ho =>
   cases ho
   have d4 : ac.tmps.getD 44 undef = .pointer (some ⟨b, off + k * 3, none⟩) := hL.new 4 _ 44 rfl (he ⟨4, .data⟩ (by simp) rfl) rfl
   refine wpOp_plain rfl rfl ?_
   unfold Oper.wp
   go_simp
   first | exact Cl.other hL.cls rfl (Below.refl _ _) | exact ⟨_, rfl, trivial, Cl.other hL.cls rfl (Below.refl _ _), rfl⟩
  | 6, _, ho =>
   cases ho
   refine wpOp_plain rfl rfl ?_
   unfold Oper.wp
   go_simp
   first | exact Cl.other hL.cls rfl (Below.refl _ _) | exact ⟨_, rfl, trivial, Cl.other hL.cls rfl (Below.refl _ _), rfl⟩
  | 7, _, ho =>
   cases ho
   have d6 : ac.tmps.getD 46 undef = .pointer (some ⟨w.heap.size + 1, 0, none⟩) := hL.new 6 _ 46 rfl (he ⟨6, .data⟩ (by simp) rfl) rfl
   refine wpOp_plain rfl rfl ?_
   unfold Oper.wp
   go_simp
   first | exact Cl.other hL.cls rfl (Below.refl _ _) | exact ⟨_, rfl, trivial, Cl.other hL.cls rfl (Below.refl _ _), rfl⟩
  | 8, _, ho =>
   cases ho
   have d7 : ac.tmps.getD 47 undef = .pointer (some ⟨w.heap.size + 1, 2, none⟩) := hL.new 7 _ 47 rfl (he ⟨7, .data⟩ (by simp) rfl) rfl
   refine wpOp_plain rfl rfl ?_
   unfold Oper.wp
   go_simp
   first | exact Cl.other hL.cls rfl (Below.refl _ _) | exact ⟨_, rfl, trivial, Cl.other hL.cls rfl (Below.refl _ _), rfl⟩
  | 9, _, ho =>
   cases ho
   refine wpOp_plain rfl rfl ?_
   unfold Oper.wp
   go_simp
   first | exact Cl.other hL.cls rfl (Below.refl _ _) | exact ⟨_, rfl, trivial, Cl.other hL.cls rfl (Below.refl _ _), rfl⟩
  | 10, _, ho =>
   cases ho
   have d9 : ac.tmps.getD 49 undef = .pointer (some ⟨w.heap.size + 1 + 1, 0, none⟩) := hL.new 9 _ 49 rfl (he ⟨9, .data⟩ (by simp) rfl) rfl
   refine wpOp_plain rfl rfl ?_
   unfold Oper.wp
   go_simp
   first | exact Cl.other hL.cls rfl (Below.refl _ _) | exact ⟨_, rfl, trivial, Cl.other hL.cls rfl (Below.refl _ _), rfl⟩
  | 11, _, ho =>
   cases ho
   have d8 : ac.tmps.getD 48 undef = .slice (some ⟨bi, oi, none⟩) n cci := hL.new 8 _ 48 rfl (he ⟨8, .data⟩ (by simp) rfl) rfl
   have d10 : ac.tmps.getD 50 undef = .int .i64 (k : Int) := hL.new 10 _ 50 rfl (he ⟨10, .data⟩ (by simp) rfl) rfl
   refine wpOp_plain rfl rfl ?_
   unfold Oper.wp
   go_simp
   first | exact Cl.other hL.cls rfl (Below.refl _ _) | exact ⟨_, rfl, trivial, Cl.other hL.cls rfl (Below.refl _ _), rfl⟩
  | 12, _, ho =>
   cases ho
   have d11 : ac.tmps.getD 51 undef = .pointer (some ⟨bi, oi + k, none⟩) := hL.new 11 _ 51 rfl (he ⟨11, .data⟩ (by simp) rfl) rfl
   refine wpOp_plain rfl rfl ?_
   unfold Oper.wp
   go_simp
   first | exact Cl.other hL.cls rfl (Below.refl _ _) | exact ⟨_, rfl, trivial, Cl.other hL.cls rfl (Below.refl _ _), rfl⟩
  | 13, _, ho =>
   cases ho
   refine wpOp_plain rfl rfl ?_
   unfold Oper.wp
   go_simp
   first | exact Cl.other hL.cls rfl (Below.refl _ _) | exact ⟨_, rfl, trivial, Cl.other hL.cls rfl (Below.refl _ _), rfl⟩
  | 14, _, ho =>
   cases ho
   have d13 : ac.tmps.getD 53 undef = .pointer (some ⟨w.heap.size + 1, 0, none⟩) := hL.new 13 _ 53 rfl (he ⟨13, .data⟩ (by simp) rfl) rfl
   refine wpOp_plain rfl rfl ?_
   unfold Oper.wp
   go_simp
   first | exact Cl.other hL.cls rfl (Below.refl _ _) | exact ⟨_, rfl, trivial, Cl.other hL.cls rfl (Below.refl _ _), rfl⟩
  | 15, _, ho =>
   cases ho
   have d14 : ac.tmps.getD 54 undef = .pointer (some ⟨w.heap.size + 1, 0, none⟩) := hL.new 14 _ 54 rfl (he ⟨14, .data⟩ (by simp) rfl) rfl
   refine wpOp_plain rfl rfl ?_
   unfold Oper.wp
   go_simp
   first | exact Cl.other hL.cls rfl (Below.refl _ _) | exact ⟨_, rfl, trivial, Cl.other hL.cls rfl (Below.refl _ _), rfl⟩
  | 16, _, ho =>
   cases ho
   refine wpOp_plain rfl rfl ?_
   unfold Oper.wp
   go_simp
   first | exact Cl.other hL.cls rfl (Below.refl _ _) | exact ⟨_, rfl, trivial, Cl.other hL.cls rfl (Below.refl _ _), rfl⟩
  | 17, _, ho =>
   cases ho
   have d16 : ac.tmps.getD 56 undef = .pointer (some ⟨w.heap.size + 1 + 1, 0, none⟩) := hL.new 16 _ 56 rfl (he ⟨16, .data⟩ (by simp) rfl) rfl
   refine wpOp_plain rfl rfl ?_
   unfold Oper.wp
   go_simp
   first | exact Cl.other hL.cls rfl (Below.refl _ _) | exact ⟨_, rfl, trivial, Cl.other hL.cls rfl (Below.refl _ _), rfl⟩
  | 18, _, ho =>
   cases ho
   have d15 : ac.tmps.getD 55 undef = .slice (some ⟨bl, ol, none⟩) n ccl := hL.new 15 _ 55 rfl (he ⟨15, .data⟩ (by simp) rfl) rfl
   have d17 : ac.tmps.getD 57 undef = .int .i64 (k : Int) := hL.new 17 _ 57 rfl (he ⟨17, .data⟩ (by simp) rfl) rfl
   refine wpOp_plain rfl rfl ?_
   unfold Oper.wp
   go_simp
   first | exact Cl.other hL.cls rfl (Below.refl _ _) | exact ⟨_, rfl, trivial, Cl.other hL.cls rfl (Below.refl _ _), rfl⟩
  | 19, _, ho =>
   cases ho
   have d18 : ac.tmps.getD 58 undef = .pointer (some ⟨bl, ol + k, none⟩) := hL.new 18 _ 58 rfl (he ⟨18, .data⟩ (by simp) rfl) rfl
   refine wpOp_plain rfl rfl ?_
   unfold Oper.wp
   go_simp
   first | exact Cl.other hL.cls rfl (Below.refl _ _) | exact ⟨_, rfl, trivial, Cl.other hL.cls rfl (Below.refl _ _), rfl⟩
  | 20, _, ho =>
   cases ho
   refine wpOp_plain rfl rfl ?_
   unfold Oper.wp
   go_simp
   first | exact Cl.other hL.cls rfl (Below.refl _ _) | exact ⟨_, rfl, trivial, Cl.other hL.cls rfl (Below.refl _ _), rfl⟩
  | 21, _, ho =>
   cases ho
   have d20 : ac.tmps.getD 60 undef = .pointer (some ⟨w.heap.size + 1 + 1, 1, none⟩) := hL.new 20 _ 60 rfl (he ⟨20, .data⟩ (by simp) rfl) rfl
   refine wpOp_plain rfl rfl ?_
   unfold Oper.wp
   go_simp
   first | exact Cl.other hL.cls rfl (Below.refl _ _) | exact ⟨_, rfl, trivial, Cl.other hL.cls rfl (Below.refl _ _), rfl⟩
  | 22, _, ho =>
   cases ho
   have d5 : ac.tmps.getD 45 undef = .agg #[.int .i64 c1, .int .i64 c2, .int .i64 c3] := hL.new 5 _ 45 rfl (he ⟨5, .data⟩ (by simp) rfl) rfl
   have d12 : ac.tmps.getD 52 undef = .bool b0 := hL.new 12 _ 52 rfl (he ⟨12, .data⟩ (by simp) rfl) rfl
   have d19 : ac.tmps.getD 59 undef = .int .i64 l0 := hL.new 19 _ 59 rfl (he ⟨19, .data⟩ (by simp) rfl) rfl
   have d21 : ac.tmps.getD 61 undef = vb := hL.new 21 _ 61 rfl (he ⟨21, .data⟩ (by simp) rfl) rfl
   have x := HT.out W (BW.out.trans (hL.cls.1.mono BW.out.size))
   refine wpOp_plain rfl rfl ?_
   unfold Oper.wp
   go_simp
   refine x.mono ?_
   rintro e w' ⟨rfl, hBn⟩
   exact ⟨rfl, Cl.other (i := 22) (t := 62) hL.cls rfl hBn⟩
  | 23, _, ho =>
   cases ho
   have d22 : ac.tmps.getD 62 undef = .tuple #[.agg #[.int .i64 tl, .int .i64 ts, .int .i64 td, .bool ti, .bool tb, .bool tw], .int .i64 dt, .int .i64 er] := hL.new 22 _ 62 rfl (he ⟨22, .data⟩ (by simp) rfl) rfl
   refine wpOp_plain rfl rfl ?_
   unfold Oper.wp
   go_simp
   first | exact Cl.other hL.cls rfl (Below.refl _ _) | exact ⟨_, rfl, trivial, Cl.other hL.cls rfl (Below.refl _ _), rfl⟩
  | 24, _, ho =>
   cases ho
   have d23 : ac.tmps.getD 39 undef = .tuple #[.agg #[.int .i64 tl, .int .i64 ts, .int .i64 td, .bool ti, .bool tb, .bool tw], .int .i64 dt, .int .i64 er] := hL.new 23 _ 39 rfl (he ⟨23, .data⟩ (by simp) rfl) rfl
   refine wpOp_plain rfl rfl ?_
   unfold Oper.wp
   go_simp
   first | exact Cl.other hL.cls rfl (Below.refl _ _) | exact ⟨_, rfl, trivial, Cl.other hL.cls rfl (Below.refl _ _), rfl⟩
  | 25, _, ho =>
   cases ho
   have d23 : ac.tmps.getD 39 undef = .tuple #[.agg #[.int .i64 tl, .int .i64 ts, .int .i64 td, .bool ti, .bool tb, .bool tw], .int .i64 dt, .int .i64 er] := hL.new 23 _ 39 rfl (he ⟨23, .data⟩ (by simp) rfl) rfl
   refine wpOp_plain rfl rfl ?_
   unfold Oper.wp
   go_simp
   first | exact Cl.other hL.cls rfl (Below.refl _ _) | exact ⟨_, rfl, trivial, Cl.other hL.cls rfl (Below.refl _ _), rfl⟩
  | 26, _, ho =>
   cases ho
   have d23 : ac.tmps.getD 39 undef = .tuple #[.agg #[.int .i64 tl, .int .i64 ts, .int .i64 td, .bool ti, .bool tb, .bool tw], .int .i64 dt, .int .i64 er] := hL.new 23 _ 39 rfl (he ⟨23, .data⟩ (by simp) rfl) rfl
   refine wpOp_plain rfl rfl ?_
   unfold Oper.wp
   go_simp
   first | exact Cl.other hL.cls rfl (Below.refl _ _) | exact ⟨_, rfl, trivial, Cl.other hL.cls rfl (Below.refl _ _), rfl⟩
  | 27, _, ho =>
   cases ho
   have hq : listed.getD 28 false = false := by
    cases hx : listed.getD 28 false with
    | false => rfl
    | true =>
     have h8 := hcl 28 _ rfl hx ⟨27, .data⟩ (by simp) rfl
     simp only [Array.getD_eq_getD_getElem?] at h8 hli
     rw [Array.getElem?_eq_getElem (show 27 < listed.size by rw [hsz]; decide)] at h8 hli
     rw [Option.getD_some] at h8 hli
     rw [h8] at hli
     exact absurd hli (by simp)
   refine wpOp_plain rfl rfl ?_
   unfold Oper.wp
   go_simp
   exact ⟨_, rfl, Cl.alloc (⟨27, 28, 10, .cells #[.int .i64 0, .int .i64 0, .int .i64 0, .bool false, .bool false, .bool false] 30 (0, 0), .cells #[.int .i64 tl, .int .i64 ts, .int .i64 td, .bool ti, .bool tb, .bool tw] 30 (0, 0)⟩ : AS) hL.cls (by simp) (by rw [hL.size, hsz0]; exact (by decide : (10 : Nat) < 231)) hq (by simp) (by intro e' he hne; simp at he; subst he; exact absurd rfl hne)⟩
  | 28, _, ho =>
   cases ho
   have d24 : ac.tmps.getD 63 undef = .agg #[.int .i64 tl, .int .i64 ts, .int .i64 td, .bool ti, .bool tb, .bool tw] := hL.new 24 _ 63 rfl (he ⟨24, .data⟩ (by simp) rfl) rfl
   have hpp : listed.getD 27 false = true := he ⟨27, .data⟩ (by simp) rfl
   obtain ⟨g, g1, g2, g3, g4⟩ := hL.cls.2.1 (⟨27, 28, 10, .cells #[.int .i64 0, .int .i64 0, .int .i64 0, .bool false, .bool false, .bool false] 30 (0, 0), .cells #[.int .i64 tl, .int .i64 ts, .int .i64 td, .bool ti, .bool tb, .bool tw] 30 (0, 0)⟩ : AS) (by simp) hpp
   have hq : listed.getD 28 false = false := by
    simp only [Array.getD_eq_getD_getElem?] at hli ⊢
    rw [Array.getElem?_eq_getElem (show 28 < listed.size by rw [hsz]; decide)] at hli ⊢
    simpa using hli
   simp only [] at g1 g4
   rw [if_neg (by rw [hq]; simp)] at g4
   have HPU : Aside _ := Cl.store (⟨27, 28, 10, .cells #[.int .i64 0, .int .i64 0, .int .i64 0, .bool false, .bool false, .bool false] 30 (0, 0), .cells #[.int .i64 tl, .int .i64 ts, .int .i64 td, .bool ti, .bool tb, .bool tw] 30 (0, 0)⟩ : AS) hL.cls (by simp) hpp (by rw [hsz]; exact (by decide : (28 : Nat) < 31)) g1 (put6 g4) (by simp) (by intro e' he hne; simp at he; subst he; exact absurd rfl hne)
   have zc0 : W.cell? ⟨g, 0, none⟩ = some (.int .i64 0) := blk_cell g4 rfl
   have zc1 : W.cell? ⟨g, 1, none⟩ = some (.int .i64 0) := blk_cell g4 rfl
   have zc2 : W.cell? ⟨g, 2, none⟩ = some (.int .i64 0) := blk_cell g4 rfl
   have zc3 : W.cell? ⟨g, 3, none⟩ = some (.bool false) := blk_cell g4 rfl
   have zc4 : W.cell? ⟨g, 4, none⟩ = some (.bool false) := blk_cell g4 rfl
   have zc5 : W.cell? ⟨g, 5, none⟩ = some (.bool false) := blk_cell g4 rfl
   have zf : ∀ i, W.frozen? ⟨g, i, none⟩ = false := fun i => blk_free g4 i
   clear g4
   refine wpOp_plain rfl rfl ?_
   unfold Oper.wp
   go_simp
   exact HPU.out
  | 29, _, ho =>
   cases ho
   have d25 : ac.tmps.getD 64 undef = .int .i64 dt := hL.new 25 _ 64 rfl (he ⟨25, .data⟩ (by simp) rfl) rfl
   refine wpOp_plain rfl rfl ?_
   unfold Oper.wp
   go_simp
   first | exact Cl.other hL.cls rfl (Below.refl _ _) | exact ⟨_, rfl, trivial, Cl.other hL.cls rfl (Below.refl _ _), rfl⟩
  | 30, _, ho =>
   cases ho
   have d26 : ac.tmps.getD 65 undef = .int .i64 er := hL.new 26 _ 65 rfl (he ⟨26, .data⟩ (by simp) rfl) rfl
   refine wpOp_plain rfl rfl ?_
   unfold Oper.wp
   go_simp
   first | exact Cl.other hL.cls rfl (Below.refl _ _) | exact ⟨_, rfl, trivial, Cl.other hL.cls rfl (Below.refl _ _), rfl⟩
  | n + 31, hA, _ => simp at hA
end
end
end Go.Proofs.Ytgmlcgifagbjmaa
