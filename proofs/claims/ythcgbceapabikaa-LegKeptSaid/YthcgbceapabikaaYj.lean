/- Board, part Yj: blocks that one region makes and fills. -/
import Derived.Test.YthcgbceapabikaaRk
import Derived.Test.YthcgbceapabikaaE
import Derived.Lib.SmallJoins
set_option linter.unusedVariables false
set_option linter.unusedSimpArgs false
namespace Go.Proofs.Ythcgbceapabikaa
open Go.RowKit Go.Shelf

/-- An allocation (p), its store (q), its slot (u): the block before and behind the store. -/
structure AS where
  p : Nat
  q : Nat
  u : Nat
  Z : Obj
  F : Obj
def AF (base : Nat) (e : AS) (listed : Array Bool) (a : Act) (w : World) : Prop :=
  listed.getD e.p false = true → ∃ g, a.tmps.getD e.u undef = .pointer (some ⟨g, 0, none⟩) ∧ base ≤ g ∧ g < w.heap.size ∧ w.heap[g]? = some (if listed.getD e.q false = true then e.F else e.Z)
def Cl (B : World) (L : List AS) (listed : Array Bool) (a : Act) (w : World) : Prop :=
  Below B.heap.size B w ∧ (∀ e ∈ L, AF B.heap.size e listed a w) ∧ (∀ e ∈ L, ∀ e' ∈ L, e.p ≠ e'.p → listed.getD e.p false = true → listed.getD e'.p false = true → a.tmps.getD e.u undef ≠ a.tmps.getD e'.u undef)
theorem Cl.start (B : World) (L : List AS) (n : Nat) (a : Act) : Cl B L (Array.replicate n false) a B.drew := by
  have h : ∀ i, (Array.replicate n false).getD i false = false := by
    intro i
    simp only [Array.getD_eq_getD_getElem?, Array.getElem?_replicate]
    split <;> rfl
  refine ⟨(Below.refl _ _).drew, fun e _ hp => ?_, fun e _ e' _ _ hp _ => ?_⟩
  · rw [h] at hp; cases hp
  · rw [h] at hp; cases hp
theorem Cl.other {B w w' : World} {L : List AS} {i t : Nat} {listed : Array Bool} {a : Act} {x : Value} (h : Cl B L listed a w) (hL : (L.all fun e => decide (i ≠ e.p) && decide (i ≠ e.q) && decide (t ≠ e.u)) = true) (hB : Below w.heap.size w w') : Cl B L (listed.setIfInBounds i true) (a.put (some t) x) w' := by
  obtain ⟨h1, h2, h3⟩ := h
  rw [List.all_eq_true] at hL
  have hx : ∀ e ∈ L, (listed.setIfInBounds i true).getD e.p false = listed.getD e.p false ∧ (listed.setIfInBounds i true).getD e.q false = listed.getD e.q false ∧ (a.put (some t) x).tmps.getD e.u undef = a.tmps.getD e.u undef := by
    intro e he
    have := hL e he
    simp only [Bool.and_eq_true, decide_eq_true_eq] at this
    exact ⟨getD_set_ne _ _ _ _ (Ne.symm this.1.1), getD_set_ne _ _ _ _ (Ne.symm this.1.2), getDV_set_ne _ _ _ _ _ (Ne.symm this.2)⟩
  refine ⟨h1.trans (hB.mono h1.size), fun e he hp => ?_, fun e he e' he' hne hp hp' => ?_⟩
  · obtain ⟨x1, x2, x3⟩ := hx e he
    rw [x1] at hp
    obtain ⟨g, g1, g2, g3, g4⟩ := h2 e he hp
    exact ⟨g, by rw [x3]; exact g1, g2, Nat.lt_of_lt_of_le g3 hB.size, by rw [x2, hB.block g g3]; exact g4⟩
  · obtain ⟨x1, x2, x3⟩ := hx e he
    obtain ⟨y1, y2, y3⟩ := hx e' he'
    rw [x3, y3]
    exact h3 e he e' he' hne (by rw [← x1]; exact hp) (by rw [← y1]; exact hp')
theorem Cl.alloc {B w : World} {L : List AS} {listed : Array Bool} {a : Act} (e : AS) (h : Cl B L listed a w) (hm : e ∈ L) (hs : e.u < a.tmps.size) (hq : listed.getD e.q false = false) (hpq : e.p ≠ e.q)
    (hL : ∀ e' ∈ L, e' ≠ e → e.p ≠ e'.p ∧ e.p ≠ e'.q ∧ e.u ≠ e'.u) : Cl B L (listed.setIfInBounds e.p true) (a.put (some e.u) (.pointer (some ⟨w.heap.size, 0, none⟩))) (w.alloc e.Z) := by
  obtain ⟨h1, h2, h3⟩ := h
  have hself : (a.put (some e.u) (.pointer (some ⟨w.heap.size, 0, none⟩))).tmps.getD e.u undef = .pointer (some ⟨w.heap.size, 0, none⟩) := getDV_set_self _ _ _ _ hs
  have hx : ∀ e' ∈ L, e' ≠ e → (listed.setIfInBounds e.p true).getD e'.p false = listed.getD e'.p false ∧ (listed.setIfInBounds e.p true).getD e'.q false = listed.getD e'.q false ∧ (a.put (some e.u) (.pointer (some ⟨w.heap.size, 0, none⟩))).tmps.getD e'.u undef = a.tmps.getD e'.u undef := by
    intro e' he hne
    obtain ⟨y1, y2, y3⟩ := hL e' he hne
    exact ⟨getD_set_ne _ _ _ _ (Ne.symm y1), getD_set_ne _ _ _ _ (Ne.symm y2), getDV_set_ne _ _ _ _ _ (Ne.symm y3)⟩
  have key : ∀ e' ∈ L, e' ≠ e → (listed.setIfInBounds e.p true).getD e'.p false = true → ∃ g, (a.put (some e.u) (.pointer (some ⟨w.heap.size, 0, none⟩))).tmps.getD e'.u undef = .pointer (some ⟨g, 0, none⟩) ∧ B.heap.size ≤ g ∧ g < w.heap.size ∧ (w.alloc e.Z).heap[g]? = some (if (listed.setIfInBounds e.p true).getD e'.q false = true then e'.F else e'.Z) := by
    intro e' he hne hp
    obtain ⟨x1, x2, x3⟩ := hx e' he hne
    rw [x1] at hp
    obtain ⟨g, g1, g2, g3, g4⟩ := h2 e' he hp
    exact ⟨g, by rw [x3]; exact g1, g2, g3, by rw [x2, Below.heap_alloc _ _ _ g3]; exact g4⟩
  refine ⟨h1.alloc h1.size _, fun e' he hp => ?_, fun e1 he1 e2 he2 hne hp1 hp2 => ?_⟩
  · by_cases hee : e' = e
    · subst hee
      refine ⟨w.heap.size, hself, h1.size, by simp, ?_⟩
      rw [getD_set_ne _ _ _ _ (Ne.symm hpq), hq]
      exact World.alloc_heap_new _ _
    · obtain ⟨g, g1, g2, g3, g4⟩ := key e' he hee hp
      exact ⟨g, g1, g2, by simp; omega, g4⟩
  · by_cases c1 : e1 = e
    · by_cases c2 : e2 = e
      · rw [c1, c2] at hne; exact absurd rfl hne
      · subst c1
        obtain ⟨g, g1, _, g3, _⟩ := key e2 he2 c2 hp2
        rw [hself, g1]
        intro ee
        simp at ee <;> omega
    · by_cases c2 : e2 = e
      · subst c2
        obtain ⟨g, g1, _, g3, _⟩ := key e1 he1 c1 hp1
        rw [hself, g1]
        intro ee
        simp at ee <;> omega
      · obtain ⟨x1, _, x3⟩ := hx e1 he1 c1
        obtain ⟨y1, _, y3⟩ := hx e2 he2 c2
        rw [x3, y3]
        exact h3 e1 he1 e2 he2 hne (by rw [← x1]; exact hp1) (by rw [← y1]; exact hp2)
/-- Another block is as it was. -/
structure Put (g : Nat) (F : Obj) (w w' : World) : Prop where
  os : w'.os = w.os
  tape : w'.tape = w.tape
  output : w'.output = w.output
  size : w'.heap.size = w.heap.size
  self : w'.heap[g]? = some F
  block : ∀ k, k ≠ g → w'.heap[k]? = w.heap[k]?
theorem Cl.store {B w w' : World} {L : List AS} {listed : Array Bool} {a : Act} (e : AS) (h : Cl B L listed a w) (hm : e ∈ L) (hp : listed.getD e.p false = true) (hin : e.q < listed.size) {g : Nat} (hg : a.tmps.getD e.u undef = .pointer (some ⟨g, 0, none⟩)) (hput : Put g e.F w w')
    (hpq : e.p ≠ e.q) (hL : ∀ e' ∈ L, e' ≠ e → e.p ≠ e'.p ∧ e.q ≠ e'.p ∧ e.q ≠ e'.q) : Cl B L (listed.setIfInBounds e.q true) a w' := by
  obtain ⟨h1, h2, h3⟩ := h
  obtain ⟨g', g1, g2, g3, g4⟩ := h2 e hm hp
  have hgg : g' = g := by rw [g1] at hg; simpa using hg
  subst hgg
  refine ⟨⟨hput.os.trans h1.os, hput.tape.trans h1.tape, hput.output.trans h1.output, by rw [hput.size]; exact h1.size, fun k hk => by rw [hput.block k (by omega)]; exact h1.block k hk⟩, fun e' he hp' => ?_, fun e1 he1 e2 he2 hne hp1 hp2 => ?_⟩
  · by_cases hee : e' = e
    · subst hee
      exact ⟨g', g1, g2, by rw [hput.size]; exact g3, by rw [getD_set_self _ _ _ hin, if_pos rfl]; exact hput.self⟩
    · obtain ⟨x1, x2, x3⟩ := hL e' he hee
      rw [getD_set_ne _ _ _ _ (Ne.symm x2)] at hp'
      obtain ⟨k, k1, k2, k3, k4⟩ := h2 e' he hp'
      have hkg : k ≠ g' := by
        intro ee
        have := h3 e hm e' he x1 hp hp'
        rw [g1, k1, ee] at this
        exact this rfl
      exact ⟨k, k1, k2, by rw [hput.size]; exact k3, by rw [getD_set_ne _ _ _ _ (Ne.symm x3), hput.block k hkg]; exact k4⟩
  · have y1 : ∀ e' ∈ L, (listed.setIfInBounds e.q true).getD e'.p false = listed.getD e'.p false := by
      intro e' he
      by_cases hee : e' = e
      · subst hee; exact getD_set_ne _ _ _ _ hpq
      · exact getD_set_ne _ _ _ _ (Ne.symm (hL e' he hee).2.1)
    rw [y1 e1 he1] at hp1
    rw [y1 e2 he2] at hp2
    exact h3 e1 he1 e2 he2 hne hp1 hp2
theorem put2 {W : World} {g : Nat} {x y z u : Value} {T : TypeId} (h : W.heap[g]? = some (.cells #[z, u] T (0, 0))) : Put g (.cells #[x, y] T (0, 0)) W ((W.setCell ⟨g, 0, none⟩ x).setCell ⟨g, 1, none⟩ y) := by
  have z0 := Go.Joins.block_setCell (i := 0) h x
  have z1 := Go.Joins.block_setCell (i := 1) z0 y
  have hb := ((Below.refl g W).setCell (p := ⟨g, 0, none⟩) (Nat.le_refl _) x).setCell (p := ⟨g, 1, none⟩) (Nat.le_refl _) y
  exact ⟨hb.os, hb.tape, hb.output, by simp [World.setCell], z1, fun k hk => by rw [Below.heap_setCell _ _ _ _ hk, Below.heap_setCell _ _ _ _ hk]⟩
theorem put4 {W : World} {g : Nat} {x0 x1 x2 x3 y0 y1 y2 y3 : Value} {T : TypeId} (h : W.heap[g]? = some (.cells #[y0, y1, y2, y3] T (0, 0))) : Put g (.cells #[x0, x1, x2, x3] T (0, 0)) W ((((W.setCell ⟨g, 0, none⟩ x0).setCell ⟨g, 1, none⟩ x1).setCell ⟨g, 2, none⟩ x2).setCell ⟨g, 3, none⟩ x3) := by
  have z0 := Go.Joins.block_setCell (i := 0) h x0
  have z1 := Go.Joins.block_setCell (i := 1) z0 x1
  have z2 := Go.Joins.block_setCell (i := 2) z1 x2
  have z3 := Go.Joins.block_setCell (i := 3) z2 x3
  have hb := ((((Below.refl g W).setCell (p := ⟨g, 0, none⟩) (Nat.le_refl _) x0).setCell (p := ⟨g, 1, none⟩) (Nat.le_refl _) x1).setCell (p := ⟨g, 2, none⟩) (Nat.le_refl _) x2).setCell (p := ⟨g, 3, none⟩) (Nat.le_refl _) x3
  exact ⟨hb.os, hb.tape, hb.output, by simp [World.setCell], z3, fun k hk => by rw [Below.heap_setCell _ _ _ _ hk, Below.heap_setCell _ _ _ _ hk, Below.heap_setCell _ _ _ _ hk, Below.heap_setCell _ _ _ _ hk]⟩
theorem put6 {W : World} {g : Nat} {x0 x1 x2 x3 x4 x5 y0 y1 y2 y3 y4 y5 : Value} {T : TypeId} (h : W.heap[g]? = some (.cells #[y0, y1, y2, y3, y4, y5] T (0, 0))) : Put g (.cells #[x0, x1, x2, x3, x4, x5] T (0, 0)) W ((((((W.setCell ⟨g, 0, none⟩ x0).setCell ⟨g, 1, none⟩ x1).setCell ⟨g, 2, none⟩ x2).setCell ⟨g, 3, none⟩ x3).setCell ⟨g, 4, none⟩ x4).setCell ⟨g, 5, none⟩ x5) := by
  have z0 := Go.Joins.block_setCell (i := 0) h x0
  have z1 := Go.Joins.block_setCell (i := 1) z0 x1
  have z2 := Go.Joins.block_setCell (i := 2) z1 x2
  have z3 := Go.Joins.block_setCell (i := 3) z2 x3
  have z4 := Go.Joins.block_setCell (i := 4) z3 x4
  have z5 := Go.Joins.block_setCell (i := 5) z4 x5
  have hb := (((((((Below.refl g W).setCell (p := ⟨g, 0, none⟩) (Nat.le_refl _) x0).setCell (p := ⟨g, 1, none⟩) (Nat.le_refl _) x1).setCell (p := ⟨g, 2, none⟩) (Nat.le_refl _) x2).setCell (p := ⟨g, 3, none⟩) (Nat.le_refl _) x3).setCell (p := ⟨g, 4, none⟩) (Nat.le_refl _) x4).setCell (p := ⟨g, 5, none⟩) (Nat.le_refl _) x5)
  exact ⟨hb.os, hb.tape, hb.output, by simp [World.setCell], z5, fun k hk => by rw [Below.heap_setCell _ _ _ _ hk, Below.heap_setCell _ _ _ _ hk, Below.heap_setCell _ _ _ _ hk, Below.heap_setCell _ _ _ _ hk, Below.heap_setCell _ _ _ _ hk, Below.heap_setCell _ _ _ _ hk]⟩
end Go.Proofs.Ythcgbceapabikaa
