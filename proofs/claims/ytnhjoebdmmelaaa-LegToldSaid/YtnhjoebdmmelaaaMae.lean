/- Leg: parts Yj, F. -/
import Derived.Lib.SmallJoins
import Derived.Test.YtnhjoebdmmelaaaMad
import Derived.Test.YtnhjoebdmmelaaaMab
set_option linter.unusedVariables false
set_option linter.unusedSimpArgs false
namespace Go.Proofs.Ytnhjoebdmmelaaa
section
open Go.RowKit Go.Shelf
structure AS where
 p : Nat
 q : Nat
 u : Nat
 Z : Obj
 F : Obj
def AF (base : Nat) (e : AS) (listed : Array Bool) (a : Act) (w : World) : Prop :=
 listed.getD e.p false = true → ∃ g, a.tmps.getD e.u undef = .pointer (some ⟨g, 0, none⟩) ∧ base ≤ g ∧ g < w.heap.size ∧ w.heap[g]? = some (if listed.getD e.q false = true then e.F else e.Z)
def Cl (B : World) (L : List AS) (listed : Array Bool) (a : Act) (w : World) : Prop :=
 Below B.heap.size B w ∧ (∀ e ∈ L, AF B.heap.size e listed a w) ∧ (∀ e ∈ L, ∀ e' ∈ L, e.p ≠ e'.p → listed.getD e.p false = true → listed.getD e'.p false = true → a.tmps.getD e.u undef ≠ a.tmps.getD e'.u undef)
theorem Cl.start (B : World) (L : List AS) (n : Nat) (a : Act) : Cl B L (Array.replicate n false) a B.drew := by
 have h : ∀ i, (Array.replicate n false).getD i false = false := by
  intro i
  simp only [Array.getD_eq_getD_getElem?, Array.getElem?_replicate]
  split <;> rfl
 refine ⟨(Below.refl _ _).drew, fun e _ hp => ?_, fun e _ e' _ _ hp _ => ?_⟩
 ·rw [h] at hp; cases hp
 ·rw [h] at hp; cases hp
theorem Cl.other {B w w' : World} {L : List AS} {i t : Nat} {listed : Array Bool} {a : Act} {x : Value} (h : Cl B L listed a w) (hL : (L.all fun e => decide (i ≠ e.p) && decide (i ≠ e.q) && decide (t ≠ e.u)) = true) (hB : Below w.heap.size w w') : Cl B L (listed.setIfInBounds i true) (a.put (some t) x) w' := by
 obtain ⟨h1, h2, h3⟩ := h
 rw [List.all_eq_true] at hL
 have hx : ∀ e ∈ L, (listed.setIfInBounds i true).getD e.p false = listed.getD e.p false ∧ (listed.setIfInBounds i true).getD e.q false = listed.getD e.q false ∧ (a.put (some t) x).tmps.getD e.u undef = a.tmps.getD e.u undef := by
  intro e he
  have := hL e he
  simp only [Bool.and_eq_true, decide_eq_true_eq] at this
  exact ⟨getD_set_ne _ _ _ _ (Ne.symm this.1.1), getD_set_ne _ _ _ _ (Ne.symm this.1.2), getDV_set_ne _ _ _ _ _ (Ne.symm this.2)⟩
 refine ⟨h1.trans (hB.mono h1.size), fun e he hp => ?_, fun e he e' he' hne hp hp' => ?_⟩
 ·obtain ⟨x1, x2, x3⟩ := hx e he
  rw [x1] at hp
  obtain ⟨g, g1, g2, g3, g4⟩ := h2 e he hp
  exact ⟨g, by rw [x3]; exact g1, g2, Nat.lt_of_lt_of_le g3 hB.size, by rw [x2, hB.block g g3]; exact g4⟩
 ·obtain ⟨x1, x2, x3⟩ := hx e he
  obtain ⟨y1, y2, y3⟩ := hx e' he'
  rw [x3, y3]
  exact h3 e he e' he' hne (by rw [← x1]; exact hp) (by rw [← y1]; exact hp')
theorem Cl.alloc {B w : World} {L : List AS} {listed : Array Bool} {a : Act} (e : AS) (h : Cl B L listed a w) (hm : e ∈ L) (hs : e.u < a.tmps.size) (hq : listed.getD e.q false = false) (hpq : e.p ≠ e.q)
  (hL : ∀ e' ∈ L, e' ≠ e → e.p ≠ e'.p ∧ e.p ≠ e'.q ∧ e.u ≠ e'.u) : Cl B L (listed.setIfInBounds e.p true) (a.put (some e.u) (.pointer (some ⟨w.heap.size, 0, none⟩))) (w.alloc e.Z) := by
 obtain ⟨h1, h2, h3⟩ := h
 have hself : (a.put (some e.u) (.pointer (some ⟨w.heap.size, 0, none⟩))).tmps.getD e.u undef = .pointer (some ⟨w.heap.size, 0, none⟩) := getDV_set_self _ _ _ _ hs
 have hx : ∀ e' ∈ L, e' ≠ e → (listed.setIfInBounds e.p true).getD e'.p false = listed.getD e'.p false ∧ (listed.setIfInBounds e.p true).getD e'.q false = listed.getD e'.q false ∧ (a.put (some e.u) (.pointer (some ⟨w.heap.size, 0, none⟩))).tmps.getD e'.u undef = a.tmps.getD e'.u undef := by
  intro e' he hne
  obtain ⟨y1, y2, y3⟩ := hL e' he hne
  exact ⟨getD_set_ne _ _ _ _ (Ne.symm y1), getD_set_ne _ _ _ _ (Ne.symm y2), getDV_set_ne _ _ _ _ _ (Ne.symm y3)⟩
 have key : ∀ e' ∈ L, e' ≠ e → (listed.setIfInBounds e.p true).getD e'.p false = true → ∃ g, (a.put (some e.u) (.pointer (some ⟨w.heap.size, 0, none⟩))).tmps.getD e'.u undef = .pointer (some ⟨g, 0, none⟩) ∧ B.heap.size ≤ g ∧ g < w.heap.size ∧ (w.alloc e.Z).heap[g]? = some (if (listed.setIfInBounds e.p true).getD e'.q false = true then e'.F else e'.Z) := by
  intro e' he hne hp
  obtain ⟨x1, x2, x3⟩ := hx e' he hne
  rw [x1] at hp
  obtain ⟨g, g1, g2, g3, g4⟩ := h2 e' he hp
  exact ⟨g, by rw [x3]; exact g1, g2, g3, by rw [x2, Below.heap_alloc _ _ _ g3]; exact g4⟩
 refine ⟨h1.alloc h1.size _, fun e' he hp => ?_, fun e1 he1 e2 he2 hne hp1 hp2 => ?_⟩
 ·by_cases hee : e' = e
  ·subst hee
   refine ⟨w.heap.size, hself, h1.size, by simp, ?_⟩
   rw [getD_set_ne _ _ _ _ (Ne.symm hpq), hq]
   exact World.alloc_heap_new _ _
  ·obtain ⟨g, g1, g2, g3, g4⟩ := key e' he hee hp
   exact ⟨g, g1, g2, by simp; omega, g4⟩
 ·by_cases c1 : e1 = e
  ·by_cases c2 : e2 = e
   ·rw [c1, c2] at hne; exact absurd rfl hne
   ·subst c1
    obtain ⟨g, g1, _, g3, _⟩ := key e2 he2 c2 hp2
    rw [hself, g1]
    intro ee
    simp at ee <;> omega
  ·by_cases c2 : e2 = e
   ·subst c2
    obtain ⟨g, g1, _, g3, _⟩ := key e1 he1 c1 hp1
    rw [hself, g1]
    intro ee
    simp at ee <;> omega
   ·obtain ⟨x1, _, x3⟩ := hx e1 he1 c1
    obtain ⟨y1, _, y3⟩ := hx e2 he2 c2
    rw [x3, y3]
    exact h3 e1 he1 e2 he2 hne (by rw [← x1]; exact hp1) (by rw [← y1]; exact hp2)
structure Put (g : Nat) (F : Obj) (w w' : World) : Prop where
 os : w'.os = w.os
 tape : w'.tape = w.tape
 output : w'.output = w.output
 size : w'.heap.size = w.heap.size
 self : w'.heap[g]? = some F
 block : ∀ k, k ≠ g → w'.heap[k]? = w.heap[k]?
theorem Cl.store {B w w' : World} {L : List AS} {listed : Array Bool} {a : Act} (e : AS) (h : Cl B L listed a w) (hm : e ∈ L) (hp : listed.getD e.p false = true) (hin : e.q < listed.size) {g : Nat} (hg : a.tmps.getD e.u undef = .pointer (some ⟨g, 0, none⟩)) (hput : Put g e.F w w')
  (hpq : e.p ≠ e.q) (hL : ∀ e' ∈ L, e' ≠ e → e.p ≠ e'.p ∧ e.q ≠ e'.p ∧ e.q ≠ e'.q) : Cl B L (listed.setIfInBounds e.q true) a w' := by
 obtain ⟨h1, h2, h3⟩ := h
 obtain ⟨g', g1, g2, g3, g4⟩ := h2 e hm hp
 have hgg : g' = g := by rw [g1] at hg; simpa using hg
 subst hgg
 refine ⟨⟨hput.os.trans h1.os, hput.tape.trans h1.tape, hput.output.trans h1.output, by rw [hput.size]; exact h1.size, fun k hk => by rw [hput.block k (by omega)]; exact h1.block k hk⟩, fun e' he hp' => ?_, fun e1 he1 e2 he2 hne hp1 hp2 => ?_⟩
 ·by_cases hee : e' = e
  ·subst hee
   exact ⟨g', g1, g2, by rw [hput.size]; exact g3, by rw [getD_set_self _ _ _ hin, if_pos rfl]; exact hput.self⟩
  ·obtain ⟨x1, x2, x3⟩ := hL e' he hee
   rw [getD_set_ne _ _ _ _ (Ne.symm x2)] at hp'
   obtain ⟨k, k1, k2, k3, k4⟩ := h2 e' he hp'
   have hkg : k ≠ g' := by
    intro ee
    have := h3 e hm e' he x1 hp hp'
    rw [g1, k1, ee] at this
    exact this rfl
   exact ⟨k, k1, k2, by rw [hput.size]; exact k3, by rw [getD_set_ne _ _ _ _ (Ne.symm x3), hput.block k hkg]; exact k4⟩
 ·have y1 : ∀ e' ∈ L, (listed.setIfInBounds e.q true).getD e'.p false = listed.getD e'.p false := by
   intro e' he
   by_cases hee : e' = e
   ·subst hee; exact getD_set_ne _ _ _ _ hpq
   ·exact getD_set_ne _ _ _ _ (Ne.symm (hL e' he hee).2.1)
  rw [y1 e1 he1] at hp1
  rw [y1 e2 he2] at hp2
  exact h3 e1 he1 e2 he2 hne hp1 hp2
theorem put2 {W : World} {g : Nat} {x y z u : Value} {T : TypeId} (h : W.heap[g]? = some (.cells #[z, u] T (0, 0))) : Put g (.cells #[x, y] T (0, 0)) W ((W.setCell ⟨g, 0, none⟩ x).setCell ⟨g, 1, none⟩ y) := by
 have z0 := Go.Joins.block_setCell (i := 0) h x
 have z1 := Go.Joins.block_setCell (i := 1) z0 y
 have hb := ((Below.refl g W).setCell (p := ⟨g, 0, none⟩) (Nat.le_refl _) x).setCell (p := ⟨g, 1, none⟩) (Nat.le_refl _) y
 exact ⟨hb.os, hb.tape, hb.output, by simp [World.setCell], z1, fun k hk => by rw [Below.heap_setCell _ _ _ _ hk, Below.heap_setCell _ _ _ _ hk]⟩
theorem put6 {W : World} {g : Nat} {x0 x1 x2 x3 x4 x5 y0 y1 y2 y3 y4 y5 : Value} {T : TypeId} (h : W.heap[g]? = some (.cells #[y0, y1, y2, y3, y4, y5] T (0, 0))) : Put g (.cells #[x0, x1, x2, x3, x4, x5] T (0, 0)) W ((((((W.setCell ⟨g, 0, none⟩ x0).setCell ⟨g, 1, none⟩ x1).setCell ⟨g, 2, none⟩ x2).setCell ⟨g, 3, none⟩ x3).setCell ⟨g, 4, none⟩ x4).setCell ⟨g, 5, none⟩ x5) := by
 have z0 := Go.Joins.block_setCell (i := 0) h x0
 have z1 := Go.Joins.block_setCell (i := 1) z0 x1
 have z2 := Go.Joins.block_setCell (i := 2) z1 x2
 have z3 := Go.Joins.block_setCell (i := 3) z2 x3
 have z4 := Go.Joins.block_setCell (i := 4) z3 x4
 have z5 := Go.Joins.block_setCell (i := 5) z4 x5
 have hb := (((((((Below.refl g W).setCell (p := ⟨g, 0, none⟩) (Nat.le_refl _) x0).setCell (p := ⟨g, 1, none⟩) (Nat.le_refl _) x1).setCell (p := ⟨g, 2, none⟩) (Nat.le_refl _) x2).setCell (p := ⟨g, 3, none⟩) (Nat.le_refl _) x3).setCell (p := ⟨g, 4, none⟩) (Nat.le_refl _) x4).setCell (p := ⟨g, 5, none⟩) (Nat.le_refl _) x5)
 exact ⟨hb.os, hb.tape, hb.output, by simp [World.setCell], z5, fun k hk => by rw [Below.heap_setCell _ _ _ _ hk, Below.heap_setCell _ _ _ _ hk, Below.heap_setCell _ _ _ _ hk, Below.heap_setCell _ _ _ _ hk, Below.heap_setCell _ _ _ _ hk, Below.heap_setCell _ _ _ _ hk]⟩
end
section
open Go.RowKit Go.Shelf
def TakeOk (V : Nat) (t : Thr) (c : Cnt) (w : World) (e : Ending) (w' : World) : Prop := (∃ v, e = .returned v) ∧ VisAt w' V t c ∧ Only V w w'
theorem vis_size {w : World} {V : Nat} {t : Thr} {c : Cnt} (h : VisAt w V t c) : V < w.heap.size := (Array.getElem?_eq_some_iff.1 h).1
def StV (B : World) (V p q : Nat) (O0 O1 O2 : Obj) (listed : Array Bool) (a : Act) (w : World) : Prop :=
 Only V B w ∧ w.heap[V]? = some (if listed.getD q false = true then O2 else if listed.getD p false = true then O1 else O0)
theorem StV.start (B : World) (V p q : Nat) (O0 O1 O2 : Obj) (a : Act) {n : Nat} (h : B.heap[V]? = some O0) : StV B V p q O0 O1 O2 (Array.replicate n false) a B.drew := by
 have h0 : ∀ i, (Array.replicate n false).getD i false = false := by
  intro i
  simp only [Array.getD_eq_getD_getElem?, Array.getElem?_replicate]
  split <;> rfl
 refine ⟨Only.of_below ((Below.refl _ _).drew), ?_⟩
 rw [h0, h0, if_neg (by simp), if_neg (by simp)]
 exact h
theorem StV.other {B w : World} {V p q i : Nat} {O0 O1 O2 : Obj} {listed : Array Bool} {a a' : Act} (h : StV B V p q O0 O1 O2 listed a w) (hi : (decide (i ≠ p) && decide (i ≠ q)) = true) : StV B V p q O0 O1 O2 (listed.setIfInBounds i true) a' w := by
 simp only [Bool.and_eq_true, decide_eq_true_eq] at hi
 refine ⟨h.1, ?_⟩
 rw [getD_set_ne _ _ _ _ (Ne.symm hi.1), getD_set_ne _ _ _ _ (Ne.symm hi.2)]
 exact h.2
theorem StV.first {B w w' : World} {V p q : Nat} {O0 O1 O2 : Obj} {listed : Array Bool} {a a' : Act} (h : StV B V p q O0 O1 O2 listed a w) (hq : listed.getD q false = false) (hne : q ≠ p) (hp : p < listed.size) (hO : Only V w w') (hn : w'.heap[V]? = some O1) : StV B V p q O0 O1 O2 (listed.setIfInBounds p true) a' w' := by
 refine ⟨h.1.trans hO, ?_⟩
 have hpq : q ≠ p := hne
 rw [getD_set_ne _ _ _ _ hpq, hq, if_neg (by simp), getD_set_self _ _ _ hp, if_pos rfl]
 exact hn
theorem StV.second {B w w' : World} {V p q : Nat} {O0 O1 O2 : Obj} {listed : Array Bool} {a a' : Act} (h : StV B V p q O0 O1 O2 listed a w) (hq : q < listed.size) (hO : Only V w w') (hn : w'.heap[V]? = some O2) : StV B V p q O0 O1 O2 (listed.setIfInBounds q true) a' w' := by
 refine ⟨h.1.trans hO, ?_⟩
 rw [getD_set_self _ _ _ hq, if_pos rfl]
 exact hn
set_option maxRecDepth 100000 in
set_option maxHeartbeats 4000000 in
theorem take_from (V : Nat) (l s d : Int) (inn bs wn : Bool) (c1 c2 c3 b : Int) (fl : Int) (fi fb : Bool) (w : World) (hV : w.heap[V]? = some (.cells #[.int .i64 l, .int .i64 s, .int .i64 d, .bool inn, .bool bs, .bool wn, .int .i64 c1, .int .i64 c2, .int .i64 c3] 132 (0, 0))) (d0 : 0 ≤ d) (d1 : d ≤ 2)
  (xF : ∀ W, Calls Try.prog 85 #[.agg #[.int .i64 b], .agg #[.int .i64 l, .bool inn], .agg #[.int .i64 c1, .int .i64 c2, .int .i64 c3]] W (Ret (.tuple #[.agg #[.int .i64 fl, .bool fi], .bool fb]) W)) :
  Calls Try.prog 70 #[.pointer (some ⟨V, 0, none⟩), .agg #[.int .i64 b]] w (TakeOk V ⟨fl, s, d + 1, fi, fb, fl == 0⟩ (c1, c2, c3) w) := by
 unfold TakeOk VisAt
 simp only []
 have hlt : V < w.heap.size := (Array.getElem?_eq_some_iff.1 hV).1
 go_enter Try.func70, Try.ntmps70
 go_wp2_with fail
 obtain ⟨wa, hwa⟩ : ∃ u, u = w.alloc (.cells #[.int .i64 b] 134) := ⟨_, rfl⟩
 have va : wa.heap[V]? = some (.cells #[.int .i64 l, .int .i64 s, .int .i64 d, .bool inn, .bool bs, .bool wn, .int .i64 c1, .int .i64 c2, .int .i64 c3] 132 (0, 0)) := by rw [hwa]; exact (Below.heap_alloc _ _ _ hlt).trans hV
 have kh : wa.cell? ⟨w.heap.size, 0, none⟩ = some (.int .i64 b) := by rw [hwa]; go_simp
 have k0 : wa.cell? ⟨V, 0, none⟩ = some (.int .i64 l) := blk_cell va rfl
 have k3 : wa.cell? ⟨V, 3, none⟩ = some (.bool inn) := blk_cell va rfl
 have k6 : wa.cell? ⟨V, 6, none⟩ = some (.int .i64 c1) := blk_cell va rfl
 have k7 : wa.cell? ⟨V, 7, none⟩ = some (.int .i64 c2) := blk_cell va rfl
 have k8 : wa.cell? ⟨V, 8, none⟩ = some (.int .i64 c3) := blk_cell va rfl
 have ba : Aside (Below w.heap.size w wa) := by rw [hwa]; (repeat' (first | exact Below.refl _ _ | assumption | (with_reducible refine Below.drew ?_) | (with_reducible refine Below.setCell ?_ (by (first | (simp; done) | (simp; omega))) _) | (with_reducible refine below_drewN' ?_ _) | (refine Below.alloc ?_ (by (try simp only [World.size_alloc, World.size_drew, World.size_setCell]); omega) _) | (refine Below.trans ?_ (Below.mono (by assumption) (by (try simp only [World.size_alloc, World.size_drew, World.size_setCell]); omega)))))
 have za : V < wa.heap.size := (Array.getElem?_eq_some_iff.1 va).1
 rw [← hwa]
 clear hwa
 refine region_laidK (fun _ _ => True) (fl := 23) [true, true, true, true, true, true, true, true, true, true, true, true, true, true, true, true, true, true, true, true, true, true, true] 0 (fun (i : Nat) (x : Value) (ww : World) => (match i with | 0 => x = .agg #[.int .i64 b] | 1 => x = .pointer (some ⟨V, 0, none⟩) | 2 => x = .pointer (some ⟨V, 0, none⟩) | 3 => x = .pointer (some ⟨V, 0, none⟩) | 4 => x = .pointer (some ⟨V, 0, none⟩) | 5 => x = .int .i64 l | 6 => x = .pointer (some ⟨V, 0, none⟩) | 7 => x = .pointer (some ⟨V, 0, none⟩) | 8 => x = .pointer (some ⟨V, 0, none⟩) | 9 => x = .pointer (some ⟨V, 3, none⟩) | 10 => x = .bool inn | 11 => x = .agg #[.int .i64 l, .bool inn] | 12 => x = .pointer (some ⟨V, 0, none⟩) | 13 => x = .pointer (some ⟨V, 0, none⟩) | 14 => x = .pointer (some ⟨V, 6, none⟩) | 15 => x = .agg #[.int .i64 c1, .int .i64 c2, .int .i64 c3] | 16 => x = .tuple #[.agg #[.int .i64 fl, .bool fi], .bool fb] | 17 => x = .tuple #[.agg #[.int .i64 fl, .bool fi], .bool fb] | 18 => x = .agg #[.int .i64 fl, .bool fi] | 19 => x = .bool fb | 20 => True | 21 => True | 22 => x = .bool fb | _ => True : Prop)) (Cl wa [(⟨20, 21, 4, .cells #[.int .i64 0, .bool false] 99 (0, 0), .cells #[.int .i64 fl, .bool fi] 99 (0, 0)⟩ : AS)]) (by kernel_rfl) rfl (by show layableK _ 59 _ 23 = true; decide +kernel) rfl (Cl.start _ _ _ _) ?mono1 ?step1 ?rest1
 case mono1 =>
  intro i x ww ww' hB h
  match i, h with
  | 0, h => exact h
  | 1, h => exact h
  | 2, h => exact h
  | 3, h => exact h
  | 4, h => exact h
  | 5, h => exact h
  | 6, h => exact h
  | 7, h => exact h
  | 8, h => exact h
  | 9, h => exact h
  | 10, h => exact h
  | 11, h => exact h
  | 12, h => exact h
  | 13, h => exact h
  | 14, h => exact h
  | 15, h => exact h
  | 16, h => exact h
  | 17, h => exact h
  | 18, h => exact h
  | 19, h => exact h
  | 20, h => exact h
  | 21, h => exact h
  | 22, h => exact h
  | n + 23, h => exact h
 case step1 =>
  intro i o_ listed ac W hA ho hL he hcl hli hsz
  have hk0 : ac.tmps.getD 0 undef = .pointer (some ⟨V, 0, none⟩) := hL.kept 0 (by decide +kernel)
  have hk3 : ac.tmps.getD 3 undef = .pointer (some ⟨w.heap.size, 0, none⟩) := hL.kept 3 (by decide +kernel)
  have CL : ∀ W', Below W.heap.size W W' → Below wa.heap.size wa W' := fun W' h => hL.cls.1.trans (h.mono hL.cls.1.size)
  have k_kh := keepc hL.cls.1 kh
  have k_k0 := keepc hL.cls.1 k0
  have k_k3 := keepc hL.cls.1 k3
  have k_k6 := keepc hL.cls.1 k6
  have k_k7 := keepc hL.cls.1 k7
  have k_k8 := keepc hL.cls.1 k8
  match i, hA, ho with
  | 0, _, ho =>
   cases ho
   refine wpOp_plain rfl rfl ?_
   unfold Oper.wp
   go_simp
   first | exact Cl.other hL.cls rfl (Below.refl _ _) | exact ⟨_, rfl, trivial, Cl.other hL.cls rfl (Below.refl _ _), rfl⟩
  | 1, _, ho =>
   cases ho
   refine wpOp_plain rfl rfl ?_
   unfold Oper.wp
   go_simp
   first | exact Cl.other hL.cls rfl (Below.refl _ _) | exact ⟨_, rfl, trivial, Cl.other hL.cls rfl (Below.refl _ _), rfl⟩
  | 2, _, ho =>
   cases ho
   have d1 : ac.tmps.getD 8 undef = .pointer (some ⟨V, 0, none⟩) := hL.new 1 _ 8 rfl (he ⟨1, .data⟩ (by simp) rfl) rfl
   refine wpOp_plain rfl rfl ?_
   unfold Oper.wp
   go_simp
   first | exact Cl.other hL.cls rfl (Below.refl _ _) | exact ⟨_, rfl, trivial, Cl.other hL.cls rfl (Below.refl _ _), rfl⟩
  | 3, _, ho =>
   cases ho
   have d2 : ac.tmps.getD 9 undef = .pointer (some ⟨V, 0, none⟩) := hL.new 2 _ 9 rfl (he ⟨2, .data⟩ (by simp) rfl) rfl
   refine wpOp_plain rfl rfl ?_
   unfold Oper.wp
   go_simp
   first | exact Cl.other hL.cls rfl (Below.refl _ _) | exact ⟨_, rfl, trivial, Cl.other hL.cls rfl (Below.refl _ _), rfl⟩
  | 4, _, ho =>
   cases ho
   have d3 : ac.tmps.getD 10 undef = .pointer (some ⟨V, 0, none⟩) := hL.new 3 _ 10 rfl (he ⟨3, .data⟩ (by simp) rfl) rfl
   refine wpOp_plain rfl rfl ?_
   unfold Oper.wp
   go_simp
   first | exact Cl.other hL.cls rfl (Below.refl _ _) | exact ⟨_, rfl, trivial, Cl.other hL.cls rfl (Below.refl _ _), rfl⟩
  | 5, _, ho =>
   cases ho
   have d4 : ac.tmps.getD 11 undef = .pointer (some ⟨V, 0, none⟩) := hL.new 4 _ 11 rfl (he ⟨4, .data⟩ (by simp) rfl) rfl
   refine wpOp_plain rfl rfl ?_
   unfold Oper.wp
   go_simp
   first | exact Cl.other hL.cls rfl (Below.refl _ _) | exact ⟨_, rfl, trivial, Cl.other hL.cls rfl (Below.refl _ _), rfl⟩
  | 6, _, ho =>
   cases ho
   refine wpOp_plain rfl rfl ?_
   unfold Oper.wp
   go_simp
   first | exact Cl.other hL.cls rfl (Below.refl _ _) | exact ⟨_, rfl, trivial, Cl.other hL.cls rfl (Below.refl _ _), rfl⟩
  | 7, _, ho =>
   cases ho
   have d6 : ac.tmps.getD 13 undef = .pointer (some ⟨V, 0, none⟩) := hL.new 6 _ 13 rfl (he ⟨6, .data⟩ (by simp) rfl) rfl
   refine wpOp_plain rfl rfl ?_
   unfold Oper.wp
   go_simp
   first | exact Cl.other hL.cls rfl (Below.refl _ _) | exact ⟨_, rfl, trivial, Cl.other hL.cls rfl (Below.refl _ _), rfl⟩
  | 8, _, ho =>
   cases ho
   have d7 : ac.tmps.getD 14 undef = .pointer (some ⟨V, 0, none⟩) := hL.new 7 _ 14 rfl (he ⟨7, .data⟩ (by simp) rfl) rfl
   refine wpOp_plain rfl rfl ?_
   unfold Oper.wp
   go_simp
   first | exact Cl.other hL.cls rfl (Below.refl _ _) | exact ⟨_, rfl, trivial, Cl.other hL.cls rfl (Below.refl _ _), rfl⟩
  | 9, _, ho =>
   cases ho
   have d8 : ac.tmps.getD 15 undef = .pointer (some ⟨V, 0, none⟩) := hL.new 8 _ 15 rfl (he ⟨8, .data⟩ (by simp) rfl) rfl
   refine wpOp_plain rfl rfl ?_
   unfold Oper.wp
   go_simp
   first | exact Cl.other hL.cls rfl (Below.refl _ _) | exact ⟨_, rfl, trivial, Cl.other hL.cls rfl (Below.refl _ _), rfl⟩
  | 10, _, ho =>
   cases ho
   have d9 : ac.tmps.getD 16 undef = .pointer (some ⟨V, 3, none⟩) := hL.new 9 _ 16 rfl (he ⟨9, .data⟩ (by simp) rfl) rfl
   refine wpOp_plain rfl rfl ?_
   unfold Oper.wp
   go_simp
   first | exact Cl.other hL.cls rfl (Below.refl _ _) | exact ⟨_, rfl, trivial, Cl.other hL.cls rfl (Below.refl _ _), rfl⟩
  | 11, _, ho =>
   cases ho
   have d5 : ac.tmps.getD 12 undef = .int .i64 l := hL.new 5 _ 12 rfl (he ⟨5, .data⟩ (by simp) rfl) rfl
   have d10 : ac.tmps.getD 17 undef = .bool inn := hL.new 10 _ 17 rfl (he ⟨10, .data⟩ (by simp) rfl) rfl
   have dq1 : ac.tmps[12]?.getD undef = .int .i64 l := by rw [← Array.getD_eq_getD_getElem?]; exact d5
   have dq2 : ac.tmps[17]?.getD undef = .bool inn := by rw [← Array.getD_eq_getD_getElem?]; exact d10
   refine wpOp_plain rfl rfl ?_
   unfold Oper.wp
   go_simp
   first | exact Cl.other hL.cls rfl (Below.refl _ _) | exact ⟨_, rfl, trivial, Cl.other hL.cls rfl (Below.refl _ _), rfl⟩
  | 12, _, ho =>
   cases ho
   refine wpOp_plain rfl rfl ?_
   unfold Oper.wp
   go_simp
   first | exact Cl.other hL.cls rfl (Below.refl _ _) | exact ⟨_, rfl, trivial, Cl.other hL.cls rfl (Below.refl _ _), rfl⟩
  | 13, _, ho =>
   cases ho
   have d12 : ac.tmps.getD 19 undef = .pointer (some ⟨V, 0, none⟩) := hL.new 12 _ 19 rfl (he ⟨12, .data⟩ (by simp) rfl) rfl
   refine wpOp_plain rfl rfl ?_
   unfold Oper.wp
   go_simp
   first | exact Cl.other hL.cls rfl (Below.refl _ _) | exact ⟨_, rfl, trivial, Cl.other hL.cls rfl (Below.refl _ _), rfl⟩
  | 14, _, ho =>
   cases ho
   have d13 : ac.tmps.getD 20 undef = .pointer (some ⟨V, 0, none⟩) := hL.new 13 _ 20 rfl (he ⟨13, .data⟩ (by simp) rfl) rfl
   refine wpOp_plain rfl rfl ?_
   unfold Oper.wp
   go_simp
   first | exact Cl.other hL.cls rfl (Below.refl _ _) | exact ⟨_, rfl, trivial, Cl.other hL.cls rfl (Below.refl _ _), rfl⟩
  | 15, _, ho =>
   cases ho
   have d14 : ac.tmps.getD 21 undef = .pointer (some ⟨V, 6, none⟩) := hL.new 14 _ 21 rfl (he ⟨14, .data⟩ (by simp) rfl) rfl
   refine wpOp_plain rfl rfl ?_
   unfold Oper.wp
   go_simp
   first | exact Cl.other hL.cls rfl (Below.refl _ _) | exact ⟨_, rfl, trivial, Cl.other hL.cls rfl (Below.refl _ _), rfl⟩
  | 16, _, ho =>
   cases ho
   have d0 : ac.tmps.getD 7 undef = .agg #[.int .i64 b] := hL.new 0 _ 7 rfl (he ⟨0, .data⟩ (by simp) rfl) rfl
   have d11 : ac.tmps.getD 18 undef = .agg #[.int .i64 l, .bool inn] := hL.new 11 _ 18 rfl (he ⟨11, .data⟩ (by simp) rfl) rfl
   have d15 : ac.tmps.getD 22 undef = .agg #[.int .i64 c1, .int .i64 c2, .int .i64 c3] := hL.new 15 _ 22 rfl (he ⟨15, .data⟩ (by simp) rfl) rfl
   refine wpOp_plain rfl rfl ?_
   unfold Oper.wp
   go_simp
   refine (xF W).mono ?_
   rintro e w' ⟨rfl, hBn⟩
   exact ⟨rfl, Cl.other (i := 16) (t := 23) hL.cls rfl hBn⟩
  | 17, _, ho =>
   cases ho
   have d16 : ac.tmps.getD 23 undef = .tuple #[.agg #[.int .i64 fl, .bool fi], .bool fb] := hL.new 16 _ 23 rfl (he ⟨16, .data⟩ (by simp) rfl) rfl
   refine wpOp_plain rfl rfl ?_
   unfold Oper.wp
   go_simp
   first | exact Cl.other hL.cls rfl (Below.refl _ _) | exact ⟨_, rfl, trivial, Cl.other hL.cls rfl (Below.refl _ _), rfl⟩
  | 18, _, ho =>
   cases ho
   have d17 : ac.tmps.getD 6 undef = .tuple #[.agg #[.int .i64 fl, .bool fi], .bool fb] := hL.new 17 _ 6 rfl (he ⟨17, .data⟩ (by simp) rfl) rfl
   refine wpOp_plain rfl rfl ?_
   unfold Oper.wp
   go_simp
   first | exact Cl.other hL.cls rfl (Below.refl _ _) | exact ⟨_, rfl, trivial, Cl.other hL.cls rfl (Below.refl _ _), rfl⟩
  | 19, _, ho =>
   cases ho
   have d17 : ac.tmps.getD 6 undef = .tuple #[.agg #[.int .i64 fl, .bool fi], .bool fb] := hL.new 17 _ 6 rfl (he ⟨17, .data⟩ (by simp) rfl) rfl
   refine wpOp_plain rfl rfl ?_
   unfold Oper.wp
   go_simp
   first | exact Cl.other hL.cls rfl (Below.refl _ _) | exact ⟨_, rfl, trivial, Cl.other hL.cls rfl (Below.refl _ _), rfl⟩
  | 20, _, ho =>
   cases ho
   have hq : listed.getD 21 false = false := by
    cases hx : listed.getD 21 false with
    | false => rfl
    | true =>
     have h8 := hcl 21 _ rfl hx ⟨20, .data⟩ (by simp) rfl
     simp only [Array.getD_eq_getD_getElem?] at h8 hli
     rw [Array.getElem?_eq_getElem (show 20 < listed.size by rw [hsz]; decide)] at h8 hli
     rw [Option.getD_some] at h8 hli
     rw [h8] at hli
     exact absurd hli (by simp)
   refine wpOp_plain rfl rfl ?_
   unfold Oper.wp
   go_simp
   exact ⟨_, rfl, Cl.alloc (⟨20, 21, 4, .cells #[.int .i64 0, .bool false] 99 (0, 0), .cells #[.int .i64 fl, .bool fi] 99 (0, 0)⟩ : AS) hL.cls (by simp) (by rw [hL.size]; exact (by decide : (4 : Nat) < 59)) hq (by simp) (by intro e' he hne; simp at he; subst he; exact absurd rfl hne)⟩
  | 21, _, ho =>
   cases ho
   have d18 : ac.tmps.getD 24 undef = .agg #[.int .i64 fl, .bool fi] := hL.new 18 _ 24 rfl (he ⟨18, .data⟩ (by simp) rfl) rfl
   have hpp : listed.getD 20 false = true := he ⟨20, .data⟩ (by simp) rfl
   obtain ⟨g, g1, g2, g3, g4⟩ := hL.cls.2.1 (⟨20, 21, 4, .cells #[.int .i64 0, .bool false] 99 (0, 0), .cells #[.int .i64 fl, .bool fi] 99 (0, 0)⟩ : AS) (by simp) hpp
   have hq : listed.getD 21 false = false := by
    simp only [Array.getD_eq_getD_getElem?] at hli ⊢
    rw [Array.getElem?_eq_getElem (show 21 < listed.size by rw [hsz]; decide)] at hli ⊢
    simpa using hli
   simp only [] at g1 g4
   rw [if_neg (by rw [hq]; simp)] at g4
   have HPU : Aside _ := Cl.store (⟨20, 21, 4, .cells #[.int .i64 0, .bool false] 99 (0, 0), .cells #[.int .i64 fl, .bool fi] 99 (0, 0)⟩ : AS) hL.cls (by simp) hpp (by rw [hsz]; exact (by decide : (21 : Nat) < 23)) g1 (put2 g4) (by simp) (by intro e' he hne; simp at he; subst he; exact absurd rfl hne)
   have zc0 : W.cell? ⟨g, 0, none⟩ = some (.int .i64 0) := blk_cell g4 rfl
   have zc1 : W.cell? ⟨g, 1, none⟩ = some (.bool false) := blk_cell g4 rfl
   have zf : ∀ i, W.frozen? ⟨g, i, none⟩ = false := fun i => blk_free g4 i
   clear g4
   refine wpOp_plain rfl rfl ?_
   unfold Oper.wp
   go_simp
   exact HPU.out
  | 22, _, ho =>
   cases ho
   have d19 : ac.tmps.getD 25 undef = .bool fb := hL.new 19 _ 25 rfl (he ⟨19, .data⟩ (by simp) rfl) rfl
   refine wpOp_plain rfl rfl ?_
   unfold Oper.wp
   go_simp
   first | exact Cl.other hL.cls rfl (Below.refl _ _) | exact ⟨_, rfl, trivial, Cl.other hL.cls rfl (Below.refl _ _), rfl⟩
  | n + 23, hA, _ => simp at hA
 case rest1 =>
  intro ac wz hL
  have e7 : ac.tmps.getD 7 undef = .agg #[.int .i64 b] := hL.new 0 _ 7 rfl rfl rfl
  have e8 : ac.tmps.getD 8 undef = .pointer (some ⟨V, 0, none⟩) := hL.new 1 _ 8 rfl rfl rfl
  have e9 : ac.tmps.getD 9 undef = .pointer (some ⟨V, 0, none⟩) := hL.new 2 _ 9 rfl rfl rfl
  have e10 : ac.tmps.getD 10 undef = .pointer (some ⟨V, 0, none⟩) := hL.new 3 _ 10 rfl rfl rfl
  have e11 : ac.tmps.getD 11 undef = .pointer (some ⟨V, 0, none⟩) := hL.new 4 _ 11 rfl rfl rfl
  have e12 : ac.tmps.getD 12 undef = .int .i64 l := hL.new 5 _ 12 rfl rfl rfl
  have e13 : ac.tmps.getD 13 undef = .pointer (some ⟨V, 0, none⟩) := hL.new 6 _ 13 rfl rfl rfl
  have e14 : ac.tmps.getD 14 undef = .pointer (some ⟨V, 0, none⟩) := hL.new 7 _ 14 rfl rfl rfl
  have e15 : ac.tmps.getD 15 undef = .pointer (some ⟨V, 0, none⟩) := hL.new 8 _ 15 rfl rfl rfl
  have e16 : ac.tmps.getD 16 undef = .pointer (some ⟨V, 3, none⟩) := hL.new 9 _ 16 rfl rfl rfl
  have e17 : ac.tmps.getD 17 undef = .bool inn := hL.new 10 _ 17 rfl rfl rfl
  have e18 : ac.tmps.getD 18 undef = .agg #[.int .i64 l, .bool inn] := hL.new 11 _ 18 rfl rfl rfl
  have e19 : ac.tmps.getD 19 undef = .pointer (some ⟨V, 0, none⟩) := hL.new 12 _ 19 rfl rfl rfl
  have e20 : ac.tmps.getD 20 undef = .pointer (some ⟨V, 0, none⟩) := hL.new 13 _ 20 rfl rfl rfl
  have e21 : ac.tmps.getD 21 undef = .pointer (some ⟨V, 6, none⟩) := hL.new 14 _ 21 rfl rfl rfl
  have e22 : ac.tmps.getD 22 undef = .agg #[.int .i64 c1, .int .i64 c2, .int .i64 c3] := hL.new 15 _ 22 rfl rfl rfl
  have e23 : ac.tmps.getD 23 undef = .tuple #[.agg #[.int .i64 fl, .bool fi], .bool fb] := hL.new 16 _ 23 rfl rfl rfl
  have e6 : ac.tmps.getD 6 undef = .tuple #[.agg #[.int .i64 fl, .bool fi], .bool fb] := hL.new 17 _ 6 rfl rfl rfl
  have e24 : ac.tmps.getD 24 undef = .agg #[.int .i64 fl, .bool fi] := hL.new 18 _ 24 rfl rfl rfl
  have e25 : ac.tmps.getD 25 undef = .bool fb := hL.new 19 _ 25 rfl rfl rfl
  obtain ⟨S, e4, n4, l4, z4⟩ := hL.cls.2.1 (⟨20, 21, 4, .cells #[.int .i64 0, .bool false] 99 (0, 0), .cells #[.int .i64 fl, .bool fi] 99 (0, 0)⟩ : AS) (by simp) rfl
  simp only [] at e4
  change wz.heap[S]? = some (.cells #[.int .i64 fl, .bool fi] 99 (0, 0)) at z4
  have e5 : ac.tmps.getD 5 undef = .bool fb := hL.new 22 _ 5 rfl rfl rfl
  have HCL : Aside (Cl wa [(⟨20, 21, 4, .cells #[.int .i64 0, .bool false] 99 (0, 0), .cells #[.int .i64 fl, .bool fi] 99 (0, 0)⟩ : AS)] _ ac wz) := hL.cls
  have es := hL.sets [7, 8, 9, 10, 11, 12, 13, 14, 15, 16, 17, 18, 19, 20, 21, 22, 23, 6, 24, 25, 4, 5] (by decide +kernel)
  rw [List.foldl_cons, List.foldl_cons, List.foldl_cons, List.foldl_cons, List.foldl_cons, List.foldl_cons, List.foldl_cons, List.foldl_cons, List.foldl_cons, List.foldl_cons, List.foldl_cons, List.foldl_cons, List.foldl_cons, List.foldl_cons, List.foldl_cons, List.foldl_cons, List.foldl_cons, List.foldl_cons, List.foldl_cons, List.foldl_cons, List.foldl_cons, List.foldl_cons, List.foldl_nil, e7, e8, e9, e10, e11, e12, e13, e14, e15, e16, e17, e18, e19, e20, e21, e22, e23, e6, e24, e25, e4, e5] at es
  have BN : Below wa.heap.size wa wz := hL.cls.1
  rw [es]
  clear es hL e7 e8 e9 e10 e11 e12 e13 e14 e15 e16 e17 e18 e19 e20 e21 e22 e23 e6 e24 e25 e4 e5
  refine wpAny_done (by decide +kernel) ?_ _
  simp only [List.setIfInBounds_toArray, List.set_cons_zero, List.set_cons_succ]
  have hSV : S ≠ V := by omega
  have vb := (BN.block V za).trans va
  have ob : Aside (Only V w wz) := (Only.of_below ba.out).trans (Only.of_below BN)
  have y0 : wz.cell? ⟨S, 0, none⟩ = some (.int .i64 fl) := blk_cell z4 rfl
  have y1 : wz.cell? ⟨S, 1, none⟩ = some (.bool fi) := blk_cell z4 rfl
  obtain ⟨wb, rfl⟩ : ∃ u, u = wz := ⟨_, rfl⟩
  have hV_ := vb
  clear BN HCL n4 l4 z4 kh k0 k3 k6 k7 k8 va za ba xF
  go_wp2_with fail
  refine region_laidK (fun _ _ => True) (fl := 14) [true, true, true, true, true, true, true, true, true, true, true, true, true, true] 0 (fun (i : Nat) (x : Value) (ww : World) => (match i with | 0 => x = .pointer (some ⟨V, 0, none⟩) | 1 => x = .pointer (some ⟨V, 0, none⟩) | 2 => x = .pointer (some ⟨S, 0, none⟩) | 3 => x = .int .i64 fl | 4 => x = .pointer (some ⟨S, 1, none⟩) | 5 => x = .bool fi | 6 => x = .pointer (some ⟨V, 0, none⟩) | 7 => x = .pointer (some ⟨V, 0, none⟩) | 8 => x = .pointer (some ⟨V, 0, none⟩) | 9 => True | 10 => x = .pointer (some ⟨V, 0, none⟩) | 11 => x = .pointer (some ⟨V, 0, none⟩) | 12 => x = .pointer (some ⟨V, 3, none⟩) | 13 => True | _ => True : Prop)) (StV wb V 9 13 (.cells #[.int .i64 l, .int .i64 s, .int .i64 d, .bool inn, .bool bs, .bool wn, .int .i64 c1, .int .i64 c2, .int .i64 c3] 132 (0, 0)) (.cells #[.int .i64 fl, .int .i64 s, .int .i64 d, .bool inn, .bool bs, .bool wn, .int .i64 c1, .int .i64 c2, .int .i64 c3] 132 (0, 0)) (.cells #[.int .i64 fl, .int .i64 s, .int .i64 d, .bool fi, .bool bs, .bool wn, .int .i64 c1, .int .i64 c2, .int .i64 c3] 132 (0, 0))) (by kernel_rfl) rfl (by show layableK _ 59 _ 14 = true; decide +kernel) rfl (StV.start _ _ _ _ _ _ _ _ hV_) ?mono2 ?step2 ?rest2
  case mono2 =>
   intro i x ww ww' hB h
   match i, h with
   | 0, h => exact h
   | 1, h => exact h
   | 2, h => exact h
   | 3, h => exact h
   | 4, h => exact h
   | 5, h => exact h
   | 6, h => exact h
   | 7, h => exact h
   | 8, h => exact h
   | 9, h => exact h
   | 10, h => exact h
   | 11, h => exact h
   | 12, h => exact h
   | 13, h => exact h
   | n + 14, h => exact h
  case step2 =>
   intro i o_ listed ac W hA ho hL he hcl hli hsz
   have hk0 : ac.tmps.getD 0 undef = .pointer (some ⟨V, 0, none⟩) := hL.kept 0 (by decide +kernel)
   have hk4 : ac.tmps.getD 4 undef = .pointer (some ⟨S, 0, none⟩) := hL.kept 4 (by decide +kernel)
   have k_y0 := hL.cls.1.cell hSV y0
   have k_y1 := hL.cls.1.cell hSV y1
   match i, hA, ho with
   | 0, _, ho =>
    cases ho
    refine wpOp_plain rfl rfl ?_
    unfold Oper.wp
    go_simp
    first | exact StV.other hL.cls rfl | exact ⟨_, rfl, trivial, StV.other hL.cls rfl, rfl⟩
   | 1, _, ho =>
    cases ho
    refine wpOp_plain rfl rfl ?_
    unfold Oper.wp
    go_simp
    first | exact StV.other hL.cls rfl | exact ⟨_, rfl, trivial, StV.other hL.cls rfl, rfl⟩
   | 2, _, ho =>
    cases ho
    refine wpOp_plain rfl rfl ?_
    unfold Oper.wp
    go_simp
    first | exact StV.other hL.cls rfl | exact ⟨_, rfl, trivial, StV.other hL.cls rfl, rfl⟩
   | 3, _, ho =>
    cases ho
    have d2 : ac.tmps.getD 28 undef = .pointer (some ⟨S, 0, none⟩) := hL.new 2 _ 28 rfl (he ⟨2, .data⟩ (by simp) rfl) rfl
    refine wpOp_plain rfl rfl ?_
    unfold Oper.wp
    go_simp
    first | exact StV.other hL.cls rfl | exact ⟨_, rfl, trivial, StV.other hL.cls rfl, rfl⟩
   | 4, _, ho =>
    cases ho
    refine wpOp_plain rfl rfl ?_
    unfold Oper.wp
    go_simp
    first | exact StV.other hL.cls rfl | exact ⟨_, rfl, trivial, StV.other hL.cls rfl, rfl⟩
   | 5, _, ho =>
    cases ho
    have d4 : ac.tmps.getD 30 undef = .pointer (some ⟨S, 1, none⟩) := hL.new 4 _ 30 rfl (he ⟨4, .data⟩ (by simp) rfl) rfl
    refine wpOp_plain rfl rfl ?_
    unfold Oper.wp
    go_simp
    first | exact StV.other hL.cls rfl | exact ⟨_, rfl, trivial, StV.other hL.cls rfl, rfl⟩
   | 6, _, ho =>
    cases ho
    have d0 : ac.tmps.getD 26 undef = .pointer (some ⟨V, 0, none⟩) := hL.new 0 _ 26 rfl (he ⟨0, .data⟩ (by simp) rfl) rfl
    refine wpOp_plain rfl rfl ?_
    unfold Oper.wp
    go_simp
    first | exact StV.other hL.cls rfl | exact ⟨_, rfl, trivial, StV.other hL.cls rfl, rfl⟩
   | 7, _, ho =>
    cases ho
    have d6 : ac.tmps.getD 32 undef = .pointer (some ⟨V, 0, none⟩) := hL.new 6 _ 32 rfl (he ⟨6, .data⟩ (by simp) rfl) rfl
    refine wpOp_plain rfl rfl ?_
    unfold Oper.wp
    go_simp
    first | exact StV.other hL.cls rfl | exact ⟨_, rfl, trivial, StV.other hL.cls rfl, rfl⟩
   | 8, _, ho =>
    cases ho
    have d7 : ac.tmps.getD 33 undef = .pointer (some ⟨V, 0, none⟩) := hL.new 7 _ 33 rfl (he ⟨7, .data⟩ (by simp) rfl) rfl
    refine wpOp_plain rfl rfl ?_
    unfold Oper.wp
    go_simp
    first | exact StV.other hL.cls rfl | exact ⟨_, rfl, trivial, StV.other hL.cls rfl, rfl⟩
   | 9, _, ho =>
    cases ho
    have d8 : ac.tmps.getD 34 undef = .pointer (some ⟨V, 0, none⟩) := hL.new 8 _ 34 rfl (he ⟨8, .data⟩ (by simp) rfl) rfl
    have d3 : ac.tmps.getD 29 undef = .int .i64 fl := hL.new 3 _ 29 rfl (he ⟨3, .data⟩ (by simp) rfl) rfl
    have hq : listed.getD 13 false = false := by
     cases hx : listed.getD 13 false with
     | false => rfl
     | true =>
      have h8 := hcl 13 _ rfl hx ⟨9, .chain⟩ (by simp) rfl
      simp only [Array.getD_eq_getD_getElem?] at h8 hli
      rw [Array.getElem?_eq_getElem (show 9 < listed.size by rw [hsz]; decide)] at h8 hli
      rw [Option.getD_some] at h8 hli
      rw [h8] at hli
      exact absurd hli (by simp)
    have hp : listed.getD 9 false = false := by
     simp only [Array.getD_eq_getD_getElem?] at hli ⊢
     rw [Array.getElem?_eq_getElem (show 9 < listed.size by rw [hsz]; decide)] at hli ⊢
     simpa using hli
    have g4 := hL.cls.2
    rw [if_neg (by rw [hq]; simp), if_neg (by rw [hp]; simp)] at g4
    have HPU : Aside (StV wb V 9 13 (.cells #[.int .i64 l, .int .i64 s, .int .i64 d, .bool inn, .bool bs, .bool wn, .int .i64 c1, .int .i64 c2, .int .i64 c3] 132 (0, 0)) (.cells #[.int .i64 fl, .int .i64 s, .int .i64 d, .bool inn, .bool bs, .bool wn, .int .i64 c1, .int .i64 c2, .int .i64 c3] 132 (0, 0)) (.cells #[.int .i64 fl, .int .i64 s, .int .i64 d, .bool fi, .bool bs, .bool wn, .int .i64 c1, .int .i64 c2, .int .i64 c3] 132 (0, 0)) (listed.setIfInBounds 9 true) ac (W.setCell ⟨V, 0, none⟩ (.int .i64 fl))) := StV.first hL.cls hq (by decide) (by rw [hsz]; exact (by decide : (9 : Nat) < 14)) (Only.set _ _ _ _) (Go.Joins.block_setCell g4 _)
    have zc : W.cell? ⟨V, 0, none⟩ = some _ := blk_cell g4 rfl
    have zf := blk_free g4
    clear g4
    refine wpOp_plain rfl rfl ?_
    unfold Oper.wp
    go_simp
    exact HPU.out
   | 10, _, ho =>
    cases ho
    have d1 : ac.tmps.getD 27 undef = .pointer (some ⟨V, 0, none⟩) := hL.new 1 _ 27 rfl (he ⟨1, .data⟩ (by simp) rfl) rfl
    refine wpOp_plain rfl rfl ?_
    unfold Oper.wp
    go_simp
    first | exact StV.other hL.cls rfl | exact ⟨_, rfl, trivial, StV.other hL.cls rfl, rfl⟩
   | 11, _, ho =>
    cases ho
    have d10 : ac.tmps.getD 35 undef = .pointer (some ⟨V, 0, none⟩) := hL.new 10 _ 35 rfl (he ⟨10, .data⟩ (by simp) rfl) rfl
    refine wpOp_plain rfl rfl ?_
    unfold Oper.wp
    go_simp
    first | exact StV.other hL.cls rfl | exact ⟨_, rfl, trivial, StV.other hL.cls rfl, rfl⟩
   | 12, _, ho =>
    cases ho
    have d11 : ac.tmps.getD 36 undef = .pointer (some ⟨V, 0, none⟩) := hL.new 11 _ 36 rfl (he ⟨11, .data⟩ (by simp) rfl) rfl
    refine wpOp_plain rfl rfl ?_
    unfold Oper.wp
    go_simp
    first | exact StV.other hL.cls rfl | exact ⟨_, rfl, trivial, StV.other hL.cls rfl, rfl⟩
   | 13, _, ho =>
    cases ho
    have d12 : ac.tmps.getD 37 undef = .pointer (some ⟨V, 3, none⟩) := hL.new 12 _ 37 rfl (he ⟨12, .data⟩ (by simp) rfl) rfl
    have d5 : ac.tmps.getD 31 undef = .bool fi := hL.new 5 _ 31 rfl (he ⟨5, .data⟩ (by simp) rfl) rfl
    have hq : listed.getD 13 false = false := by
     simp only [Array.getD_eq_getD_getElem?] at hli ⊢
     rw [Array.getElem?_eq_getElem (show 13 < listed.size by rw [hsz]; decide)] at hli ⊢
     simpa using hli
    have hp : listed.getD 9 false = true := he ⟨9, .chain⟩ (by simp) rfl
    have g4 := hL.cls.2
    rw [if_neg (by rw [hq]; simp), if_pos hp] at g4
    have HPU : Aside (StV wb V 9 13 (.cells #[.int .i64 l, .int .i64 s, .int .i64 d, .bool inn, .bool bs, .bool wn, .int .i64 c1, .int .i64 c2, .int .i64 c3] 132 (0, 0)) (.cells #[.int .i64 fl, .int .i64 s, .int .i64 d, .bool inn, .bool bs, .bool wn, .int .i64 c1, .int .i64 c2, .int .i64 c3] 132 (0, 0)) (.cells #[.int .i64 fl, .int .i64 s, .int .i64 d, .bool fi, .bool bs, .bool wn, .int .i64 c1, .int .i64 c2, .int .i64 c3] 132 (0, 0)) (listed.setIfInBounds 13 true) ac (W.setCell ⟨V, 3, none⟩ (.bool fi))) := StV.second hL.cls (by rw [hsz]; exact (by decide : (13 : Nat) < 14)) (Only.set _ _ _ _) (Go.Joins.block_setCell g4 _)
    have zc : W.cell? ⟨V, 3, none⟩ = some _ := blk_cell g4 rfl
    have zf := blk_free g4
    clear g4
    refine wpOp_plain rfl rfl ?_
    unfold Oper.wp
    go_simp
    exact HPU.out
   | n + 14, hA, _ => simp at hA
  case rest2 =>
   intro ac wz hL
   have e26 : ac.tmps.getD 26 undef = .pointer (some ⟨V, 0, none⟩) := hL.new 0 _ 26 rfl rfl rfl
   have e27 : ac.tmps.getD 27 undef = .pointer (some ⟨V, 0, none⟩) := hL.new 1 _ 27 rfl rfl rfl
   have e28 : ac.tmps.getD 28 undef = .pointer (some ⟨S, 0, none⟩) := hL.new 2 _ 28 rfl rfl rfl
   have e29 : ac.tmps.getD 29 undef = .int .i64 fl := hL.new 3 _ 29 rfl rfl rfl
   have e30 : ac.tmps.getD 30 undef = .pointer (some ⟨S, 1, none⟩) := hL.new 4 _ 30 rfl rfl rfl
   have e31 : ac.tmps.getD 31 undef = .bool fi := hL.new 5 _ 31 rfl rfl rfl
   have e32 : ac.tmps.getD 32 undef = .pointer (some ⟨V, 0, none⟩) := hL.new 6 _ 32 rfl rfl rfl
   have e33 : ac.tmps.getD 33 undef = .pointer (some ⟨V, 0, none⟩) := hL.new 7 _ 33 rfl rfl rfl
   have e34 : ac.tmps.getD 34 undef = .pointer (some ⟨V, 0, none⟩) := hL.new 8 _ 34 rfl rfl rfl
   have e35 : ac.tmps.getD 35 undef = .pointer (some ⟨V, 0, none⟩) := hL.new 10 _ 35 rfl rfl rfl
   have e36 : ac.tmps.getD 36 undef = .pointer (some ⟨V, 0, none⟩) := hL.new 11 _ 36 rfl rfl rfl
   have e37 : ac.tmps.getD 37 undef = .pointer (some ⟨V, 3, none⟩) := hL.new 12 _ 37 rfl rfl rfl
   have es := hL.sets [26, 27, 28, 29, 30, 31, 32, 33, 34, 35, 36, 37] (by decide +kernel)
   rw [List.foldl_cons, List.foldl_cons, List.foldl_cons, List.foldl_cons, List.foldl_cons, List.foldl_cons, List.foldl_cons, List.foldl_cons, List.foldl_cons, List.foldl_cons, List.foldl_cons, List.foldl_cons, List.foldl_nil, e26, e27, e28, e29, e30, e31, e32, e33, e34, e35, e36, e37] at es
   have BN := hL.cls
   rw [es]
   clear es hL e26 e27 e28 e29 e30 e31 e32 e33 e34 e35 e36 e37
   refine wpAny_done (by decide +kernel) ?_ _
   simp only [List.setIfInBounds_toArray, List.set_cons_zero, List.set_cons_succ]
   have vc : wz.heap[V]? = some (.cells #[.int .i64 fl, .int .i64 s, .int .i64 d, .bool fi, .bool bs, .bool wn, .int .i64 c1, .int .i64 c2, .int .i64 c3] 132 (0, 0)) := BN.2
   have oc : Aside (Only V w wz) := ob.out.trans BN.1
   replace y0 := BN.1.cell hSV y0
   replace y1 := BN.1.cell hSV y1
   obtain ⟨wc, rfl⟩ : ∃ u, u = wz := ⟨_, rfl⟩
   clear BN hV_ vb ob
   have hV_ := vc
   go_wp2_with fail
   refine region_laidK (fun _ _ => True) (fl := 14) [true, true, true, true, true, true, true, true, true, true, true, true, true, true] 0 (fun (i : Nat) (x : Value) (ww : World) => (match i with | 0 => x = .pointer (some ⟨V, 0, none⟩) | 1 => x = .pointer (some ⟨V, 0, none⟩) | 2 => x = .bool fb | 3 => x = .pointer (some ⟨S, 0, none⟩) | 4 => x = .int .i64 fl | 5 => x = .bool (fl == 0) | 6 => x = .pointer (some ⟨V, 0, none⟩) | 7 => x = .pointer (some ⟨V, 0, none⟩) | 8 => x = .pointer (some ⟨V, 4, none⟩) | 9 => True | 10 => x = .pointer (some ⟨V, 0, none⟩) | 11 => x = .pointer (some ⟨V, 0, none⟩) | 12 => x = .pointer (some ⟨V, 5, none⟩) | 13 => True | _ => True : Prop)) (StV wc V 9 13 (.cells #[.int .i64 fl, .int .i64 s, .int .i64 d, .bool fi, .bool bs, .bool wn, .int .i64 c1, .int .i64 c2, .int .i64 c3] 132 (0, 0)) (.cells #[.int .i64 fl, .int .i64 s, .int .i64 d, .bool fi, .bool fb, .bool wn, .int .i64 c1, .int .i64 c2, .int .i64 c3] 132 (0, 0)) (.cells #[.int .i64 fl, .int .i64 s, .int .i64 d, .bool fi, .bool fb, .bool (fl == 0), .int .i64 c1, .int .i64 c2, .int .i64 c3] 132 (0, 0))) (by kernel_rfl) rfl (by show layableK _ 59 _ 14 = true; decide +kernel) rfl (StV.start _ _ _ _ _ _ _ _ hV_) ?mono3 ?step3 ?rest3
   case mono3 =>
    intro i x ww ww' hB h
    match i, h with
    | 0, h => exact h
    | 1, h => exact h
    | 2, h => exact h
    | 3, h => exact h
    | 4, h => exact h
    | 5, h => exact h
    | 6, h => exact h
    | 7, h => exact h
    | 8, h => exact h
    | 9, h => exact h
    | 10, h => exact h
    | 11, h => exact h
    | 12, h => exact h
    | 13, h => exact h
    | n + 14, h => exact h
   case step3 =>
    intro i o_ listed ac W hA ho hL he hcl hli hsz
    have hk0 : ac.tmps.getD 0 undef = .pointer (some ⟨V, 0, none⟩) := hL.kept 0 (by decide +kernel)
    have hk4 : ac.tmps.getD 4 undef = .pointer (some ⟨S, 0, none⟩) := hL.kept 4 (by decide +kernel)
    have hk5 : ac.tmps.getD 5 undef = .bool fb := hL.kept 5 (by decide +kernel)
    have k_y0 := hL.cls.1.cell hSV y0
    have k_y1 := hL.cls.1.cell hSV y1
    match i, hA, ho with
    | 0, _, ho =>
     cases ho
     refine wpOp_plain rfl rfl ?_
     unfold Oper.wp
     go_simp
     first | exact StV.other hL.cls rfl | exact ⟨_, rfl, trivial, StV.other hL.cls rfl, rfl⟩
    | 1, _, ho =>
     cases ho
     refine wpOp_plain rfl rfl ?_
     unfold Oper.wp
     go_simp
     first | exact StV.other hL.cls rfl | exact ⟨_, rfl, trivial, StV.other hL.cls rfl, rfl⟩
    | 2, _, ho =>
     cases ho
     refine wpOp_plain rfl rfl ?_
     unfold Oper.wp
     go_simp
     first | exact StV.other hL.cls rfl | exact ⟨_, rfl, trivial, StV.other hL.cls rfl, rfl⟩
    | 3, _, ho =>
     cases ho
     refine wpOp_plain rfl rfl ?_
     unfold Oper.wp
     go_simp
     first | exact StV.other hL.cls rfl | exact ⟨_, rfl, trivial, StV.other hL.cls rfl, rfl⟩
    | 4, _, ho =>
     cases ho
     have d3 : ac.tmps.getD 41 undef = .pointer (some ⟨S, 0, none⟩) := hL.new 3 _ 41 rfl (he ⟨3, .data⟩ (by simp) rfl) rfl
     refine wpOp_plain rfl rfl ?_
     unfold Oper.wp
     go_simp
     first | exact StV.other hL.cls rfl | exact ⟨_, rfl, trivial, StV.other hL.cls rfl, rfl⟩
    | 5, _, ho =>
     cases ho
     have d4 : ac.tmps.getD 42 undef = .int .i64 fl := hL.new 4 _ 42 rfl (he ⟨4, .data⟩ (by simp) rfl) rfl
     refine wpOp_plain rfl rfl ?_
     unfold Oper.wp
     go_simp
     first | exact StV.other hL.cls rfl | exact ⟨_, rfl, trivial, StV.other hL.cls rfl, rfl⟩
    | 6, _, ho =>
     cases ho
     have d0 : ac.tmps.getD 38 undef = .pointer (some ⟨V, 0, none⟩) := hL.new 0 _ 38 rfl (he ⟨0, .data⟩ (by simp) rfl) rfl
     refine wpOp_plain rfl rfl ?_
     unfold Oper.wp
     go_simp
     first | exact StV.other hL.cls rfl | exact ⟨_, rfl, trivial, StV.other hL.cls rfl, rfl⟩
    | 7, _, ho =>
     cases ho
     have d6 : ac.tmps.getD 44 undef = .pointer (some ⟨V, 0, none⟩) := hL.new 6 _ 44 rfl (he ⟨6, .data⟩ (by simp) rfl) rfl
     refine wpOp_plain rfl rfl ?_
     unfold Oper.wp
     go_simp
     first | exact StV.other hL.cls rfl | exact ⟨_, rfl, trivial, StV.other hL.cls rfl, rfl⟩
    | 8, _, ho =>
     cases ho
     have d7 : ac.tmps.getD 45 undef = .pointer (some ⟨V, 0, none⟩) := hL.new 7 _ 45 rfl (he ⟨7, .data⟩ (by simp) rfl) rfl
     refine wpOp_plain rfl rfl ?_
     unfold Oper.wp
     go_simp
     first | exact StV.other hL.cls rfl | exact ⟨_, rfl, trivial, StV.other hL.cls rfl, rfl⟩
    | 9, _, ho =>
     cases ho
     have d8 : ac.tmps.getD 46 undef = .pointer (some ⟨V, 4, none⟩) := hL.new 8 _ 46 rfl (he ⟨8, .data⟩ (by simp) rfl) rfl
     have d2 : ac.tmps.getD 40 undef = .bool fb := hL.new 2 _ 40 rfl (he ⟨2, .data⟩ (by simp) rfl) rfl
     have hq : listed.getD 13 false = false := by
      cases hx : listed.getD 13 false with
      | false => rfl
      | true =>
       have h8 := hcl 13 _ rfl hx ⟨9, .chain⟩ (by simp) rfl
       simp only [Array.getD_eq_getD_getElem?] at h8 hli
       rw [Array.getElem?_eq_getElem (show 9 < listed.size by rw [hsz]; decide)] at h8 hli
       rw [Option.getD_some] at h8 hli
       rw [h8] at hli
       exact absurd hli (by simp)
     have hp : listed.getD 9 false = false := by
      simp only [Array.getD_eq_getD_getElem?] at hli ⊢
      rw [Array.getElem?_eq_getElem (show 9 < listed.size by rw [hsz]; decide)] at hli ⊢
      simpa using hli
     have g4 := hL.cls.2
     rw [if_neg (by rw [hq]; simp), if_neg (by rw [hp]; simp)] at g4
     have HPU : Aside (StV wc V 9 13 (.cells #[.int .i64 fl, .int .i64 s, .int .i64 d, .bool fi, .bool bs, .bool wn, .int .i64 c1, .int .i64 c2, .int .i64 c3] 132 (0, 0)) (.cells #[.int .i64 fl, .int .i64 s, .int .i64 d, .bool fi, .bool fb, .bool wn, .int .i64 c1, .int .i64 c2, .int .i64 c3] 132 (0, 0)) (.cells #[.int .i64 fl, .int .i64 s, .int .i64 d, .bool fi, .bool fb, .bool (fl == 0), .int .i64 c1, .int .i64 c2, .int .i64 c3] 132 (0, 0)) (listed.setIfInBounds 9 true) ac (W.setCell ⟨V, 4, none⟩ (.bool fb))) := StV.first hL.cls hq (by decide) (by rw [hsz]; exact (by decide : (9 : Nat) < 14)) (Only.set _ _ _ _) (Go.Joins.block_setCell g4 _)
     have zc : W.cell? ⟨V, 4, none⟩ = some _ := blk_cell g4 rfl
     have zf := blk_free g4
     clear g4
     refine wpOp_plain rfl rfl ?_
     unfold Oper.wp
     go_simp
     exact HPU.out
    | 10, _, ho =>
     cases ho
     have d1 : ac.tmps.getD 39 undef = .pointer (some ⟨V, 0, none⟩) := hL.new 1 _ 39 rfl (he ⟨1, .data⟩ (by simp) rfl) rfl
     refine wpOp_plain rfl rfl ?_
     unfold Oper.wp
     go_simp
     first | exact StV.other hL.cls rfl | exact ⟨_, rfl, trivial, StV.other hL.cls rfl, rfl⟩
    | 11, _, ho =>
     cases ho
     have d10 : ac.tmps.getD 47 undef = .pointer (some ⟨V, 0, none⟩) := hL.new 10 _ 47 rfl (he ⟨10, .data⟩ (by simp) rfl) rfl
     refine wpOp_plain rfl rfl ?_
     unfold Oper.wp
     go_simp
     first | exact StV.other hL.cls rfl | exact ⟨_, rfl, trivial, StV.other hL.cls rfl, rfl⟩
    | 12, _, ho =>
     cases ho
     have d11 : ac.tmps.getD 48 undef = .pointer (some ⟨V, 0, none⟩) := hL.new 11 _ 48 rfl (he ⟨11, .data⟩ (by simp) rfl) rfl
     refine wpOp_plain rfl rfl ?_
     unfold Oper.wp
     go_simp
     first | exact StV.other hL.cls rfl | exact ⟨_, rfl, trivial, StV.other hL.cls rfl, rfl⟩
    | 13, _, ho =>
     cases ho
     have d12 : ac.tmps.getD 49 undef = .pointer (some ⟨V, 5, none⟩) := hL.new 12 _ 49 rfl (he ⟨12, .data⟩ (by simp) rfl) rfl
     have d5 : ac.tmps.getD 43 undef = .bool (fl == 0) := hL.new 5 _ 43 rfl (he ⟨5, .data⟩ (by simp) rfl) rfl
     have hq : listed.getD 13 false = false := by
      simp only [Array.getD_eq_getD_getElem?] at hli ⊢
      rw [Array.getElem?_eq_getElem (show 13 < listed.size by rw [hsz]; decide)] at hli ⊢
      simpa using hli
     have hp : listed.getD 9 false = true := he ⟨9, .chain⟩ (by simp) rfl
     have g4 := hL.cls.2
     rw [if_neg (by rw [hq]; simp), if_pos hp] at g4
     have HPU : Aside (StV wc V 9 13 (.cells #[.int .i64 fl, .int .i64 s, .int .i64 d, .bool fi, .bool bs, .bool wn, .int .i64 c1, .int .i64 c2, .int .i64 c3] 132 (0, 0)) (.cells #[.int .i64 fl, .int .i64 s, .int .i64 d, .bool fi, .bool fb, .bool wn, .int .i64 c1, .int .i64 c2, .int .i64 c3] 132 (0, 0)) (.cells #[.int .i64 fl, .int .i64 s, .int .i64 d, .bool fi, .bool fb, .bool (fl == 0), .int .i64 c1, .int .i64 c2, .int .i64 c3] 132 (0, 0)) (listed.setIfInBounds 13 true) ac (W.setCell ⟨V, 5, none⟩ (.bool (fl == 0)))) := StV.second hL.cls (by rw [hsz]; exact (by decide : (13 : Nat) < 14)) (Only.set _ _ _ _) (Go.Joins.block_setCell g4 _)
     have zc : W.cell? ⟨V, 5, none⟩ = some _ := blk_cell g4 rfl
     have zf := blk_free g4
     clear g4
     refine wpOp_plain rfl rfl ?_
     unfold Oper.wp
     go_simp
     exact HPU.out
    | n + 14, hA, _ => simp at hA
   case rest3 =>
    intro ac wz hL
    have e38 : ac.tmps.getD 38 undef = .pointer (some ⟨V, 0, none⟩) := hL.new 0 _ 38 rfl rfl rfl
    have e39 : ac.tmps.getD 39 undef = .pointer (some ⟨V, 0, none⟩) := hL.new 1 _ 39 rfl rfl rfl
    have e40 : ac.tmps.getD 40 undef = .bool fb := hL.new 2 _ 40 rfl rfl rfl
    have e41 : ac.tmps.getD 41 undef = .pointer (some ⟨S, 0, none⟩) := hL.new 3 _ 41 rfl rfl rfl
    have e42 : ac.tmps.getD 42 undef = .int .i64 fl := hL.new 4 _ 42 rfl rfl rfl
    have e43 : ac.tmps.getD 43 undef = .bool (fl == 0) := hL.new 5 _ 43 rfl rfl rfl
    have e44 : ac.tmps.getD 44 undef = .pointer (some ⟨V, 0, none⟩) := hL.new 6 _ 44 rfl rfl rfl
    have e45 : ac.tmps.getD 45 undef = .pointer (some ⟨V, 0, none⟩) := hL.new 7 _ 45 rfl rfl rfl
    have e46 : ac.tmps.getD 46 undef = .pointer (some ⟨V, 4, none⟩) := hL.new 8 _ 46 rfl rfl rfl
    have e47 : ac.tmps.getD 47 undef = .pointer (some ⟨V, 0, none⟩) := hL.new 10 _ 47 rfl rfl rfl
    have e48 : ac.tmps.getD 48 undef = .pointer (some ⟨V, 0, none⟩) := hL.new 11 _ 48 rfl rfl rfl
    have e49 : ac.tmps.getD 49 undef = .pointer (some ⟨V, 5, none⟩) := hL.new 12 _ 49 rfl rfl rfl
    have es := hL.sets [38, 39, 40, 41, 42, 43, 44, 45, 46, 47, 48, 49] (by decide +kernel)
    rw [List.foldl_cons, List.foldl_cons, List.foldl_cons, List.foldl_cons, List.foldl_cons, List.foldl_cons, List.foldl_cons, List.foldl_cons, List.foldl_cons, List.foldl_cons, List.foldl_cons, List.foldl_cons, List.foldl_nil, e38, e39, e40, e41, e42, e43, e44, e45, e46, e47, e48, e49] at es
    have BN := hL.cls
    rw [es]
    clear es hL e38 e39 e40 e41 e42 e43 e44 e45 e46 e47 e48 e49
    refine wpAny_done (by decide +kernel) ?_ _
    simp only [List.setIfInBounds_toArray, List.set_cons_zero, List.set_cons_succ]
    have vd : wz.heap[V]? = some (.cells #[.int .i64 fl, .int .i64 s, .int .i64 d, .bool fi, .bool fb, .bool (fl == 0), .int .i64 c1, .int .i64 c2, .int .i64 c3] 132 (0, 0)) := BN.2
    have od : Aside (Only V w wz) := oc.out.trans BN.1
    obtain ⟨wd, rfl⟩ : ∃ u, u = wz := ⟨_, rfl⟩
    clear BN hV_ vc oc y0 y1
    have k2 := blk_cell vd (i := 2) (x := .int .i64 d) rfl
    have kf := blk_free vd 2
    have e1 : IntKind.i64.wrap (d + 1) = d + 1 := IntWalk.i64_in _ (by omega)
    go_wp2
    go_end0
    exact ⟨⟨_, rfl⟩, Go.Joins.block_setCell vd _, od.out.trans (Only.set _ _ _ _)⟩
theorem step_frm (c : Cnt) (t : Thr) (b : Int) : t.step c b = ⟨(frm c t.left t.inn b).1, t.score, t.darts + 1, (frm c t.left t.inn b).2.1, (frm c t.left t.inn b).2.2, (frm c t.left t.inn b).1 == 0⟩ := by
 have e : ∀ x : Int, decide (x = 0) = (x == 0) := fun x => by rw [Bool.eq_iff_iff]; simp
 unfold Thr.step frm
 split
 ·split <;> simp only [e]
 ·simp only [e]
theorem take_any (V : Nat) (t : Thr) (c : Cnt) (b : Int) (w : World) (hV : VisAt w V t c) (hb : vbed b = true) (hc : vcnt c = true) (l0 : 0 ≤ t.left) (l1 : t.left ≤ 1001) (d0 : 0 ≤ t.darts) (d1 : t.darts ≤ 2) :
  Calls Try.prog 70 #[.pointer (some ⟨V, 0, none⟩), hitV b] w (TakeOk V (t.step c b) c w) := by
 have xF := fun W => from_any c t.left t.inn b W hb hc l0 l1
 rw [step_frm]
 unfold hitV standV cntV stR at *
 obtain ⟨l, s, d, inn, bs, wn⟩ := t
 obtain ⟨c1, c2, c3⟩ := c
 unfold VisAt at hV
 simp only [] at *
 exact take_from V l s d inn bs wn c1 c2 c3 b _ _ _ w hV d0 d1 xF
end
end Go.Proofs.Ytnhjoebdmmelaaa
