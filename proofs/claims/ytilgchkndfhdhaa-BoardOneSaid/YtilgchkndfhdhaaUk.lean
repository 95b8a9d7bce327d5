/- Board, part Uk: the board of an input is valid. -/
import Derived.Test.YtilgchkndfhdhaaUj
import Derived.Test.YtilgchkndfhdhaaZ
import Derived.Test.YtilgchkndfhdhaaRg
import Derived.Maps.AppendAt
import Derived.Deep.AppendLies
import Derived.Deep.CutBlock
import Derived.Test.YtilgchkndfhdhaaH
set_option linter.unusedVariables false
set_option linter.unusedSimpArgs false
namespace Go.Proofs.Ytilgchkndfhdhaa
open Go.RowKit Go.Shelf

abbrev eU : Int → List Value := fun x => [Value.int .u8 x]
def mdV (vr vl : Value) (f wi : Int) : Value := .agg #[vr, vl, .int .u8 f, .int .u8 wi]
def MadeOk (rings lines : List Int) (f wi : Int) (w : World) (e : Ending) (w' : World) : Prop :=
  ∃ (k : Nat) (v : Value), EndL lines k ∧ e = .returned v ∧ BrdAt w' v (madeB rings lines f wi k) ∧ Below w.heap.size w w'

/-- What the second assignment lays down. -/
def secD (B : Nat) (f : Int) : Nat → Value → World → Prop
  | 0, x, w | 5, x, w => ∃ g, x = .slice (some ⟨g, 0, none⟩) 24 24 ∧ B + 3 ≤ g ∧ Sl w 2 encP (.slice (some ⟨g, 0, none⟩) 24 24) compassL
  | 1, x, _ => x = .pointer (some ⟨B, 2, none⟩)
  | 2, x, _ => x = .int .u8 f
  | 3, x, _ => x = .int .i64 f
  | 4, x, _ | 7, x, _ => x = .int .i64 (f % 24)
  | 6, x, _ => x = .int .i64 0
  | _, _, _ => True
theorem secD_mono (B : Nat) (f : Int) : ∀ i x w w', Below w.heap.size w w' → secD B f i x w → secD B f i x w' := by
  intro i x w w' hB h
  unfold secD at *
  split <;> try exact h
  all_goals
    simp only [] at h
    first
      | exact h
      | (obtain ⟨g, h1, h2, h3⟩ := h; exact ⟨g, h1, h2, h3.below hB⟩)

/-- Values that do not hang on the world, and a last one that does. -/
def valD (vs : List Value) (last : Value → World → Prop) (i : Nat) (x : Value) (w : World) : Prop := match vs[i]? with | some v => x = v | none => last x w
theorem valD_mono (vs : List Value) (last : Value → World → Prop) (hl : ∀ x w w', Below w.heap.size w w' → last x w → last x w') : ∀ i x w w', Below w.heap.size w w' → valD vs last i x w → valD vs last i x w' := by
  intro i x w w' hB h
  unfold valD at *
  cases hv : vs[i]? with
  | some v => rw [hv] at h; exact h
  | none => rw [hv] at h; exact hl _ _ _ hB h
def newP (n : Nat) (p : Int × Int) (x : Value) (w : World) : Prop := ∃ g, x = .slice (some ⟨g, 0, none⟩) 1 1 ∧ n ≤ g ∧ w.cell? ⟨g, 0, none⟩ = some (.int .i64 p.1) ∧ w.cell? ⟨g, 1, none⟩ = some (.int .i64 p.2)

/-- From A to B nothing below n has turned but some cells of block b. -/
structure KB (n b : Nat) (fx : Nat → Prop) (A B : World) : Prop where
  os : B.os = A.os
  tape : B.tape = A.tape
  output : B.output = A.output
  size : A.heap.size ≤ B.heap.size
  low : ∀ k, k < n → k ≠ b → B.heap[k]? = A.heap[k]?
  cell : ∀ i u, fx i → A.cell? ⟨b, i, none⟩ = some u → B.cell? ⟨b, i, none⟩ = some u
  frz : ∀ i, B.frozen? ⟨b, i, none⟩ = A.frozen? ⟨b, i, none⟩
theorem KB.refl (n b : Nat) (fx : Nat → Prop) (A : World) : KB n b fx A A := ⟨rfl, rfl, rfl, Nat.le_refl _, fun _ _ _ => rfl, fun _ _ _ h => h, fun _ => rfl⟩
theorem KB.grown {n b : Nat} {fx : Nat → Prop} {A B C : World} {row : Option Nat} (h : KB n b fx A B) (hg : B.grownBy C row) (hn : n ≤ B.heap.size) (hb : b < B.heap.size) (hrow : ∀ r, row = some r → n ≤ r ∧ r ≠ b) : KB n b fx A C := by
  have hbk : C.heap[b]? = B.heap[b]? := hg.block b hb (fun e => (hrow b e.symm).2 rfl)
  exact ⟨hg.os.trans h.os, hg.tape.trans h.tape, hg.output.trans h.output, Nat.le_trans h.size hg.size, fun k hk hne => (hg.block k (by omega) (fun e => by have := (hrow k e.symm).1; omega)).trans (h.low k hk hne),
    fun i u hf hu => (World.cell?_of_block (a := ⟨b, i, none⟩) hbk).trans (h.cell i u hf hu), fun i => (World.frozen?_of_block (a := ⟨b, i, none⟩) hbk).trans (h.frz i)⟩
theorem KB.alloc {n b : Nat} {fx : Nat → Prop} {A B : World} (h : KB n b fx A B) (o : Obj) (hn : n ≤ B.heap.size) (hb : b < B.heap.size) : KB n b fx A (B.alloc o) :=
  h.grown (World.grownBy_alloc B o none) hn hb (fun r e => by cases e)
theorem KB.set {n b j : Nat} {fx : Nat → Prop} {A B : World} (h : KB n b fx A B) (u : Value) (hj : ¬ fx j) : KB n b fx A (B.setCell ⟨b, j, none⟩ u) :=
  ⟨h.os, h.tape, h.output, by simpa using h.size, fun k hk hne => (Below.heap_setCell _ _ _ _ hne).trans (h.low k hk hne), fun i v hf hv => by
    have h1 := h.cell i v hf hv
    have hne : i ≠ j := fun e => hj (by rw [← e]; exact hf)
    go_simp, fun i => by rw [World.frozen?_setCell]; exact h.frz i⟩
theorem KB.drew {n b : Nat} {fx : Nat → Prop} {A B : World} (h : KB n b fx A B) : KB n b fx A B.drew := ⟨h.os, h.tape, h.output, h.size, h.low, h.cell, h.frz⟩
theorem KB.cellk {n b k i : Nat} {fx : Nat → Prop} {A B : World} {u : Value} (h : KB n b fx A B) (hk : k < n) (hne : k ≠ b) (hu : A.cell? ⟨k, i, none⟩ = some u) : B.cell? ⟨k, i, none⟩ = some u :=
  (World.cell?_of_block (a := ⟨k, i, none⟩) (h.low k hk hne)).trans hu
theorem KB.frzk {n b k i : Nat} {fx : Nat → Prop} {A B : World} (h : KB n b fx A B) (hk : k < n) (hne : k ≠ b) : B.frozen? ⟨k, i, none⟩ = A.frozen? ⟨k, i, none⟩ :=
  World.frozen?_of_block (a := ⟨k, i, none⟩) (h.low k hk hne)
theorem KB.below {n b m : Nat} {fx : Nat → Prop} {w A B : World} (h : KB n b fx A B) (hB : Below m w A) (hm : m ≤ n) (hb : m ≤ b) : Below m w B :=
  hB.trans ⟨h.os, h.tape, h.output, h.size, fun k hk => h.low k (by omega) (by omega)⟩

theorem ownsRow_form {w : World} {base : Nat} {e : TypeId} {size : Nat} {v : Value} {n : Nat} {xs : List Value} (h : w.ownsRow base e size v n xs) (hn : 0 < n) : ∃ g c, v = .slice (some ⟨g, 0, none⟩) n c := by
  rcases h.2 with ⟨_, h0⟩ | ⟨g, cap, cur, h0, _⟩
  · omega
  · exact ⟨g, cap, h0⟩
theorem owns_set {w : World} {base : Nat} {e : TypeId} {size : Nat} {v : Value} {n : Nat} {xs : List Value} (h : w.ownsRow base e size v n xs) {b j : Nat} {u : Value} (hb : b < base) : (w.setCell ⟨b, j, none⟩ u).ownsRow base e size v n xs := by
  refine h.kept (row := some b) ⟨rfl, rfl, rfl, by simp, fun k hk hne => Below.heap_setCell _ _ _ _ (by simpa using hne)⟩ ?_
  cases hv : v.ownBlock with
  | none => exact .inl rfl
  | some g => exact .inr (by have := h.lt g hv; simp; omega)
theorem grown_below {w w' : World} (h : Below w.heap.size w w') : w.grownBy w' none := ⟨h.os, h.tape, h.output, h.size, fun k hk _ => h.block k hk⟩
theorem owns_below {w w' : World} {base : Nat} {e : TypeId} {size : Nat} {v : Value} {n : Nat} {xs : List Value} (h : w.ownsRow base e size v n xs) (hB : Below w.heap.size w w') : w'.ownsRow base e size v n xs :=
  h.kept (grown_below hB) (by cases hv : v.ownBlock <;> simp)
theorem two_at {w : World} {g : Nat} {x y : Value} (h0 : w.cell? ⟨g, 0, none⟩ = some x) (h1 : w.cell? ⟨g, 1, none⟩ = some y) : ∀ j u, [x, y][j]? = some u → w.cell? ((⟨g, 0, none⟩ : Addr).add j) = some u := by
  intro j u h
  rw [Addr.add_lit, Nat.zero_add]
  match j, h with
  | 0, h => simp at h; subst h; exact h0
  | 1, h => simp at h; subst h; exact h1
  | j + 2, h => simp at h
theorem owns_KB {n b base : Nat} {fx : Nat → Prop} {A B : World} {e : TypeId} {size : Nat} {v : Value} {m : Nat} {xs : List Value} (h : A.ownsRow base e size v m xs) (hk : KB n b fx A B) (hr : ∀ g, v.ownBlock = some g → g < n ∧ g ≠ b) : B.ownsRow base e size v m xs := by
  refine ⟨h.1, ?_⟩
  rcases h.2 with h0 | ⟨g, cap, cur, rfl, hb, hg, h2⟩
  · exact .inl h0
  · obtain ⟨h3, h4⟩ := hr g rfl
    exact .inr ⟨g, cap, cur, rfl, hb, (hk.low g h3 h4).trans hg, h2⟩
theorem flat_one (xs : List Int) : ((xs.map fun x => [Value.int .i64 x]).flatten) = xs.map (Value.int .i64) := by
  induction xs with
  | nil => rfl
  | cons x xs ih => simp only [List.map_cons, List.flatten_cons, ih]; rfl
theorem Sl.setM {α : Type} {w : World} {k g n c : Nat} {enc : α → List Value} {xs : List α} {p : Addr} {u : Value} (h : Sl w k enc (.slice (some ⟨g, 0, none⟩) n c) xs) (hp : g ≠ p.block) : Sl (w.setCell p u) k enc (.slice (some ⟨g, 0, none⟩) n c) xs := by
  obtain ⟨a, c', e, hl, hs⟩ := h
  refine ⟨a, c', e, hl, fun hne => ?_⟩
  obtain ⟨b, off, ha, hb, hc⟩ := hs hne
  have hbg : b = g := by rw [ha] at e; simp at e; omega
  exact ⟨b, off, ha, by simpa using hb, fun j x hx i y hy => (World.cell?_of_block (Below.heap_setCell w p u b (by rw [hbg]; exact hp))).trans (hc j x hx i y hy)⟩
theorem two_new (w : World) (x y : Value) (t : TypeId) : ∀ j u, [x, y][j]? = some u → (w.alloc (.cells #[x, y] t)).cell? ((⟨w.heap.size, 0, none⟩ : Addr).add j) = some u := by
  intro j u h
  rw [Addr.add_lit, Nat.zero_add]
  match j, h with
  | 0, h => simp at h; subst h; go_simp
  | 1, h => simp at h; subst h; go_simp
  | j + 2, h => simp at h

set_option maxRecDepth 100000 in
set_option maxHeartbeats 4000000 in
theorem made_any (vr vl : Value) (rings lines : List Int) (f wi : Int) (w : World) (sr : Sl w 1 eU vr rings) (sl : Sl w 1 eU vl lines) (hr : ∀ x ∈ rings, 0 ≤ x ∧ x ≤ 255) (hl : ∀ x ∈ lines, 0 ≤ x ∧ x ≤ 255) (f0 : 0 ≤ f) (f1 : f ≤ 255) (w0 : 0 ≤ wi) (w1 : wi ≤ 255) :
    Calls Try.prog 8 #[mdV vr vl f wi] w (MadeOk rings lines f wi w) := by
  have HR : Aside (Sl w 1 eU vr rings) := sr
  have HL : Aside (Sl w 1 eU vl lines) := sl
  obtain ⟨ar, cr, rfl, lr, _⟩ := sr
  obtain ⟨al, cl, rfl, ll, _⟩ := sl
  unfold mdV
  obtain ⟨n, hn⟩ : ∃ n, rings.length = n := ⟨_, rfl⟩
  have HN : Aside (rings.length = n) := hn
  obtain ⟨m, hm⟩ : ∃ m, lines.length = m := ⟨_, rfl⟩
  have HM : Aside (lines.length = m) := hm
  rw [hn] at lr ⊢
  rw [hm] at ll ⊢
  clear hn hm
  go_enter Try.func8, Try.ntmps8
  go_upto_block 0 with (fail)
  obtain ⟨W0, hW0⟩ : ∃ W0, W0 = (((w.alloc (.cells #[.slice ar n cr, .slice al m cl, .int .u8 f, .int .u8 wi] 24)).alloc (.cells #[.int .i64 0, .int .i64 0, .slice none 0 0, .slice none 0 0, .slice none 0 0, .int .i64 0] 31)).alloc (.cells #[.int .i64 (wi % 4 + 5 + f % 40), .int .i64 (wi % 4 + 5 + f % 40 + 2 * (wi % 4) + 1 + f), .slice none 0 0, .slice none 0 0, .slice none 0 0, .int .i64 (wi % 4)] 31)) := ⟨_, rfl⟩
  rw [← hW0]
  have s0 : W0.heap.size = w.heap.size + 3 := by rw [hW0]; simp
  have B0 : Below w.heap.size w W0 := by rw [hW0]; clear hW0; (repeat' (first | exact Below.refl _ _ | assumption | (with_reducible refine Below.drew ?_) | (with_reducible refine Below.setCell ?_ (by (first | (simp; done) | (simp; omega))) _) | (with_reducible refine below_drewN' ?_ _) | (refine Below.alloc ?_ (by (try simp only [World.size_alloc, World.size_drew, World.size_setCell]); omega) _) | (refine Below.trans ?_ (Below.mono (by assumption) (by (try simp only [World.size_alloc, World.size_drew, World.size_setCell]); omega)))))
  have a0 : W0.cell? ⟨w.heap.size, 0, none⟩ = some (.slice ar n cr) := by rw [hW0]; clear hW0; go_simp
  have a1 : W0.cell? ⟨w.heap.size, 1, none⟩ = some (.slice al m cl) := by rw [hW0]; clear hW0; go_simp
  have a2 : W0.cell? ⟨w.heap.size, 2, none⟩ = some (.int .u8 f) := by rw [hW0]; clear hW0; go_simp
  have b0 : W0.cell? ⟨w.heap.size + 1 + 1, 0, none⟩ = some (.int .i64 (wi % 4 + 5 + f % 40)) := by rw [hW0]; clear hW0; go_simp
  have b1 : W0.cell? ⟨w.heap.size + 1 + 1, 1, none⟩ = some (.int .i64 (wi % 4 + 5 + f % 40 + 2 * (wi % 4) + 1 + f)) := by rw [hW0]; clear hW0; go_simp
  have b2 : W0.cell? ⟨w.heap.size + 1 + 1, 2, none⟩ = some (.slice none 0 0) := by rw [hW0]; clear hW0; go_simp
  have b3 : W0.cell? ⟨w.heap.size + 1 + 1, 3, none⟩ = some (.slice none 0 0) := by rw [hW0]; clear hW0; go_simp
  have b4 : W0.cell? ⟨w.heap.size + 1 + 1, 4, none⟩ = some (.slice none 0 0) := by rw [hW0]; clear hW0; go_simp
  have b5 : W0.cell? ⟨w.heap.size + 1 + 1, 5, none⟩ = some (.int .i64 (wi % 4)) := by rw [hW0]; clear hW0; go_simp
  have bf : ∀ i, W0.frozen? ⟨w.heap.size + 1 + 1, i, none⟩ = false := by intro i; rw [hW0]; clear hW0; go_simp
  have d0 : W0.cell? ⟨w.heap.size + 1, 0, none⟩ = some (.int .i64 0) := by rw [hW0]; clear hW0; go_simp
  have d1 : W0.cell? ⟨w.heap.size + 1, 1, none⟩ = some (.int .i64 0) := by rw [hW0]; clear hW0; go_simp
  have d2 : W0.cell? ⟨w.heap.size + 1, 2, none⟩ = some (.slice none 0 0) := by rw [hW0]; clear hW0; go_simp
  have d3 : W0.cell? ⟨w.heap.size + 1, 3, none⟩ = some (.slice none 0 0) := by rw [hW0]; clear hW0; go_simp
  have d4 : W0.cell? ⟨w.heap.size + 1, 4, none⟩ = some (.slice none 0 0) := by rw [hW0]; clear hW0; go_simp
  have d5 : W0.cell? ⟨w.heap.size + 1, 5, none⟩ = some (.int .i64 0) := by rw [hW0]; clear hW0; go_simp
  have df : ∀ i, W0.frozen? ⟨w.heap.size + 1, i, none⟩ = false := by intro i; rw [hW0]; clear hW0; go_simp
  clear hW0
  have q0 : 0 ≤ wi % 4 ∧ wi % 4 ≤ 3 := by omega
  have q1 : 0 ≤ wi % 4 + 5 + f % 40 + 2 * (wi % 4) + 1 + f ∧ wi % 4 + 5 + f % 40 + 2 * (wi % 4) + 1 + f ≤ 400 := by omega
  obtain ⟨q2, q3⟩ := q0
  obtain ⟨q4, q5⟩ := q1
  generalize hbu : wi % 4 + 5 + f % 40 + 2 * (wi % 4) + 1 + f = bull at *
  generalize hey : wi % 4 + 5 + f % 40 = eye at *
  generalize hqq : wi % 4 = wq at *
  have HEQ : Aside (eye + 2 * wq + 1 + f = bull ∧ wq + 5 + f % 40 = eye ∧ wi % 4 = wq) := ⟨hbu, hey, hqq⟩
  clear hbu hey hqq
  have HLR : Aside (∀ k, bull + k ≤ lastR wq bull rings k ∧ lastR wq bull rings k ≤ bull + 262 * k) := lastR_bd wq bull rings q2 q3 hr
  have HCR : Aside (∀ k, k < n → ∃ (b o : Nat) (x : Int), ar = some ⟨b, o, none⟩ ∧ rings[k]?.getD 0 = x ∧ 0 ≤ x ∧ x ≤ 255 ∧ w.cell? ⟨b, o + k, none⟩ = some (.int .u8 x)) := by
    intro k hk
    have hk' : k < rings.length := by rw [HN.out]; exact hk
    obtain ⟨a', c', e, _, hs⟩ := HR.out
    cases e
    obtain ⟨b, o, rfl, _, hc⟩ := hs (by intro e; rw [e] at hk'; simp at hk')
    have hx := List.getElem?_eq_getElem hk'
    have hb := hr _ (List.getElem_mem hk')
    exact ⟨b, o, rings[k], rfl, by rw [hx]; rfl, hb.1, hb.2, by simpa using hc k _ hx 0 _ rfl⟩
  have HBD : Aside (∀ k, n ≤ k → rings[k]?.getD 0 = 0) := fun k hk => by rw [List.getElem?_eq_none (by rw [HN.out]; exact hk)]; rfl
  obtain ⟨i0, hi, hz0, hz1, hz2⟩ := info_parts info_rings
  have S0 : Aside (W0.heap.size = w.heap.size + 3) := s0
  have BW0 : Aside (Below w.heap.size w W0) := B0
  have BF : Aside (∀ i, W0.frozen? ⟨w.heap.size + 1 + 1, i, none⟩ = false) := bf
  have DF : Aside (∀ i, W0.frozen? ⟨w.heap.size + 1, i, none⟩ = false) := df
  clear s0 B0 bf df hr
  have HNR : Aside (∀ k : Nat, (k = 0 ∨ (k < n ∧ k < 5)) ↔ k < nrOf n) := by
    intro k; unfold nrOf; split <;> (try split) <;> omega
  have HN5 : nrOf n ≤ 5 := by unfold nrOf; split <;> (try split) <;> omega
  go_cut [5] (fun s5 wc => ∃ v, wc.cell? ⟨w.heap.size + 1 + 1, 2, none⟩ = some v ∧ wc.ownsRow (w.heap.size + 3) 78 2 v (nrOf n) (((ringsK wq bull rings (nrOf n)).map encP).flatten) ∧ Aside (KB (w.heap.size + 3) (w.heap.size + 1 + 1) (fun i => i ≠ 2) W0 wc))
  case first =>
   go_wp2
   go_loopg [4, 5] (nrOf n) (fun gg lv iv wr => ∃ (k : Nat) (v : Value), k ≤ nrOf n ∧ nrOf n - k ≤ gg ∧ iv = .int .i64 k ∧ lv = .int .i64 (lastR wq bull rings k) ∧ wr.cell? ⟨w.heap.size + 1 + 1, 2, none⟩ = some v ∧ wr.ownsRow (w.heap.size + 3) 78 2 v k (((ringsK wq bull rings k).map encP).flatten) ∧ Aside (KB (w.heap.size + 3) (w.heap.size + 1 + 1) (fun i => i ≠ 2) W0 wr))
   case atStart => exact ⟨0, _, Nat.zero_le _, by omega, rfl, rfl, b2, World.ownsRow_nil _ _ _ _, KB.refl _ _ _ _⟩
   case round =>
     obtain ⟨k, v, hk, hg, rfl, rfl, hv, hown, HK⟩ := hrel
     have hk5 : k ≤ 5 := by omega
     have hlr := HLR.out k
     have hzr : w.heap.size + 3 ≤ wr.heap.size := by have := HK.out.size; have := S0.out; omega
     have m0 := HK.out.cellk (k := w.heap.size) (by omega) (by omega) a0
     have m5 := HK.out.cell 5 _ (by omega) b5
     have mf := (HK.out.frz 2).trans (BF.out 2)
     by_cases hlt : k < nrOf n
     · have HRK : Aside _ := ringsK_succ wq bull rings k
       have hBw := HK.out.below BW0.out (show w.heap.size ≤ w.heap.size + 3 by omega) (show w.heap.size ≤ w.heap.size + 1 + 1 by omega)
       have HROW : Aside (some (w.heap.size + 1 + 1) ≠ v.ownBlock) := fun e => by have := hown.lt _ e.symm; omega
       have HFR : Aside (∀ (o : Obj) (w1 : World), (wr.alloc o).grownBy w1 v.ownBlock → w1.frozen? ⟨w.heap.size + 1 + 1, 2, none⟩ = false) := fun o w1 hg1 => (World.frozen?_of_block (a := ⟨w.heap.size + 1 + 1, 2, none⟩) ((hg1.block _ (by simp; omega) HROW.out).trans (Below.heap_alloc _ _ _ (by omega)))).trans mf
       have HS : Aside (lastR wq bull rings (k + 1) = lastR wq bull rings k + (2 * wq + 1 + rings[k]?.getD 0)) := rfl
       have HEND : Aside (∀ (o : Obj) (w1 : World) (u : Value), (wr.alloc o).grownBy w1 v.ownBlock → KB (w.heap.size + 3) (w.heap.size + 1 + 1) (fun i => i ≠ 2) W0 (w1.setCell ⟨w.heap.size + 1 + 1, 2, none⟩ u)) := fun o w1 u hg1 => ((HK.out.alloc o (by omega) (by omega)).grown hg1 (by simp; omega) (by simp; omega) (fun r e => by have := hown.lt r e; omega)).set u (by simp)
       obtain ⟨L, hL⟩ : ∃ L, lastR wq bull rings k = L := ⟨_, rfl⟩
       rw [hL] at hlr HS ⊢
       clear hL
       by_cases hkn : k < n
       · have hknz : (k : Int) < (n : Int) := by omega
         have hk5z : (k : Int) < 5 := by have := (HNR.out k).2 hlt; omega
         obtain ⟨b, o, x, rfl, hx, hx0, hx1, hcx⟩ := HCR.out k hkn
         have kx := keepc hBw hcx
         have HX : Aside (rings[k]?.getD 0 = x) := hx
         clear hx hcx hBw
         by_cases hk0 : k = 0
         · subst hk0
           simp only [Nat.add_zero] at kx
           have hn0 : (0 : Int) < (n : Int) := by omega
           clear hknz
           go_wp2_with (at_builtin; refine wpList_append_own _ rfl _ _ 27 rfl (w.heap.size + 3) 78 i0 (.agg #[.int .i64 0, .int .i64 0]) 2 16 Try.underlying27 hi hz0 hz1 hz2 rfl (by decide) v 0 _ rfl (hown.alloc _) ⟨wr.heap.size, 0, none⟩ 1 1 [.int .i64 (L + (2 * wq + 1 + x)), .int .i64 (x % 5)] rfl rfl (two_new wr _ _ _) (by intro u hu; simp at hu; rcases hu with rfl | rfl <;> rfl) (by unfold maxLen; omega) (by omega) (by simp; omega) ?_; intro v' w1 hown1 hgrow1 _; obtain ⟨g', cap', rfl⟩ : ∃ g' cap', v' = .slice (some ⟨g', 0, none⟩) (0 + 1) cap' := ownsRow_form hown1 (by omega); have hv1 : w1.cell? ⟨w.heap.size + 1 + 1, 2, none⟩ = some v := hgrow1.cell (keepc (w1 := wr.alloc _) ((Below.refl _ wr).alloc (Nat.le_refl _) _) hv) HROW.out; have hf1 : w1.frozen? ⟨w.heap.size + 1 + 1, 2, none⟩ = false := HFR.out _ w1 hgrow1)
           go_roundg (nrOf n - 1)
           case measure => omega
           case rel => exact ⟨1, _, by omega, by omega, rfl, by rw [HS.out, HX.out], World.cell?_setCell_same' _ _ _ (by rw [hv1]; rfl), owns_set (by rw [HRK.out, List.map_append, List.flatten_append, HS.out, HX.out]; exact hown1) (by omega), HEND.out _ _ _ hgrow1⟩
         · have hk0 : decide ((k : Int) = 0) = false := by simpa using hk0
           go_wp2_with (at_builtin; refine wpList_append_own _ rfl _ _ 27 rfl (w.heap.size + 3) 78 i0 (.agg #[.int .i64 0, .int .i64 0]) 2 16 Try.underlying27 hi hz0 hz1 hz2 rfl (by decide) v k _ rfl (hown.alloc _) ⟨wr.heap.size, 0, none⟩ 1 1 [.int .i64 (L + (2 * wq + 1 + x)), .int .i64 (x % 5)] rfl rfl (two_new wr _ _ _) (by intro u hu; simp at hu; rcases hu with rfl | rfl <;> rfl) (by unfold maxLen; omega) (by omega) (by simp; omega) ?_; intro v' w1 hown1 hgrow1 _; obtain ⟨g', cap', rfl⟩ : ∃ g' cap', v' = .slice (some ⟨g', 0, none⟩) (k + 1) cap' := ownsRow_form hown1 (by omega); have hv1 : w1.cell? ⟨w.heap.size + 1 + 1, 2, none⟩ = some v := hgrow1.cell (keepc (w1 := wr.alloc _) ((Below.refl _ wr).alloc (Nat.le_refl _) _) hv) HROW.out; have hf1 : w1.frozen? ⟨w.heap.size + 1 + 1, 2, none⟩ = false := HFR.out _ w1 hgrow1)
           go_roundg (nrOf n - (k + 1))
           case measure => omega
           case rel => exact ⟨(k + 1), _, by omega, by omega, by go_num, by rw [HS.out, HX.out], World.cell?_setCell_same' _ _ _ (by rw [hv1]; rfl), owns_set (by rw [HRK.out, List.map_append, List.flatten_append, HS.out, HX.out]; exact hown1) (by omega), HEND.out _ _ _ hgrow1⟩
       · have hk0 : k = 0 := by have := (HNR.out k).2 hlt; omega
         subst hk0
         have HX : Aside (rings[0]?.getD 0 = 0) := HBD.out 0 (by omega)
         have hn0 : ¬ (0 : Int) < (n : Int) := by omega
         clear hkn hBw
         go_wp2_with (at_builtin; refine wpList_append_own _ rfl _ _ 27 rfl (w.heap.size + 3) 78 i0 (.agg #[.int .i64 0, .int .i64 0]) 2 16 Try.underlying27 hi hz0 hz1 hz2 rfl (by decide) v 0 _ rfl (hown.alloc _) ⟨wr.heap.size, 0, none⟩ 1 1 [.int .i64 (L + (2 * wq + 1)), .int .i64 0] rfl rfl (two_new wr _ _ _) (by intro u hu; simp at hu; rcases hu with rfl | rfl <;> rfl) (by unfold maxLen; omega) (by omega) (by simp; omega) ?_; intro v' w1 hown1 hgrow1 _; obtain ⟨g', cap', rfl⟩ : ∃ g' cap', v' = .slice (some ⟨g', 0, none⟩) (0 + 1) cap' := ownsRow_form hown1 (by omega); have hv1 : w1.cell? ⟨w.heap.size + 1 + 1, 2, none⟩ = some v := hgrow1.cell (keepc (w1 := wr.alloc _) ((Below.refl _ wr).alloc (Nat.le_refl _) _) hv) HROW.out; have hf1 : w1.frozen? ⟨w.heap.size + 1 + 1, 2, none⟩ = false := HFR.out _ w1 hgrow1)
         go_roundg (nrOf n - 1)
         case measure => omega
         case rel => exact ⟨1, _, by omega, by omega, rfl, by rw [HS.out, HX.out, Int.add_zero], World.cell?_setCell_same' _ _ _ (by rw [hv1]; rfl), owns_set (by rw [HRK.out, List.map_append, List.flatten_append, HS.out, HX.out, Int.add_zero]; exact hown1) (by omega), HEND.out _ _ _ hgrow1⟩
     · have hke : Aside (nrOf n = k) := by show _ = _; omega
       have hk1 : 1 ≤ k := by
         have := (HNR.out 0).1 (.inl rfl); omega
       have hk0 : decide ((k : Int) = 0) = false := by simp; omega
       by_cases hkn : k < n
       · have hknz : (k : Int) < (n : Int) := by omega
         have hk5z : ¬ (k : Int) < 5 := by have h' : ¬ k < 5 := fun h => hlt ((HNR.out k).1 (.inr ⟨hkn, h⟩)); omega
         go_wp2
         go_meet
         exact ⟨v, hv, by rw [hke.out]; exact hown, HK⟩
       · have hknz : ¬ (k : Int) < (n : Int) := by omega
         go_wp2
         go_meet
         exact ⟨v, hv, by rw [hke.out]; exact hown, HK⟩
  case rest =>
    obtain ⟨wo, rfl⟩ : ∃ wo : World, wo = wc := ⟨_, rfl⟩
    obtain ⟨v, hv, hown, HK⟩ := hcut
    go_wp2_with fail
    have hzc : w.heap.size + 3 ≤ wo.heap.size := by have := HK.out.size; have := S0.out; omega
    have HBC : Aside (Below w.heap.size w wo) := HK.out.below BW0.out (show w.heap.size ≤ w.heap.size + 3 by omega) (show w.heap.size ≤ w.heap.size + 1 + 1 by omega)
    have j2 := HK.out.cellk (k := w.heap.size) (by omega) (by omega) a2
    refine region_laid (fl := 3) [true, true, true, true, true, true, true, true] 0 (secD w.heap.size f) (fun w' => Below wo.heap.size wo w') (by kernel_rfl) rfl (by show layable _ 140 _ = true; decide +kernel) rfl ((Below.refl _ _).drew) (secD_mono _ _) ?step ?rest
    case step =>
      intro i o listed a W hA ho hL he
      have ha1 : a.tmps.getD 1 undef = .pointer (some ⟨w.heap.size, 0, none⟩) := hL.kept 1 (by decide +kernel)
      have k2 := keepc hL.cls j2
      have CL : ∀ W', Below W.heap.size W W' → Below wo.heap.size wo W' := fun W' h => hL.cls.trans (h.mono hL.cls.size)
      match i, hA, ho with
      | 0, _, ho =>
        cases ho
        have x := compass_any W
        unfold CompassOk at x
        refine wpOp_plain rfl rfl ?_
        unfold Oper.wp
        go_simp
        refine x.mono ?_
        rintro e w' ⟨g, rfl, hg, hsl, hBn⟩
        exact ⟨_, rfl, hBn, CL _ hBn, ⟨g, rfl, by have := hL.cls.size; omega, hsl⟩⟩
      | 1, _, ho =>
        cases ho
        refine wpOp_plain rfl rfl ?_
        unfold Oper.wp
        go_simp
        exact ⟨_, rfl, Below.refl _ _, CL _ (Below.refl _ _), rfl⟩
      | 2, _, ho =>
        cases ho
        have d4 : a.tmps.getD 84 undef = .pointer (some ⟨w.heap.size, 2, none⟩) := hL.new 1 _ 84 rfl (he ⟨1, .data⟩ (by simp) rfl) rfl
        refine wpOp_plain rfl rfl ?_
        unfold Oper.wp
        go_simp
        exact ⟨_, rfl, Below.refl _ _, CL _ (Below.refl _ _), rfl⟩
      | 3, _, ho =>
        cases ho
        have d4 : a.tmps.getD 85 undef = .int .u8 f := hL.new 2 _ 85 rfl (he ⟨2, .data⟩ (by simp) rfl) rfl
        refine wpOp_plain rfl rfl ?_
        unfold Oper.wp
        go_simp
        exact ⟨_, rfl, Below.refl _ _, CL _ (Below.refl _ _), (by show Value.int _ _ = _; rw [IntWalk.i64_in f (by omega)])⟩
      | 4, _, ho =>
        cases ho
        have d4 : a.tmps.getD 86 undef = .int .i64 f := hL.new 3 _ 86 rfl (he ⟨3, .data⟩ (by simp) rfl) rfl
        refine wpOp_plain rfl rfl ?_
        unfold Oper.wp
        go_simp
        exact ⟨_, rfl, Below.refl _ _, CL _ (Below.refl _ _), (by show Value.int _ _ = _; rw [Int.tmod_eq_emod_of_nonneg f0])⟩
      | 5, _, ho =>
        cases ho
        obtain ⟨g, d4, hgg, hs⟩ : ∃ g, a.tmps.getD 83 undef = .slice (some ⟨g, 0, none⟩) 24 24 ∧ w.heap.size + 3 ≤ g ∧ Sl W 2 encP (.slice (some ⟨g, 0, none⟩) 24 24) compassL := hL.new 0 _ 83 rfl (he ⟨0, .data⟩ (by simp) rfl) rfl
        refine wpOp_plain rfl rfl ?_
        unfold Oper.wp
        go_simp
        exact ⟨_, rfl, Below.refl _ _, CL _ (Below.refl _ _), ⟨g, rfl, hgg, hs⟩⟩
      | 6, _, ho =>
        cases ho
        refine wpOp_plain rfl rfl ?_
        unfold Oper.wp
        go_simp
        exact ⟨_, rfl, Below.refl _ _, CL _ (Below.refl _ _), rfl⟩
      | 7, _, ho =>
        cases ho
        have d4 : a.tmps.getD 87 undef = .int .i64 (f % 24) := hL.new 4 _ 87 rfl (he ⟨4, .data⟩ (by simp) rfl) rfl
        refine wpOp_plain rfl rfl ?_
        unfold Oper.wp
        go_simp
        exact ⟨_, rfl, Below.refl _ _, CL _ (Below.refl _ _), rfl⟩
      | n + 8, hA, _ => simp at hA
    case rest =>
      intro a W1 hL
      obtain ⟨g, e83, _, hs83⟩ : ∃ g, a.tmps.getD 83 undef = .slice (some ⟨g, 0, none⟩) 24 24 ∧ w.heap.size + 3 ≤ g ∧ Sl W1 2 encP (.slice (some ⟨g, 0, none⟩) 24 24) compassL := hL.new 0 _ 83 rfl rfl rfl
      have e84 : a.tmps.getD 84 undef = .pointer (some ⟨w.heap.size, 2, none⟩) := hL.new 1 _ 84 rfl rfl rfl
      have e85 : a.tmps.getD 85 undef = .int .u8 f := hL.new 2 _ 85 rfl rfl rfl
      have e86 : a.tmps.getD 86 undef = .int .i64 f := hL.new 3 _ 86 rfl rfl rfl
      have e87 : a.tmps.getD 87 undef = .int .i64 (f % 24) := hL.new 4 _ 87 rfl rfl rfl
      obtain ⟨g7, e7, hg7a, hs7⟩ : ∃ g, a.tmps.getD 7 undef = .slice (some ⟨g, 0, none⟩) 24 24 ∧ w.heap.size + 3 ≤ g ∧ Sl W1 2 encP (.slice (some ⟨g, 0, none⟩) 24 24) compassL := hL.new 5 _ 7 rfl rfl rfl
      have e8 : a.tmps.getD 8 undef = .int .i64 0 := hL.new 6 _ 8 rfl rfl rfl
      have e9 : a.tmps.getD 9 undef = .int .i64 (f % 24) := hL.new 7 _ 9 rfl rfl rfl
      have es := hL.sets [83, 84, 85, 86, 87, 7, 8, 9] (by decide +kernel)
      rw [List.foldl_cons, List.foldl_cons, List.foldl_cons, List.foldl_cons, List.foldl_cons, List.foldl_cons, List.foldl_cons, List.foldl_cons, List.foldl_nil, e83, e84, e85, e86, e87, e7, e8, e9] at es
      refine wpAny_done (by decide +kernel) ?_ _
      have BW1 : Aside (Below wo.heap.size wo W1) := hL.cls
      rw [es]
      clear es e83 e84 e85 e86 e87 e7 e8 e9 hL hs83
      simp only [List.setIfInBounds_toArray, List.set_cons_zero, List.set_cons_succ]
      obtain ⟨s, hs⟩ : ∃ s : Nat, f % 24 = (s : Int) := ⟨(f % 24).toNat, by omega⟩
      have HSS : Aside (f % 24 = (s : Int)) := hs
      have hs24 : s < 24 := by omega
      rw [hs]
      clear hs
      have hn1 : w.heap.size + 3 ≤ W1.heap.size := by have := BW1.out.size; omega
      have c1 := keepc BW1.out (HK.out.cellk (k := w.heap.size) (by omega) (by omega) a1)
      have c2 := keepc BW1.out (HK.out.cellk (k := w.heap.size) (by omega) (by omega) a2)
      have c3 := keepc BW1.out (HK.out.cell 3 _ (by omega) b3)
      have c4 := keepc BW1.out (HK.out.cell 4 _ (by omega) b4)
      have C0 := keepc BW1.out (HK.out.cell 0 _ (by omega) b0)
      have C1 := keepc BW1.out (HK.out.cell 1 _ (by omega) b1)
      have C2 := keepc BW1.out hv
      have C5 := keepc BW1.out (HK.out.cell 5 _ (by omega) b5)
      have CF : Aside (∀ i, W1.frozen? ⟨w.heap.size + 1 + 1, i, none⟩ = false) := fun i => ((BW1.out.frozen (p := ⟨w.heap.size + 1 + 1, i, none⟩) (by show w.heap.size + 1 + 1 < _; omega)).trans (HK.out.frz i)).trans (BF.out i)
      have HCP : Aside (∀ p, W1.cell? ⟨g7, (s + p) % 24 * 2, none⟩ = some (.int .i64 (cmp (s + p)).1) ∧ W1.cell? ⟨g7, (s + p) % 24 * 2 + 1, none⟩ = some (.int .i64 (cmp (s + p)).2)) := by
        intro p
        obtain ⟨a', c', e, _, hs⟩ := hs7
        obtain ⟨b, o, ha, _, hc⟩ := hs (by decide)
        have he : b = g7 ∧ o = 0 := by rw [ha] at e; simp at e; omega
        obtain ⟨rfl, rfl⟩ := he
        have hlt : (s + p) % 24 < 24 := Nat.mod_lt _ (by omega)
        have hx : compassL[(s + p) % 24]? = some (cmp (s + p)) := by
          unfold cmp
          rw [List.getElem?_eq_getElem (show (s + p) % 24 < compassL.length from hlt)]; rfl
        have h0 := hc _ _ hx 0 _ rfl
        have h1 := hc _ _ hx 1 _ rfl
        simp only [Nat.zero_add, Nat.add_zero] at h0 h1
        exact ⟨h0, h1⟩
      have HCL : Aside (∀ k, k < m → ∃ (b o : Nat) (x : Int), al = some ⟨b, o, none⟩ ∧ lines[k]?.getD 0 = x ∧ 0 ≤ x ∧ x ≤ 255 ∧ w.cell? ⟨b, o + k, none⟩ = some (.int .u8 x)) := by
        intro k hk
        have hk' : k < lines.length := by rw [HM.out]; exact hk
        obtain ⟨a', c', e, _, hs⟩ := HL.out
        cases e
        obtain ⟨b, o, rfl, _, hc⟩ := hs (by intro e; rw [e] at hk'; simp at hk')
        have hx := List.getElem?_eq_getElem hk'
        have hb := hl _ (List.getElem_mem hk')
        exact ⟨b, o, lines[k], rfl, by rw [hx]; rfl, hb.1, hb.2, by simpa using hc k _ hx 0 _ rfl⟩
      have hg7 : g7 < W1.heap.size := World.block_lt_of_cell? W1 ⟨g7, _, none⟩ (HCP.out 0).1
      obtain ⟨p0, hp, pz0, pz1, pz2⟩ := info_parts info_pts
      obtain ⟨j0, hj, jz0, jz1, jz2⟩ := info_parts info_ints
      have OWN : Aside (wo.ownsRow (w.heap.size + 3) 78 2 v (nrOf n) (((ringsK wq bull rings (nrOf n)).map encP).flatten)) := hown
      have BWW : Aside (Below w.heap.size w W1) := HBC.out.trans (BW1.out.mono HBC.out.size)
      clear hs7 hown hv j2 a0 a1 a2 b0 b1 b2 b3 b4 b5 hi hz0 hz1 hz2 hl
      go_upto_block 2 with (fail)
      go_cut [8] (fun s8 wd => ∃ (k : Nat) (vl vn : Value), EndL lines k ∧ wd.cell? ⟨w.heap.size + 1 + 1, 3, none⟩ = some vl ∧ wd.cell? ⟨w.heap.size + 1 + 1, 4, none⟩ = some vn ∧ wd.ownsRow W1.heap.size 34 2 vl k (((linesK s lines k).map encP).flatten) ∧ wd.ownsRow W1.heap.size 3 1 vn k ((numsK f k).map (Value.int .i64)) ∧ Aside (KB W1.heap.size (w.heap.size + 1 + 1) (fun i => i ≠ 3 ∧ i ≠ 4) W1 wd))
      case first =>
        go_wp2
        go_loopg [8, 10] 20 (fun gg av iv wr => ∃ (k p : Nat) (al2 : Option Addr) (cl2 : Nat) (an2 : Option Addr) (cn2 : Nat), k < 20 ∧ 20 - k ≤ gg ∧ p ≤ 500 ∧ av = .int .i64 p ∧ iv = .int .i64 k ∧ wr.cell? ⟨w.heap.size + 1 + 1, 3, none⟩ = some (.slice al2 k cl2) ∧ wr.cell? ⟨w.heap.size + 1 + 1, 4, none⟩ = some (.slice an2 k cn2) ∧
          wr.ownsRow W1.heap.size 34 2 (.slice al2 k cl2) k (((linesK s lines k).map encP).flatten) ∧ wr.ownsRow W1.heap.size 3 1 (.slice an2 k cn2) k ((numsK f k).map (Value.int .i64)) ∧ Aside (p = posL lines k ∧ (k = 0 ∨ posL lines (k - 1) < 24)) ∧ Aside (∀ g, (Value.slice al2 k cl2).ownBlock = some g → (Value.slice an2 k cn2).ownBlock ≠ some g) ∧ Aside (KB W1.heap.size (w.heap.size + 1 + 1) (fun i => i ≠ 3 ∧ i ≠ 4) W1 wr))
        case atStart => exact ⟨0, 0, none, 0, none, 0, by omega, by omega, by omega, rfl, rfl, c3, c4, World.ownsRow_nil _ _ _ _, World.ownsRow_nil _ _ _ _, ⟨rfl, .inl rfl⟩, (fun g h => by cases h), KB.refl _ _ _ _⟩
        case round =>
          obtain ⟨k, p, al2, cl2, an2, cn2, hk, hg, hp5, rfl, rfl, hvl, hvn, ol, on, HPP, HAP, HKK⟩ := hrel
          have hzr : W1.heap.size ≤ wr.heap.size := HKK.out.size
          by_cases hp24 : p < 24
          · have hp24z : (p : Int) < 24 := by omega
            have m1 := HKK.out.cellk (k := w.heap.size) (by omega) (by omega) c1
            have m2 := HKK.out.cellk (k := w.heap.size) (by omega) (by omega) c2
            have q1 := HKK.out.cellk (k := g7) (i := (s + p) % 24 * 2) hg7 (by omega) (HCP.out p).1
            have q2 := HKK.out.cellk (k := g7) (i := (s + p) % 24 * 2 + 1) hg7 (by omega) (HCP.out p).2
            go_wp2_with fail
            refine region_laid (fl := 8) [true, true, true, true, true, true, true, true, true, true, false, false, false] 3 (valD [.pointer (some ⟨w.heap.size + 1 + 1, 3, none⟩), .slice al2 k cl2, .slice (some ⟨g7, 0, none⟩) 24 24, .int .i64 s, .int .i64 p, .int .i64 (s + p), .int .i64 (((s : Int) + p) % 24), .pointer (some ⟨g7, (s + p) % 24 * 2, none⟩), pt (cmp (s + p))] (newP wr.heap.size (cmp (s + p)))) (fun w' => Below wr.heap.size wr w') (by kernel_rfl) rfl (by show layable _ 140 _ 8 = true; decide +kernel) rfl ((Below.refl _ _).drew)
              (valD_mono _ _ (fun x w w' hB h => by obtain ⟨g, h1, h2, h3, h4⟩ := h; exact ⟨g, h1, h2, keepc hB h3, keepc hB h4⟩)) ?step2 ?rest2
            case step2 =>
              intro i o listed a W hA ho hL he
              have CL : ∀ W', Below W.heap.size W W' → Below wr.heap.size wr W' := fun W' h => hL.cls.trans (h.mono hL.cls.size)
              have ha3 : a.tmps.getD 3 undef = .pointer (some ⟨w.heap.size + 1 + 1, 0, none⟩) := hL.kept 3 (by decide +kernel)
              have ha7 : a.tmps.getD 7 undef = .slice (some ⟨g7, 0, none⟩) 24 24 := hL.kept 7 (by decide +kernel)
              have ha8 : a.tmps.getD 8 undef = .int .i64 p := hL.kept 8 (by decide +kernel)
              have ha9 : a.tmps.getD 9 undef = .int .i64 s := hL.kept 9 (by decide +kernel)
              have kl := keepc hL.cls hvl
              have kq1 := keepc hL.cls q1
              have kq2 := keepc hL.cls q2
              match i, hA, ho with
              | 0, _, ho =>
                cases ho
                refine wpOp_plain rfl rfl ?_
                unfold Oper.wp
                go_simp
                exact ⟨_, rfl, Below.refl _ _, CL _ (Below.refl _ _), rfl⟩
              | 1, _, ho =>
                cases ho
                have d92 : a.tmps.getD 92 undef = .pointer (some ⟨w.heap.size + 1 + 1, 3, none⟩) := hL.new 0 _ 92 rfl (he ⟨0, .data⟩ (by simp) rfl) rfl
                refine wpOp_plain rfl rfl ?_
                unfold Oper.wp
                go_simp
                exact ⟨_, rfl, Below.refl _ _, CL _ (Below.refl _ _), rfl⟩
              | 2, _, ho =>
                cases ho
                refine wpOp_plain rfl rfl ?_
                unfold Oper.wp
                go_simp
                exact ⟨_, rfl, Below.refl _ _, CL _ (Below.refl _ _), rfl⟩
              | 3, _, ho =>
                cases ho
                refine wpOp_plain rfl rfl ?_
                unfold Oper.wp
                go_simp
                exact ⟨_, rfl, Below.refl _ _, CL _ (Below.refl _ _), rfl⟩
              | 4, _, ho =>
                cases ho
                refine wpOp_plain rfl rfl ?_
                unfold Oper.wp
                go_simp
                exact ⟨_, rfl, Below.refl _ _, CL _ (Below.refl _ _), rfl⟩
              | 5, _, ho =>
                cases ho
                have d95 : a.tmps.getD 95 undef = .int .i64 s := hL.new 3 _ 95 rfl (he ⟨3, .data⟩ (by simp) rfl) rfl
                have d96 : a.tmps.getD 96 undef = .int .i64 p := hL.new 4 _ 96 rfl (he ⟨4, .data⟩ (by simp) rfl) rfl
                refine wpOp_plain rfl rfl ?_
                unfold Oper.wp
                go_simp
                exact ⟨_, rfl, Below.refl _ _, CL _ (Below.refl _ _), (show Value.int .i64 (IntKind.i64.wrap ((s : Int) + p)) = Value.int .i64 ((s : Int) + p) by rw [IntWalk.i64_in _ (by omega)])⟩
              | 6, _, ho =>
                cases ho
                have d97 : a.tmps.getD 97 undef = .int .i64 ((s : Int) + p) := hL.new 5 _ 97 rfl (he ⟨5, .data⟩ (by simp) rfl) rfl
                refine wpOp_plain rfl rfl ?_
                unfold Oper.wp
                go_simp
                exact ⟨_, rfl, Below.refl _ _, CL _ (Below.refl _ _), (show Value.int .i64 (((s : Int) + p).tmod 24) = Value.int .i64 (((s : Int) + p) % 24) by rw [Int.tmod_eq_emod_of_nonneg (by omega)])⟩
              | 7, _, ho =>
                cases ho
                have d94 : a.tmps.getD 94 undef = .slice (some ⟨g7, 0, none⟩) 24 24 := hL.new 2 _ 94 rfl (he ⟨2, .data⟩ (by simp) rfl) rfl
                have d98 : a.tmps.getD 98 undef = .int .i64 (((s : Int) + p) % 24) := hL.new 6 _ 98 rfl (he ⟨6, .data⟩ (by simp) rfl) rfl
                obtain ⟨q, hq⟩ : ∃ q, (s + p) % 24 = q := ⟨_, rfl⟩
                have hq24 : q < 24 := by omega
                have hqz : ((s : Int) + p) % 24 = (q : Int) := by omega
                rw [hq]
                rw [hqz] at d98
                have hq0z : (0 : Int) ≤ (q : Int) := by omega
                have hq24z : (q : Int) < 24 := by omega
                clear hq hqz
                refine wpOp_plain rfl rfl ?_
                unfold Oper.wp
                go_simp
                exact ⟨_, rfl, Below.refl _ _, CL _ (Below.refl _ _), rfl⟩
              | 8, _, ho =>
                cases ho
                have d99 : a.tmps.getD 99 undef = .pointer (some ⟨g7, (s + p) % 24 * 2, none⟩) := hL.new 7 _ 99 rfl (he ⟨7, .data⟩ (by simp) rfl) rfl
                refine wpOp_plain rfl rfl ?_
                unfold Oper.wp
                go_simp
                exact ⟨_, rfl, Below.refl _ _, CL _ (Below.refl _ _), rfl⟩
              | 9, _, ho =>
                cases ho
                have d100 : a.tmps.getD 100 undef = .agg #[.int .i64 (cmp (s + p)).1, .int .i64 (cmp (s + p)).2] := hL.new 8 _ 100 rfl (he ⟨8, .data⟩ (by simp) rfl) rfl
                have d100b := d100
                rw [Array.getD_eq_getD_getElem?] at d100b
                refine wpOp_plain rfl rfl ?_
                unfold Oper.wp
                go_simp
                exact ⟨_, rfl, (Below.refl _ _).alloc (Nat.le_refl _) _, CL _ ((Below.refl _ _).alloc (Nat.le_refl _) _), ⟨W.heap.size, rfl, hL.cls.size, by go_simp, by go_simp⟩⟩
              | 10, hA, _ | 11, hA, _ | 12, hA, _ => cases hA
              | n + 13, hA, _ => simp at hA
            case rest2 =>
              intro a W hL
              have e92 : a.tmps.getD 92 undef = .pointer (some ⟨w.heap.size + 1 + 1, 3, none⟩) := hL.new 0 _ 92 rfl rfl rfl
              have e93 : a.tmps.getD 93 undef = .slice al2 k cl2 := hL.new 1 _ 93 rfl rfl rfl
              have e94 : a.tmps.getD 94 undef = .slice (some ⟨g7, 0, none⟩) 24 24 := hL.new 2 _ 94 rfl rfl rfl
              have e95 : a.tmps.getD 95 undef = .int .i64 s := hL.new 3 _ 95 rfl rfl rfl
              have e96 : a.tmps.getD 96 undef = .int .i64 p := hL.new 4 _ 96 rfl rfl rfl
              have e97 : a.tmps.getD 97 undef = .int .i64 ((s : Int) + p) := hL.new 5 _ 97 rfl rfl rfl
              have e98 : a.tmps.getD 98 undef = .int .i64 (((s : Int) + p) % 24) := hL.new 6 _ 98 rfl rfl rfl
              have e99 : a.tmps.getD 99 undef = .pointer (some ⟨g7, (s + p) % 24 * 2, none⟩) := hL.new 7 _ 99 rfl rfl rfl
              have e100 : a.tmps.getD 100 undef = .agg #[.int .i64 (cmp (s + p)).1, .int .i64 (cmp (s + p)).2] := hL.new 8 _ 100 rfl rfl rfl
              obtain ⟨ge, e101, hge, hge0, hge1⟩ : newP wr.heap.size (cmp (s + p)) (a.tmps.getD 101 undef) W := hL.new 9 _ 101 rfl rfl rfl
              have es := hL.sets [92, 93, 94, 95, 96, 97, 98, 99, 100, 101] (by decide +kernel)
              rw [List.foldl_cons, List.foldl_cons, List.foldl_cons, List.foldl_cons, List.foldl_cons, List.foldl_cons, List.foldl_cons, List.foldl_cons, List.foldl_cons, List.foldl_cons, List.foldl_nil, e92, e93, e94, e95, e96, e97, e98, e99, e100, e101] at es
              have BW : Aside (Below wr.heap.size wr W) := hL.cls
              rw [es]
              clear es e92 e93 e94 e95 e96 e97 e98 e99 e100 e101 hL
              simp only [List.setIfInBounds_toArray, List.set_cons_zero, List.set_cons_succ]
              have KW : Aside (KB W1.heap.size (w.heap.size + 1 + 1) (fun i => i ≠ 3 ∧ i ≠ 4) W1 W) := HKK.out.grown (grown_below BW.out) hzr (by omega) (fun r e => by cases e)
              have zW : W1.heap.size ≤ W.heap.size := Nat.le_trans hzr BW.out.size
              have olW := owns_below ol BW.out
              have onW := owns_below on BW.out
              have hvlW := keepc BW.out hvl
              have hvnW := keepc BW.out hvn
              have HLK : Aside (((linesK s lines (k + 1)).map encP).flatten = ((linesK s lines k).map encP).flatten ++ [.int .i64 (cmp (s + p)).1, .int .i64 (cmp (s + p)).2]) := by
                show _ = _
                rw [linesK_succ, List.map_append, List.flatten_append, HPP.out.1]; rfl
              have HNK : Aside ((numsK f (k + 1)).map (Value.int .i64) = (numsK f k).map (Value.int .i64) ++ [.int .i64 (1 + (7 * (k : Int) + f) % 20)]) := by
                show _ = _
                rw [numsK_succ, List.map_append]; rfl
              refine wpAny_one (i := 10) (by decide +kernel) rfl rfl ?_
              refine wp_append_lies W (.tmp 93) (.tmp 101) 28 rfl W1.heap.size 34 p0 (.agg #[.int .i64 0, .int .i64 0]) 2 16 Try.underlying28 hp pz0 pz1 pz2 rfl (by decide) (.slice al2 k cl2) k _ rfl olW ⟨ge, 0, none⟩ 1 1 [.int .i64 (cmp (s + p)).1, .int .i64 (cmp (s + p)).2] rfl rfl (two_at hge0 hge1) (by intro u hu; simp at hu; rcases hu with rfl | rfl <;> rfl) (by decide) (by unfold maxLen; omega) (by omega) zW W.heap.size rfl ?_
              intro gl cl3 w2 ol2 hg2 hat2 hlt2
              rw [← HLK.out] at ol2
              have hrow : ∀ r, (Value.slice al2 k cl2).ownBlock = some r → W1.heap.size ≤ r ∧ r ≠ w.heap.size + 1 + 1 := fun r e => by have := olW.lt r e; omega
              have K2 : Aside (KB W1.heap.size (w.heap.size + 1 + 1) (fun i => i ≠ 3 ∧ i ≠ 4) W1 w2) := KW.out.grown hg2 zW (by omega) hrow
              have hb3 : some (w.heap.size + 1 + 1) ≠ (Value.slice al2 k cl2).ownBlock := fun e => (hrow _ e.symm).2 rfl
              have t3 : w2.cell? ⟨w.heap.size + 1 + 1, 3, none⟩ = some (.slice al2 k cl2) := hg2.cell hvlW hb3
              have t4 : w2.cell? ⟨w.heap.size + 1 + 1, 4, none⟩ = some (.slice an2 k cn2) := hg2.cell hvnW hb3
              have tf : ∀ i, w2.frozen? ⟨w.heap.size + 1 + 1, i, none⟩ = false := fun i => (K2.out.frz i).trans (CF.out i)
              have on2 := onW.kept hg2 (by
                cases hv : (Value.slice an2 k cn2).ownBlock with
                | none => exact .inl rfl
                | some g => exact .inr (fun e => HAP.out g e.symm hv))
              have hgl : W1.heap.size ≤ gl := by
                rcases hat2 with e | e
                · exact (olW.lt gl e).1
                · omega
              go_simp
              refine wpAny_one (i := 11) (by decide +kernel) rfl rfl ?_
              unfold Oper.wp
              go_simp
              refine wpAny_one (i := 12) (by decide +kernel) rfl rfl ?_
              unfold Oper.wp
              go_simp
              refine wpAny_done (by decide +kernel) ?_ _
              obtain ⟨w3, hw3⟩ : ∃ w3, w3 = w2.setCell ⟨w.heap.size + 1 + 1, 3, none⟩ (.slice (some ⟨gl, 0, none⟩) (k + 1) cl3) := ⟨_, rfl⟩
              have K3 : Aside (KB W1.heap.size (w.heap.size + 1 + 1) (fun i => i ≠ 3 ∧ i ≠ 4) W1 w3) := by rw [hw3]; exact K2.out.set _ (by simp)
              have v3 : w3.cell? ⟨w.heap.size + 1 + 1, 3, none⟩ = some (.slice (some ⟨gl, 0, none⟩) (k + 1) cl3) := by rw [hw3]; exact World.cell?_setCell_same' _ _ _ (by rw [t3]; rfl)
              have v4 : w3.cell? ⟨w.heap.size + 1 + 1, 4, none⟩ = some (.slice an2 k cn2) := by rw [hw3]; go_simp
              have ol3 := owns_set (u := .slice (some ⟨gl, 0, none⟩) (k + 1) cl3) (j := 3) ol2 (show w.heap.size + 1 + 1 < W1.heap.size by omega)
              have on3 := owns_set (u := .slice (some ⟨gl, 0, none⟩) (k + 1) cl3) (j := 3) on2 (show w.heap.size + 1 + 1 < W1.heap.size by omega)
              have Z3 : Aside (w3.heap.size = w2.heap.size) := by show _ = _; rw [hw3]; simp
              rw [← hw3] at ol3 on3 ⊢
              clear hw3 t3 t4 tf on2 ol2
              have z13 : W1.heap.size ≤ w3.heap.size := K3.out.size
              have hrow4 : ∀ r, (Value.slice an2 k cn2).ownBlock = some r → W1.heap.size ≤ r ∧ r ≠ w.heap.size + 1 + 1 := fun r e => by have := on3.lt r e; omega
              have HR4 : Aside (some (w.heap.size + 1 + 1) ≠ (Value.slice an2 k cn2).ownBlock) := fun e => (hrow4 _ e.symm).2 rfl
              have HK4 : Aside (∀ (o : Obj) (w4 : World), (w3.alloc o).grownBy w4 (Value.slice an2 k cn2).ownBlock → KB W1.heap.size (w.heap.size + 1 + 1) (fun i => i ≠ 3 ∧ i ≠ 4) W1 w4) := fun o w4 hg4 => (K3.out.alloc o z13 (by omega)).grown hg4 (by simp; omega) (by simp; omega) hrow4
              have HI1 : Aside (∀ w4, KB W1.heap.size (w.heap.size + 1 + 1) (fun i => i ≠ 3 ∧ i ≠ 4) W1 w4 → w4.cell? ⟨w.heap.size, 1, none⟩ = some (.slice al m cl)) := fun w4 h => h.cellk (by omega) (by omega) c1
              have c2' := K3.out.cellk (k := w.heap.size) (by omega) (by omega) c2
              have HFIN : Aside (∀ (o : Obj) (gn cn3 : Nat) (w4 : World) (u : Value), u = .slice (some ⟨gn, 0, none⟩) (k + 1) cn3 → w4.ownsRow W1.heap.size 3 1 (.slice (some ⟨gn, 0, none⟩) (k + 1) cn3) (k + 1) ((numsK f k).map (Value.int .i64) ++ [.int .i64 (1 + (7 * (k : Int) + f) % 20)]) → (w3.alloc o).grownBy w4 (Value.slice an2 k cn2).ownBlock → ((Value.slice an2 k cn2).ownBlock = some gn ∨ gn = w3.heap.size + 1) →
                  w4.cell? ⟨w.heap.size + 1 + 1, 3, none⟩ = some (.slice (some ⟨gl, 0, none⟩) (k + 1) cl3) → w4.cell? ⟨w.heap.size + 1 + 1, 4, none⟩ = some (.slice an2 k cn2) →
                  (w4.setCell ⟨w.heap.size + 1 + 1, 4, none⟩ u).cell? ⟨w.heap.size + 1 + 1, 3, none⟩ = some (.slice (some ⟨gl, 0, none⟩) (k + 1) cl3) ∧ (w4.setCell ⟨w.heap.size + 1 + 1, 4, none⟩ u).cell? ⟨w.heap.size + 1 + 1, 4, none⟩ = some u ∧
                  (w4.setCell ⟨w.heap.size + 1 + 1, 4, none⟩ u).ownsRow W1.heap.size 34 2 (.slice (some ⟨gl, 0, none⟩) (k + 1) cl3) (k + 1) (((linesK s lines (k + 1)).map encP).flatten) ∧ (w4.setCell ⟨w.heap.size + 1 + 1, 4, none⟩ u).ownsRow W1.heap.size 3 1 u (k + 1) ((numsK f (k + 1)).map (Value.int .i64)) ∧
                  (∀ g, (Value.slice (some ⟨gl, 0, none⟩) (k + 1) cl3).ownBlock = some g → u.ownBlock ≠ some g) ∧ KB W1.heap.size (w.heap.size + 1 + 1) (fun i => i ≠ 3 ∧ i ≠ 4) W1 (w4.setCell ⟨w.heap.size + 1 + 1, 4, none⟩ u)) := by
                intro o gn cn3 w4 u hu on4 hg4 hat4 i3 i4
                have z3 := Z3.out
                subst hu
                rw [← HNK.out] at on4
                have hne : gn ≠ gl := by
                  intro e
                  subst e
                  rcases hat4 with e4 | e4
                  · rcases hat2 with e2 | e2
                    · exact HAP.out gn e2 e4
                    · have := (onW.lt gn e4).2; omega
                  · omega
                have ol4 := (ol3.alloc o).kept hg4 (by
                  refine .inr ?_
                  show some gl ≠ _
                  intro e
                  rcases hat2 with e2 | e2
                  · exact HAP.out gl e2 e.symm
                  · have := (onW.lt gl e.symm).2; omega)
                refine ⟨by go_simp, World.cell?_setCell_same' _ _ _ (by rw [i4]; rfl), owns_set ol4 (by omega), owns_set on4 (by omega), ?_, (HK4.out _ _ hg4).set _ (by simp)⟩
                intro g hg e
                simp [Value.ownBlock] at hg e
                omega
              clear hat2 hg2 K2 KW olW onW hvlW hvnW ol3 c1 c2 hrow4 hrow hb3
              by_cases hkm : k < m
              · have hkmz : (k : Int) < (m : Int) := by omega
                obtain ⟨b, o, x, rfl, hx, hx0, hx1, hcx⟩ := HCL.out k hkm
                have HX : Aside (lines[k]?.getD 0 = x) := hx
                have hcx3 : ∀ w4, KB W1.heap.size (w.heap.size + 1 + 1) (fun i => i ≠ 3 ∧ i ≠ 4) W1 w4 → w4.cell? ⟨b, o + k, none⟩ = some (.int .u8 x) := fun w4 h => keepc (h.below BWW.out (by omega) (by omega)) hcx
                have HCX : Aside _ := hcx3
                have HST : Aside (((posL lines (k + 1) : Nat) : Int) = p + (1 + x % 8)) := by
                  show _ = _
                  have : posL lines (k + 1) = posL lines k + stepL lines k := rfl
                  have e2 : stepL lines k = 1 + x.toNat % 8 := by unfold stepL; rw [if_pos (by rw [HM.out]; exact hkm), HX.out]
                  have := HPP.out.1
                  omega
                have hbw := World.block_lt_of_cell? w _ hcx
                have hbne : ¬ b = w.heap.size + 1 + 1 := fun e => by have : b < w.heap.size := hbw; omega
                have hbne2 : ¬ w.heap.size + 1 + 1 = b := fun e => hbne e.symm
                clear hx hcx hcx3 hbw
                go_wp2_with (at_builtin; refine wpList_append_lies _ rfl _ _ 29 rfl W1.heap.size 3 j0 (.int .i64 0) 1 8 Try.underlying29 hj jz0 jz1 jz2 rfl (by decide) (.slice an2 k cn2) k _ rfl (on3.alloc _) ⟨w3.heap.size, 0, none⟩ 1 1 [.int .i64 (1 + (7 * (k : Int) + f) % 20)] rfl rfl (cell_one_new _ _ _) (by intro u hu; simp at hu; subst hu; rfl) (by decide) (by unfold maxLen; omega) (by omega) (by simp; omega) (w3.heap.size + 1) (by simp) ?_; intro gn cn3 w4 on4 hg4 hat4 hlt4; have K4 : Aside (KB W1.heap.size (w.heap.size + 1 + 1) (fun i => i ≠ 3 ∧ i ≠ 4) W1 w4) := HK4.out _ _ hg4; have i1 := HI1.out _ K4.out; have i3 : w4.cell? ⟨w.heap.size + 1 + 1, 3, none⟩ = some (.slice (some ⟨gl, 0, none⟩) (k + 1) cl3) := hg4.cell (keepc (w1 := w3.alloc _) ((Below.refl _ w3).alloc (Nat.le_refl _) _) v3) HR4.out; have i4 : w4.cell? ⟨w.heap.size + 1 + 1, 4, none⟩ = some (.slice an2 k cn2) := hg4.cell (keepc (w1 := w3.alloc _) ((Below.refl _ w3).alloc (Nat.le_refl _) _) v4) HR4.out; have if4 : w4.frozen? ⟨w.heap.size + 1 + 1, 4, none⟩ = false := (K4.out.frz 4).trans (CF.out 4); have ix := HCX.out _ K4.out)
                · have HF := HFIN.out _ gn cn3 w4 (.slice (some ⟨gn, 0, none⟩) (k + 1) cn3) rfl on4 hg4 hat4 i3 i4
                  have hk20 : Aside (k + 1 = 20) := by
                    have hx : ((k : Int) + 1 == 20) = true := by assumption
                    have := eq_of_beq hx
                    show _ = _; omega
                  go_meet
                  exact ⟨k + 1, _, _, ⟨by omega, by omega, (show posL lines k < 24 by have := HPP.out.1; omega), .inr hk20.out⟩, HF.1, HF.2.1, HF.2.2.1, HF.2.2.2.1, HF.2.2.2.2.2⟩
                · have HF := HFIN.out _ gn cn3 w4 (.slice (some ⟨gn, 0, none⟩) (k + 1) cn3) rfl on4 hg4 hat4 i3 i4
                  have hk20 : Aside (k + 1 < 20) := by
                    have hx : ((k : Int) + 1 == 20) = false := by first | assumption | (rw [Bool.eq_false_iff]; assumption)
                    have := ne_of_beq_false hx
                    show _ < _; omega
                  go_roundg (20 - (k + 1))
                  case measure => omega
                  case rel => exact ⟨k + 1, posL lines (k + 1), _, _, _, _, hk20.out, by omega, (by have := posL_ge lines (k + 1); omega), by rw [HST.out], by go_num, HF.1, HF.2.1, HF.2.2.1, HF.2.2.2.1, ⟨rfl, .inr (show posL lines k < 24 by have := HPP.out.1; omega)⟩, HF.2.2.2.2.1, HF.2.2.2.2.2⟩
              · have hkmz : ¬ (k : Int) < (m : Int) := by omega
                have HST : Aside (((posL lines (k + 1) : Nat) : Int) = p + 8) := by
                  show _ = _
                  have : posL lines (k + 1) = posL lines k + stepL lines k := rfl
                  have e2 : stepL lines k = 8 := by unfold stepL; rw [if_neg (by rw [HM.out]; exact hkm)]
                  have := HPP.out.1
                  omega
                go_wp2_with (at_builtin; refine wpList_append_lies _ rfl _ _ 29 rfl W1.heap.size 3 j0 (.int .i64 0) 1 8 Try.underlying29 hj jz0 jz1 jz2 rfl (by decide) (.slice an2 k cn2) k _ rfl (on3.alloc _) ⟨w3.heap.size, 0, none⟩ 1 1 [.int .i64 (1 + (7 * (k : Int) + f) % 20)] rfl rfl (cell_one_new _ _ _) (by intro u hu; simp at hu; subst hu; rfl) (by decide) (by unfold maxLen; omega) (by omega) (by simp; omega) (w3.heap.size + 1) (by simp) ?_; intro gn cn3 w4 on4 hg4 hat4 hlt4; have K4 : Aside (KB W1.heap.size (w.heap.size + 1 + 1) (fun i => i ≠ 3 ∧ i ≠ 4) W1 w4) := HK4.out _ _ hg4; have i1 := HI1.out _ K4.out; have i3 : w4.cell? ⟨w.heap.size + 1 + 1, 3, none⟩ = some (.slice (some ⟨gl, 0, none⟩) (k + 1) cl3) := hg4.cell (keepc (w1 := w3.alloc _) ((Below.refl _ w3).alloc (Nat.le_refl _) _) v3) HR4.out; have i4 : w4.cell? ⟨w.heap.size + 1 + 1, 4, none⟩ = some (.slice an2 k cn2) := hg4.cell (keepc (w1 := w3.alloc _) ((Below.refl _ w3).alloc (Nat.le_refl _) _) v4) HR4.out; have if4 : w4.frozen? ⟨w.heap.size + 1 + 1, 4, none⟩ = false := (K4.out.frz 4).trans (CF.out 4))
                · have HF := HFIN.out _ gn cn3 w4 (.slice (some ⟨gn, 0, none⟩) (k + 1) cn3) rfl on4 hg4 hat4 i3 i4
                  have hk20 : Aside (k + 1 = 20) := by
                    have hx : ((k : Int) + 1 == 20) = true := by assumption
                    have := eq_of_beq hx
                    show _ = _; omega
                  go_meet
                  exact ⟨k + 1, _, _, ⟨by omega, by omega, (show posL lines k < 24 by have := HPP.out.1; omega), .inr hk20.out⟩, HF.1, HF.2.1, HF.2.2.1, HF.2.2.2.1, HF.2.2.2.2.2⟩
                · have HF := HFIN.out _ gn cn3 w4 (.slice (some ⟨gn, 0, none⟩) (k + 1) cn3) rfl on4 hg4 hat4 i3 i4
                  have hk20 : Aside (k + 1 < 20) := by
                    have hx : ((k : Int) + 1 == 20) = false := by first | assumption | (rw [Bool.eq_false_iff]; assumption)
                    have := ne_of_beq_false hx
                    show _ < _; omega
                  go_roundg (20 - (k + 1))
                  case measure => omega
                  case rel => exact ⟨k + 1, posL lines (k + 1), _, _, _, _, hk20.out, by omega, (by have := posL_ge lines (k + 1); omega), by rw [HST.out], by go_num, HF.1, HF.2.1, HF.2.2.1, HF.2.2.2.1, ⟨rfl, .inr (show posL lines k < 24 by have := HPP.out.1; omega)⟩, HF.2.2.2.2.1, HF.2.2.2.2.2⟩
          · have hp24z : ¬ (p : Int) < 24 := by omega
            go_wp2
            go_meet
            exact ⟨k, _, _, ⟨by rcases HPP.out with ⟨h1, _⟩; rcases Nat.eq_zero_or_pos k with e | e; (subst e; simp [posL] at h1; omega); exact e, by omega, by rcases HPP.out with ⟨h1, h2 | h2⟩; (subst h2; simp [posL] at h1; omega); exact h2, .inl (by rw [← HPP.out.1]; omega)⟩, hvl, hvn, ol, on, HKK⟩
      case rest =>
        obtain ⟨k, vl, vn, hE, hc3, hc4, ol, on, KD⟩ := hcut
        have hk1 : 1 ≤ k := hE.1
        have hk20 : k ≤ 20 := hE.2.1
        have hnr1 : 1 ≤ nrOf n := by have := (HNR.out 0).1 (.inl rfl); omega
        have owd : wc.ownsRow (w.heap.size + 3) 78 2 v (nrOf n) (((ringsK wq bull rings (nrOf n)).map encP).flatten) := by
          have o1 := owns_below OWN.out BW1.out
          refine owns_KB o1 KD.out (fun g hg => ?_)
          have := OWN.out.lt g hg
          have := BW1.out.size
          omega
        obtain ⟨g1, q1, rfl, hg1, hl1, sl1⟩ := sl_of_row (k := 2) (enc := encP) (xs := ringsK wq bull rings (nrOf n)) (fun _ => rfl) (by rw [ringsK_len]; omega) (by intro e; have := ringsK_len wq bull rings (nrOf n); rw [e] at this; simp at this; omega) (by rw [ringsK_len]; exact owd)
        obtain ⟨g2, q2, rfl, hg2, hl2, sl2⟩ := sl_of_row (k := 2) (enc := encP) (xs := linesK s lines k) (fun _ => rfl) (by rw [linesK_len]; omega) (by intro e; have := linesK_len s lines k; rw [e] at this; simp at this; omega) (by rw [linesK_len]; exact ol)
        obtain ⟨g3, q3, rfl, hg3, hl3, sl3⟩ := sl_of_row (k := 1) (enc := fun x => [Value.int .i64 x]) (xs := numsK f k) (fun _ => rfl) (by rw [numsK_len]; omega) (by intro e; have := numsK_len f k; rw [e] at this; simp at this; omega) (by rw [numsK_len, flat_one]; exact on)
        rw [ringsK_len] at sl1 C2 OWN owd
        rw [linesK_len] at sl2 hc3 ol
        rw [numsK_len] at sl3 hc4 on
        have BWD : Aside (Below w.heap.size w wc) := KD.out.below BWW.out (by omega) (by omega)
        have r0 := KD.out.cell 0 _ (by omega) C0
        have r1 := KD.out.cell 1 _ (by omega) C1
        have r2 := KD.out.cell 2 _ (by omega) C2
        have r5 := KD.out.cell 5 _ (by omega) C5
        have z0 := KD.out.cellk (k := w.heap.size + 1) (by omega) (by omega) (keepc BW1.out (HK.out.cellk (k := w.heap.size + 1) (by omega) (by omega) d0))
        have z1 := KD.out.cellk (k := w.heap.size + 1) (by omega) (by omega) (keepc BW1.out (HK.out.cellk (k := w.heap.size + 1) (by omega) (by omega) d1))
        have z2 := KD.out.cellk (k := w.heap.size + 1) (by omega) (by omega) (keepc BW1.out (HK.out.cellk (k := w.heap.size + 1) (by omega) (by omega) d2))
        have z3 := KD.out.cellk (k := w.heap.size + 1) (by omega) (by omega) (keepc BW1.out (HK.out.cellk (k := w.heap.size + 1) (by omega) (by omega) d3))
        have z4 := KD.out.cellk (k := w.heap.size + 1) (by omega) (by omega) (keepc BW1.out (HK.out.cellk (k := w.heap.size + 1) (by omega) (by omega) d4))
        have z5 := KD.out.cellk (k := w.heap.size + 1) (by omega) (by omega) (keepc BW1.out (HK.out.cellk (k := w.heap.size + 1) (by omega) (by omega) d5))
        have zf : ∀ i, wc.frozen? ⟨w.heap.size + 1, i, none⟩ = false := fun i => (KD.out.frzk (by omega) (by omega)).trans (((BW1.out.frozen (p := ⟨w.heap.size + 1, i, none⟩) (by show w.heap.size + 1 < _; omega)).trans (HK.out.frzk (by omega) (by omega))).trans (DF.out i))
        have S1 : Aside (Sl wc 2 encP (.slice (some ⟨g1, 0, none⟩) (nrOf n) q1) (ringsK wq bull rings (nrOf n))) := sl1
        have S2 : Aside (Sl wc 2 encP (.slice (some ⟨g2, 0, none⟩) k q2) (linesK s lines k)) := sl2
        have S3 : Aside (Sl wc 1 (fun x => [Value.int .i64 x]) (.slice (some ⟨g3, 0, none⟩) k q3) (numsK f k)) := sl3
        have hbeq : madeB rings lines f wi k = { eye := eye, bull := bull, rings := ringsK wq bull rings (nrOf n), lines := linesK s lines k, nums := numsK f k, wire := wq } := by
          unfold madeB
          rw [HN.out, HEQ.out.2.2, HEQ.out.2.1, HEQ.out.1, HSS.out, Int.toNat_natCast]
        have HBQ : Aside _ := hbeq
        clear sl1 sl2 sl3 ol on owd hbeq
        go_wp2
        obtain ⟨V, hV⟩ : ∃ V, V = ((((((wc.setCell ⟨w.heap.size + 1, 0, none⟩ (.int .i64 eye)).setCell ⟨w.heap.size + 1, 1, none⟩ (.int .i64 bull)).setCell ⟨w.heap.size + 1, 2, none⟩ (.slice (some ⟨g1, 0, none⟩) (nrOf n) q1)).setCell ⟨w.heap.size + 1, 3, none⟩ (.slice (some ⟨g2, 0, none⟩) k q2)).setCell ⟨w.heap.size + 1, 4, none⟩ (.slice (some ⟨g3, 0, none⟩) k q3)).setCell ⟨w.heap.size + 1, 5, none⟩ (.int .i64 wq)) := ⟨_, rfl⟩
        have p0 : V.cell? ⟨w.heap.size + 1, 0, none⟩ = some (.int .i64 eye) := by rw [hV]; clear hV; (first | (go_simp; done) | (go_simp; refine World.cell?_setCell_same' _ _ _ ?_; (repeat (with_reducible refine some_set ?_)); go_simp))
        have p1 : V.cell? ⟨w.heap.size + 1, 1, none⟩ = some (.int .i64 bull) := by rw [hV]; clear hV; (first | (go_simp; done) | (go_simp; refine World.cell?_setCell_same' _ _ _ ?_; (repeat (with_reducible refine some_set ?_)); go_simp))
        have p2 : V.cell? ⟨w.heap.size + 1, 2, none⟩ = some (.slice (some ⟨g1, 0, none⟩) (nrOf n) q1) := by rw [hV]; clear hV; (first | (go_simp; done) | (go_simp; refine World.cell?_setCell_same' _ _ _ ?_; (repeat (with_reducible refine some_set ?_)); go_simp))
        have p3 : V.cell? ⟨w.heap.size + 1, 3, none⟩ = some (.slice (some ⟨g2, 0, none⟩) k q2) := by rw [hV]; clear hV; (first | (go_simp; done) | (go_simp; refine World.cell?_setCell_same' _ _ _ ?_; (repeat (with_reducible refine some_set ?_)); go_simp))
        have p4 : V.cell? ⟨w.heap.size + 1, 4, none⟩ = some (.slice (some ⟨g3, 0, none⟩) k q3) := by rw [hV]; clear hV; (first | (go_simp; done) | (go_simp; refine World.cell?_setCell_same' _ _ _ ?_; (repeat (with_reducible refine some_set ?_)); go_simp))
        have p5 : V.cell? ⟨w.heap.size + 1, 5, none⟩ = some (.int .i64 wq) := by rw [hV]; clear hV; (first | (go_simp; done) | (go_simp; refine World.cell?_setCell_same' _ _ _ ?_; (repeat (with_reducible refine some_set ?_)); go_simp))
        have y1 := ((((((S1.out.setM (p := ⟨w.heap.size + 1, 0, none⟩) (u := .int .i64 eye) (by first | (simp; done) | (simp; omega) | omega)).setM (p := ⟨w.heap.size + 1, 1, none⟩) (u := .int .i64 bull) (by first | (simp; done) | (simp; omega) | omega)).setM (p := ⟨w.heap.size + 1, 2, none⟩) (u := .slice (some ⟨g1, 0, none⟩) (nrOf n) q1) (by first | (simp; done) | (simp; omega) | omega)).setM (p := ⟨w.heap.size + 1, 3, none⟩) (u := .slice (some ⟨g2, 0, none⟩) k q2) (by first | (simp; done) | (simp; omega) | omega)).setM (p := ⟨w.heap.size + 1, 4, none⟩) (u := .slice (some ⟨g3, 0, none⟩) k q3) (by first | (simp; done) | (simp; omega) | omega)).setM (p := ⟨w.heap.size + 1, 5, none⟩) (u := .int .i64 wq) (by first | (simp; done) | (simp; omega) | omega))
        have y2 := ((((((S2.out.setM (p := ⟨w.heap.size + 1, 0, none⟩) (u := .int .i64 eye) (by first | (simp; done) | (simp; omega) | omega)).setM (p := ⟨w.heap.size + 1, 1, none⟩) (u := .int .i64 bull) (by first | (simp; done) | (simp; omega) | omega)).setM (p := ⟨w.heap.size + 1, 2, none⟩) (u := .slice (some ⟨g1, 0, none⟩) (nrOf n) q1) (by first | (simp; done) | (simp; omega) | omega)).setM (p := ⟨w.heap.size + 1, 3, none⟩) (u := .slice (some ⟨g2, 0, none⟩) k q2) (by first | (simp; done) | (simp; omega) | omega)).setM (p := ⟨w.heap.size + 1, 4, none⟩) (u := .slice (some ⟨g3, 0, none⟩) k q3) (by first | (simp; done) | (simp; omega) | omega)).setM (p := ⟨w.heap.size + 1, 5, none⟩) (u := .int .i64 wq) (by first | (simp; done) | (simp; omega) | omega))
        have y3 := ((((((S3.out.setM (p := ⟨w.heap.size + 1, 0, none⟩) (u := .int .i64 eye) (by first | (simp; done) | (simp; omega) | omega)).setM (p := ⟨w.heap.size + 1, 1, none⟩) (u := .int .i64 bull) (by first | (simp; done) | (simp; omega) | omega)).setM (p := ⟨w.heap.size + 1, 2, none⟩) (u := .slice (some ⟨g1, 0, none⟩) (nrOf n) q1) (by first | (simp; done) | (simp; omega) | omega)).setM (p := ⟨w.heap.size + 1, 3, none⟩) (u := .slice (some ⟨g2, 0, none⟩) k q2) (by first | (simp; done) | (simp; omega) | omega)).setM (p := ⟨w.heap.size + 1, 4, none⟩) (u := .slice (some ⟨g3, 0, none⟩) k q3) (by first | (simp; done) | (simp; omega) | omega)).setM (p := ⟨w.heap.size + 1, 5, none⟩) (u := .int .i64 wq) (by first | (simp; done) | (simp; omega) | omega))
        have hbV : Below w.heap.size w V := by rw [hV]; exact ((((((BWD.out.setCell (p := ⟨w.heap.size + 1, 0, none⟩) (by first | (simp; done) | (simp; omega) | omega) _).setCell (p := ⟨w.heap.size + 1, 1, none⟩) (by first | (simp; done) | (simp; omega) | omega) _).setCell (p := ⟨w.heap.size + 1, 2, none⟩) (by first | (simp; done) | (simp; omega) | omega) _).setCell (p := ⟨w.heap.size + 1, 3, none⟩) (by first | (simp; done) | (simp; omega) | omega) _).setCell (p := ⟨w.heap.size + 1, 4, none⟩) (by first | (simp; done) | (simp; omega) | omega) _).setCell (p := ⟨w.heap.size + 1, 5, none⟩) (by first | (simp; done) | (simp; omega) | omega) _)
        rw [← hV] at y1 y2 y3 ⊢
        clear hV
        exact bodyPost_ret (v := .agg #[.int .i64 eye, .int .i64 bull, .slice (some ⟨g1, 0, none⟩) (nrOf n) q1, .slice (some ⟨g2, 0, none⟩) k q2, .slice (some ⟨g3, 0, none⟩) k q3, .int .i64 wq]) (by simp [results, Try.results8, go_sem, p0, p1, p2, p3, p4, p5]) rfl ⟨k, _, hE, rfl, by rw [HBQ.out]; exact ⟨_, _, _, rfl, y1, y2, y3⟩, hbV⟩
end Go.Proofs.Ytilgchkndfhdhaa
