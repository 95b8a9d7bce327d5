/- Leg, part Y: a visit of a leg. -/
import Derived.Test.YthcgbceapabikaaX
import Derived.BigRegion
set_option linter.unusedVariables false
set_option linter.unusedSimpArgs false
namespace Go.Proofs.Ythcgbceapabikaa
open Go.RowKit Go.Maps Go.Sort Go.Shelf Go.Deep

/-- What a visit leaves of a leg. -/
def TakeG (V gl gd gi M cl cd ci nn : Nat) (vc vw : Value) (r : LegR) (g : LegG) (p : Int) (bs : List Int) (w : World) (e : Ending) (w' : World) : Prop :=
  e = .returned (.tuple #[.int .i64 (takeG r g p bs).2.1, .int .i64 (takeG r g p bs).2.2]) ∧ Outs [V, gl, gd, gi, M] w w' ∧ ∃ nn' vw' D', nn' ≤ nn + 1 ∧ ((vw' = vw ∧ (takeG r g p bs).1.wins = g.wins) ∨ ∀ b o n c, vw' = .slice (some ⟨b, o, none⟩) n c → w.heap.size ≤ b) ∧ LegW w' V gl gd gi M cl cd ci nn' vc vw' D' r (takeG r g p bs).1
theorem Outs.bel {S : List Nat} {w w1 w2 : World} (h : Outs S w w1) (k : Below w1.heap.size w1 w2) : Outs S w w2 := h.trans (Outs.of_below k)
/-- Nothing has turned: the same leg, an error. -/
theorem takeG_same {V gl gd gi M cl cd ci nn : Nat} {vc vw : Value} {D : DataW Unit} {r : LegR} {g : LegG} {w w' : World} {p dart e : Int} {bs : List Int} (h : LegW w V gl gd gi M cl cd ci nn vc vw D r g) (hB : Below w.heap.size w w') (ht : takeG r g p bs = (g, dart, e)) :
    TakeG V gl gd gi M cl cd ci nn vc vw r g p bs w (.returned (.tuple #[.int .i64 dart, .int .i64 e])) w' := by
  unfold TakeG
  rw [ht]
  exact ⟨rfl, Outs.of_below hB, nn, vw, D, by omega, .inl ⟨rfl, rfl⟩, h.below hB⟩

set_option maxRecDepth 100000 in
set_option maxHeartbeats 4000000 in
theorem take_over {V gl gd gi M cl cd ci nn : Nat} {vc vw : Value} {D : DataW Unit} {r : LegR} {g : LegG} (w : World) (h : LegW w V gl gd gi M cl cd ci nn vc vw D r g) (hov : g.over = true) (p : Int) (vb : Value) (bs : List Int) :
    Calls Try.prog 53 #[.pointer (some ⟨V, 0, none⟩), .agg #[.int .i64 p, vb]] w (TakeG V gl gd gi M cl cd ci nn vc vw r g p bs w) := by
  have ht : takeG r g p bs = (g, -1, 33) := by unfold takeG; rw [if_pos hov]
  have HF : Aside (∀ w', Below w.heap.size w w' → TakeG V gl gd gi M cl cd ci nn vc vw r g p bs w (.returned (.tuple #[.int .i64 (-1), .int .i64 33])) w') := fun w' hB => takeG_same h hB ht
  have hV : V < w.heap.size := (Array.getElem?_eq_some_iff.1 h.blk).1
  have k9 : w.cell? ⟨V, 9, none⟩ = some (.bool true) := by rw [← hov]; exact blk_cell h.blk rfl
  clear h hov ht
  go_enter Try.func53, Try.ntmps53
  go_wp2
  refine bodyPost_ret (v := .tuple #[.int .i64 (-1), .int .i64 33]) (by simp [results, Try.results53, go_sem]) rfl (HF.out _ (by (repeat' (first | exact Below.refl _ _ | assumption | (with_reducible refine Below.drew ?_) | (with_reducible refine Below.setCell ?_ (by (first | (simp; done) | (simp; omega))) _) | (with_reducible refine below_drewN' ?_ _) | (refine Below.alloc ?_ (by (try simp only [World.size_alloc, World.size_drew, World.size_setCell]); omega) _) | (refine Below.trans ?_ (Below.mono (by assumption) (by (try simp only [World.size_alloc, World.size_drew, World.size_setCell]); omega)))))))

set_option maxRecDepth 100000 in
set_option maxHeartbeats 4000000 in
theorem take_who {V gl gd gi M cl cd ci nn : Nat} {vc vw : Value} {D : DataW Unit} {r : LegR} {g : LegG} (w : World) (h : LegW w V gl gd gi M cl cd ci nn vc vw D r g) (hov : g.over = false) (p : Int) (hp : inb 0 ((r.counts.length : Int) - 1) p = false) (hn : r.counts.length ≤ 8) (vb : Value) (bs : List Int) :
    Calls Try.prog 53 #[.pointer (some ⟨V, 0, none⟩), .agg #[.int .i64 p, vb]] w (TakeG V gl gd gi M cl cd ci nn vc vw r g p bs w) := by
  have ht : takeG r g p bs = (g, -1, 2) := by unfold takeG; rw [if_neg (by rw [hov]; simp), if_neg (by rw [hp]; simp)]
  have HF : Aside (∀ w', Below w.heap.size w w' → TakeG V gl gd gi M cl cd ci nn vc vw r g p bs w (.returned (.tuple #[.int .i64 (-1), .int .i64 2])) w') := fun w' hB => takeG_same h hB ht
  have hV : V < w.heap.size := (Array.getElem?_eq_some_iff.1 h.blk).1
  have k9 : w.cell? ⟨V, 9, none⟩ = some (.bool false) := by rw [← hov]; exact blk_cell h.blk rfl
  obtain ⟨a, cp, hvc, hlc, _⟩ := h.counts
  have k0 : w.cell? ⟨V, 0, none⟩ = some (.slice a r.counts.length cp) := by rw [← hvc]; exact blk_cell h.blk rfl
  obtain ⟨n, hn'⟩ : ∃ n, r.counts.length = n := ⟨_, rfl⟩
  rw [hn'] at k0 hp hn
  have y1 := fun W k hk t => within_any 0 ((n : Int) - 1) _ [p] _ (sl_one W k hk t p)
  simp only [List.all_cons, List.all_nil, Bool.and_true] at y1
  rw [hp] at y1
  have e1 : IntKind.i64.wrap ((n : Int) - 1) = (n : Int) - 1 := IntWalk.i64_in _ (by omega)
  clear h hov ht hvc hlc hn' hp
  go_enter Try.func53, Try.ntmps53
  go_wp2_with (go_at_call 47; (with_reducible refine (y1 _ _ (by simp) _).mono ?_); rintro e w1 ⟨rfl, hb1⟩)
  refine bodyPost_ret (v := .tuple #[.int .i64 (-1), .int .i64 2]) (by simp [results, Try.results53, go_sem]) rfl (HF.out _ (by (repeat' (first | exact Below.refl _ _ | assumption | (with_reducible refine Below.drew ?_) | (with_reducible refine Below.setCell ?_ (by (first | (simp; done) | (simp; omega))) _) | (with_reducible refine below_drewN' ?_ _) | (refine Below.alloc ?_ (by (try simp only [World.size_alloc, World.size_drew, World.size_setCell]); omega) _) | (refine Below.trans ?_ (Below.mono (by assumption) (by (try simp only [World.size_alloc, World.size_drew, World.size_setCell]); omega)))))))

set_option maxRecDepth 100000 in
set_option maxHeartbeats 4000000 in
theorem take_turn {V gl gd gi M cl cd ci nn : Nat} {vc vw : Value} {D : DataW Unit} {r : LegR} {g : LegG} (w : World) (h : LegW w V gl gd gi M cl cd ci nn vc vw D r g) (hov : g.over = false) (p : Int) (hp : inb 0 ((r.counts.length : Int) - 1) p = true) (hn : r.counts.length ≤ 8) (hne : ¬ p = g.next) (vb : Value) (bs : List Int) :
    Calls Try.prog 53 #[.pointer (some ⟨V, 0, none⟩), .agg #[.int .i64 p, vb]] w (TakeG V gl gd gi M cl cd ci nn vc vw r g p bs w) := by
  have ht : takeG r g p bs = (g, -1, 30) := by unfold takeG; rw [if_neg (by rw [hov]; simp), if_pos hp, if_neg hne]
  have HF : Aside (∀ w', Below w.heap.size w w' → TakeG V gl gd gi M cl cd ci nn vc vw r g p bs w (.returned (.tuple #[.int .i64 (-1), .int .i64 30])) w') := fun w' hB => takeG_same h hB ht
  have hV : V < w.heap.size := (Array.getElem?_eq_some_iff.1 h.blk).1
  have k9 : w.cell? ⟨V, 9, none⟩ = some (.bool false) := by rw [← hov]; exact blk_cell h.blk rfl
  obtain ⟨x, hx⟩ : ∃ x, g.next = x := ⟨_, rfl⟩
  have k7 : w.cell? ⟨V, 7, none⟩ = some (.int .i64 x) := by rw [← hx]; exact blk_cell h.blk rfl
  rw [hx] at hne
  obtain ⟨a, cp, hvc, hlc, _⟩ := h.counts
  have k0 : w.cell? ⟨V, 0, none⟩ = some (.slice a r.counts.length cp) := by rw [← hvc]; exact blk_cell h.blk rfl
  obtain ⟨n, hn'⟩ : ∃ n, r.counts.length = n := ⟨_, rfl⟩
  rw [hn'] at k0 hp hn
  have y1 := fun W k hk t => within_any 0 ((n : Int) - 1) _ [p] _ (sl_one W k hk t p)
  simp only [List.all_cons, List.all_nil, Bool.and_true] at y1
  rw [hp] at y1
  have e1 : IntKind.i64.wrap ((n : Int) - 1) = (n : Int) - 1 := IntWalk.i64_in _ (by omega)
  clear h hov ht hvc hlc hn' hp hx
  go_enter Try.func53, Try.ntmps53
  go_wp2_with (go_at_call 47; (with_reducible refine (y1 _ _ (by simp) _).mono ?_); rintro e w1 ⟨rfl, hb1⟩; (have kk7 : w1.cell? ⟨V, 7, none⟩ = some (.int .i64 x) := by rw [hb1.cell (by simp; omega)]; go_simp); (obtain ⟨hc1, hf1⟩ := bcell hb1; have z1 := hb1.size; (try simp only [World.size_alloc, World.size_drew, World.size_setCell] at z1); (try have q1a : w.heap.size < w1.heap.size := by omega); (try have q1b : w.heap.size + 1 < w1.heap.size := by omega); (try have q1c : w.heap.size + 1 + 1 < w1.heap.size := by omega); (try have q1d : w.heap.size + 1 + 1 + 1 < w1.heap.size := by omega); (try have q1e : wr.heap.size < w1.heap.size := by omega); (try have q1f : wr.heap.size + 1 < w1.heap.size := by omega)))
  refine bodyPost_ret (v := .tuple #[.int .i64 (-1), .int .i64 30]) (by simp [results, Try.results53, go_sem]) rfl (HF.out _ (by (repeat' (first | exact Below.refl _ _ | assumption | (with_reducible refine Below.drew ?_) | (with_reducible refine Below.setCell ?_ (by (first | (simp; done) | (simp; omega))) _) | (with_reducible refine below_drewN' ?_ _) | (refine Below.alloc ?_ (by (try simp only [World.size_alloc, World.size_drew, World.size_setCell]); omega) _) | (refine Below.trans ?_ (Below.mono (by assumption) (by (try simp only [World.size_alloc, World.size_drew, World.size_setCell]); omega)))))))
end Go.Proofs.Ythcgbceapabikaa
