/- Leg, part Af: the examples' rules and beds. -/
import Derived.Test.YthcgbceapabikaaAe
set_option linter.unusedVariables false
set_option linter.unusedSimpArgs false
namespace Go.Proofs.Ythcgbceapabikaa
open Go.RowKit Go.Maps Go.Sort Go.Shelf Go.Deep

/-- The rules of the examples: their two counts lie in a block of their own. -/
def TwoAt (W : World) (eq : Bool) (x : Value) : Prop := ∃ b, x = .agg #[.slice (some ⟨b, 0, none⟩) 2 2, .int .i64 0, .int .i64 0, .bool eq] ∧ W.heap[b]? = some (.cells #[.int .i64 101, .int .i64 0, .int .i64 1, .int .i64 101, .int .i64 0, .int .i64 1] 24 (0, 0))
theorem TwoAt.rv {W : World} {eq : Bool} {x : Value} (h : TwoAt W eq x) : ∃ vc, x = legRV (twoR eq) vc ∧ Sl W 3 encC vc (twoR eq).counts := by
  obtain ⟨b, rfl, hb⟩ := h
  refine ⟨_, rfl, some ⟨b, 0, none⟩, 2, rfl, by simp [twoR], fun _ => ⟨b, 0, rfl, (Array.getElem?_eq_some_iff.1 hb).1, fun j x hx i y hy => ?_⟩⟩
  match j, hx with
  | 0, hx =>
    simp [twoR] at hx; subst hx
    match i, hy with
    | 0, hy => (simp [encC] at hy; subst hy; exact blk_cell hb rfl)
    | 1, hy => (simp [encC] at hy; subst hy; exact blk_cell hb rfl)
    | 2, hy => (simp [encC] at hy; subst hy; exact blk_cell hb rfl)
    | i + 3, hy => simp [encC] at hy
  | 1, hx =>
    simp [twoR] at hx; subst hx
    match i, hy with
    | 0, hy => (simp [encC] at hy; subst hy; exact blk_cell hb rfl)
    | 1, hy => (simp [encC] at hy; subst hy; exact blk_cell hb rfl)
    | 2, hy => (simp [encC] at hy; subst hy; exact blk_cell hb rfl)
    | i + 3, hy => simp [encC] at hy
  | j + 2, hx => simp [twoR] at hx
set_option maxRecDepth 100000 in
set_option maxHeartbeats 1000000 in
theorem two_any (eq : Bool) (w : World) : Calls Try.prog 37 #[.bool eq] w (fun e w' => Below w.heap.size w w' ∧ ∃ x, e = .returned x ∧ TwoAt w' eq x) := by
  go_enter Try.func37, Try.ntmps37
  go_wp2
  refine bodyPost_ret (v := .agg #[.slice (some ⟨w.heap.size + 1 + 1, 0, none⟩) 2 2, .int .i64 0, .int .i64 0, .bool eq]) (by simp [results, Try.results37, go_sem]) rfl ⟨by (repeat' (first | exact Below.refl _ _ | assumption | (with_reducible refine Below.drew ?_) | (with_reducible refine Below.setCell ?_ (by (first | (simp; done) | (simp; omega))) _) | (with_reducible refine below_drewN' ?_ _) | (refine Below.alloc ?_ (by (try simp only [World.size_alloc, World.size_drew, World.size_setCell]); omega) _) | (refine Below.trans ?_ (Below.mono (by assumption) (by (try simp only [World.size_alloc, World.size_drew, World.size_setCell]); omega))))), _, rfl, w.heap.size + 1 + 1, rfl, World.alloc_heap_new' _ _ _ (by simp)⟩
theorem beds_any (a : Option Addr) (n c : Nat) (w : World) : Calls Try.prog 38 #[.slice a n c] w (Ret (.slice a n c) w) := by
  go_enter Try.func38, Try.ntmps38
  go_wp2
  go_ret
  exact ⟨rfl, by (repeat' (first | exact Below.refl _ _ | assumption | (with_reducible refine Below.drew ?_) | (with_reducible refine Below.setCell ?_ (by (first | (simp; done) | (simp; omega))) _) | (with_reducible refine below_drewN' ?_ _) | (refine Below.alloc ?_ (by (try simp only [World.size_alloc, World.size_drew, World.size_setCell]); omega) _) | (refine Below.trans ?_ (Below.mono (by assumption) (by (try simp only [World.size_alloc, World.size_drew, World.size_setCell]); omega)))))⟩
/-- A literal slice lies in a block of its own. -/
theorem sl_blk {α : Type} {W : World} {g k : Nat} {T : TypeId} {enc : α → List Value} {xs : List α} (hk : ∀ x, (enc x).length = k) (hl : xs.length ≤ 1000) (hb : W.heap[g]? = some (.cells ((xs.map enc).flatten).toArray T (0, 0))) (c : Nat) : Sl W k enc (.slice (some ⟨g, 0, none⟩) xs.length c) xs :=
  sl_lit hk hl (Array.getElem?_eq_some_iff.1 hb).1 (fun j u h => blk_cell hb (by simpa using h)) c
/-- Blocks stay as they are, but for those that hold what a visit comes to. -/
def RT (W W' : World) : Prop := W.heap.size ≤ W'.heap.size ∧ ∀ k, k < W.heap.size → (∀ cs, W.heap[k]? ≠ some (.cells cs 30 (0, 0))) → W'.heap[k]? = W.heap[k]?
theorem RT.refl (W : World) : RT W W := ⟨Nat.le_refl _, fun _ _ _ => rfl⟩
theorem RT.of_below {W W' : World} (h : Below W.heap.size W W') : RT W W' := ⟨h.size, fun k hk _ => h.block k hk⟩
theorem RT.put {W W' : World} {g : Nat} {F : Obj} {cs : Array Value} (h : Put g F W W') (hg : W.heap[g]? = some (.cells cs 30 (0, 0))) : RT W W' := ⟨by rw [h.size]; exact Nat.le_refl _, fun k _ hno => h.block k (fun e => by subst e; exact hno _ hg)⟩
theorem RT.keep {W W' : World} {k : Nat} {cs : Array Value} {T : TypeId} (h : RT W W') (hT : T ≠ 30) (hk : W.heap[k]? = some (.cells cs T (0, 0))) : W'.heap[k]? = some (.cells cs T (0, 0)) :=
  (h.2 k (Array.getElem?_eq_some_iff.1 hk).1 (fun c e => by rw [hk] at e; simp only [Option.some.injEq, Obj.cells.injEq] at e; exact hT e.2.1)).trans hk
end Go.Proofs.Ythcgbceapabikaa
