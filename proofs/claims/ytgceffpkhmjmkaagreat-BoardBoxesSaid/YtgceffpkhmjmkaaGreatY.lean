/- Board, part Y: the board of the document's examples. -/
import Derived.Test.YtgceffpkhmjmkaaGreatQ
import Derived.Test.YtgceffpkhmjmkaaGreatD
set_option linter.unusedVariables false
set_option linter.unusedSimpArgs false
namespace Go.Proofs.YtgceffpkhmjmkaaGreat
open Go.RowKit Go.Shelf

def fourB (wi : Int) : Brd := { eye := 60, bull := 160, rings := [(990, 1), (1070, 3), (1620, 1), (1700, 2)], lines := [(-1, 1), (1, 1), (1, -1), (-1, -1)], nums := [20, 6, 3, 11], wire := wi }

def FourOk (wi : Int) (w : World) (e : Ending) (w' : World) : Prop :=
  ∃ g1 g2 g3, e = .returned (.agg #[.int .i64 60, .int .i64 160, .slice (some ⟨g1, 0, none⟩) 4 4, .slice (some ⟨g2, 0, none⟩) 4 4, .slice (some ⟨g3, 0, none⟩) 4 4, .int .i64 wi]) ∧
    BrdAt w' (.agg #[.int .i64 60, .int .i64 160, .slice (some ⟨g1, 0, none⟩) 4 4, .slice (some ⟨g2, 0, none⟩) 4 4, .slice (some ⟨g3, 0, none⟩) 4 4, .int .i64 wi]) (fourB wi) ∧ Below w.heap.size w w'

theorem sl_lit {α : Type} {w : World} {g k : Nat} {enc : α → List Value} {xs : List α} (hk : ∀ x, (enc x).length = k) (hl : xs.length ≤ 1000) (hg : g < w.heap.size) (h : ∀ j u, ((xs.map enc).flatten)[j]? = some u → w.cell? ⟨g, j, none⟩ = some u) (c : Nat) :
    Sl w k enc (.slice (some ⟨g, 0, none⟩) xs.length c) xs :=
  ⟨_, c, rfl, by omega, fun _ => ⟨g, 0, rfl, hg, fun j x hx i y hy => by rw [Nat.zero_add]; exact h _ _ (flat_get enc k hk xs j x i y hx hy)⟩⟩

set_option maxRecDepth 100000 in
set_option maxHeartbeats 2000000 in
theorem four_any (wi : Int) (w : World) : Calls Tryz.prog 38 #[.int .i64 wi] w (FourOk wi w) := by
  unfold FourOk
  go_enter Tryz.func38, Tryz.ntmps38
  go_wp2
  refine bodyPost_ret (v := .agg #[.int .i64 60, .int .i64 160, .slice (some ⟨w.heap.size + 1, 0, none⟩) 4 4, .slice (some ⟨w.heap.size + 1 + 1, 0, none⟩) 4 4, .slice (some ⟨w.heap.size + 1 + 1 + 1, 0, none⟩) 4 4, .int .i64 wi]) (by simp [results, Tryz.results38, go_sem]) rfl ⟨_, _, _, rfl, ⟨_, _, _, rfl, ?_, ?_, ?_⟩, by (repeat' (first | exact Below.refl _ _ | assumption | (with_reducible refine Below.drew ?_) | (with_reducible refine Below.setCell ?_ (by (first | (simp; done) | (simp; omega))) _) | (with_reducible refine below_drewN' ?_ _) | (refine Below.alloc ?_ (by (try simp only [World.size_alloc, World.size_drew, World.size_setCell]); omega) _) | (refine Below.trans ?_ (Below.mono (by assumption) (by (try simp only [World.size_alloc, World.size_drew, World.size_setCell]); omega)))))⟩
  · refine sl_lit (k := 2) (enc := encP) (xs := [(990, 1), (1070, 3), (1620, 1), (1700, 2)]) (fun _ => rfl) (by decide) ?_ ?_ 4
    · (simp; try omega)
    intro j u h
    go_simp
    simpa [encP] using h
  · refine sl_lit (k := 2) (enc := encP) (xs := [(-1, 1), (1, 1), (1, -1), (-1, -1)]) (fun _ => rfl) (by decide) ?_ ?_ 4
    · (simp; try omega)
    intro j u h
    go_simp
    simpa [encP] using h
  · refine sl_lit (k := 1) (enc := fun x => [Value.int .i64 x]) (xs := [20, 6, 3, 11]) (fun _ => rfl) (by decide) ?_ ?_ 4
    · (simp; try omega)
    intro j u h
    go_simp
    simpa using h
end Go.Proofs.YtgceffpkhmjmkaaGreat
