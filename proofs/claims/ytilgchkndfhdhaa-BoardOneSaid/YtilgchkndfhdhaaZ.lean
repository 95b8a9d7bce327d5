/- Board, part Z: the point of an input; the 24 directions. -/
import Derived.Test.YtilgchkndfhdhaaY
set_option linter.unusedVariables false
set_option linter.unusedSimpArgs false
namespace Go.Proofs.Ytilgchkndfhdhaa
open Go.RowKit Go.Shelf

def ptOf (a b : Int) : Int × Int := (a % 2501 - 1250, b % 2501 - 1250)

set_option maxRecDepth 100000 in
set_option maxHeartbeats 1000000 in
theorem point_any (a b : Int) (w : World) (ha : 0 ≤ a) (ha' : a ≤ 65535) (hb : 0 ≤ b) (hb' : b ≤ 65535) :
    Calls Try.prog 9 #[.agg #[.int .u16 a, .int .u16 b]] w (Ret (pt (ptOf a b)) w) := by
  unfold pt ptOf
  go_enter Try.func9, Try.ntmps9
  go_wp2
  exact bodyPost_ret (v := .agg #[.int .i64 (a % 2501 - 1250), .int .i64 (b % 2501 - 1250)]) (by simp [results, Try.results9, go_sem]) rfl ⟨rfl, by (repeat' (first | exact Below.refl _ _ | assumption | (with_reducible refine Below.drew ?_) | (with_reducible refine Below.setCell ?_ (by (first | (simp; done) | (simp; omega))) _) | (with_reducible refine below_drewN' ?_ _) | (refine Below.alloc ?_ (by (try simp only [World.size_alloc, World.size_drew, World.size_setCell]); omega) _) | (refine Below.trans ?_ (Below.mono (by assumption) (by (try simp only [World.size_alloc, World.size_drew, World.size_setCell]); omega)))))⟩

def compassL : List (Int × Int) := [(0, 9), (2, 9), (4, 8), (6, 6), (8, 4), (9, 2), (9, 0), (9, -2), (8, -4), (6, -6), (4, -8), (2, -9), (0, -9), (-2, -9), (-4, -8), (-6, -6), (-8, -4), (-9, -2), (-9, 0), (-9, 2), (-8, 4), (-6, 6), (-4, 8), (-2, 9)]

def CompassOk (w : World) (e : Ending) (w' : World) : Prop :=
  ∃ g, e = .returned (.slice (some ⟨g, 0, none⟩) 24 24) ∧ w.heap.size ≤ g ∧ Sl w' 2 encP (.slice (some ⟨g, 0, none⟩) 24 24) compassL ∧ Below w.heap.size w w'

set_option maxRecDepth 100000 in
set_option maxHeartbeats 2000000 in
theorem compass_any (w : World) : Calls Try.prog 27 #[] w (CompassOk w) := by
  unfold CompassOk
  go_enter Try.func27, Try.ntmps27
  go_wp2
  go_ret
  refine ⟨w.heap.size, rfl, Nat.le_refl _, ?_, by (repeat' (first | exact Below.refl _ _ | assumption | (with_reducible refine Below.drew ?_) | (with_reducible refine Below.setCell ?_ (by (first | (simp; done) | (simp; omega))) _) | (with_reducible refine below_drewN' ?_ _) | (refine Below.alloc ?_ (by (try simp only [World.size_alloc, World.size_drew, World.size_setCell]); omega) _) | (refine Below.trans ?_ (Below.mono (by assumption) (by (try simp only [World.size_alloc, World.size_drew, World.size_setCell]); omega)))))⟩
  refine sl_lit (k := 2) (enc := encP) (xs := compassL) (fun _ => rfl) (by decide) ?_ ?_ 24
  · (simp; try omega)
  intro j u h
  go_simp
  simpa [encP, compassL] using h
end Go.Proofs.Ytilgchkndfhdhaa
