/- Leg, part Fa: stands: what is left at least, whether a stand is valid, the first stand, the stand after a dart. -/
import Derived.Test.YthcgbceapabikaaE
import Derived.Test.YthcgbceapabikaaRg
import Derived.Test.YthcgbceapabikaaRt
import Derived.Test.YthcgbceapabikaaD
set_option linter.unusedVariables false
set_option linter.unusedSimpArgs false
namespace Go.Proofs.Ythcgbceapabikaa
open Go.RowKit Go.Shelf

def standV (l : Int) (i : Bool) : Value := .agg #[.int .i64 l, .bool i]
theorem below_set2 {B R : Nat} {w w1 : World} (h : Below B w w1) (hR : B ≤ R) (x0 x1 : Value) : Below B w ((w1.setCell ⟨R, 0, none⟩ x0).setCell ⟨R, 1, none⟩ x1) :=
  (h.setCell (p := ⟨R, 0, none⟩) hR x0).setCell (p := ⟨R, 1, none⟩) hR x1

theorem World.alloc_heap_new' (w : World) (o : Obj) (k : Nat) (h : k = w.heap.size) : (w.alloc o).heap[k]? = some o := by subst h; exact World.alloc_heap_new w o

set_option maxHeartbeats 400000 in
theorem lowest_any (o : Int) (w : World) : Calls Try.prog 67 #[.int .i64 o] w (Ret (.int .i64 (if o = 0 then 1 else 2)) w) := by
  by_cases h : o = 0
  · rw [if_pos h]; subst h
    go_enter Try.func67, Try.ntmps67
    go_wp2
    go_ret
    exact ⟨rfl, by (repeat' (first | exact Below.refl _ _ | assumption | (with_reducible refine Below.drew ?_) | (with_reducible refine Below.setCell ?_ (by (first | (simp; done) | (simp; omega))) _) | (with_reducible refine below_drewN' ?_ _) | (refine Below.alloc ?_ (by (try simp only [World.size_alloc, World.size_drew, World.size_setCell]); omega) _) | (refine Below.trans ?_ (Below.mono (by assumption) (by (try simp only [World.size_alloc, World.size_drew, World.size_setCell]); omega)))))⟩
  · rw [if_neg h]
    have h1 : (o == 0) = false := by simpa using h
    go_enter Try.func67, Try.ntmps67
    go_wp2
    go_ret
    exact ⟨rfl, by (repeat' (first | exact Below.refl _ _ | assumption | (with_reducible refine Below.drew ?_) | (with_reducible refine Below.setCell ?_ (by (first | (simp; done) | (simp; omega))) _) | (with_reducible refine below_drewN' ?_ _) | (refine Below.alloc ?_ (by (try simp only [World.size_alloc, World.size_drew, World.size_setCell]); omega) _) | (refine Below.trans ?_ (Below.mono (by assumption) (by (try simp only [World.size_alloc, World.size_drew, World.size_setCell]); omega)))))⟩

set_option maxHeartbeats 1000000 in
theorem begin1_any (c : Cnt) (w : World) : Calls Try.prog 75 #[cntV c] w (Ret (standV c.1 (c.2.1 == 0)) w) := by
  obtain ⟨s, i, o⟩ := c
  unfold cntV standV
  simp only []
  go_enter Try.func75, Try.ntmps75
  go_wp2
  refine bodyPost_ret (v := .agg #[.int .i64 s, .bool (i == 0)]) (by simp [results, Try.results75, go_sem]) rfl ⟨rfl, ?_⟩
  (repeat' (first | exact Below.refl _ _ | assumption | (with_reducible refine Below.drew ?_) | (with_reducible refine Below.setCell ?_ (by (first | (simp; done) | (simp; omega))) _) | (with_reducible refine below_drewN' ?_ _) | (refine Below.alloc ?_ (by (try simp only [World.size_alloc, World.size_drew, World.size_setCell]); omega) _) | (refine Below.trans ?_ (Below.mono (by assumption) (by (try simp only [World.size_alloc, World.size_drew, World.size_setCell]); omega)))))
end Go.Proofs.Ythcgbceapabikaa
