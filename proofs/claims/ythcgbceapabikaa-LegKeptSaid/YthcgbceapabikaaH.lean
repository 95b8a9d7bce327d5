/- Leg, part H: Visit. -/
import Derived.Test.YthcgbceapabikaaG
set_option linter.unusedVariables false
set_option linter.unusedSimpArgs false
namespace Go.Proofs.Ythcgbceapabikaa
open Go.RowKit Go.Shelf

def visR (r : Thr × Int) : Value := .tuple #[thrV r.1, .int .i64 r.2]

set_option maxRecDepth 100000 in
set_option maxHeartbeats 4000000 in
theorem Visit_any (c : Cnt) (in0 : Bool) (left : Int) (v : Value) (bs : List Int) (w : World) (hs : Sl w 1 eI v bs) (hbs : ∀ x ∈ bs, -9223372036854775808 ≤ x ∧ x ≤ 9223372036854775807) :
    Calls Try.prog 14 #[cntV c, .bool in0, .int .i64 left, v] w (Ret (visR (visitF c in0 left bs)) w) := by
  have x1 := fun W => validCount_any c W
  have x2 := fun W => validStand_any c in0 left W
  unfold standV at x2
  have x3 := fun (hc : vcnt c = true) (hv : vstand c in0 left = true) W (hW : Below w.heap.size w W) => thrown_any c in0 left v bs W (hs.below hW) hc (by
    unfold vstand inb at hv; simp at hv; have := hv.1.1; split at this <;> omega) (by
    unfold vstand inb at hv; unfold vcnt inb at hc; simp at hv hc; omega) hbs
  have HR : Aside (visitF c in0 left bs = if vcnt c = true then (if vstand c in0 left = true then ((thr c in0 left bs).1, (thr c in0 left bs).2.2) else (Thr.zero, 3)) else (Thr.zero, 2)) := rfl
  obtain ⟨a, cp, rfl, hl, _⟩ := hs
  generalize visitF c in0 left bs = res at *
  generalize thr c in0 left bs = tr at *
  generalize bs.length = n at *
  have hcv : cntV c = .agg #[.int .i64 c.1, .int .i64 c.2.1, .int .i64 c.2.2] := rfl
  rw [hcv] at *
  clear hcv hbs
  cases hc : vcnt c with
  | false =>
    rw [hc] at x1
    have HR2 : Aside (res = (Thr.zero, 2)) := by
      show _ = _
      rw [HR.out, if_neg (by rw [hc]; simp)]
    clear HR hc x3 x2
    go_enter Try.func14, Try.ntmps14
    go_wp2_with fail
    refine (x1 _).mono ?_
    rintro e w1 ⟨rfl, hb1⟩
    have z1 : ZeroAt w1 (w.heap.size + 1) := (hb1.block _ (by simp)).trans (World.alloc_heap_new' _ _ _ (by simp))
    have BF : Aside (Below w.heap.size w w1) := by (repeat' (first | exact Below.refl _ _ | assumption | (with_reducible refine Below.drew ?_) | (with_reducible refine Below.setCell ?_ (by (first | (simp; done) | (simp; omega))) _) | (with_reducible refine below_drewN' ?_ _) | (refine Below.alloc ?_ (by (try simp only [World.size_alloc, World.size_drew, World.size_setCell]); omega) _) | (refine Below.trans ?_ (Below.mono (by assumption) (by (try simp only [World.size_alloc, World.size_drew, World.size_setCell]); omega)))))
    have r0 := blk_cell z1 (i := 0) rfl
    have r1 := blk_cell z1 (i := 1) rfl
    have r2 := blk_cell z1 (i := 2) rfl
    have r3 := blk_cell z1 (i := 3) rfl
    have r4 := blk_cell z1 (i := 4) rfl
    have r5 := blk_cell z1 (i := 5) rfl
    have rf := blk_free z1
    clear hb1 z1
    go_wp2
    refine bodyPost_ret (v := .tuple #[.agg #[.int .i64 0, .int .i64 0, .int .i64 0, .bool false, .bool false, .bool false], .int .i64 2]) (by simp [results, Try.results14, go_sem, r0, r1, r2, r3, r4, r5]) rfl ⟨by rw [HR2.out]; rfl, ?_⟩
    exact below_set6 BF.out (by omega) _ _ _ _ _ _
  | true =>
    rw [hc] at x1
    cases hv : vstand c in0 left with
    | false =>
      rw [hv] at x2
      have HR2 : Aside (res = (Thr.zero, 3)) := by
        show _ = _
        rw [HR.out, if_pos hc, if_neg (by rw [hv]; simp)]
      clear HR hc x3 hv
      go_enter Try.func14, Try.ntmps14
      go_wp2_with fail
      refine (x1 _).mono ?_
      rintro e w1 ⟨rfl, hb1⟩
      have z1 : ZeroAt w1 (w.heap.size + 1) := (hb1.block _ (by simp)).trans (World.alloc_heap_new' _ _ _ (by simp))
      have BF1 : Aside (Below w.heap.size w w1) := by (repeat' (first | exact Below.refl _ _ | assumption | (with_reducible refine Below.drew ?_) | (with_reducible refine Below.setCell ?_ (by (first | (simp; done) | (simp; omega))) _) | (with_reducible refine below_drewN' ?_ _) | (refine Below.alloc ?_ (by (try simp only [World.size_alloc, World.size_drew, World.size_setCell]); omega) _) | (refine Below.trans ?_ (Below.mono (by assumption) (by (try simp only [World.size_alloc, World.size_drew, World.size_setCell]); omega)))))
      have c0 : w1.cell? ⟨w.heap.size, 0, none⟩ = some (.int .i64 c.1) := keepc hb1 (by go_simp)
      have c1 : w1.cell? ⟨w.heap.size, 1, none⟩ = some (.int .i64 c.2.1) := keepc hb1 (by go_simp)
      have c2 : w1.cell? ⟨w.heap.size, 2, none⟩ = some (.int .i64 c.2.2) := keepc hb1 (by go_simp)
      have Z1 : Aside (ZeroAt w1 (w.heap.size + 1)) := z1
      clear hb1 z1
      go_wp2_with fail
      refine (x2 _).mono ?_
      rintro e w2 ⟨rfl, hb2⟩
      have z2 := zero_below Z1.out hb2
      have BF : Aside (Below w.heap.size w w2) := BF1.out.trans (hb2.mono BF1.out.size)
      have r0 := blk_cell z2 (i := 0) rfl
      have r1 := blk_cell z2 (i := 1) rfl
      have r2 := blk_cell z2 (i := 2) rfl
      have r3 := blk_cell z2 (i := 3) rfl
      have r4 := blk_cell z2 (i := 4) rfl
      have r5 := blk_cell z2 (i := 5) rfl
      have rf := blk_free z2
      clear hb2 z2 c0 c1 c2 Z1 BF1
      go_wp2
      refine bodyPost_ret (v := .tuple #[.agg #[.int .i64 0, .int .i64 0, .int .i64 0, .bool false, .bool false, .bool false], .int .i64 3]) (by simp [results, Try.results14, go_sem, r0, r1, r2, r3, r4, r5]) rfl ⟨by rw [HR2.out]; rfl, ?_⟩
      exact below_set6 BF.out (by omega) _ _ _ _ _ _
    | true =>
      rw [hv] at x2
      have x3 := x3 hc hv
      have HR2 : Aside (res = (tr.1, tr.2.2)) := by
        show _ = _
        rw [HR.out, if_pos hc, if_pos hv]
      obtain ⟨⟨tl, ts, td, ti, tb, tw⟩, dart, err⟩ := tr
      unfold thrR thrV at x3
      simp only [] at x3
      clear HR hc hv
      go_enter Try.func14, Try.ntmps14
      go_wp2_with fail
      refine (x1 _).mono ?_
      rintro e w1 ⟨rfl, hb1⟩
      have z1 : ZeroAt w1 (w.heap.size + 1) := (hb1.block _ (by simp)).trans (World.alloc_heap_new' _ _ _ (by simp))
      have BF1 : Aside (Below w.heap.size w w1) := by (repeat' (first | exact Below.refl _ _ | assumption | (with_reducible refine Below.drew ?_) | (with_reducible refine Below.setCell ?_ (by (first | (simp; done) | (simp; omega))) _) | (with_reducible refine below_drewN' ?_ _) | (refine Below.alloc ?_ (by (try simp only [World.size_alloc, World.size_drew, World.size_setCell]); omega) _) | (refine Below.trans ?_ (Below.mono (by assumption) (by (try simp only [World.size_alloc, World.size_drew, World.size_setCell]); omega)))))
      have c0 : w1.cell? ⟨w.heap.size, 0, none⟩ = some (.int .i64 c.1) := keepc hb1 (by go_simp)
      have c1 : w1.cell? ⟨w.heap.size, 1, none⟩ = some (.int .i64 c.2.1) := keepc hb1 (by go_simp)
      have c2 : w1.cell? ⟨w.heap.size, 2, none⟩ = some (.int .i64 c.2.2) := keepc hb1 (by go_simp)
      have Z1 : Aside (ZeroAt w1 (w.heap.size + 1)) := z1
      clear hb1 z1
      go_wp2_with fail
      refine (x2 _).mono ?_
      rintro e w2 ⟨rfl, hb2⟩
      have Z2 : Aside (ZeroAt w2 (w.heap.size + 1)) := zero_below Z1.out hb2
      have BF2 : Aside (Below w.heap.size w w2) := BF1.out.trans (hb2.mono BF1.out.size)
      have c0' := keepc hb2 c0
      have c1' := keepc hb2 c1
      have c2' := keepc hb2 c2
      clear hb2 c0 c1 c2 Z1 BF1
      go_wp2_with fail
      refine (x3 _ BF2.out).mono ?_
      rintro e w3 ⟨rfl, hb3⟩
      have z3 := zero_below Z2.out hb3
      have BF : Aside (Below w.heap.size w w3) := BF2.out.trans (hb3.mono BF2.out.size)
      have zs : w.heap.size + 1 < w3.heap.size := (Array.getElem?_eq_some_iff.1 z3).1
      have r0 := blk_cell z3 (i := 0) rfl
      have r1 := blk_cell z3 (i := 1) rfl
      have r2 := blk_cell z3 (i := 2) rfl
      have r3 := blk_cell z3 (i := 3) rfl
      have r4 := blk_cell z3 (i := 4) rfl
      have r5 := blk_cell z3 (i := 5) rfl
      have rf := blk_free z3
      clear hb3 z3 c0' c1' c2' Z2 BF2 x1 x2 x3
      go_wp2
      refine bodyPost_ret (v := .tuple #[.agg #[.int .i64 tl, .int .i64 ts, .int .i64 td, .bool ti, .bool tb, .bool tw], .int .i64 err]) (by simp [results, Try.results14, go_sem, r0, r1, r2, r3, r4, r5, zs]) rfl ⟨by rw [HR2.out]; rfl, ?_⟩
      exact (below_set6 BF.out (by omega) _ _ _ _ _ _).alloc (by simp only [World.size_setCell]; exact BF.out.size) _
end Go.Proofs.Ythcgbceapabikaa
