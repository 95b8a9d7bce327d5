/- Leg, part Dg: the walk of LegKept. -/
import Derived.Test.YthcgbceapabikaaBi
import Derived.Test.YthcgbceapabikaaAd
import Derived.Test.YthcgbceapabikaaAg
import Derived.BigQuiet
import Derived.Deep.DeepCutAuto
set_option linter.unusedVariables false
set_option linter.unusedSimpArgs false
namespace Go.Proofs.Ythcgbceapabikaa
open Go.RowKit Go.Maps Go.Sort Go.Shelf Go.Deep

theorem info_count : (Try.prog.info? 24).map (fun i => (i.zero, i.size, i.bytes)) = some (some (.agg #[.int .i64 0, .int .i64 0, .int .i64 0]), 3, 24) := by kernel_rfl
theorem encC_one (cs : List Cnt) : ∀ y ∈ cs, ∀ u ∈ encC y, u.oneCell' = true := by
  intro y _ u hu
  simp [encC] at hu
  rcases hu with rfl | rfl | rfl <;> rfl
/-- What a copy of rules is. -/
def RulesOk (r : LegR) (w : World) (e : Ending) (w' : World) : Prop := Below w.heap.size w w' ∧ ∃ vc, e = .returned (legRV r vc) ∧ Sl w' 3 encC vc r.counts
set_option maxRecDepth 100000 in
set_option maxHeartbeats 4000000 in
theorem rules_any (r : LegR) (vc : Value) (w : World) (hc : Sl w 3 encC vc r.counts) (hn : r.counts.length ≤ 10) : Calls Try.prog 19 #[legRV r vc] w (RulesOk r w) := by
  obtain ⟨i0, hi, hz0, hz1, hz2⟩ := info_parts info_count
  have HC : Aside (Sl w 3 encC vc r.counts) := hc
  obtain ⟨a, cp, rfl, hl, _⟩ := hc
  have HN : Aside (r.counts.length ≤ 10) := hn
  unfold legRV
  generalize r.counts.length = n at hl HC ⊢
  go_enter Try.func19, Try.ntmps19
  go_wp2_with (at_builtin; refine wpList_append_fresh _ rfl _ _ 40 rfl 24 i0 (.agg #[.int .i64 0, .int .i64 0, .int .i64 0]) 3 24 Try.underlying40 hi hz0 hz1 hz2 rfl (by decide) (w.heap.size + 1 + 1) (World.alloc_heap_new' _ _ _ (by simp)) rfl (vy := .slice a n cp) (ys := r.counts) (enc := encC) rfl (HC.out.below (by (repeat' (first | exact Below.refl _ _ | assumption | (with_reducible refine Below.drew ?_) | (with_reducible refine Below.setCell ?_ (by (first | (simp; done) | (simp; omega))) _) | (with_reducible refine below_drewN' ?_ _) | (refine Below.alloc ?_ (by (try simp only [World.size_alloc, World.size_drew, World.size_setCell]); omega) _) | (refine Below.trans ?_ (Below.mono (by assumption) (by (try simp only [World.size_alloc, World.size_drew, World.size_setCell]); omega))))))) (fun _ => rfl) (encC_one r.counts) (by have := HN.out; unfold maxLen; omega) (by have := HN.out; omega) ?_; intro v2 w2 hrow hB; have HR : Aside (RowB w2 3 encC 24 v2 r.counts) := hrow; obtain ⟨g2, c2, cs2, rfl, hl2, hg2, hc2⟩ := hrow; have hbx : w2.heap[w.heap.size]? = some (.cells #[.slice a n cp, .int .i64 r.first, .int .i64 r.rounds, .bool r.equal] 42 (0, 0)) := (hB.block _ (by simp; omega)).trans ((Below.heap_alloc _ _ _ (by simp; omega)).trans ((Below.heap_alloc _ _ _ (by simp)).trans (World.alloc_heap_new _ _))); have hrs : w2.heap[w.heap.size + 1]? = some (.cells #[.slice none 0 0, .int .i64 0, .int .i64 0, .bool false] 42 (0, 0)) := (hB.block _ (by simp)).trans ((Below.heap_alloc _ _ _ (by simp)).trans (World.alloc_heap_new' _ _ _ (by simp))); have q0 := blk_cell hbx (i := 0) (x := .slice a n cp) rfl; have q1 := blk_cell hbx (i := 1) (x := .int .i64 r.first) rfl; have q2 := blk_cell hbx (i := 2) (x := .int .i64 r.rounds) rfl; have q3 := blk_cell hbx (i := 3) (x := .bool r.equal) rfl; have qf := blk_free hbx; have p0 := blk_cell hrs (i := 0) (x := .slice none 0 0) rfl; have p1 := blk_cell hrs (i := 1) (x := .int .i64 0) rfl; have p2 := blk_cell hrs (i := 2) (x := .int .i64 0) rfl; have p3 := blk_cell hrs (i := 3) (x := .bool false) rfl; have pf := blk_free hrs; have hlt : w.heap.size + 1 < w2.heap.size := (Array.getElem?_eq_some_iff.1 hrs).1; have HBB : Aside (Below w.heap.size w w2) := Below.trans (by (repeat' (first | exact Below.refl _ _ | assumption | (with_reducible refine Below.drew ?_) | (with_reducible refine Below.setCell ?_ (by (first | (simp; done) | (simp; omega))) _) | (with_reducible refine below_drewN' ?_ _) | (refine Below.alloc ?_ (by (try simp only [World.size_alloc, World.size_drew, World.size_setCell]); omega) _) | (refine Below.trans ?_ (Below.mono (by assumption) (by (try simp only [World.size_alloc, World.size_drew, World.size_setCell]); omega)))))) (hB.mono (by simp; omega)); have HGG : Aside ((g2 ≠ w.heap.size ∧ g2 ≠ w.heap.size + 1) ∧ w2.heap[g2]? = some (.cells cs2 24 (0, 0))) := ⟨⟨fun e => (by rw [e, hbx] at hg2; injection hg2 with hg2; injection hg2 with _ h9; exact absurd h9 (by decide)), fun e => (by rw [e, hrs] at hg2; injection hg2 with hg2; injection hg2 with _ h9; exact absurd h9 (by decide))⟩, hg2⟩; have HCC : Aside (∀ j y, r.counts[j]? = some y → ∀ i u, (encC y)[i]? = some u → cs2[j * 3 + i]? = some u) := hc2; clear hbx hrs hB hg2 hc2)
  refine bodyPost_ret (v := .agg #[.slice (some ⟨g2, 0, none⟩) r.counts.length c2, .int .i64 r.first, .int .i64 r.rounds, .bool r.equal]) (by simp [results, Try.results19, go_sem, p0, p1, p2, p3, hlt]) rfl ?_
  obtain ⟨⟨h1, h2⟩, h3⟩ := HGG.out
  refine ⟨?_, .slice (some ⟨g2, 0, none⟩) r.counts.length c2, rfl, ?_⟩
  · have hb := HBB.out
    exact ((((hb.setCell (p := ⟨w.heap.size, 0, none⟩) (Nat.le_refl _) _).setCell (p := ⟨w.heap.size + 1, 0, none⟩) (Nat.le_succ _) _).setCell (p := ⟨w.heap.size + 1, 1, none⟩) (Nat.le_succ _) _).setCell (p := ⟨w.heap.size + 1, 2, none⟩) (Nat.le_succ _) _).setCell (p := ⟨w.heap.size + 1, 3, none⟩) (Nat.le_succ _) _
  · have h5 : ∀ (W : World) (k i : Nat) (x : Value), g2 ≠ k → (W.setCell ⟨k, i, none⟩ x).heap[g2]? = W.heap[g2]? := fun W k i x h => Below.heap_setCell _ _ _ _ h
    exact RowB.sl (e := 24) ⟨g2, c2, cs2, rfl, hl2, by rw [h5 _ _ _ _ h2, h5 _ _ _ _ h2, h5 _ _ _ _ h2, h5 _ _ _ _ h2, h5 _ _ _ _ h1]; exact h3, HCC.out⟩

/-- Whether a leg is more than the statements look at. -/
def longF (nc : Nat) (lens : List Nat) : Bool := lens.any (fun n => decide (6 < n)) || (decide (10 < nc) || ((decide (200 < lens.length) && decide (lens.length ≤ 2000)) || decide (2010 < lens.length)))
set_option maxRecDepth 100000 in
set_option maxHeartbeats 4000000 in
theorem long_any (r : LegR) (vc : Value) (lv : List (Int × Value × List Int)) (v : Value) (w : World) (hc : Sl w 3 encC vc r.counts) (hv : Sl w 2 encV v lv) (hb : ∀ x ∈ lv, Sl w 1 eI x.2.1 x.2.2) :
    Calls Try.prog 18 #[legRV r vc, v] w (Ret (.bool (longF r.counts.length (lv.map fun x => x.2.2.length))) w) := by
  obtain ⟨a, cp, rfl, hl, _⟩ := hc
  obtain ⟨a2, cp2, rfl, hl2, hs2⟩ := hv
  obtain ⟨m, hm⟩ : ∃ m, lv.length = m := ⟨_, rfl⟩
  have HN : Aside (lv.length = m) := hm
  have HX : Aside (∀ x ∈ lv, Sl w 1 eI x.2.1 x.2.2) := hb
  have HS : Aside (lv ≠ [] → ∃ b off, a2 = some ⟨b, off, none⟩ ∧ b < w.heap.size ∧ ∀ j x, lv[j]? = some x → ∀ i y, (encV x)[i]? = some y → w.cell? ⟨b, off + j * 2 + i, none⟩ = some y) := hs2
  obtain ⟨res, hres⟩ : ∃ res, longF r.counts.length (lv.map fun x => x.2.2.length) = res := ⟨_, rfl⟩
  have HR : Aside (longF r.counts.length (lv.map fun x => x.2.2.length) = res) := hres
  rw [hm] at hl2 ⊢
  rw [hres]
  clear hs2 hb hm hres
  unfold legRV
  obtain ⟨nc, hnc⟩ : ∃ nc, r.counts.length = nc := ⟨_, rfl⟩
  rw [hnc] at HR hl ⊢
  clear hnc
  go_enter Try.func18, Try.ntmps18
  go_wp2_with fail
  obtain ⟨wa, hwa⟩ : ∃ u, u = w.alloc (.cells #[.slice a nc cp, .int .i64 r.first, .int .i64 r.rounds, .bool r.equal] 42) := ⟨_, rfl⟩
  have kb0 : wa.cell? ⟨w.heap.size, 0, none⟩ = some (.slice a nc cp) := by rw [hwa]; go_simp
  have BA : Aside (Below w.heap.size w wa) := by rw [hwa]; (repeat' (first | exact Below.refl _ _ | assumption | (with_reducible refine Below.drew ?_) | (with_reducible refine Below.setCell ?_ (by (first | (simp; done) | (simp; omega))) _) | (with_reducible refine below_drewN' ?_ _) | (refine Below.alloc ?_ (by (try simp only [World.size_alloc, World.size_drew, World.size_setCell]); omega) _) | (refine Below.trans ?_ (Below.mono (by assumption) (by (try simp only [World.size_alloc, World.size_drew, World.size_setCell]); omega)))))
  rw [← hwa]
  clear hwa
  go_loopg [5] m (fun gg i wr => ∃ k : Nat, k ≤ m ∧ m - k ≤ gg ∧ i = .int .i64 k ∧ wa = wr ∧ Aside (∀ j x, j < k → lv[j]? = some x → x.2.2.length ≤ 6))
  case atStart => exact ⟨0, Nat.zero_le _, by omega, rfl, rfl, fun j x h => absurd h (Nat.not_lt_zero j)⟩
  case round =>
    obtain ⟨k, hk, hg, rfl, rfl, HA⟩ := hrel
    by_cases hlt : k < m
    · have hltz : (k : Int) < (m : Int) := by omega
      obtain ⟨x, hx⟩ : ∃ x, lv[k]? = some x := ⟨_, List.getElem?_eq_getElem (by rw [HN.out]; exact hlt)⟩
      obtain ⟨B, off, rfl, hBlt, hcl⟩ := HS.out (by intro e; rw [e] at hx; simp at hx)
      have kx : wa.cell? ⟨B, off + k * 2 + 1, none⟩ = some x.2.1 := keepc BA.out (hcl k x hx 1 x.2.1 rfl)
      obtain ⟨a3, c3, e3, hl3, _⟩ := HX.out x (List.mem_of_getElem? hx)
      rw [e3] at kx
      have HXK : Aside (lv[k]? = some x) := hx
      clear e3 hcl hx
      by_cases h6 : 6 < x.2.2.length
      · have h6z : (6 : Int) < (x.2.2.length : Int) := by omega
        have HT : Aside (res = true) := by
          show _ = _
          rw [← HR.out]
          unfold longF
          have : (lv.map fun x => x.2.2.length).any (fun n => decide (6 < n)) = true := List.any_eq_true.2 ⟨_, List.mem_map.2 ⟨x, List.mem_of_getElem? HXK.out, rfl⟩, by simpa using h6⟩
          rw [this]; rfl
        generalize x.2.2.length = dl at *
        have h9 := HT.out
        clear h6 HR HT
        subst h9
        go_wp2
        go_ret
        exact ⟨rfl, BA.out⟩
      · have h6z : ¬ (6 : Int) < (x.2.2.length : Int) := by omega
        have HA2 : Aside (∀ j x, j < k + 1 → lv[j]? = some x → x.2.2.length ≤ 6) := by
          intro j y hj hy
          by_cases hjk : j = k
          · subst hjk; rw [HXK.out] at hy; cases hy; omega
          · exact HA.out j y (by omega) hy
        generalize x.2.2.length = dl at *
        go_wp2_with fail
        go_roundg (m - (k + 1))
        case measure => omega
        case rel => exact ⟨k + 1, by omega, by omega, by go_num, rfl, HA2.out⟩
    · have hltz : ¬ (k : Int) < (m : Int) := by omega
      have hke : k = m := by omega
      subst hke
      have HT : Aside (res = (decide (10 < nc) || ((decide (200 < k) && decide (k ≤ 2000)) || decide (2010 < k)))) := by
        show _ = _
        rw [← HR.out]
        unfold longF
        have : (lv.map fun x => x.2.2.length).any (fun n => decide (6 < n)) = false := by
          rw [List.any_eq_false]
          intro n hn
          obtain ⟨x, hx, rfl⟩ := List.mem_map.1 hn
          obtain ⟨j, hj⟩ := List.mem_iff_getElem?.1 hx
          have := HA.out j x (by have := (List.getElem?_eq_some_iff.1 hj).1; have := HN.out; omega) hj
          simp; omega
        rw [this, List.length_map, HN.out, Bool.false_or]
      clear HR HA
      by_cases h10 : 10 < nc
      · have h10z : (10 : Int) < (nc : Int) := by omega
        have HT2 : Aside (res = true) := by show _ = _; rw [HT.out, decide_eq_true h10]; rfl
        have h9 := HT2.out
        clear HT HT2
        subst h9
        go_wp2
        go_ret
        exact ⟨rfl, BA.out⟩
      · have h10z : ¬ (10 : Int) < (nc : Int) := by omega
        by_cases h2 : 200 < k
        · have h2z : (200 : Int) < (k : Int) := by omega
          by_cases h20 : k ≤ 2000
          · have h20z : (k : Int) ≤ 2000 := by omega
            have HT2 : Aside (res = true) := by show _ = _; rw [HT.out, decide_eq_true h2, decide_eq_true h20]; simp
            have h9 := HT2.out
            clear HT HT2
            subst h9
            go_wp2
            go_ret
            exact ⟨rfl, BA.out⟩
          · have h20z : ¬ (k : Int) ≤ 2000 := by omega
            by_cases h21 : 2010 < k
            · have h21z : (2010 : Int) < (k : Int) := by omega
              have HT2 : Aside (res = true) := by show _ = _; rw [HT.out, decide_eq_true h21]; simp
              have h9 := HT2.out
              clear HT HT2
              subst h9
              go_wp2
              go_ret
              exact ⟨rfl, BA.out⟩
            · have h21z : ¬ (2010 : Int) < (k : Int) := by omega
              have HT2 : Aside (res = false) := by show _ = _; rw [HT.out, decide_eq_false h10, decide_eq_false h20, decide_eq_false h21]; simp
              have h9 := HT2.out
              clear HT HT2
              subst h9
              go_wp2
              go_ret
              exact ⟨rfl, BA.out⟩
        · have h2z : ¬ (200 : Int) < (k : Int) := by omega
          have h21z : ¬ (2010 : Int) < (k : Int) := by omega
          have HT2 : Aside (res = false) := by show _ = _; rw [HT.out, decide_eq_false h10, decide_eq_false h2, decide_eq_false (show ¬ 2010 < k by omega)]; rfl
          have h9 := HT2.out
          clear HT HT2
          subst h9
          go_wp2
          go_ret
          exact ⟨rfl, BA.out⟩
end Go.Proofs.Ythcgbceapabikaa

namespace Go.Proofs.Ythcgbceapabikaa
open Go.RowKit Go.Maps Go.Sort Go.Shelf Go.Deep

theorem info_bedD : (Try.prog.info? 34).map (fun i => (i.zero, i.size, i.bytes)) = some (some (.int .i64 0), 1, 8) := by kernel_rfl
theorem info_visD : (Try.prog.info? 84).map (fun i => (i.zero, i.size, i.bytes)) = some (some (.agg #[.int .i64 0, .slice none 0 0]), 2, 32) := by kernel_rfl
theorem eI_all (bs : List Int) : ∀ y ∈ bs, ∀ u ∈ eI y, u.oneCell' = true := by
  intro y _ u hu
  simp [eI] at hu; subst hu; rfl
theorem add_plain1 (g : Nat) : (⟨g, 0, none⟩ : Addr).add 1 = ⟨g, 1, none⟩ := by unfold Addr.add; simp
theorem RowB.grw {α : Type} {w w' : World} {size : Nat} {enc : α → List Value} {e e' : TypeId} {v vr : Value} {ys : List α} {b sz n : Nat} {xs : List Value} (h : RowB w size enc e v ys) (hown : w.ownsRow b e' sz vr n xs) (hg : w.grownBy w' vr.ownBlock) (hne : e ≠ e') : RowB w' size enc e v ys := by
  obtain ⟨g, c, cs, h1, hl, hb, hc⟩ := h
  refine ⟨g, c, cs, h1, hl, (hg.block g (Array.getElem?_eq_some_iff.1 hb).1 (fun h => ?_)).trans hb, hc⟩
  rcases ownsRow_ne_a hown hb (fun cur e => by injection e with _ e2; exact hne e2) with h2 | h2
  · rw [h2] at h; cases h
  · exact h2 h.symm
/-- A visit without its slice. -/
def prV (x : Int × Value × List Int) : Int × List Int := (x.1, x.2.2)
/-- What holds of copies. -/
structure CvInv (lv : List (Int × Value × List Int)) (w : World) (k : Nat) (ys : List (Int × Value × List Int)) (wr : World) : Prop where
  same : ys.map prV = (lv.take k).map prV
  rows : ∀ y ∈ ys, RowB wr 1 eI 34 y.2.1 y.2.2
  bel : Below w.heap.size w wr
  siz : w.heap.size ≤ wr.heap.size
def NilB (ww : World) (x : Value) : Prop := ∃ g, x = .slice (some ⟨g, 0, none⟩) 0 0 ∧ ww.heap[g]? = some (.cells #[] 34 (0, 0))
def AggV (ww : World) (p : Int) (bs : List Int) (x : Value) : Prop := ∃ u, x = .agg #[.int .i64 p, u] ∧ RowB ww 1 eI 34 u bs
def OneV (ww : World) (p : Int) (bs : List Int) (x : Value) : Prop := ∃ g u, x = .slice (some ⟨g, 0, none⟩) 1 1 ∧ ww.heap[g]? = some (.cells #[.int .i64 p, u] 84 (0, 0)) ∧ RowB ww 1 eI 34 u bs
def VisitsOk (lv : List (Int × Value × List Int)) (w : World) (e : Ending) (w' : World) : Prop :=
  Below w.heap.size w w' ∧ ∃ v' lv', e = .returned v' ∧ Sl w' 2 encV v' lv' ∧ (∀ x ∈ lv', Sl w' 1 eI x.2.1 x.2.2) ∧ lv'.map prV = lv.map prV

set_option maxRecDepth 100000 in
set_option maxHeartbeats 8000000 in
theorem visits_any (lv : List (Int × Value × List Int)) (v : Value) (w : World) (hv : Sl w 2 encV v lv) (hb : ∀ x ∈ lv, Sl w 1 eI x.2.1 x.2.2) (hm200 : lv.length ≤ 2010) (h6 : ∀ x ∈ lv, x.2.2.length ≤ 6) :
    Calls Try.prog 20 #[v] w (VisitsOk lv w) := by
  obtain ⟨i0, hi0, hz0, hz1, hz2⟩ := info_parts info_visD
  obtain ⟨j0, hj0, jz0, jz1, jz2⟩ := info_parts info_bedD
  obtain ⟨a2, cp2, rfl, hl2, hs2⟩ := hv
  obtain ⟨m, hm⟩ : ∃ m, lv.length = m := ⟨_, rfl⟩
  have HN : Aside (lv.length = m) := hm
  have HX : Aside ((∀ x ∈ lv, Sl w 1 eI x.2.1 x.2.2) ∧ ∀ x ∈ lv, x.2.2.length ≤ 6) := ⟨hb, h6⟩
  have HS : Aside (lv ≠ [] → ∃ b off, a2 = some ⟨b, off, none⟩ ∧ b < w.heap.size ∧ ∀ j x, lv[j]? = some x → ∀ i y, (encV x)[i]? = some y → w.cell? ⟨b, off + j * 2 + i, none⟩ = some y) := hs2
  rw [hm] at hl2 hm200 ⊢
  clear hs2 hb hm h6
  go_enter Try.func20, Try.ntmps20
  go_wp2_with fail
  obtain ⟨wa, hwa⟩ : ∃ u, u = w.alloc (.cells #[] 84) := ⟨_, rfl⟩
  have HO : Aside (wa.ownsRow w.heap.size 84 2 (.slice (some ⟨w.heap.size, 0, none⟩) 0 0) 0 []) := by rw [hwa]; exact owns_empty w _ 2
  have HI : Aside (CvInv lv w 0 [] wa) := ⟨by simp, (fun y hy => by cases hy), by rw [hwa]; exact (Below.refl _ _).alloc (Nat.le_refl _) _, by rw [hwa]; simp⟩
  rw [← hwa]
  clear hwa
  go_loopg [3, 4] m (fun gg v i wr => ∃ (k : Nat) (ys : List (Int × Value × List Int)), k ≤ m ∧ m - k ≤ gg ∧ i = .int .i64 k ∧ wr.ownsRow w.heap.size 84 2 v k ((ys.map encV).flatten) ∧ Aside (CvInv lv w k ys wr))
  case atStart => exact ⟨0, [], Nat.zero_le _, by omega, rfl, HO.out, HI.out⟩
  case round =>
    clear HO HI
    obtain ⟨k, ys, hk, hg, rfl, hown, HI⟩ := hrel
    by_cases hlt : k < m
    · have hltz : (k : Int) < (m : Int) := by omega
      obtain ⟨x, hx⟩ : ∃ x, lv[k]? = some x := ⟨_, List.getElem?_eq_getElem (by rw [HN.out]; exact hlt)⟩
      obtain ⟨B, off, rfl, hBlt, hcl⟩ := HS.out (by intro e; rw [e] at hx; simp at hx)
      have kx0 : wr.cell? ⟨B, off + k * 2, none⟩ = some (.int .i64 x.1) := keepc HI.out.bel (hcl k x hx 0 (.int .i64 x.1) rfl)
      have kx1 : wr.cell? ⟨B, off + k * 2 + 1, none⟩ = some x.2.1 := keepc HI.out.bel (hcl k x hx 1 x.2.1 rfl)
      have HXS : Aside (Sl wr 1 eI x.2.1 x.2.2) := (HX.out.1 x (List.mem_of_getElem? hx)).below HI.out.bel
      have HXL : Aside (x.2.2.length ≤ 6) := HX.out.2 x (List.mem_of_getElem? hx)
      have HTK : Aside (lv.take (k + 1) = lv.take k ++ [x]) := take_snoc' hx
      obtain ⟨p, vb, bs⟩ := x
      simp only [] at kx0 kx1 HXS HXL
      obtain ⟨a3, c3, rfl, hl3, _⟩ := HXS.out
      obtain ⟨dl, hdl⟩ : ∃ dl, bs.length = dl := ⟨_, rfl⟩
      have HDL : Aside (bs.length = dl) := hdl
      rw [hdl] at kx1 hl3 HXL HXS
      have hd6 : dl ≤ 6 := HXL.out
      clear hcl hx hdl
      go_wp2_with fail
      refine region_laidC (fl := 17) [true, true, true, true, true, true, true, true, true, true, true, true, true, true, true, false, false] 2 (fun (i : Nat) (x : Value) (ww : World) => (match i with | 0 => x = u3 | 1 => x = .slice (some ⟨B, off, none⟩) m cp2 | 2 => x = .int .i64 (k : Int) | 3 => x = .pointer (some ⟨B, off + k * 2, none⟩) | 4 => x = .pointer (some ⟨B, off + k * 2, none⟩) | 5 => x = .int .i64 p | 6 => NilB ww x | 7 => x = .slice (some ⟨B, off, none⟩) m cp2 | 8 => x = .int .i64 (k : Int) | 9 => x = .pointer (some ⟨B, off + k * 2, none⟩) | 10 => x = .pointer (some ⟨B, off + k * 2 + 1, none⟩) | 11 => x = .slice a3 dl c3 | 12 => RowB ww 1 eI 34 x bs | 13 => AggV ww p bs x | 14 => OneV ww p bs x | _ => True : Prop)) (fun w' => Below wr.heap.size wr w') (by kernel_rfl) rfl (by show layableC _ 29 _ 17 = true; decide +kernel) rfl ((Below.refl _ _).drew) ?mono5 ?step5 ?rest5
      case mono5 =>
        intro i x ww ww' hB h
        match i, h with
        | 0, h => exact h
        | 1, h => exact h
        | 2, h => exact h
        | 3, h => exact h
        | 4, h => exact h
        | 5, h => exact h
        | 6, h => exact (by obtain ⟨g, hx, hg⟩ := h; exact ⟨g, hx, (hB.block _ (Array.getElem?_eq_some_iff.1 hg).1).trans hg⟩)
        | 7, h => exact h
        | 8, h => exact h
        | 9, h => exact h
        | 10, h => exact h
        | 11, h => exact h
        | 12, h => exact (h.below hB)
        | 13, h => exact (by obtain ⟨u, hx, hu⟩ := h; exact ⟨u, hx, hu.below hB⟩)
        | 14, h => exact (by obtain ⟨g, u, hx, hg, hu⟩ := h; exact ⟨g, u, hx, (hB.block _ (Array.getElem?_eq_some_iff.1 hg).1).trans hg, hu.below hB⟩)
        | n + 15, h => exact h
      case step5 =>
        intro i o_ listed ac W hA ho hL he hcl hli hsz
        have hk0 : ac.tmps.getD 0 undef = .slice (some ⟨B, off, none⟩) m cp2 := hL.kept 0 (by decide +kernel)
        have hk4 : ac.tmps.getD 4 undef = .int .i64 (k : Int) := hL.kept 4 (by decide +kernel)
        have CL : ∀ W', Below W.heap.size W W' → Below wr.heap.size wr W' := fun W' h => hL.cls.trans (h.mono hL.cls.size)
        have k_kx0 := keepc hL.cls kx0
        have k_kx1 := keepc hL.cls kx1
        match i, hA, ho with
        | 0, _, ho =>
          cases ho
          have hk3 : ac.tmps.getD 3 undef = u3 := hL.kept3 hcl hsz 3 0 16 17 hli (by decide +kernel) (by decide +kernel)
          refine wpOp_plain rfl rfl ?_
          unfold Oper.wp
          go_simp
          exact ⟨_, rfl, Below.refl _ _, CL _ (Below.refl _ _), rfl⟩
        | 1, _, ho =>
          cases ho
          refine wpOp_plain rfl rfl ?_
          unfold Oper.wp
          go_simp
          exact ⟨_, rfl, Below.refl _ _, CL _ (Below.refl _ _), rfl⟩
        | 2, _, ho =>
          cases ho
          refine wpOp_plain rfl rfl ?_
          unfold Oper.wp
          go_simp
          exact ⟨_, rfl, Below.refl _ _, CL _ (Below.refl _ _), rfl⟩
        | 3, _, ho =>
          cases ho
          have d1 : ac.tmps.getD 13 undef = .slice (some ⟨B, off, none⟩) m cp2 := hL.new 1 _ 13 rfl (he ⟨1, .data⟩ (by simp) rfl) rfl
          have d2 : ac.tmps.getD 14 undef = .int .i64 (k : Int) := hL.new 2 _ 14 rfl (he ⟨2, .data⟩ (by simp) rfl) rfl
          refine wpOp_plain rfl rfl ?_
          unfold Oper.wp
          go_simp
          exact ⟨_, rfl, Below.refl _ _, CL _ (Below.refl _ _), rfl⟩
        | 4, _, ho =>
          cases ho
          have d3 : ac.tmps.getD 15 undef = .pointer (some ⟨B, off + k * 2, none⟩) := hL.new 3 _ 15 rfl (he ⟨3, .data⟩ (by simp) rfl) rfl
          refine wpOp_plain rfl rfl ?_
          unfold Oper.wp
          go_simp
          exact ⟨_, rfl, Below.refl _ _, CL _ (Below.refl _ _), rfl⟩
        | 5, _, ho =>
          cases ho
          have d4 : ac.tmps.getD 16 undef = .pointer (some ⟨B, off + k * 2, none⟩) := hL.new 4 _ 16 rfl (he ⟨4, .data⟩ (by simp) rfl) rfl
          refine wpOp_plain rfl rfl ?_
          unfold Oper.wp
          go_simp
          exact ⟨_, rfl, Below.refl _ _, CL _ (Below.refl _ _), rfl⟩
        | 6, _, ho =>
          cases ho
          have hBn : Below W.heap.size W (W.alloc (.cells #[] 34)) := (Below.refl _ _).alloc (Nat.le_refl _) _
          refine wpOp_plain rfl rfl ?_
          unfold Oper.wp
          go_simp
          first | exact ⟨_, rfl, _, rfl, World.alloc_heap_new _ _⟩ | exact ⟨_, rfl, hBn, CL _ hBn, _, rfl, World.alloc_heap_new _ _⟩
        | 7, _, ho =>
          cases ho
          refine wpOp_plain rfl rfl ?_
          unfold Oper.wp
          go_simp
          exact ⟨_, rfl, Below.refl _ _, CL _ (Below.refl _ _), rfl⟩
        | 8, _, ho =>
          cases ho
          refine wpOp_plain rfl rfl ?_
          unfold Oper.wp
          go_simp
          exact ⟨_, rfl, Below.refl _ _, CL _ (Below.refl _ _), rfl⟩
        | 9, _, ho =>
          cases ho
          have d7 : ac.tmps.getD 19 undef = .slice (some ⟨B, off, none⟩) m cp2 := hL.new 7 _ 19 rfl (he ⟨7, .data⟩ (by simp) rfl) rfl
          have d8 : ac.tmps.getD 20 undef = .int .i64 (k : Int) := hL.new 8 _ 20 rfl (he ⟨8, .data⟩ (by simp) rfl) rfl
          refine wpOp_plain rfl rfl ?_
          unfold Oper.wp
          go_simp
          exact ⟨_, rfl, Below.refl _ _, CL _ (Below.refl _ _), rfl⟩
        | 10, _, ho =>
          cases ho
          have d9 : ac.tmps.getD 21 undef = .pointer (some ⟨B, off + k * 2, none⟩) := hL.new 9 _ 21 rfl (he ⟨9, .data⟩ (by simp) rfl) rfl
          refine wpOp_plain rfl rfl ?_
          unfold Oper.wp
          go_simp
          exact ⟨_, rfl, Below.refl _ _, CL _ (Below.refl _ _), rfl⟩
        | 11, _, ho =>
          cases ho
          have d10 : ac.tmps.getD 22 undef = .pointer (some ⟨B, off + k * 2 + 1, none⟩) := hL.new 10 _ 22 rfl (he ⟨10, .data⟩ (by simp) rfl) rfl
          refine wpOp_plain rfl rfl ?_
          unfold Oper.wp
          go_simp
          exact ⟨_, rfl, Below.refl _ _, CL _ (Below.refl _ _), rfl⟩
        | 12, _, ho =>
          cases ho
          obtain ⟨x6, hx6⟩ : ∃ x, ac.tmps.getD 18 undef = x := ⟨_, rfl⟩
          have d6 := hL.new 6 _ 18 rfl (he ⟨6, .data⟩ (by simp) rfl) rfl
          rw [hx6] at d6
          have d11 : ac.tmps.getD 23 undef = .slice a3 dl c3 := hL.new 11 _ 23 rfl (he ⟨11, .data⟩ (by simp) rfl) rfl
          obtain ⟨g, rfl, hg⟩ := d6
          refine wpOp_plain rfl rfl ?_
          refine wp_append_fresh W (.tmp 18) (.tmp 23) 27 rfl 34 j0 (.int .i64 0) 1 8 Try.underlying27 hj0 jz0 jz1 jz2 rfl (by decide) g hg (by rw [← hx6]; rfl) (vy := .slice a3 dl c3) (ys := bs) (enc := eI) d11 (HXS.out.below hL.cls) (fun _ => rfl) (eI_all bs) (by rw [HDL.out]; unfold maxLen; omega) (by rw [HDL.out]; omega) ?_
          intro v' w' hrow hBn
          exact ⟨_, rfl, hBn, CL _ hBn, hrow⟩
        | 13, _, ho =>
          cases ho
          have d5 : ac.tmps.getD 17 undef = .int .i64 p := hL.new 5 _ 17 rfl (he ⟨5, .data⟩ (by simp) rfl) rfl
          obtain ⟨x12, hx12⟩ : ∃ x, ac.tmps.getD 24 undef = x := ⟨_, rfl⟩
          have d12 := hL.new 12 _ 24 rfl (he ⟨12, .data⟩ (by simp) rfl) rfl
          rw [hx12] at d12
          obtain ⟨g5, c5, cs5, rfl, hl5, hg5, hc5⟩ := d12
          have dq1 : ac.tmps[17]?.getD undef = .int .i64 p := by rw [← Array.getD_eq_getD_getElem?]; exact d5
          have dq2 : ac.tmps[24]?.getD undef = .slice (some ⟨g5, 0, none⟩) bs.length c5 := by rw [← Array.getD_eq_getD_getElem?]; exact hx12
          refine wpOp_plain rfl rfl ?_
          unfold Oper.wp
          go_simp
          exact ⟨_, rfl, Below.refl _ _, CL _ (Below.refl _ _), _, rfl, g5, c5, cs5, rfl, hl5, hg5, hc5⟩
        | 14, _, ho =>
          cases ho
          obtain ⟨x13, hx13⟩ : ∃ x, ac.tmps.getD 25 undef = x := ⟨_, rfl⟩
          have d13 := hL.new 13 _ 25 rfl (he ⟨13, .data⟩ (by simp) rfl) rfl
          rw [hx13] at d13
          obtain ⟨u, rfl, g5, c5, cs5, rfl, hl5, hg5, hc5⟩ := d13
          have dq1 : ac.tmps[25]?.getD undef = .agg #[.int .i64 p, .slice (some ⟨g5, 0, none⟩) bs.length c5] := by rw [← Array.getD_eq_getD_getElem?]; exact hx13
          have hBn : Below W.heap.size W (W.alloc (.cells #[.int .i64 p, .slice (some ⟨g5, 0, none⟩) bs.length c5] 84)) := (Below.refl _ _).alloc (Nat.le_refl _) _
          refine wpOp_plain rfl rfl ?_
          unfold Oper.wp
          go_simp
          first | exact ⟨_, rfl, _, _, rfl, World.alloc_heap_new _ _, RowB.below ⟨g5, c5, cs5, rfl, hl5, hg5, hc5⟩ hBn⟩ | exact ⟨_, rfl, hBn, CL _ hBn, _, _, rfl, World.alloc_heap_new _ _, RowB.below ⟨g5, c5, cs5, rfl, hl5, hg5, hc5⟩ hBn⟩
        | 15, hA, _ => cases hA
        | 16, hA, _ => cases hA
        | n + 17, hA, _ => simp at hA
      case rest5 =>
        intro ac wz hL
        have e12 : ac.tmps.getD 12 undef = u3 := hL.new 0 _ 12 rfl rfl rfl
        have e13 : ac.tmps.getD 13 undef = .slice (some ⟨B, off, none⟩) m cp2 := hL.new 1 _ 13 rfl rfl rfl
        have e14 : ac.tmps.getD 14 undef = .int .i64 (k : Int) := hL.new 2 _ 14 rfl rfl rfl
        have e15 : ac.tmps.getD 15 undef = .pointer (some ⟨B, off + k * 2, none⟩) := hL.new 3 _ 15 rfl rfl rfl
        have e16 : ac.tmps.getD 16 undef = .pointer (some ⟨B, off + k * 2, none⟩) := hL.new 4 _ 16 rfl rfl rfl
        have e17 : ac.tmps.getD 17 undef = .int .i64 p := hL.new 5 _ 17 rfl rfl rfl
        obtain ⟨y18, e18⟩ : ∃ x, ac.tmps.getD 18 undef = x := ⟨_, rfl⟩
        have e19 : ac.tmps.getD 19 undef = .slice (some ⟨B, off, none⟩) m cp2 := hL.new 7 _ 19 rfl rfl rfl
        have e20 : ac.tmps.getD 20 undef = .int .i64 (k : Int) := hL.new 8 _ 20 rfl rfl rfl
        have e21 : ac.tmps.getD 21 undef = .pointer (some ⟨B, off + k * 2, none⟩) := hL.new 9 _ 21 rfl rfl rfl
        have e22 : ac.tmps.getD 22 undef = .pointer (some ⟨B, off + k * 2 + 1, none⟩) := hL.new 10 _ 22 rfl rfl rfl
        have e23 : ac.tmps.getD 23 undef = .slice a3 dl c3 := hL.new 11 _ 23 rfl rfl rfl
        obtain ⟨y24, e24⟩ : ∃ x, ac.tmps.getD 24 undef = x := ⟨_, rfl⟩
        obtain ⟨y25, e25⟩ : ∃ x, ac.tmps.getD 25 undef = x := ⟨_, rfl⟩
        have hn26 := hL.new 14 _ 26 rfl rfl rfl
        obtain ⟨y26, e26⟩ : ∃ x, ac.tmps.getD 26 undef = x := ⟨_, rfl⟩
        rw [e26] at hn26
        have Hy26 : Aside (OneV wz p bs y26) := hn26
        clear hn26
        have es := hL.sets [12, 13, 14, 15, 16, 17, 18, 19, 20, 21, 22, 23, 24, 25, 26] (by decide +kernel)
        rw [List.foldl_cons, List.foldl_cons, List.foldl_cons, List.foldl_cons, List.foldl_cons, List.foldl_cons, List.foldl_cons, List.foldl_cons, List.foldl_cons, List.foldl_cons, List.foldl_cons, List.foldl_cons, List.foldl_cons, List.foldl_cons, List.foldl_cons, List.foldl_nil, e12, e13, e14, e15, e16, e17, e18, e19, e20, e21, e22, e23, e24, e25, e26] at es
        have BN : Below wr.heap.size wr wz := hL.cls
        rw [es]
        clear es hL e12 e13 e14 e15 e16 e17 e18 e19 e20 e21 e22 e23 e24 e25 e26
        simp only [List.setIfInBounds_toArray, List.set_cons_zero, List.set_cons_succ]
        have HOZ : Aside (wz.ownsRow w.heap.size 84 2 u3 k ((ys.map encV).flatten)) := ownsRow_below hown BN
        have HIZ : Aside (CvInv lv w k ys wz) := ⟨HI.out.same, fun y hy => (HI.out.rows y hy).below BN, HI.out.bel.trans (BN.mono HI.out.siz), Nat.le_trans HI.out.siz BN.size⟩
        obtain ⟨g6, u6, rfl, hg6, hu6⟩ := Hy26.out
        obtain ⟨g5, c5, cs5, rfl, hl5, hg5, hc5⟩ := hu6
        have HU : Aside (RowB wz 1 eI 34 (.slice (some ⟨g5, 0, none⟩) bs.length c5) bs) := ⟨g5, c5, cs5, rfl, hl5, hg5, hc5⟩
        clear hg5 hc5 hl5 Hy26 BN hown HI HXS HXL
        refine wpAny_one (i := 15) (by decide +kernel) rfl rfl ?_
        refine wp_append_own wz (.tmp 12) (.tmp 26) 43 rfl w.heap.size 84 i0 (.agg #[.int .i64 0, .slice none 0 0]) 2 32 Try.underlying43 hi0 hz0 hz1 hz2 rfl (by decide) u3 k ((ys.map encV).flatten) rfl HOZ.out ⟨g6, 0, none⟩ 1 1 [.int .i64 p, .slice (some ⟨g5, 0, none⟩) bs.length c5] rfl rfl (by intro j u h; match j, h with | 0, h => (simp at h; subst h; exact blk_cell hg6 rfl) | 1, h => (simp at h; subst h; rw [add_plain1]; exact blk_cell hg6 rfl) | j + 2, h => simp at h) (by intro u hu; simp at hu; rcases hu with rfl | rfl <;> rfl) (by unfold maxLen; omega) (by omega) HIZ.out.siz ?_
        intro v3 w3 hown3 hgrow3 hnil3
        refine wpAny_one (i := 16) (by decide +kernel) rfl rfl ?_
        unfold Oper.wp
        go_simp
        refine wpAny_done (by decide +kernel) ?_ _
        have HF : Aside (w3.ownsRow w.heap.size 84 2 v3 (k + 1) (((ys ++ [(p, Value.slice (some ⟨g5, 0, none⟩) bs.length c5, bs)]).map encV).flatten) ∧ CvInv lv w (k + 1) (ys ++ [(p, Value.slice (some ⟨g5, 0, none⟩) bs.length c5, bs)]) w3) := by
          refine ⟨by rw [List.map_append, List.flatten_append]; exact hown3, by rw [HTK.out, List.map_append, List.map_append, HIZ.out.same]; rfl, fun y hy => ?_, HIZ.out.bel.grown hgrow3 HIZ.out.siz (fun j hj => (HOZ.out.lt j hj).1), by have := hgrow3.size; have := HIZ.out.siz; omega⟩
          rcases List.mem_append.1 hy with hy | hy
          · exact (HIZ.out.rows y hy).grw HOZ.out hgrow3 (by decide)
          · simp at hy; subst hy; exact HU.out.grw HOZ.out hgrow3 (by decide)
        clear hown3 hgrow3 hnil3 HOZ HIZ HU hg6
        go_wp2_with fail
        go_roundg (m - (k + 1))
        case measure => omega
        case rel => exact ⟨k + 1, _, by omega, by omega, by go_num, HF.out.1, HF.out.2⟩
    · have hltz : ¬ (k : Int) < (m : Int) := by omega
      have hke : k = m := by omega
      subst hke
      go_wp2
      go_ret
      have hsame := HI.out.same
      rw [List.take_of_length_le (by rw [HN.out]; exact Nat.le_refl _)] at hsame
      have hyl : ys.length = k := by have := congrArg List.length hsame; rw [List.length_map, List.length_map, HN.out] at this; exact this
      exact ⟨HI.out.bel, _, ys, rfl, sl_owns (fun _ => rfl) (by rw [hyl]; omega) (by rw [hyl]; exact hown), fun x hx => (HI.out.rows x hx).sl, hsame⟩
end Go.Proofs.Ythcgbceapabikaa

namespace Go.Proofs.Ythcgbceapabikaa

theorem thrL_dart (c : Cnt) (in0 : Bool) (left0 : Int) : ∀ (bs : List Int) (t : Thr) (i : Nat), -1 ≤ (thrL c in0 left0 t i bs).2.1 ∧ (thrL c in0 left0 t i bs).2.1 < (i : Int) + bs.length := by
  intro bs
  induction bs with
  | nil => intro t i; unfold thrL; split <;> (simp only [List.length_nil]; omega)
  | cons b bs ih =>
    intro t i
    unfold thrL
    split
    · simp only [List.length_cons]; omega
    · split
      · obtain ⟨h1, h2⟩ := ih (t.step c b) (i + 1)
        simp only [List.length_cons]
        omega
      · simp only [List.length_cons]; omega
theorem take_err {r : LegR} {g : LegG} {p : Int} {bs : List Int} (h : (takeG r g p bs).2.2 ≠ 0) : (takeG r g p bs).1 = g ∧ -1 ≤ (takeG r g p bs).2.1 ∧ (takeG r g p bs).2.1 < (bs.length : Int) := by
  unfold takeG at h ⊢
  split
  · exact ⟨rfl, show (-1 : Int) ≤ -1 by decide, by show (-1 : Int) < _; omega⟩
  · split
    · split
      · split
        · rename_i h1 h2 h3 h4
          rw [if_neg h1, if_pos h2, if_pos h3, if_pos h4] at h
          exact absurd rfl h
        · have := thrL_dart (r.counts.getD p.toNat (0, 0, 0)) (g.inn.getD p.toNat false) (g.left.getD p.toNat 0) bs ⟨g.left.getD p.toNat 0, 0, 0, g.inn.getD p.toNat false, false, false⟩ 0
          unfold takeT thr
          refine ⟨rfl, this.1, ?_⟩
          have h2 := this.2
          simp only [] at h2 ⊢
          omega
      · exact ⟨rfl, show (-1 : Int) ≤ -1 by decide, by show (-1 : Int) < _; omega⟩
    · exact ⟨rfl, show (-1 : Int) ≤ -1 by decide, by show (-1 : Int) < _; omega⟩
/-- The visits that are not wrong. -/
def keptL (r : LegR) (l : List (Int × List Int)) : Nat → List (Int × List Int)
  | 0 => []
  | k + 1 => match l[k]? with
    | some v => if (takeG r (judgeK r l k).1 v.1 v.2).2.2 = 0 then keptL r l k ++ [v] else keptL r l k
    | none => keptL r l k
theorem keptL_step {r : LegR} {l : List (Int × List Int)} {k : Nat} {v : Int × List Int} (h : l[k]? = some v) : keptL r l (k + 1) = if (takeG r (judgeK r l k).1 v.1 v.2).2.2 = 0 then keptL r l k ++ [v] else keptL r l k := by
  show (match l[k]? with | some v => _ | none => _) = _
  rw [h]
theorem keptL_len (r : LegR) (l : List (Int × List Int)) (k : Nat) : (keptL r l k).length ≤ k := by
  induction k with
  | zero => exact Nat.le_refl _
  | succ k ih =>
    unfold keptL
    split
    · split
      · simp; omega
      · omega
    · omega
theorem judgeK_pre (r : LegR) (xs ys : List (Int × List Int)) : ∀ k, k ≤ xs.length → judgeK r (xs ++ ys) k = judgeK r xs k := by
  intro k
  induction k with
  | zero => intro _; rfl
  | succ k ih =>
    intro hk
    obtain ⟨v, hv⟩ : ∃ v, xs[k]? = some v := ⟨_, List.getElem?_eq_getElem hk⟩
    rw [judgeK_step hv, judgeK_step (show (xs ++ ys)[k]? = some v by rw [List.getElem?_append_left hk]; exact hv), ih (by omega)]
theorem kept_judge (r : LegR) (l : List (Int × List Int)) : ∀ i, i ≤ l.length → judgeK r (keptL r l i) (keptL r l i).length = ((judgeK r l i).1, []) := by
  intro i
  induction i with
  | zero => intro _; rfl
  | succ i ih =>
    intro hi
    obtain ⟨v, hv⟩ : ∃ v, l[i]? = some v := ⟨_, List.getElem?_eq_getElem hi⟩
    have ih2 := ih (by omega)
    rw [keptL_step hv, judgeK_step hv]
    by_cases he : (takeG r (judgeK r l i).1 v.1 v.2).2.2 = 0
    · rw [if_pos he, List.length_append]
      show judgeK r (keptL r l i ++ [v]) ((keptL r l i).length + 1) = _
      rw [judgeK_step (show (keptL r l i ++ [v])[(keptL r l i).length]? = some v by rw [List.getElem?_append_right (Nat.le_refl _)]; simp), judgeK_pre r _ _ _ (Nat.le_refl _), ih2]
      unfold jstep
      simp only []
      rw [if_pos he]
    · rw [if_neg he, ih2]
      unfold jstep
      simp only []
      rw [(take_err he).1]
theorem fault_pre (r : LegR) (l : List (Int × List Int)) (i : Nat) : ∀ j, i ≤ j → j ≤ l.length → ∃ rest, (judgeK r l j).2 = (judgeK r l i).2 ++ rest ∧ ∀ x ∈ rest, (i : Int) ≤ x.1 ∧ x.2.2 ≠ 0 := by
  intro j
  induction j with
  | zero => intro h _; have : i = 0 := by omega
            subst this; exact ⟨[], by simp, (fun x hx => by cases hx)⟩
  | succ j ih =>
    intro h hj
    by_cases hij : i = j + 1
    · subst hij; exact ⟨[], by simp, (fun x hx => by cases hx)⟩
    · obtain ⟨rest, h1, h2⟩ := ih (by omega) (by omega)
      obtain ⟨v, hv⟩ : ∃ v, l[j]? = some v := ⟨_, List.getElem?_eq_getElem hj⟩
      rw [judgeK_step hv]
      unfold jstep
      simp only []
      split
      · exact ⟨rest, h1, h2⟩
      · rename_i he
        refine ⟨rest ++ [((j : Int), (takeG r (judgeK r l j).1 v.1 v.2).2.1, (takeG r (judgeK r l j).1 v.1 v.2).2.2)], by rw [h1, List.append_assoc], fun x hx => ?_⟩
        rcases List.mem_append.1 hx with hx | hx
        · exact h2 x hx
        · simp at hx; subst hx; exact ⟨by simp only []; omega, he⟩
theorem fault_at {r : LegR} {l : List (Int × List Int)} {i : Nat} {v : Int × List Int} (hv : l[i]? = some v) (he : (takeG r (judgeK r l i).1 v.1 v.2).2.2 ≠ 0) :
    (judgeK r l l.length).2[(judgeK r l i).2.length]? = some ((i : Int), (takeG r (judgeK r l i).1 v.1 v.2).2.1, (takeG r (judgeK r l i).1 v.1 v.2).2.2) ∧ (judgeK r l (i + 1)).2.length = (judgeK r l i).2.length + 1 := by
  have hi := (List.getElem?_eq_some_iff.1 hv).1
  obtain ⟨rest, h1, _⟩ := fault_pre r l (i + 1) l.length (by omega) (Nat.le_refl _)
  have h2 : (judgeK r l (i + 1)).2 = (judgeK r l i).2 ++ [((i : Int), (takeG r (judgeK r l i).1 v.1 v.2).2.1, (takeG r (judgeK r l i).1 v.1 v.2).2.2)] := by
    rw [judgeK_step hv]; unfold jstep; simp only []; rw [if_neg he]
  refine ⟨?_, by rw [h2]; simp⟩
  rw [h1, h2, List.append_assoc, List.getElem?_append_right (Nat.le_refl _)]
  simp
theorem fault_no {r : LegR} {l : List (Int × List Int)} {i : Nat} {v : Int × List Int} (hv : l[i]? = some v) (he : (takeG r (judgeK r l i).1 v.1 v.2).2.2 = 0) :
    (∀ x, (judgeK r l l.length).2[(judgeK r l i).2.length]? = some x → x.1 ≠ (i : Int)) ∧ (judgeK r l (i + 1)).2.length = (judgeK r l i).2.length := by
  have hi := (List.getElem?_eq_some_iff.1 hv).1
  obtain ⟨rest, h1, h3⟩ := fault_pre r l (i + 1) l.length (by omega) (Nat.le_refl _)
  have h2 : (judgeK r l (i + 1)).2 = (judgeK r l i).2 := by
    rw [judgeK_step hv]; unfold jstep; simp only []; rw [if_pos he]
  refine ⟨fun x hx => ?_, by rw [h2]⟩
  rw [h1, h2, List.getElem?_append_right (Nat.le_refl _)] at hx
  have := (h3 x (List.mem_of_getElem? hx)).1
  omega
theorem fault_ne {r : LegR} {l : List (Int × List Int)} : ∀ x ∈ (judgeK r l l.length).2, x.2.2 ≠ 0 := by
  obtain ⟨rest, h1, h3⟩ := fault_pre r l 0 l.length (Nat.zero_le _) (Nat.le_refl _)
  intro x hx
  rw [h1] at hx
  rcases List.mem_append.1 hx with hx | hx
  · cases hx
  · exact (h3 x hx).2
theorem kept_play {r : LegR} {l : List (Int × List Int)} (hv : vleg r = true) (hl : l.length ≤ 2000) : playE r (keptL r l l.length) = (0, 0) ∧ playG r (keptL r l l.length) = some (judgeK r l l.length).1 := by
  have h1 := kept_judge r l l.length (Nat.le_refl _)
  have h2 := keptL_len r l l.length
  have h3 : judgeE r (keptL r l l.length) = 0 := by unfold judgeE; rw [if_pos hv, if_neg (by omega)]
  unfold playE playG
  rw [if_pos h3, if_pos h3, h1]
  exact ⟨rfl, rfl⟩
end Go.Proofs.Ythcgbceapabikaa

namespace Go.Proofs.Ythcgbceapabikaa
open Go.RowKit Go.Maps Go.Sort Go.Shelf Go.Deep

theorem long_no {nc : Nat} {lens : List Nat} (h : longF nc lens = false) : (∀ n ∈ lens, n ≤ 6) ∧ nc ≤ 10 ∧ lens.length ≤ 2010 := by
  unfold longF at h
  simp only [Bool.or_eq_false_iff, Bool.and_eq_false_iff, decide_eq_false_iff_not, List.any_eq_false] at h
  obtain ⟨h1, h2, _, h4⟩ := h
  exact ⟨fun n hn => by have := h1 n hn; simpa using this, by omega, by omega⟩

set_option maxRecDepth 100000 in
set_option maxHeartbeats 16000000 in
theorem kept_law (r : LegR) (vc : Value) (lv : List (Int × Value × List Int)) (v : Value) (w : World) (hc : Sl w 3 encC vc r.counts) (hv : Sl w 2 encV v lv)
    (hb : ∀ x ∈ lv, Sl w 1 eI x.2.1 x.2.2 ∧ ∀ b ∈ x.2.2, -9223372036854775808 ≤ b ∧ b ≤ 9223372036854775807) :
    Calls Try.prog 10 #[legRV r vc, v] w (Ret (.bool true) w) := by
  have HK : Aside (∀ W, Calls Try.prog 13 #[] W (Ret (.bool true) W)) := fun W => known_any W
  have HV : Aside (Sl w 2 encV v lv) := hv
  have HC : Aside (Sl w 3 encC vc r.counts) := hc
  have HX : Aside (∀ x ∈ lv, Sl w 1 eI x.2.1 x.2.2) := fun x hx => (hb x hx).1
  have HXB : Aside (∀ x ∈ lv, ∀ b ∈ x.2.2, -9223372036854775808 ≤ b ∧ b ≤ 9223372036854775807) := fun x hx => (hb x hx).2
  have XL : Aside (∀ W, Below w.heap.size w W → Calls Try.prog 18 #[legRV r vc, v] W (Ret (.bool (longF r.counts.length (lv.map fun x => x.2.2.length))) W)) := fun W hB => long_any r vc lv v W (hc.below hB) (hv.below hB) (fun x hx => (hb x hx).1.below hB)
  have XR : Aside (r.counts.length ≤ 10 → ∀ W, Below w.heap.size w W → Calls Try.prog 19 #[legRV r vc] W (RulesOk r W)) := fun h W hB => rules_any r vc W (hc.below hB) h
  have XC : Aside (∀ W vc', Sl W 3 encC vc' r.counts → Calls Try.prog 21 #[legRV r vc'] W (Ret (.int .i64 (if vleg r = true then 0 else 2)) W)) := fun W vc' h => Check_any r vc' W h
  have XV : Aside (lv.length ≤ 2010 → (∀ x ∈ lv, x.2.2.length ≤ 6) → ∀ W, Below w.heap.size w W → Calls Try.prog 20 #[v] W (VisitsOk lv W)) := fun h1 h2 W hB => visits_any lv v W (hv.below hB) (fun x hx => (hb x hx).1.below hB) h1 h2
  have HPB : Aside (∀ lv' : List (Int × Value × List Int), (∀ x ∈ lv'.map prV, x ∈ lv.map prV) → ∀ x ∈ lv', ∀ b ∈ x.2.2, -9223372036854775808 ≤ b ∧ b ≤ 9223372036854775807) := by
    intro lv' h x hx b hbm
    obtain ⟨y, hy, e⟩ := List.mem_map.1 (h (prV x) (List.mem_map.2 ⟨x, hx, rfl⟩))
    have e2 : y.2.2 = x.2.2 := by have e3 := congrArg Prod.snd e; exact e3
    exact (hb y hy).2 b (by rw [e2]; exact hbm)
  obtain ⟨a2, cp2, rfl, hl2, hs2⟩ := hv
  have HS : Aside (lv ≠ [] → ∃ b off, a2 = some ⟨b, off, none⟩ ∧ b < w.heap.size ∧ ∀ j x, lv[j]? = some x → ∀ i y, (encV x)[i]? = some y → w.cell? ⟨b, off + j * 2 + i, none⟩ = some y) := hs2
  obtain ⟨m, hm⟩ : ∃ m, lv.length = m := ⟨_, rfl⟩
  have HN : Aside (lv.length = m) := hm
  have HL : Aside ((lv.map fun x => x.2.2.length).length = m) := by show _ = _; rw [List.length_map]; exact hm
  rw [hm] at HV XL XV hl2 ⊢
  clear hs2 hb hm hc
  have hrv : legRV r vc = .agg #[vc, .int .i64 r.first, .int .i64 r.rounds, .bool r.equal] := rfl
  rw [hrv] at *
  clear hrv
  go_enter Try.func10, Try.ntmps10
  go_wp2_with fail
  obtain ⟨wa, hwa⟩ : ∃ u, u = w.alloc (.cells #[vc, .int .i64 r.first, .int .i64 r.rounds, .bool r.equal] 42) := ⟨_, rfl⟩
  have BX : Aside (wa.heap[w.heap.size]? = some (.cells #[vc, .int .i64 r.first, .int .i64 r.rounds, .bool r.equal] 42 (0, 0))) := by rw [hwa]; exact World.alloc_heap_new _ _
  have BB : Aside (Below w.heap.size w wa ∧ w.heap.size ≤ wa.heap.size) := by rw [hwa]; exact ⟨(Below.refl _ _).alloc (Nat.le_refl _) _, by simp⟩
  rw [← hwa]
  clear hwa
  refine (XL.out _ BB.out.1).mono ?_
  rintro e w1 ⟨rfl, hb1⟩
  replace BX : Aside (w1.heap[w.heap.size]? = some (.cells #[vc, .int .i64 r.first, .int .i64 r.rounds, .bool r.equal] 42 (0, 0))) := (hb1.block _ (Array.getElem?_eq_some_iff.1 BX.out).1).trans BX.out
  replace BB : Aside (Below w.heap.size w w1 ∧ w.heap.size ≤ w1.heap.size) := ⟨BB.out.1.trans (hb1.mono BB.out.2), Nat.le_trans BB.out.2 hb1.size⟩
  clear hb1
  cases hlong : longF r.counts.length (lv.map fun x => x.2.2.length) with
  | true =>
    clear hlong
    go_wp2_with fail
    refine (HK.out _).mono ?_
    rintro e w9 ⟨rfl, hb9⟩
    go_wp2
    go_ret
    exact ⟨rfl, BB.out.1.trans (hb9.mono BB.out.2)⟩
  | false =>
    have HLN : Aside ((∀ x ∈ lv, x.2.2.length ≤ 6) ∧ r.counts.length ≤ 10 ∧ m ≤ 2010) := by
      obtain ⟨h1, h2, h3⟩ := long_no hlong
      exact ⟨fun x hx => h1 _ (List.mem_map.2 ⟨x, hx, rfl⟩), h2, by rw [HL.out] at h3; exact h3⟩
    clear hlong XL HL
    by_cases h200 : 200 < m
    · have h200z : (200 : Int) < (m : Int) := by omega
      go_wp2_with fail
      refine (HK.out _).mono ?_
      rintro e w9 ⟨rfl, hb9⟩
      go_wp2
      go_ret
      exact ⟨rfl, BB.out.1.trans (hb9.mono BB.out.2)⟩
    · have h200z : ¬ (200 : Int) < (m : Int) := by omega
      have XR2 : Aside (∀ W, Below w.heap.size w W → Calls Try.prog 19 #[.agg #[vc, .int .i64 r.first, .int .i64 r.rounds, .bool r.equal]] W (RulesOk r W)) := XR.out HLN.out.2.1
      have XV2 : Aside (∀ W, Below w.heap.size w W → Calls Try.prog 20 #[.slice a2 m cp2] W (VisitsOk lv W)) := XV.out HLN.out.2.2 HLN.out.1
      clear XR XV
      have q0 : w1.cell? ⟨w.heap.size, 0, none⟩ = some (vc) := blk_cell BX.out rfl
      have q1 : w1.cell? ⟨w.heap.size, 1, none⟩ = some (.int .i64 r.first) := blk_cell BX.out rfl
      have q2 : w1.cell? ⟨w.heap.size, 2, none⟩ = some (.int .i64 r.rounds) := blk_cell BX.out rfl
      have q3 : w1.cell? ⟨w.heap.size, 3, none⟩ = some (.bool r.equal) := blk_cell BX.out rfl
      have qlt : w.heap.size < w1.heap.size := (Array.getElem?_eq_some_iff.1 BX.out).1
      go_wp2_with fail
      refine (XR2.out _ BB.out.1).mono ?_
      rintro e w2 ⟨hbx, vc2, rfl, hsvc2⟩
      have Hvc2 : Aside (Sl w2 3 encC vc2 r.counts) := hsvc2
      clear hsvc2
      clear q0 q1 q2 q3
      replace BX : Aside (w2.heap[w.heap.size]? = some (.cells #[vc, .int .i64 r.first, .int .i64 r.rounds, .bool r.equal] 42 (0, 0))) := (hbx.block _ (Array.getElem?_eq_some_iff.1 BX.out).1).trans BX.out
      replace BB : Aside (Below w.heap.size w w2 ∧ w.heap.size ≤ w2.heap.size) := ⟨BB.out.1.trans (hbx.mono BB.out.2), Nat.le_trans BB.out.2 hbx.size⟩
      clear hbx
      go_wp2_with fail
      refine (XC.out _ _ Hvc2.out).mono ?_
      rintro e w3 ⟨rfl, hb3⟩
      replace BX : Aside (w3.heap[w.heap.size]? = some (.cells #[vc, .int .i64 r.first, .int .i64 r.rounds, .bool r.equal] 42 (0, 0))) := (hb3.block _ (Array.getElem?_eq_some_iff.1 BX.out).1).trans BX.out
      replace BB : Aside (Below w.heap.size w w3 ∧ w.heap.size ≤ w3.heap.size) := ⟨BB.out.1.trans (hb3.mono BB.out.2), Nat.le_trans BB.out.2 hb3.size⟩
      clear hb3
      clear Hvc2 XC
      cases hleg : vleg r with
      | false =>
        rw [if_neg (by simp)]
        go_wp2_with fail
        refine (HK.out _).mono ?_
        rintro e w9 ⟨rfl, hb9⟩
        go_wp2
        go_ret
        exact ⟨rfl, BB.out.1.trans (hb9.mono BB.out.2)⟩
      | true =>
        rw [if_pos rfl]
        have HLEG : Aside (vleg r = true) := hleg
        clear hleg
        have hm200 : m ≤ 200 := by omega
        have HJE : Aside (judgeE r (lv.map prV) = 0) := by
          show _ = _
          unfold judgeE
          rw [if_pos HLEG.out, if_neg (by rw [List.length_map, HN.out]; omega)]
        have HKP : Aside (playE r (keptL r (lv.map prV) (lv.map prV).length) = (0, 0) ∧ playG r (keptL r (lv.map prV) (lv.map prV).length) = some (judgeK r (lv.map prV) (lv.map prV).length).1) := kept_play HLEG.out (by rw [List.length_map, HN.out]; omega)
        have q0 : w3.cell? ⟨w.heap.size, 0, none⟩ = some (vc) := blk_cell BX.out rfl
        have q1 : w3.cell? ⟨w.heap.size, 1, none⟩ = some (.int .i64 r.first) := blk_cell BX.out rfl
        have q2 : w3.cell? ⟨w.heap.size, 2, none⟩ = some (.int .i64 r.rounds) := blk_cell BX.out rfl
        have q3 : w3.cell? ⟨w.heap.size, 3, none⟩ = some (.bool r.equal) := blk_cell BX.out rfl
        have qlt : w.heap.size < w3.heap.size := (Array.getElem?_eq_some_iff.1 BX.out).1
        go_wp2_with fail
        refine (XR2.out _ BB.out.1).mono ?_
        rintro e w4 ⟨hbx, vc3, rfl, hsvc3⟩
        have Hvc3 : Aside (Sl w4 3 encC vc3 r.counts) := hsvc3
        clear hsvc3
        clear q0 q1 q2 q3
        replace BX : Aside (w4.heap[w.heap.size]? = some (.cells #[vc, .int .i64 r.first, .int .i64 r.rounds, .bool r.equal] 42 (0, 0))) := (hbx.block _ (Array.getElem?_eq_some_iff.1 BX.out).1).trans BX.out
        replace BB : Aside (Below w.heap.size w w4 ∧ w.heap.size ≤ w4.heap.size) := ⟨BB.out.1.trans (hbx.mono BB.out.2), Nat.le_trans BB.out.2 hbx.size⟩
        clear hbx
        go_wp2_with fail
        refine (XV2.out _ BB.out.1).mono ?_
        rintro e w5 ⟨hbx, v5, lvv5, rfl, h1v5, h2v5, h3v5⟩
        have Sv5 : Aside (Sl w5 2 encV v5 lvv5 ∧ ∀ x ∈ lvv5, Sl w5 1 eI x.2.1 x.2.2) := ⟨h1v5, h2v5⟩
        have Mv5 : Aside (lvv5.map prV = lv.map prV) := h3v5
        clear h1v5 h2v5 h3v5
        replace BX : Aside (w5.heap[w.heap.size]? = some (.cells #[vc, .int .i64 r.first, .int .i64 r.rounds, .bool r.equal] 42 (0, 0))) := (hbx.block _ (Array.getElem?_eq_some_iff.1 BX.out).1).trans BX.out
        replace BB : Aside (Below w.heap.size w w5 ∧ w.heap.size ≤ w5.heap.size) := ⟨BB.out.1.trans (hbx.mono BB.out.2), Nat.le_trans BB.out.2 hbx.size⟩
        replace Hvc3 : Aside (Sl w5 3 encC vc3 r.counts) := Hvc3.out.below hbx
        clear hbx
        go_wp2_with fail
        refine (Judge_any r vc3 lvv5 v5 _ Hvc3.out Sv5.out.1 (fun x hx => ⟨Sv5.out.2 x hx, HPB.out lvv5 (fun y hy => by rw [← Mv5.out]; exact hy) x hx⟩)).mono ?_
        rintro e w6 ⟨hbx, vs6, vf, rfl, h0, _⟩
        have e6 : lvv5.map (fun x => (x.1, x.2.2)) = lv.map prV := Mv5.out
        rw [e6] at h0 ⊢
        rw [HJE.out]
        obtain ⟨hst, hfl, _⟩ := h0 HJE.out
        obtain ⟨ga, hga⟩ : ∃ g, (judgeK r (lv.map prV) (lv.map prV).length).1 = g := ⟨_, rfl⟩
        rw [hga] at hst HKP
        clear hga
        obtain ⟨vl, vd, vi, vw, rfl, hsl, hsd, hsi, hsw, _⟩ := hst
        have SLE0 := hsl
        obtain ⟨A1, C1, rfl, L1, _⟩ := hsl
        obtain ⟨A2, C2, rfl, L2, _⟩ := hsd
        obtain ⟨A3, C3, rfl, L3, _⟩ := hsi
        obtain ⟨A4, C4, rfl, L4, _⟩ := hsw
        have SFA : Aside (Sl w6 3 encF vf (judgeK r (lv.map prV) (lv.map prV).length).2) := hfl
        obtain ⟨nl, hnl⟩ : ∃ n, ga.left.length = n := ⟨_, rfl⟩
        obtain ⟨nd, hnd⟩ : ∃ n, ga.darts.length = n := ⟨_, rfl⟩
        obtain ⟨ni, hni⟩ : ∃ n, ga.inn.length = n := ⟨_, rfl⟩
        obtain ⟨nw, hnw⟩ : ∃ n, ga.wins.length = n := ⟨_, rfl⟩
        have HNL : Aside (ga.left.length = nl ∧ ga.darts.length = nd ∧ ga.inn.length = ni ∧ ga.wins.length = nw) := ⟨hnl, hnd, hni, hnw⟩
        rw [hnl] at L1 SLE0
        rw [hnd] at L2
        rw [hni] at L3
        rw [hnw] at L4
        rw [hnl, hnd, hni, hnw]
        have SLE : Aside (Sl w6 1 eI (.slice A1 nl C1) ga.left) := SLE0
        clear SLE0 hnl hnd hni hnw hfl h0 e6 Sv5 Mv5
        clear Hvc3
        replace BX : Aside (w6.heap[w.heap.size]? = some (.cells #[vc, .int .i64 r.first, .int .i64 r.rounds, .bool r.equal] 42 (0, 0))) := (hbx.block _ (Array.getElem?_eq_some_iff.1 BX.out).1).trans BX.out
        replace BB : Aside (Below w.heap.size w w6 ∧ w.heap.size ≤ w6.heap.size) := ⟨BB.out.1.trans (hbx.mono BB.out.2), Nat.le_trans BB.out.2 hbx.size⟩
        clear hbx
        obtain ⟨gn, hgn⟩ : ∃ x, ga.next = x := ⟨_, rfl⟩
        obtain ⟨gr, hgr⟩ : ∃ x, ga.round = x := ⟨_, rfl⟩
        obtain ⟨go, hgo⟩ : ∃ x, ga.over = x := ⟨_, rfl⟩
        have HGG : Aside (ga.next = gn ∧ ga.round = gr ∧ ga.over = go) := ⟨hgn, hgr, hgo⟩
        rw [hgn, hgr, hgo]
        clear hgn hgr hgo
        have q0 : w6.cell? ⟨w.heap.size, 0, none⟩ = some (vc) := blk_cell BX.out rfl
        have q1 : w6.cell? ⟨w.heap.size, 1, none⟩ = some (.int .i64 r.first) := blk_cell BX.out rfl
        have q2 : w6.cell? ⟨w.heap.size, 2, none⟩ = some (.int .i64 r.rounds) := blk_cell BX.out rfl
        have q3 : w6.cell? ⟨w.heap.size, 3, none⟩ = some (.bool r.equal) := blk_cell BX.out rfl
        have qlt : w.heap.size < w6.heap.size := (Array.getElem?_eq_some_iff.1 BX.out).1
        go_wp2_with fail
        obtain ⟨w7, hw7⟩ : ∃ u, u = w6.alloc (.cells #[.slice A1 nl C1, .slice A2 nd C2, .slice A3 ni C3, .int .i64 gn, .int .i64 gr, .bool go, .slice A4 nw C4] 51) := ⟨_, rfl⟩
        have hb7 : Below w6.heap.size w6 w7 := by rw [hw7]; exact (Below.refl _ _).alloc (Nat.le_refl _) _
        obtain ⟨X5, hX5⟩ : ∃ X, X = w6.heap.size := ⟨_, rfl⟩
        have B5 : Aside (w7.heap[X5]? = some (.cells #[.slice A1 nl C1, .slice A2 nd C2, .slice A3 ni C3, .int .i64 gn, .int .i64 gr, .bool go, .slice A4 nw C4] 51 (0, 0))) := by rw [hw7, hX5]; exact World.alloc_heap_new _ _
        rw [← hw7, ← hX5]
        clear hw7 hX5 q0 q1 q2 q3
        replace BX : Aside (w7.heap[w.heap.size]? = some (.cells #[vc, .int .i64 r.first, .int .i64 r.rounds, .bool r.equal] 42 (0, 0))) := (hb7.block _ (Array.getElem?_eq_some_iff.1 BX.out).1).trans BX.out
        replace BB : Aside (Below w.heap.size w w7 ∧ w.heap.size ≤ w7.heap.size) := ⟨BB.out.1.trans (hb7.mono BB.out.2), Nat.le_trans BB.out.2 hb7.size⟩
        replace SLE : Aside (Sl w7 1 eI (.slice A1 nl C1) ga.left) := SLE.out.below hb7
        replace SFA : Aside (Sl w7 3 encF vf (judgeK r (lv.map prV) (lv.map prV).length).2) := SFA.out.below hb7
        clear hb7
        refine (XR2.out _ BB.out.1).mono ?_
        rintro e w8 ⟨hbx, vc4, rfl, hsvc4⟩
        have Hvc4 : Aside (Sl w8 3 encC vc4 r.counts) := hsvc4
        clear hsvc4
        replace BX : Aside (w8.heap[w.heap.size]? = some (.cells #[vc, .int .i64 r.first, .int .i64 r.rounds, .bool r.equal] 42 (0, 0))) := (hbx.block _ (Array.getElem?_eq_some_iff.1 BX.out).1).trans BX.out
        replace BB : Aside (Below w.heap.size w w8 ∧ w.heap.size ≤ w8.heap.size) := ⟨BB.out.1.trans (hbx.mono BB.out.2), Nat.le_trans BB.out.2 hbx.size⟩
        replace SLE : Aside (Sl w8 1 eI (.slice A1 nl C1) ga.left) := SLE.out.below hbx
        replace SFA : Aside (Sl w8 3 encF vf (judgeK r (lv.map prV) (lv.map prV).length).2) := SFA.out.below hbx
        replace B5 : Aside (w8.heap[X5]? = some (.cells #[.slice A1 nl C1, .slice A2 nd C2, .slice A3 ni C3, .int .i64 gn, .int .i64 gr, .bool go, .slice A4 nw C4] 51 (0, 0))) := (hbx.block _ (Array.getElem?_eq_some_iff.1 B5.out).1).trans B5.out
        clear hbx
        go_wp2_with fail
        refine (XV2.out _ BB.out.1).mono ?_
        rintro e w9 ⟨hbx, v9, lvv9, rfl, h1v9, h2v9, h3v9⟩
        have Sv9 : Aside (Sl w9 2 encV v9 lvv9 ∧ ∀ x ∈ lvv9, Sl w9 1 eI x.2.1 x.2.2) := ⟨h1v9, h2v9⟩
        have Mv9 : Aside (lvv9.map prV = lv.map prV) := h3v9
        clear h1v9 h2v9 h3v9
        replace BX : Aside (w9.heap[w.heap.size]? = some (.cells #[vc, .int .i64 r.first, .int .i64 r.rounds, .bool r.equal] 42 (0, 0))) := (hbx.block _ (Array.getElem?_eq_some_iff.1 BX.out).1).trans BX.out
        replace BB : Aside (Below w.heap.size w w9 ∧ w.heap.size ≤ w9.heap.size) := ⟨BB.out.1.trans (hbx.mono BB.out.2), Nat.le_trans BB.out.2 hbx.size⟩
        replace SLE : Aside (Sl w9 1 eI (.slice A1 nl C1) ga.left) := SLE.out.below hbx
        replace SFA : Aside (Sl w9 3 encF vf (judgeK r (lv.map prV) (lv.map prV).length).2) := SFA.out.below hbx
        replace B5 : Aside (w9.heap[X5]? = some (.cells #[.slice A1 nl C1, .slice A2 nd C2, .slice A3 ni C3, .int .i64 gn, .int .i64 gr, .bool go, .slice A4 nw C4] 51 (0, 0))) := (hbx.block _ (Array.getElem?_eq_some_iff.1 B5.out).1).trans B5.out
        replace Hvc4 : Aside (Sl w9 3 encC vc4 r.counts) := Hvc4.out.below hbx
        clear hbx
        go_wp2_with fail
        refine (Play_any r vc4 lvv9 v9 _ Hvc4.out Sv9.out.1 (fun x hx => ⟨Sv9.out.2 x hx, HPB.out lvv9 (fun y hy => by rw [← Mv9.out]; exact hy) x hx⟩)).mono ?_
        rintro e w10 ⟨hbx, vs10, rfl, hm10⟩
        have e10 : lvv9.map (fun x => (x.1, x.2.2)) = lv.map prV := Mv9.out
        rw [e10] at hm10 ⊢
        have hz10 : ∃ y0 m0 d0 y1 m1 d1 y2 m2 d2 x3 x4 x5 y6 m6 d6, vs10 = .agg #[.slice y0 m0 d0, .slice y1 m1 d1, .slice y2 m2 d2, .int .i64 x3, .int .i64 x4, .bool x5, .slice y6 m6 d6] := by
          cases hg : playG r (lv.map prV) with
          | none => rw [hg] at hm10; subst hm10; exact ⟨_, _, _, _, _, _, _, _, _, _, _, _, _, _, _, rfl⟩
          | some g =>
            rw [hg] at hm10
            obtain ⟨_, _, _, _, h, ⟨_, _, rfl, _, _⟩, ⟨_, _, rfl, _, _⟩, ⟨_, _, rfl, _, _⟩, ⟨_, _, rfl, _, _⟩, _⟩ := hm10
            exact ⟨_, _, _, _, _, _, _, _, _, _, _, _, _, _, _, h⟩
        obtain ⟨y0, m0, d0, y1, m1, d1, y2, m2, d2, x3, x4, x5, y6, m6, d6, rfl⟩ := hz10
        have HPE : Aside (playE r (lv.map prV) = (match (judgeK r (lv.map prV) (lv.map prV).length).2 with | [] => (0, 0) | f :: _ => (f.1, f.2.2))) := by
          show _ = _
          unfold playE
          rw [if_pos HJE.out]
          generalize (judgeK r (lv.map prV) (lv.map prV).length).2 = F'
          cases F' <;> rfl
        obtain ⟨pi, hpi⟩ : ∃ x, (playE r (lv.map prV)).1 = x := ⟨_, rfl⟩
        obtain ⟨pe, hpe⟩ : ∃ x, (playE r (lv.map prV)).2 = x := ⟨_, rfl⟩
        have HPP : Aside ((match (judgeK r (lv.map prV) (lv.map prV).length).2 with | [] => ((0, 0) : Int × Int) | f :: _ => (f.1, f.2.2)) = (pi, pe)) := by
          show _ = _
          rw [← HPE.out, ← hpi, ← hpe]
        rw [hpi, hpe]
        clear hpi hpe hm10 e10 HPE Sv9 Mv9
        clear Hvc4
        replace BX : Aside (w10.heap[w.heap.size]? = some (.cells #[vc, .int .i64 r.first, .int .i64 r.rounds, .bool r.equal] 42 (0, 0))) := (hbx.block _ (Array.getElem?_eq_some_iff.1 BX.out).1).trans BX.out
        replace BB : Aside (Below w.heap.size w w10 ∧ w.heap.size ≤ w10.heap.size) := ⟨BB.out.1.trans (hbx.mono BB.out.2), Nat.le_trans BB.out.2 hbx.size⟩
        replace SLE : Aside (Sl w10 1 eI (.slice A1 nl C1) ga.left) := SLE.out.below hbx
        replace SFA : Aside (Sl w10 3 encF vf (judgeK r (lv.map prV) (lv.map prV).length).2) := SFA.out.below hbx
        replace B5 : Aside (w10.heap[X5]? = some (.cells #[.slice A1 nl C1, .slice A2 nd C2, .slice A3 ni C3, .int .i64 gn, .int .i64 gr, .bool go, .slice A4 nw C4] 51 (0, 0))) := (hbx.block _ (Array.getElem?_eq_some_iff.1 B5.out).1).trans B5.out
        clear hbx
        obtain ⟨F, hF⟩ : ∃ F, (judgeK r (lv.map prV) (lv.map prV).length).2 = F := ⟨_, rfl⟩
        have HFF : Aside ((judgeK r (lv.map prV) (lv.map prV).length).2 = F) := hF
        rw [hF] at SFA HPP
        have HFN : Aside (∀ x ∈ F, x.2.2 ≠ 0) := by rw [← hF]; exact fault_ne
        clear hF
        obtain ⟨a6, c6, rfl, hl6, hs6⟩ := SFA.out
        obtain ⟨q, hq⟩ : ∃ q, F.length = q := ⟨_, rfl⟩
        have HQ : Aside (F.length = q) := hq
        have H6 : Aside (F ≠ [] → ∃ b off, a6 = some ⟨b, off, none⟩ ∧ b < w10.heap.size ∧ ∀ j x, F[j]? = some x → ∀ i y, (encF x)[i]? = some y → w10.cell? ⟨b, off + j * 3 + i, none⟩ = some y) := hs6
        rw [hq] at hl6 ⊢
        clear hs6 hq SFA
        go_upto_region 5 with (fail)
        obtain ⟨w11, hw11⟩ : ∃ u, u = w10.alloc (.cells #[.slice y0 m0 d0, .slice y1 m1 d1, .slice y2 m2 d2, .int .i64 x3, .int .i64 x4, .bool x5, .slice y6 m6 d6] 51) := ⟨_, rfl⟩
        have hb11 : Below w10.heap.size w10 w11 := by rw [hw11]; exact (Below.refl _ _).alloc (Nat.le_refl _) _
        rw [← hw11]
        clear hw11
        replace H6 : Aside (F ≠ [] → ∃ b off, a6 = some ⟨b, off, none⟩ ∧ b < w11.heap.size ∧ ∀ j x, F[j]? = some x → ∀ i y, (encF x)[i]? = some y → w11.cell? ⟨b, off + j * 3 + i, none⟩ = some y) := fun h => by
          obtain ⟨b, off, h1, h2, h3⟩ := H6.out h
          exact ⟨b, off, h1, Nat.lt_of_lt_of_le h2 hb11.size, fun j x hx i y hy => keepc hb11 (h3 j x hx i y hy)⟩
        replace BX : Aside (w11.heap[w.heap.size]? = some (.cells #[vc, .int .i64 r.first, .int .i64 r.rounds, .bool r.equal] 42 (0, 0))) := (hb11.block _ (Array.getElem?_eq_some_iff.1 BX.out).1).trans BX.out
        replace BB : Aside (Below w.heap.size w w11 ∧ w.heap.size ≤ w11.heap.size) := ⟨BB.out.1.trans (hb11.mono BB.out.2), Nat.le_trans BB.out.2 hb11.size⟩
        replace SLE : Aside (Sl w11 1 eI (.slice A1 nl C1) ga.left) := SLE.out.below hb11
        replace B5 : Aside (w11.heap[X5]? = some (.cells #[.slice A1 nl C1, .slice A2 nd C2, .slice A3 ni C3, .int .i64 gn, .int .i64 gr, .bool go, .slice A4 nw C4] 51 (0, 0))) := (hb11.block _ (Array.getElem?_eq_some_iff.1 B5.out).1).trans B5.out
        clear hb11
        go_cut [81] (fun s81 wc => s81 = .bool false ∧ w11 = wc)
        case first =>
          cases F with
          | nil =>
            have hq0 : q = 0 := HQ.out.symm
            subst hq0
            obtain ⟨rfl, rfl⟩ : (0 : Int) = pi ∧ (0 : Int) = pe := by have := HPP.out; simpa using this
            go_wp2_with fail
            go_meet
            exact ⟨rfl, rfl⟩
          | cons f F =>
            obtain ⟨rfl, rfl⟩ : f.1 = pi ∧ f.2.2 = pe := by have := HPP.out; simpa using this
            have hqp : 0 < q := by have := HQ.out; simp at this; omega
            have hqz : (0 : Int) < (q : Int) := by omega
            have hqb : ((q : Int) == 0) = false := by rw [beq_eq_false_iff_ne]; omega
            have hpe : (f.2.2 == 0) = false := by have := HFN.out f (by simp); simpa using this
            obtain ⟨B6, o6, rfl, _, h3⟩ := H6.out (by simp)
            have k0 := h3 0 f rfl 0 (.int .i64 f.1) rfl
            have k2 := h3 0 f rfl 2 (.int .i64 f.2.2) rfl
            simp only [Nat.zero_mul, Nat.add_zero] at k0 k2
            clear h3 H6 HFN HPP HFF
            obtain ⟨fv, fd, fe⟩ := f
            simp only [] at k0 k2 hpe ⊢
            go_wp2_with fail
            go_meet
            exact ⟨rfl, rfl⟩
        case rest =>
          obtain ⟨rfl, rfl⟩ := hcut
          clear HPP
          go_wp2_with fail
          obtain ⟨wb, hwb⟩ : ∃ u, u = w11.alloc (.cells #[] 84) := ⟨_, rfl⟩
          have HO : Aside (wb.ownsRow w11.heap.size 84 2 (.slice (some ⟨w11.heap.size, 0, none⟩) 0 0) 0 []) := by rw [hwb]; exact owns_empty w11 _ 2
          have BW : Aside (Below w11.heap.size w11 wb ∧ w11.heap.size ≤ wb.heap.size) := by rw [hwb]; exact ⟨(Below.refl _ _).alloc (Nat.le_refl _) _, by simp⟩
          rw [← hwb]
          clear hwb
          obtain ⟨i0, hi0, hz0, hz1, hz2⟩ := info_parts info_visD
          have HLL : Aside ((lv.map prV).length = m) := by show _ = _; rw [List.length_map]; exact HN.out
          go_loopg [11, 12, 13] m (fun gg kv kk ii wr => ∃ (i : Nat) (ys : List (Int × Value × List Int)), i ≤ m ∧ m - i ≤ gg ∧ ii = .int .i64 i ∧ kk = .int .i64 ((judgeK r (lv.map prV) i).2.length : Nat) ∧ wr.ownsRow w11.heap.size 84 2 kv ys.length ((ys.map encV).flatten) ∧ Aside ((ys.map prV = keptL r (lv.map prV) i ∧ ∀ y ∈ ys, y ∈ lv) ∧ Below w11.heap.size w11 wr ∧ w11.heap.size ≤ wr.heap.size))
          case atStart => exact ⟨0, [], Nat.zero_le _, by omega, rfl, rfl, HO.out, ⟨rfl, fun y hy => by cases hy⟩, BW.out⟩
          case round =>
            clear HO BW
            obtain ⟨i, ys, hi, hgi, rfl, rfl, hown, HI⟩ := hrel
            by_cases hlt : i < m
            · have hltz : (i : Int) < (m : Int) := by omega
              obtain ⟨x, hx⟩ : ∃ x, lv[i]? = some x := ⟨_, List.getElem?_eq_getElem (by rw [HN.out]; exact hlt)⟩
              obtain ⟨B, off, rfl, hBlt, hcl⟩ := HS.out (by intro e; rw [e] at hx; simp at hx)
              have kx0 : wr.cell? ⟨B, off + i * 2, none⟩ = some (.int .i64 x.1) := keepc HI.out.2.1 (keepc BB.out.1 (hcl i x hx 0 (.int .i64 x.1) rfl))
              have kx1 : wr.cell? ⟨B, off + i * 2 + 1, none⟩ = some x.2.1 := keepc HI.out.2.1 (keepc BB.out.1 (hcl i x hx 1 x.2.1 rfl))
              have hxm := List.mem_of_getElem? hx
              have HXM : Aside (x ∈ lv) := hxm
              have HPX : Aside ((lv.map prV)[i]? = some (prV x)) := by show _ = _; rw [List.getElem?_map, hx]; rfl
              have hys : ys.length ≤ 200 := by have h1 := congrArg List.length HI.out.1.1; rw [List.length_map] at h1; have h2 := keptL_len r (lv.map prV) i; omega
              have HKS : Aside (keptL r (lv.map prV) (i + 1) = if (takeG r (judgeK r (lv.map prV) i).1 (prV x).1 (prV x).2).2.2 = 0 then keptL r (lv.map prV) i ++ [prV x] else keptL r (lv.map prV) i) := keptL_step HPX.out
              have hlen := judgeK_len r (lv.map prV) i
              obtain ⟨a3, c3, e3, hl3, _⟩ := HX.out x hxm
              have hBw : B < wr.heap.size := World.block_lt_of_cell? wr _ kx0
              obtain ⟨p, vb, bs⟩ := x
              simp only [] at kx0 kx1 e3 hl3
              subst e3
              have HW2 : Aside (Below w.heap.size w wr) := BB.out.1.trans (HI.out.2.1.mono BB.out.2)
              clear hcl hx hxm
              by_cases herr : (takeG r (judgeK r (lv.map prV) i).1 p bs).2.2 = 0
              · have HNO : Aside ((∀ x, F[(judgeK r (lv.map prV) i).2.length]? = some x → x.1 ≠ (i : Int)) ∧ (judgeK r (lv.map prV) (i + 1)).2.length = (judgeK r (lv.map prV) i).2.length) := by
                  have h := fault_no HPX.out herr
                  rw [HFF.out] at h
                  exact h
                have HKE : Aside (keptL r (lv.map prV) (i + 1) = keptL r (lv.map prV) i ++ [(p, bs)]) := by show _ = _; rw [HKS.out, if_pos (show (takeG r (judgeK r (lv.map prV) i).1 (prV (p, Value.slice a3 bs.length c3, bs)).1 (prV (p, Value.slice a3 bs.length c3, bs)).2).2.2 = 0 from herr)]; rfl
                have hks : (judgeK r (lv.map prV) i).2.length = (judgeK r (lv.map prV) (i + 1)).2.length := HNO.out.2.symm
                have HK1 : Aside ((judgeK r (lv.map prV) i).2.length = (judgeK r (lv.map prV) (i + 1)).2.length) := hks
                obtain ⟨kf, hkf⟩ : ∃ kf, (judgeK r (lv.map prV) i).2.length = kf := ⟨_, rfl⟩
                rw [hkf] at hlen hks HNO HK1 ⊢
                clear hks herr HKS hkf
                by_cases hkq : kf < q
                · have hkqz : (kf : Int) < (q : Int) := by omega
                  obtain ⟨f, hf⟩ : ∃ f, F[kf]? = some f := ⟨_, List.getElem?_eq_getElem (by rw [HQ.out]; exact hkq)⟩
                  obtain ⟨B6, o6, rfl, hB6, h3⟩ := H6.out (by intro e; rw [e] at hf; simp at hf)
                  have k0 : wr.cell? ⟨B6, o6 + kf * 3, none⟩ = some (.int .i64 f.1) := keepc HI.out.2.1 (h3 kf f hf 0 (.int .i64 f.1) rfl)
                  have hfb : (f.1 == (i : Int)) = false := by have := HNO.out.1 f hf; simpa using this
                  obtain ⟨fv, fd, fe⟩ := f
                  simp only [] at k0 hfb
                  clear hf h3
                  generalize bs.length = bl at *
                  have HOW : Aside (wr.ownsRow w11.heap.size 84 2 u11 ys.length ((ys.map encV).flatten)) := hown
                  clear hown
                  go_wp2_with (at_builtin; refine wpList_append_own _ rfl _ _ 43 rfl w11.heap.size 84 i0 (.agg #[.int .i64 0, .slice none 0 0]) 2 32 Try.underlying43 hi0 hz0 hz1 hz2 rfl (by decide) _ _ _ rfl (HOW.out.alloc _) ⟨wr.heap.size, 0, none⟩ 1 1 [.int .i64 p, .slice a3 bl c3] rfl rfl (by intro j u h; match j, h with | 0, h => (simp at h; subst h; go_simp) | 1, h => (simp at h; subst h; go_simp) | j + 2, h => simp at h) (by intro u hu; simp at hu; rcases hu with rfl | rfl <;> rfl) (by unfold maxLen; omega) (by omega) (by have := HI.out.2.2; simp; omega) ?_; intro v' w12 hown12 hgrow12 hnil12)
                  go_roundg (m - (i + 1))
                  case measure => omega
                  case rel =>
                    refine ⟨i + 1, ys ++ [(p, Value.slice a3 bl c3, bs)], by omega, by omega, by go_num, by rw [HK1.out], ?_, ⟨?_, ?_⟩, ?_, ?_⟩
                    · rw [List.map_append, List.flatten_append, List.length_append]; exact hown12
                    · rw [List.map_append, HI.out.1.1, HKE.out]; rfl
                    · intro y hy
                      rcases List.mem_append.1 hy with hy | hy
                      · exact HI.out.1.2 y hy
                      · simp at hy; subst hy; exact HXM.out
                    · exact (HI.out.2.1.alloc HI.out.2.2 _).grown hgrow12 (by have := HI.out.2.2; simp; omega) (fun j hj => (HOW.out.lt j hj).1)
                    · have h8 := hgrow12.size; have h7 := HI.out.2.2; rw [World.size_alloc] at h8; omega
                · have hkqz : ¬ (kf : Int) < (q : Int) := by omega
                  generalize bs.length = bl at *
                  have HOW : Aside (wr.ownsRow w11.heap.size 84 2 u11 ys.length ((ys.map encV).flatten)) := hown
                  clear hown
                  go_wp2_with (at_builtin; refine wpList_append_own _ rfl _ _ 43 rfl w11.heap.size 84 i0 (.agg #[.int .i64 0, .slice none 0 0]) 2 32 Try.underlying43 hi0 hz0 hz1 hz2 rfl (by decide) _ _ _ rfl (HOW.out.alloc _) ⟨wr.heap.size, 0, none⟩ 1 1 [.int .i64 p, .slice a3 bl c3] rfl rfl (by intro j u h; match j, h with | 0, h => (simp at h; subst h; go_simp) | 1, h => (simp at h; subst h; go_simp) | j + 2, h => simp at h) (by intro u hu; simp at hu; rcases hu with rfl | rfl <;> rfl) (by unfold maxLen; omega) (by omega) (by have := HI.out.2.2; simp; omega) ?_; intro v' w12 hown12 hgrow12 hnil12)
                  go_roundg (m - (i + 1))
                  case measure => omega
                  case rel =>
                    refine ⟨i + 1, ys ++ [(p, Value.slice a3 bl c3, bs)], by omega, by omega, by go_num, by rw [HK1.out], ?_, ⟨?_, ?_⟩, ?_, ?_⟩
                    · rw [List.map_append, List.flatten_append, List.length_append]; exact hown12
                    · rw [List.map_append, HI.out.1.1, HKE.out]; rfl
                    · intro y hy
                      rcases List.mem_append.1 hy with hy | hy
                      · exact HI.out.1.2 y hy
                      · simp at hy; subst hy; exact HXM.out
                    · exact (HI.out.2.1.alloc HI.out.2.2 _).grown hgrow12 (by have := HI.out.2.2; simp; omega) (fun j hj => (HOW.out.lt j hj).1)
                    · have h8 := hgrow12.size; have h7 := HI.out.2.2; rw [World.size_alloc] at h8; omega
              · have HAT : Aside (F[(judgeK r (lv.map prV) i).2.length]? = some ((i : Int), (takeG r (judgeK r (lv.map prV) i).1 p bs).2.1, (takeG r (judgeK r (lv.map prV) i).1 p bs).2.2) ∧ (judgeK r (lv.map prV) (i + 1)).2.length = (judgeK r (lv.map prV) i).2.length + 1) := by
                  have h := fault_at HPX.out herr
                  rw [HFF.out] at h
                  exact h
                have hte := take_err herr
                have HKE : Aside (keptL r (lv.map prV) (i + 1) = keptL r (lv.map prV) i) := by show _ = _; rw [HKS.out, if_neg (show ¬ (takeG r (judgeK r (lv.map prV) i).1 (prV (p, Value.slice a3 bs.length c3, bs)).1 (prV (p, Value.slice a3 bs.length c3, bs)).2).2.2 = 0 from herr)]
                have HK1 : Aside ((judgeK r (lv.map prV) (i + 1)).2.length = (judgeK r (lv.map prV) i).2.length + 1) := HAT.out.2
                obtain ⟨kf, hkf⟩ : ∃ kf, (judgeK r (lv.map prV) i).2.length = kf := ⟨_, rfl⟩
                obtain ⟨fd, hfd⟩ : ∃ x, (takeG r (judgeK r (lv.map prV) i).1 p bs).2.1 = x := ⟨_, rfl⟩
                obtain ⟨fe, hfe⟩ : ∃ x, (takeG r (judgeK r (lv.map prV) i).1 p bs).2.2 = x := ⟨_, rfl⟩
                rw [hfe] at herr
                rw [hfd] at hte
                rw [hkf] at hlen HK1
                have hf : F[kf]? = some ((i : Int), fd, fe) := by rw [← hkf, ← hfd, ← hfe]; exact HAT.out.1
                rw [hkf]
                have hkq : kf < q := by have := (List.getElem?_eq_some_iff.1 hf).1; rw [HQ.out] at this; exact this
                have hkqz : (kf : Int) < (q : Int) := by omega
                obtain ⟨B6, o6, rfl, hB6, h3⟩ := H6.out (by intro e; rw [e] at hf; simp at hf)
                have k0 : wr.cell? ⟨B6, o6 + kf * 3, none⟩ = some (.int .i64 (i : Int)) := keepc HI.out.2.1 (h3 kf _ hf 0 (.int .i64 (i : Int)) rfl)
                have k1 : wr.cell? ⟨B6, o6 + kf * 3 + 1, none⟩ = some (.int .i64 fd) := keepc HI.out.2.1 (h3 kf _ hf 1 (.int .i64 fd) rfl)
                have k2 : wr.cell? ⟨B6, o6 + kf * 3 + 2, none⟩ = some (.int .i64 fe) := keepc HI.out.2.1 (h3 kf _ hf 2 (.int .i64 fe) rfl)
                have hfeb : (fe == 0) = false := by simpa using herr
                have hfd1 : decide (fd < -1) = false := by simpa using hte.2.1
                have hfd2 : decide ((bs.length : Int) ≤ fd) = false := by simpa using hte.2.2
                have hfd3 := hte.2.1
                have hfd4 := hte.2.2
                have ekf : IntKind.i64.wrap ((kf : Int) + 1) = (kf : Int) + 1 := IntWalk.i64_in _ (by omega)
                clear herr hte hf h3 hkf hfd hfe HAT HKS
                generalize bs.length = bl at *
                have HOW : Aside (wr.ownsRow w11.heap.size 84 2 u11 ys.length ((ys.map encV).flatten)) := hown
                clear hown
                go_wp2_with fail
                go_quiet (fail)
                go_wp2_with fail
                go_roundg (m - (i + 1))
                case measure => omega
                case rel => exact ⟨i + 1, ys, by omega, by omega, by go_num, by rw [HK1.out]; go_num, HOW.out, ⟨by rw [HKE.out]; exact HI.out.1.1, HI.out.1.2⟩, HI.out.2.1.trans (by (repeat' (first | exact Below.refl _ _ | assumption | (with_reducible refine Below.drew ?_) | (with_reducible refine Below.setCell ?_ (by (first | (simp; done) | (simp; omega))) _) | (with_reducible refine below_drewN' ?_ _) | (refine Below.alloc ?_ (by (try simp only [World.size_alloc, World.size_drew, World.size_setCell]); omega) _) | (refine Below.trans ?_ (Below.mono (by assumption) (by (try simp only [World.size_alloc, World.size_drew, World.size_setCell]); omega)))))), HI.out.2.2⟩
            · have hltz : ¬ (i : Int) < (m : Int) := by omega
              have hie : i = m := by omega
              subst hie
              have HYL : Aside (ys.length ≤ 2010 ∧ ∀ y ∈ ys, y.2.2.length ≤ 6) := ⟨by have h1 := congrArg List.length HI.out.1.1; rw [List.length_map] at h1; have h2 := keptL_len r (lv.map prV) i; omega, fun y hy => HLN.out.1 y (HI.out.1.2 y hy)⟩
              have HYS : Aside (Sl wr 2 encV u11 ys) := sl_owns (fun _ => rfl) (by have := HYL.out.1; omega) hown
              have HYB : Aside (∀ y ∈ ys, Sl wr 1 eI y.2.1 y.2.2) := fun y hy => ((HX.out y (HI.out.1.2 y hy)).below BB.out.1).below HI.out.2.1
              have HYP : Aside (ys.map prV = keptL r (lv.map prV) (lv.map prV).length) := by show _ = _; rw [HI.out.1.1, HLL.out]
              have HYI : Aside (∀ x ∈ ys.map prV, x ∈ lv.map prV) := fun x hx => by
                obtain ⟨y, hy, rfl⟩ := List.mem_map.1 hx
                exact List.mem_map.2 ⟨y, HI.out.1.2 y hy, rfl⟩
              have hkm : (judgeK r (lv.map prV) i).2.length = q := by
                have h1 := HLL.out
                have h2 := HFF.out
                rw [h1] at h2
                rw [h2]; exact HQ.out
              rw [hkm]
              have hb13 : Below w11.heap.size w11 wr := HI.out.2.1
              clear hown HI hkm H6
              replace BX : Aside (wr.heap[w.heap.size]? = some (.cells #[vc, .int .i64 r.first, .int .i64 r.rounds, .bool r.equal] 42 (0, 0))) := (hb13.block _ (Array.getElem?_eq_some_iff.1 BX.out).1).trans BX.out
              replace BB : Aside (Below w.heap.size w wr ∧ w.heap.size ≤ wr.heap.size) := ⟨BB.out.1.trans (hb13.mono BB.out.2), Nat.le_trans BB.out.2 hb13.size⟩
              replace SLE : Aside (Sl wr 1 eI (.slice A1 nl C1) ga.left) := SLE.out.below hb13
              replace B5 : Aside (wr.heap[X5]? = some (.cells #[.slice A1 nl C1, .slice A2 nd C2, .slice A3 ni C3, .int .i64 gn, .int .i64 gr, .bool go, .slice A4 nw C4] 51 (0, 0))) := (hb13.block _ (Array.getElem?_eq_some_iff.1 B5.out).1).trans B5.out
              clear hb13
              have q0 : wr.cell? ⟨w.heap.size, 0, none⟩ = some (vc) := blk_cell BX.out rfl
              have q1 : wr.cell? ⟨w.heap.size, 1, none⟩ = some (.int .i64 r.first) := blk_cell BX.out rfl
              have q2 : wr.cell? ⟨w.heap.size, 2, none⟩ = some (.int .i64 r.rounds) := blk_cell BX.out rfl
              have q3 : wr.cell? ⟨w.heap.size, 3, none⟩ = some (.bool r.equal) := blk_cell BX.out rfl
              have qlt : w.heap.size < wr.heap.size := (Array.getElem?_eq_some_iff.1 BX.out).1
              go_wp2_with fail
              refine (XR2.out _ BB.out.1).mono ?_
              rintro e w14 ⟨hbx, vc5, rfl, hsvc5⟩
              have Hvc5 : Aside (Sl w14 3 encC vc5 r.counts) := hsvc5
              have HYW : Aside (Sl w14 2 encV u11 ys ∧ ∀ y ∈ ys, Sl w14 1 eI y.2.1 y.2.2) := ⟨HYS.out.below hbx, fun y hy => (HYB.out y hy).below hbx⟩
              clear hsvc5 q0 q1 q2 q3 HYS HYB
              replace BX : Aside (w14.heap[w.heap.size]? = some (.cells #[vc, .int .i64 r.first, .int .i64 r.rounds, .bool r.equal] 42 (0, 0))) := (hbx.block _ (Array.getElem?_eq_some_iff.1 BX.out).1).trans BX.out
              replace BB : Aside (Below w.heap.size w w14 ∧ w.heap.size ≤ w14.heap.size) := ⟨BB.out.1.trans (hbx.mono BB.out.2), Nat.le_trans BB.out.2 hbx.size⟩
              replace SLE : Aside (Sl w14 1 eI (.slice A1 nl C1) ga.left) := SLE.out.below hbx
              replace B5 : Aside (w14.heap[X5]? = some (.cells #[.slice A1 nl C1, .slice A2 nd C2, .slice A3 ni C3, .int .i64 gn, .int .i64 gr, .bool go, .slice A4 nw C4] 51 (0, 0))) := (hbx.block _ (Array.getElem?_eq_some_iff.1 B5.out).1).trans B5.out
              clear hbx
              go_wp2_with fail
              refine (visits_any ys u11 _ HYW.out.1 HYW.out.2 HYL.out.1 HYL.out.2).mono ?_
              rintro e w15 ⟨hbx, v15, lv15, rfl, h15a, h15b, h15c⟩
              have S15 : Aside (Sl w15 2 encV v15 lv15 ∧ ∀ x ∈ lv15, Sl w15 1 eI x.2.1 x.2.2) := ⟨h15a, h15b⟩
              have M15 : Aside (lv15.map prV = ys.map prV) := h15c
              clear h15a h15b h15c HYW
              replace BX : Aside (w15.heap[w.heap.size]? = some (.cells #[vc, .int .i64 r.first, .int .i64 r.rounds, .bool r.equal] 42 (0, 0))) := (hbx.block _ (Array.getElem?_eq_some_iff.1 BX.out).1).trans BX.out
              replace BB : Aside (Below w.heap.size w w15 ∧ w.heap.size ≤ w15.heap.size) := ⟨BB.out.1.trans (hbx.mono BB.out.2), Nat.le_trans BB.out.2 hbx.size⟩
              replace SLE : Aside (Sl w15 1 eI (.slice A1 nl C1) ga.left) := SLE.out.below hbx
              replace B5 : Aside (w15.heap[X5]? = some (.cells #[.slice A1 nl C1, .slice A2 nd C2, .slice A3 ni C3, .int .i64 gn, .int .i64 gr, .bool go, .slice A4 nw C4] 51 (0, 0))) := (hbx.block _ (Array.getElem?_eq_some_iff.1 B5.out).1).trans B5.out
              replace Hvc5 : Aside (Sl w15 3 encC vc5 r.counts) := Hvc5.out.below hbx
              clear hbx
              go_wp2_with fail
              refine (Play_any r vc5 lv15 v15 _ Hvc5.out S15.out.1 (fun x hx => ⟨S15.out.2 x hx, HPB.out lv15 (fun y hy => HYI.out y (by rw [← M15.out]; exact hy)) x hx⟩)).mono ?_
              rintro e w16 ⟨hbx, vs16, rfl, hm16⟩
              have e16 : lv15.map (fun x => (x.1, x.2.2)) = keptL r (lv.map prV) (lv.map prV).length := M15.out.trans HYP.out
              rw [e16, HKP.out.2] at hm16
              rw [e16, HKP.out.1]
              obtain ⟨vl2, vd2, vi2, vw2, rfl, hsl2, hsd2, hsi2, hsw2, _⟩ := hm16
              have SL20 := hsl2
              obtain ⟨E1, D1, rfl, M1, _⟩ := hsl2
              obtain ⟨E2, D2, rfl, M2, _⟩ := hsd2
              obtain ⟨E3, D3, rfl, M3, _⟩ := hsi2
              obtain ⟨E4, D4, rfl, M4, _⟩ := hsw2
              rw [HNL.out.1] at M1 SL20
              rw [HNL.out.2.1] at M2
              rw [HNL.out.2.2.1] at M3
              rw [HNL.out.2.2.2] at M4
              rw [HNL.out.1, HNL.out.2.1, HNL.out.2.2.1, HNL.out.2.2.2]
              have SL2 : Aside (Sl w16 1 eI (.slice E1 nl D1) ga.left) := SL20
              rw [HGG.out.1, HGG.out.2.1, HGG.out.2.2]
              clear SL20 e16 S15 M15 HYI HYP HYL
              clear Hvc5
              replace BX : Aside (w16.heap[w.heap.size]? = some (.cells #[vc, .int .i64 r.first, .int .i64 r.rounds, .bool r.equal] 42 (0, 0))) := (hbx.block _ (Array.getElem?_eq_some_iff.1 BX.out).1).trans BX.out
              replace BB : Aside (Below w.heap.size w w16 ∧ w.heap.size ≤ w16.heap.size) := ⟨BB.out.1.trans (hbx.mono BB.out.2), Nat.le_trans BB.out.2 hbx.size⟩
              replace SLE : Aside (Sl w16 1 eI (.slice A1 nl C1) ga.left) := SLE.out.below hbx
              replace B5 : Aside (w16.heap[X5]? = some (.cells #[.slice A1 nl C1, .slice A2 nd C2, .slice A3 ni C3, .int .i64 gn, .int .i64 gr, .bool go, .slice A4 nw C4] 51 (0, 0))) := (hbx.block _ (Array.getElem?_eq_some_iff.1 B5.out).1).trans B5.out
              clear hbx
              go_upto_region 17 with (fail)
              obtain ⟨w17, hw17⟩ : ∃ u, u = w16.alloc (.cells #[.slice E1 nl D1, .slice E2 nd D2, .slice E3 ni D3, .int .i64 gn, .int .i64 gr, .bool go, .slice E4 nw D4] 51) := ⟨_, rfl⟩
              have hb17 : Below w16.heap.size w16 w17 := by rw [hw17]; exact (Below.refl _ _).alloc (Nat.le_refl _) _
              obtain ⟨X14, hX14⟩ : ∃ X, X = w16.heap.size := ⟨_, rfl⟩
              have B14 : Aside (w17.heap[X14]? = some (.cells #[.slice E1 nl D1, .slice E2 nd D2, .slice E3 ni D3, .int .i64 gn, .int .i64 gr, .bool go, .slice E4 nw D4] 51 (0, 0))) := by rw [hw17, hX14]; exact World.alloc_heap_new _ _
              rw [← hw17, ← hX14]
              clear hw17 hX14
              replace BX : Aside (w17.heap[w.heap.size]? = some (.cells #[vc, .int .i64 r.first, .int .i64 r.rounds, .bool r.equal] 42 (0, 0))) := (hb17.block _ (Array.getElem?_eq_some_iff.1 BX.out).1).trans BX.out
              replace BB : Aside (Below w.heap.size w w17 ∧ w.heap.size ≤ w17.heap.size) := ⟨BB.out.1.trans (hb17.mono BB.out.2), Nat.le_trans BB.out.2 hb17.size⟩
              replace SLE : Aside (Sl w17 1 eI (.slice A1 nl C1) ga.left) := SLE.out.below hb17
              replace B5 : Aside (w17.heap[X5]? = some (.cells #[.slice A1 nl C1, .slice A2 nd C2, .slice A3 ni C3, .int .i64 gn, .int .i64 gr, .bool go, .slice A4 nw C4] 51 (0, 0))) := (hb17.block _ (Array.getElem?_eq_some_iff.1 B5.out).1).trans B5.out
              replace SL2 : Aside (Sl w17 1 eI (.slice E1 nl D1) ga.left) := SL2.out.below hb17
              clear hb17
              have y0 : w17.cell? ⟨X5, 0, none⟩ = some (.slice A1 nl C1) := blk_cell B5.out rfl
              have z0 : w17.cell? ⟨X14, 0, none⟩ = some (.slice E1 nl D1) := blk_cell B14.out rfl
              have y3 : w17.cell? ⟨X5, 3, none⟩ = some (.int .i64 gn) := blk_cell B5.out rfl
              have z3 : w17.cell? ⟨X14, 3, none⟩ = some (.int .i64 gn) := blk_cell B14.out rfl
              have y4 : w17.cell? ⟨X5, 4, none⟩ = some (.int .i64 gr) := blk_cell B5.out rfl
              have z4 : w17.cell? ⟨X14, 4, none⟩ = some (.int .i64 gr) := blk_cell B14.out rfl
              have y5 : w17.cell? ⟨X5, 5, none⟩ = some (.bool go) := blk_cell B5.out rfl
              have z5 : w17.cell? ⟨X14, 5, none⟩ = some (.bool go) := blk_cell B14.out rfl
              have y6 : w17.cell? ⟨X5, 6, none⟩ = some (.slice A4 nw C4) := blk_cell B5.out rfl
              have z6 : w17.cell? ⟨X14, 6, none⟩ = some (.slice E4 nw D4) := blk_cell B14.out rfl
              go_wp2_with fail
              have H5A : Aside (ga.left ≠ [] → ∃ b off, A1 = some ⟨b, off, none⟩ ∧ ∀ j x, ga.left[j]? = some x → w17.cell? ⟨b, off + j, none⟩ = some (.int .i64 x)) := fun h => by
                obtain ⟨a', c', e, _, h2⟩ := SLE.out
                simp only [Value.slice.injEq] at e
                obtain ⟨rfl, _, rfl⟩ := e
                obtain ⟨b, off, h3, _, h4⟩ := h2 h
                exact ⟨b, off, h3, fun j x hx => by have := h4 j x hx 0 (.int .i64 x) rfl; simpa using this⟩
              have H14A : Aside (ga.left ≠ [] → ∃ b off, E1 = some ⟨b, off, none⟩ ∧ ∀ j x, ga.left[j]? = some x → w17.cell? ⟨b, off + j, none⟩ = some (.int .i64 x)) := fun h => by
                obtain ⟨a', c', e, _, h2⟩ := SL2.out
                simp only [Value.slice.injEq] at e
                obtain ⟨rfl, _, rfl⟩ := e
                obtain ⟨b, off, h3, _, h4⟩ := h2 h
                exact ⟨b, off, h3, fun j x hx => by have := h4 j x hx 0 (.int .i64 x) rfl; simpa using this⟩
              clear y0 y3 y4 y5 y6 z0 z3 z4 z5 z6 SLE SL2
              go_loopg [17] nl (fun gg ii wr => ∃ j : Nat, j ≤ nl ∧ nl - j ≤ gg ∧ ii = .int .i64 j ∧ Aside (Below w17.heap.size w17 wr))
              case atStart => exact ⟨0, Nat.zero_le _, by omega, rfl, Below.refl _ _⟩
              case round =>
                obtain ⟨j, hj, hgj, rfl, HJ⟩ := hrel
                have y0 : wr.cell? ⟨X5, 0, none⟩ = some (.slice A1 nl C1) := keepc HJ.out (blk_cell B5.out rfl)
                have z0 : wr.cell? ⟨X14, 0, none⟩ = some (.slice E1 nl D1) := keepc HJ.out (blk_cell B14.out rfl)
                by_cases hltj : j < nl
                · have hltzj : (j : Int) < (nl : Int) := by omega
                  obtain ⟨x, hx⟩ : ∃ x, ga.left[j]? = some x := ⟨_, List.getElem?_eq_getElem (by rw [HNL.out.1]; exact hltj)⟩
                  have hne : ga.left ≠ [] := by intro e; rw [e] at hx; simp at hx
                  obtain ⟨b1, o1, rfl, h1⟩ := H5A.out hne
                  obtain ⟨b2, o2, rfl, h2⟩ := H14A.out hne
                  have k1 := keepc HJ.out (h1 j x hx)
                  have k2 := keepc HJ.out (h2 j x hx)
                  clear h1 h2 hx hne
                  go_wp2_with fail
                  go_quiet (fail)
                  go_wp2_with fail
                  go_roundg (nl - (j + 1))
                  case measure => omega
                  case rel => exact ⟨j + 1, by omega, by omega, by go_num, HJ.out.trans (by (repeat' (first | exact Below.refl _ _ | assumption | (with_reducible refine Below.drew ?_) | (with_reducible refine Below.setCell ?_ (by (first | (simp; done) | (simp; omega))) _) | (with_reducible refine below_drewN' ?_ _) | (refine Below.alloc ?_ (by (try simp only [World.size_alloc, World.size_drew, World.size_setCell]); omega) _) | (refine Below.trans ?_ (Below.mono (by assumption) (by (try simp only [World.size_alloc, World.size_drew, World.size_setCell]); omega))))))⟩
                · have hltzj : ¬ (j : Int) < (nl : Int) := by omega
                  go_wp2_with fail
                  refine (HK.out _).mono ?_
                  rintro e w18 ⟨rfl, hb18⟩
                  go_wp2
                  go_ret
                  exact ⟨rfl, BB.out.1.trans ((HJ.out.trans (hb18.mono HJ.out.size)).mono BB.out.2)⟩

end Go.Proofs.Ythcgbceapabikaa
