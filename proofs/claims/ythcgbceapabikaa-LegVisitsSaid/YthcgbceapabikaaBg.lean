/- Leg, part Bg: the walk of LegVisits. -/
import Derived.Test.YthcgbceapabikaaBf
import Derived.Test.YthcgbceapabikaaAg
set_option linter.unusedVariables false
set_option linter.unusedSimpArgs false
namespace Go.Proofs.Ythcgbceapabikaa
open Go.RowKit Go.Maps Go.Sort Go.Shelf Go.Deep

theorem info_bed : (Try.prog.info? 34).map (fun i => (i.zero, i.size, i.bytes)) = some (some (.int .i64 0), 1, 8) := by kernel_rfl
theorem eI_one (bs : List Int) : ∀ y ∈ bs, ∀ u ∈ eI y, u.oneCell' = true := by
  intro y _ u hu
  simp [eI] at hu; subst hu; rfl

set_option maxRecDepth 100000 in
set_option maxHeartbeats 4000000 in
theorem lv_long (c1 c2 c3 : Int) (in0 : Bool) (left : Int) (v : Value) (bs : List Int) (w : World) (hs : Sl w 1 eI v bs) (h6 : 6 < bs.length) :
    Calls Try.prog 3 #[.agg #[.int .i64 c1, .int .i64 c2, .int .i64 c3, .bool in0, .int .i64 left], v] w (Ret (.bool true) w) := by
  have HK := fun W => known_any W
  obtain ⟨a, cp, rfl, hl, _⟩ := hs
  obtain ⟨n, hn⟩ : ∃ n, bs.length = n := ⟨_, rfl⟩
  rw [hn] at hl h6 ⊢
  clear hn
  have h6z : (6 : Int) < (n : Int) := by omega
  go_enter Try.func3, Try.ntmps3
  go_wp2_with fail
  refine (HK _).mono ?_
  rintro e w1 ⟨rfl, hb1⟩
  go_wp2
  go_ret
  exact ⟨rfl, by (repeat' (first | exact Below.refl _ _ | assumption | (with_reducible refine Below.drew ?_) | (with_reducible refine Below.setCell ?_ (by (first | (simp; done) | (simp; omega))) _) | (with_reducible refine below_drewN' ?_ _) | (refine Below.alloc ?_ (by (try simp only [World.size_alloc, World.size_drew, World.size_setCell]); omega) _) | (refine Below.trans ?_ (Below.mono (by assumption) (by (try simp only [World.size_alloc, World.size_drew, World.size_setCell]); omega)))))⟩

set_option maxRecDepth 100000 in
set_option maxHeartbeats 8000000 in
theorem lv_count (c1 c2 c3 : Int) (in0 : Bool) (left : Int) (v : Value) (bs : List Int) (w : World) (hs : Sl w 1 eI v bs) (h6 : bs.length ≤ 6) (hbs : ∀ x ∈ bs, -9223372036854775808 ≤ x ∧ x ≤ 9223372036854775807) (hc : vcnt (c1, c2, c3) = false) :
    Calls Try.prog 3 #[.agg #[.int .i64 c1, .int .i64 c2, .int .i64 c3, .bool in0, .int .i64 left], v] w (Ret (.bool true) w) := by
  obtain ⟨i0, hi, hz0, hz1, hz2⟩ := info_parts info_bed
  have HK : Aside (∀ W, Calls Try.prog 13 #[] W (Ret (.bool true) W)) := fun W => known_any W
  have X1 : Aside (∀ W v', Sl W 1 eI v' bs → Calls Try.prog 14 #[cntV (c1, c2, c3), .bool in0, .int .i64 left, v'] W (Ret (visR (visitF (c1, c2, c3) in0 left bs)) W)) := fun W v' h => Visit_any (c1, c2, c3) in0 left v' bs W h hbs
  have X2 : Aside (∀ W, Calls Try.prog 15 #[cntV (c1, c2, c3)] W (Ret (.bool (vcnt (c1, c2, c3))) W)) := fun W => rcount_any _ W
  have HV : visitF (c1, c2, c3) in0 left bs = (Thr.zero, 2) := by unfold visitF; rw [if_neg (by rw [hc]; simp)]
  rw [HV] at X1
  rw [hc] at X2
  unfold visR thrV cntV at *
  unfold Thr.zero at *
  simp only [] at *
  clear HV hc hbs
  have HS : Aside (Sl w 1 eI v bs) := hs
  obtain ⟨a, cp, rfl, hl, hs'⟩ := hs
  have HSC : Aside (bs ≠ [] → ∃ b off, a = some ⟨b, off, none⟩ ∧ b < w.heap.size ∧ ∀ j x, bs[j]? = some x → ∀ i y, (eI x)[i]? = some y → w.cell? ⟨b, off + j * 1 + i, none⟩ = some y) := hs'
  clear hs'
  obtain ⟨n, hn⟩ : ∃ n, bs.length = n := ⟨_, rfl⟩
  have HN : Aside (bs.length = n) := hn
  rw [hn] at HS h6 hl ⊢
  
  clear hn
  have h6z : ¬ (6 : Int) < (n : Int) := by omega
  go_enter Try.func3, Try.ntmps3
  go_wp2_with (at_builtin; refine wpList_append_sl _ rfl _ _ 27 rfl (w.heap.size + 1) 34 i0 (.int .i64 0) 1 8 Try.underlying27 hi hz0 hz1 hz2 rfl (by decide) (.slice (some ⟨w.heap.size + 1, 0, none⟩) 0 0) 0 [] rfl (by have := owns_empty (w.alloc (.cells #[.int .i64 c1, .int .i64 c2, .int .i64 c3, .bool in0, .int .i64 left] 26)) 34 1; rw [World.size_alloc] at this; exact this) (vy := .slice a n cp) (ys := bs) (enc := eI) rfl (HS.out.below (by (repeat' (first | exact Below.refl _ _ | assumption | (with_reducible refine Below.drew ?_) | (with_reducible refine Below.setCell ?_ (by (first | (simp; done) | (simp; omega))) _) | (with_reducible refine below_drewN' ?_ _) | (refine Below.alloc ?_ (by (try simp only [World.size_alloc, World.size_drew, World.size_setCell]); omega) _) | (refine Below.trans ?_ (Below.mono (by assumption) (by (try simp only [World.size_alloc, World.size_drew, World.size_setCell]); omega))))))) (fun _ => rfl) (eI_one bs) (by rw [HN.out]; unfold maxLen; omega) (by rw [HN.out]; omega) (by simp) ?_; intro v2 w2 hown hgrow; have hB1 : Below w.heap.size w (((w.alloc (.cells #[.int .i64 c1, .int .i64 c2, .int .i64 c3, .bool in0, .int .i64 left] 26)).alloc (.cells #[] 34))) := (by (repeat' (first | exact Below.refl _ _ | assumption | (with_reducible refine Below.drew ?_) | (with_reducible refine Below.setCell ?_ (by (first | (simp; done) | (simp; omega))) _) | (with_reducible refine below_drewN' ?_ _) | (refine Below.alloc ?_ (by (try simp only [World.size_alloc, World.size_drew, World.size_setCell]); omega) _) | (refine Below.trans ?_ (Below.mono (by assumption) (by (try simp only [World.size_alloc, World.size_drew, World.size_setCell]); omega)))))); have hA1 : (((w.alloc (.cells #[.int .i64 c1, .int .i64 c2, .int .i64 c3, .bool in0, .int .i64 left] 26)).alloc (.cells #[] 34))).heap[w.heap.size]? = some (.cells #[.int .i64 c1, .int .i64 c2, .int .i64 c3, .bool in0, .int .i64 left] 26 (0, 0)) := (Below.heap_alloc _ _ _ (by simp)).trans (World.alloc_heap_new' _ _ _ rfl); have HA : Aside (w2.heap[w.heap.size]? = some (.cells #[.int .i64 c1, .int .i64 c2, .int .i64 c3, .bool in0, .int .i64 left] 26 (0, 0))) := (hgrow.block _ (Array.getElem?_eq_some_iff.1 hA1).1 (by simp [Value.ownBlock])).trans hA1; have q0 : w2.cell? ⟨w.heap.size, 0, none⟩ = some (.int .i64 c1) := blk_cell HA.out rfl; have q1 : w2.cell? ⟨w.heap.size, 1, none⟩ = some (.int .i64 c2) := blk_cell HA.out rfl; have q2 : w2.cell? ⟨w.heap.size, 2, none⟩ = some (.int .i64 c3) := blk_cell HA.out rfl; have q3 : w2.cell? ⟨w.heap.size, 3, none⟩ = some (.bool in0) := blk_cell HA.out rfl; have q4 : w2.cell? ⟨w.heap.size, 4, none⟩ = some (.int .i64 left) := blk_cell HA.out rfl)
  have hsl : Sl w2 1 eI v2 bs := sl_owns (fun _ => rfl) (by rw [HN.out]; omega) (by rw [Nat.zero_add, List.nil_append] at hown; exact hown)
  have HB : Aside (Below w.heap.size w w2) := hB1.grown hgrow hB1.size (fun j e => by simp only [Value.ownBlock, Option.some.injEq] at e; omega)
  have H2 : Aside (Sl w2 1 eI v2 bs) := hsl
  obtain ⟨a2, cp2, rfl, hl2, hs2⟩ := hsl
  have HSC2 : Aside (bs ≠ [] → ∃ b off, a2 = some ⟨b, off, none⟩ ∧ b < w2.heap.size ∧ ∀ j x, bs[j]? = some x → ∀ i y, (eI x)[i]? = some y → w2.cell? ⟨b, off + j * 1 + i, none⟩ = some y) := hs2
  rw [HN.out] at H2 hl2 ⊢
  clear hown hgrow hB1 hA1 hs2
  refine (X1.out _ _ H2.out).mono ?_
  rintro e w3 ⟨rfl, hb3⟩
  have HS2 : Aside (Below w2.heap.size w2 w3) := hb3
  replace HA : Aside (w3.heap[w.heap.size]? = some (.cells #[.int .i64 c1, .int .i64 c2, .int .i64 c3, .bool in0, .int .i64 left] 26 (0, 0))) := (hb3.block _ (Array.getElem?_eq_some_iff.1 HA.out).1).trans HA.out
  replace HB : Aside (Below w.heap.size w w3) := HB.out.trans (hb3.mono HB.out.size)
  clear hb3 q0 q1 q2 q3 q4
  go_wp2_with fail
  obtain ⟨X, hX⟩ : ∃ X, X = w3.heap.size := ⟨_, rfl⟩
  obtain ⟨w4, hw4⟩ : ∃ u, u = w3.alloc (.cells #[.int .i64 0, .int .i64 0, .int .i64 0, .bool false, .bool false, .bool false] 30) := ⟨_, rfl⟩
  have hb4 : Below w3.heap.size w3 w4 := by rw [hw4]; (repeat' (first | exact Below.refl _ _ | assumption | (with_reducible refine Below.drew ?_) | (with_reducible refine Below.setCell ?_ (by (first | (simp; done) | (simp; omega))) _) | (with_reducible refine below_drewN' ?_ _) | (refine Below.alloc ?_ (by (try simp only [World.size_alloc, World.size_drew, World.size_setCell]); omega) _) | (refine Below.trans ?_ (Below.mono (by assumption) (by (try simp only [World.size_alloc, World.size_drew, World.size_setCell]); omega)))))
  have HXB : Aside (w4.heap[X]? = some (.cells #[.int .i64 0, .int .i64 0, .int .i64 0, .bool false, .bool false, .bool false] 30 (0, 0))) := by rw [hw4, hX]; show _ = _; exact World.alloc_heap_new _ _
  rw [← hw4, ← hX]
  replace HA : Aside (w4.heap[w.heap.size]? = some (.cells #[.int .i64 c1, .int .i64 c2, .int .i64 c3, .bool in0, .int .i64 left] 26 (0, 0))) := (hb4.block _ (Array.getElem?_eq_some_iff.1 HA.out).1).trans HA.out
  replace HB : Aside (Below w.heap.size w w4) := HB.out.trans (hb4.mono HB.out.size)
  replace HS2 : Aside (Below w2.heap.size w2 w4) := HS2.out.trans (hb4.mono HS2.out.size)
  clear hb4 hw4 hX
  have HA4 : Aside (w4.heap[w.heap.size]? = some (.cells #[.int .i64 c1, .int .i64 c2, .int .i64 c3, .bool in0, .int .i64 left] 26 (0, 0))) := HA.out
  have HX4 : Aside (w4.heap[X]? = some (.cells #[.int .i64 0, .int .i64 0, .int .i64 0, .bool false, .bool false, .bool false] 30 (0, 0))) := HXB.out
  clear HA HXB
  go_loopg [8] n (fun gg i wr => ∃ k : Nat, k ≤ n ∧ n - k ≤ gg ∧ i = .int .i64 k ∧ Aside (Below w4.heap.size w4 wr))
  case atStart => exact ⟨0, Nat.zero_le _, by omega, rfl, Below.refl _ _⟩
  case round =>
    obtain ⟨k, hk, hg, rfl, HW⟩ := hrel
    by_cases hlt : k < n
    · have hltz : (k : Int) < (n : Int) := by omega
      obtain ⟨b, hb⟩ : ∃ b, bs[k]? = some b := ⟨_, List.getElem?_eq_getElem (by rw [HN.out]; exact hlt)⟩
      have hne : bs ≠ [] := by intro e; rw [e] at hb; simp at hb
      obtain ⟨B, off, rfl, hBlt, hcl⟩ := HSC.out hne
      obtain ⟨B2, off2, rfl, hBlt2, hcl2⟩ := HSC2.out hne
      have k1 : wr.cell? ⟨B, off + k, none⟩ = some (.int .i64 b) := keepc HW.out (keepc HB.out (by have := hcl k b hb 0 (.int .i64 b) rfl; simpa using this))
      have k2 : wr.cell? ⟨B2, off2 + k, none⟩ = some (.int .i64 b) := keepc HW.out (keepc HS2.out (by have := hcl2 k b hb 0 (.int .i64 b) rfl; simpa using this))
      clear hcl hcl2 hb hne
      go_wp2_with fail
      go_quiet (fail)
      go_wp2_with fail
      go_roundg (n - (k + 1))
      case measure => omega
      case rel => exact ⟨k + 1, by omega, by omega, by go_num, HW.out.trans (by (repeat' (first | exact Below.refl _ _ | assumption | (with_reducible refine Below.drew ?_) | (with_reducible refine Below.setCell ?_ (by (first | (simp; done) | (simp; omega))) _) | (with_reducible refine below_drewN' ?_ _) | (refine Below.alloc ?_ (by (try simp only [World.size_alloc, World.size_drew, World.size_setCell]); omega) _) | (refine Below.trans ?_ (Below.mono (by assumption) (by (try simp only [World.size_alloc, World.size_drew, World.size_setCell]); omega))))))⟩
    · have hltz : ¬ (k : Int) < (n : Int) := by omega
      have HA : Aside (wr.heap[w.heap.size]? = some (.cells #[.int .i64 c1, .int .i64 c2, .int .i64 c3, .bool in0, .int .i64 left] 26 (0, 0))) := (HW.out.block _ (Array.getElem?_eq_some_iff.1 HA4.out).1).trans HA4.out
      have HXB : Aside (wr.heap[X]? = some (.cells #[.int .i64 0, .int .i64 0, .int .i64 0, .bool false, .bool false, .bool false] 30 (0, 0))) := (HW.out.block _ (Array.getElem?_eq_some_iff.1 HX4.out).1).trans HX4.out
      replace HB : Aside (Below w.heap.size w wr) := HB.out.trans (HW.out.mono HB.out.size)
      clear HA4 HX4 HW HS2 HSC HSC2 H2 X1
      have q0 : wr.cell? ⟨w.heap.size, 0, none⟩ = some (.int .i64 c1) := blk_cell HA.out rfl
      have q1 : wr.cell? ⟨w.heap.size, 1, none⟩ = some (.int .i64 c2) := blk_cell HA.out rfl
      have q2 : wr.cell? ⟨w.heap.size, 2, none⟩ = some (.int .i64 c3) := blk_cell HA.out rfl
      have q3 : wr.cell? ⟨w.heap.size, 3, none⟩ = some (.bool in0) := blk_cell HA.out rfl
      have q4 : wr.cell? ⟨w.heap.size, 4, none⟩ = some (.int .i64 left) := blk_cell HA.out rfl
      have r0 : wr.cell? ⟨X, 0, none⟩ = some (.int .i64 0) := blk_cell HXB.out rfl
      have r1 : wr.cell? ⟨X, 1, none⟩ = some (.int .i64 0) := blk_cell HXB.out rfl
      have r2 : wr.cell? ⟨X, 2, none⟩ = some (.int .i64 0) := blk_cell HXB.out rfl
      have r3 : wr.cell? ⟨X, 3, none⟩ = some (.bool false) := blk_cell HXB.out rfl
      have r4 : wr.cell? ⟨X, 4, none⟩ = some (.bool false) := blk_cell HXB.out rfl
      have r5 : wr.cell? ⟨X, 5, none⟩ = some (.bool false) := blk_cell HXB.out rfl
      go_wp2_with fail
      refine (X2.out _).mono ?_
      rintro e w5 ⟨rfl, hb5⟩
      replace HA : Aside (w5.heap[w.heap.size]? = some (.cells #[.int .i64 c1, .int .i64 c2, .int .i64 c3, .bool in0, .int .i64 left] 26 (0, 0))) := (hb5.block _ (Array.getElem?_eq_some_iff.1 HA.out).1).trans HA.out
      replace HXB : Aside (w5.heap[X]? = some (.cells #[.int .i64 0, .int .i64 0, .int .i64 0, .bool false, .bool false, .bool false] 30 (0, 0))) := (hb5.block _ (Array.getElem?_eq_some_iff.1 HXB.out).1).trans HXB.out
      replace HB : Aside (Below w.heap.size w w5) := HB.out.trans (hb5.mono HB.out.size)
      clear hb5 q0 q1 q2 q3 q4 r0 r1 r2 r3 r4 r5 X2
      have q0 : w5.cell? ⟨w.heap.size, 0, none⟩ = some (.int .i64 c1) := blk_cell HA.out rfl
      have q1 : w5.cell? ⟨w.heap.size, 1, none⟩ = some (.int .i64 c2) := blk_cell HA.out rfl
      have q2 : w5.cell? ⟨w.heap.size, 2, none⟩ = some (.int .i64 c3) := blk_cell HA.out rfl
      have q3 : w5.cell? ⟨w.heap.size, 3, none⟩ = some (.bool in0) := blk_cell HA.out rfl
      have q4 : w5.cell? ⟨w.heap.size, 4, none⟩ = some (.int .i64 left) := blk_cell HA.out rfl
      have r0 : w5.cell? ⟨X, 0, none⟩ = some (.int .i64 0) := blk_cell HXB.out rfl
      have r1 : w5.cell? ⟨X, 1, none⟩ = some (.int .i64 0) := blk_cell HXB.out rfl
      have r2 : w5.cell? ⟨X, 2, none⟩ = some (.int .i64 0) := blk_cell HXB.out rfl
      have r3 : w5.cell? ⟨X, 3, none⟩ = some (.bool false) := blk_cell HXB.out rfl
      have r4 : w5.cell? ⟨X, 4, none⟩ = some (.bool false) := blk_cell HXB.out rfl
      have r5 : w5.cell? ⟨X, 5, none⟩ = some (.bool false) := blk_cell HXB.out rfl
      go_wp2_with fail
      refine (HK.out _).mono ?_
      rintro e w9 ⟨rfl, hb9⟩
      go_wp2
      go_ret
      exact ⟨rfl, HB.out.trans (hb9.mono HB.out.size)⟩

set_option maxRecDepth 100000 in
set_option maxHeartbeats 8000000 in
theorem lv_stand (c1 c2 c3 : Int) (in0 : Bool) (left : Int) (v : Value) (bs : List Int) (w : World) (hs : Sl w 1 eI v bs) (h6 : bs.length ≤ 6) (hbs : ∀ x ∈ bs, -9223372036854775808 ≤ x ∧ x ≤ 9223372036854775807) (hc : vcnt (c1, c2, c3) = true) (hv : vstand (c1, c2, c3) in0 left = false) :
    Calls Try.prog 3 #[.agg #[.int .i64 c1, .int .i64 c2, .int .i64 c3, .bool in0, .int .i64 left], v] w (Ret (.bool true) w) := by
  obtain ⟨i0, hi, hz0, hz1, hz2⟩ := info_parts info_bed
  have HK : Aside (∀ W, Calls Try.prog 13 #[] W (Ret (.bool true) W)) := fun W => known_any W
  have X1 : Aside (∀ W v', Sl W 1 eI v' bs → Calls Try.prog 14 #[cntV (c1, c2, c3), .bool in0, .int .i64 left, v'] W (Ret (visR (visitF (c1, c2, c3) in0 left bs)) W)) := fun W v' h => Visit_any (c1, c2, c3) in0 left v' bs W h hbs
  have X2 : Aside (∀ W, Calls Try.prog 15 #[cntV (c1, c2, c3)] W (Ret (.bool (vcnt (c1, c2, c3))) W)) := fun W => rcount_any _ W
  have X3 : Aside (∀ W, Calls Try.prog 16 #[cntV (c1, c2, c3), .bool in0, .int .i64 left] W (Ret (.bool (vstand (c1, c2, c3) in0 left)) W)) := fun W => rstart_any _ _ _ W
  have HV : visitF (c1, c2, c3) in0 left bs = (Thr.zero, 3) := by unfold visitF; rw [if_pos hc, if_neg (by rw [hv]; simp)]
  rw [HV] at X1
  rw [hc] at X2
  rw [hv] at X3
  unfold visR thrV cntV at *
  unfold Thr.zero at *
  simp only [] at *
  clear HV hc hv hbs
  have HS : Aside (Sl w 1 eI v bs) := hs
  obtain ⟨a, cp, rfl, hl, hs'⟩ := hs
  have HSC : Aside (bs ≠ [] → ∃ b off, a = some ⟨b, off, none⟩ ∧ b < w.heap.size ∧ ∀ j x, bs[j]? = some x → ∀ i y, (eI x)[i]? = some y → w.cell? ⟨b, off + j * 1 + i, none⟩ = some y) := hs'
  clear hs'
  obtain ⟨n, hn⟩ : ∃ n, bs.length = n := ⟨_, rfl⟩
  have HN : Aside (bs.length = n) := hn
  rw [hn] at HS h6 hl ⊢
  
  clear hn
  have h6z : ¬ (6 : Int) < (n : Int) := by omega
  go_enter Try.func3, Try.ntmps3
  go_wp2_with (at_builtin; refine wpList_append_sl _ rfl _ _ 27 rfl (w.heap.size + 1) 34 i0 (.int .i64 0) 1 8 Try.underlying27 hi hz0 hz1 hz2 rfl (by decide) (.slice (some ⟨w.heap.size + 1, 0, none⟩) 0 0) 0 [] rfl (by have := owns_empty (w.alloc (.cells #[.int .i64 c1, .int .i64 c2, .int .i64 c3, .bool in0, .int .i64 left] 26)) 34 1; rw [World.size_alloc] at this; exact this) (vy := .slice a n cp) (ys := bs) (enc := eI) rfl (HS.out.below (by (repeat' (first | exact Below.refl _ _ | assumption | (with_reducible refine Below.drew ?_) | (with_reducible refine Below.setCell ?_ (by (first | (simp; done) | (simp; omega))) _) | (with_reducible refine below_drewN' ?_ _) | (refine Below.alloc ?_ (by (try simp only [World.size_alloc, World.size_drew, World.size_setCell]); omega) _) | (refine Below.trans ?_ (Below.mono (by assumption) (by (try simp only [World.size_alloc, World.size_drew, World.size_setCell]); omega))))))) (fun _ => rfl) (eI_one bs) (by rw [HN.out]; unfold maxLen; omega) (by rw [HN.out]; omega) (by simp) ?_; intro v2 w2 hown hgrow; have hB1 : Below w.heap.size w (((w.alloc (.cells #[.int .i64 c1, .int .i64 c2, .int .i64 c3, .bool in0, .int .i64 left] 26)).alloc (.cells #[] 34))) := (by (repeat' (first | exact Below.refl _ _ | assumption | (with_reducible refine Below.drew ?_) | (with_reducible refine Below.setCell ?_ (by (first | (simp; done) | (simp; omega))) _) | (with_reducible refine below_drewN' ?_ _) | (refine Below.alloc ?_ (by (try simp only [World.size_alloc, World.size_drew, World.size_setCell]); omega) _) | (refine Below.trans ?_ (Below.mono (by assumption) (by (try simp only [World.size_alloc, World.size_drew, World.size_setCell]); omega)))))); have hA1 : (((w.alloc (.cells #[.int .i64 c1, .int .i64 c2, .int .i64 c3, .bool in0, .int .i64 left] 26)).alloc (.cells #[] 34))).heap[w.heap.size]? = some (.cells #[.int .i64 c1, .int .i64 c2, .int .i64 c3, .bool in0, .int .i64 left] 26 (0, 0)) := (Below.heap_alloc _ _ _ (by simp)).trans (World.alloc_heap_new' _ _ _ rfl); have HA : Aside (w2.heap[w.heap.size]? = some (.cells #[.int .i64 c1, .int .i64 c2, .int .i64 c3, .bool in0, .int .i64 left] 26 (0, 0))) := (hgrow.block _ (Array.getElem?_eq_some_iff.1 hA1).1 (by simp [Value.ownBlock])).trans hA1; have q0 : w2.cell? ⟨w.heap.size, 0, none⟩ = some (.int .i64 c1) := blk_cell HA.out rfl; have q1 : w2.cell? ⟨w.heap.size, 1, none⟩ = some (.int .i64 c2) := blk_cell HA.out rfl; have q2 : w2.cell? ⟨w.heap.size, 2, none⟩ = some (.int .i64 c3) := blk_cell HA.out rfl; have q3 : w2.cell? ⟨w.heap.size, 3, none⟩ = some (.bool in0) := blk_cell HA.out rfl; have q4 : w2.cell? ⟨w.heap.size, 4, none⟩ = some (.int .i64 left) := blk_cell HA.out rfl)
  have hsl : Sl w2 1 eI v2 bs := sl_owns (fun _ => rfl) (by rw [HN.out]; omega) (by rw [Nat.zero_add, List.nil_append] at hown; exact hown)
  have HB : Aside (Below w.heap.size w w2) := hB1.grown hgrow hB1.size (fun j e => by simp only [Value.ownBlock, Option.some.injEq] at e; omega)
  have H2 : Aside (Sl w2 1 eI v2 bs) := hsl
  obtain ⟨a2, cp2, rfl, hl2, hs2⟩ := hsl
  have HSC2 : Aside (bs ≠ [] → ∃ b off, a2 = some ⟨b, off, none⟩ ∧ b < w2.heap.size ∧ ∀ j x, bs[j]? = some x → ∀ i y, (eI x)[i]? = some y → w2.cell? ⟨b, off + j * 1 + i, none⟩ = some y) := hs2
  rw [HN.out] at H2 hl2 ⊢
  clear hown hgrow hB1 hA1 hs2
  refine (X1.out _ _ H2.out).mono ?_
  rintro e w3 ⟨rfl, hb3⟩
  have HS2 : Aside (Below w2.heap.size w2 w3) := hb3
  replace HA : Aside (w3.heap[w.heap.size]? = some (.cells #[.int .i64 c1, .int .i64 c2, .int .i64 c3, .bool in0, .int .i64 left] 26 (0, 0))) := (hb3.block _ (Array.getElem?_eq_some_iff.1 HA.out).1).trans HA.out
  replace HB : Aside (Below w.heap.size w w3) := HB.out.trans (hb3.mono HB.out.size)
  clear hb3 q0 q1 q2 q3 q4
  go_wp2_with fail
  obtain ⟨X, hX⟩ : ∃ X, X = w3.heap.size := ⟨_, rfl⟩
  obtain ⟨w4, hw4⟩ : ∃ u, u = w3.alloc (.cells #[.int .i64 0, .int .i64 0, .int .i64 0, .bool false, .bool false, .bool false] 30) := ⟨_, rfl⟩
  have hb4 : Below w3.heap.size w3 w4 := by rw [hw4]; (repeat' (first | exact Below.refl _ _ | assumption | (with_reducible refine Below.drew ?_) | (with_reducible refine Below.setCell ?_ (by (first | (simp; done) | (simp; omega))) _) | (with_reducible refine below_drewN' ?_ _) | (refine Below.alloc ?_ (by (try simp only [World.size_alloc, World.size_drew, World.size_setCell]); omega) _) | (refine Below.trans ?_ (Below.mono (by assumption) (by (try simp only [World.size_alloc, World.size_drew, World.size_setCell]); omega)))))
  have HXB : Aside (w4.heap[X]? = some (.cells #[.int .i64 0, .int .i64 0, .int .i64 0, .bool false, .bool false, .bool false] 30 (0, 0))) := by rw [hw4, hX]; show _ = _; exact World.alloc_heap_new _ _
  rw [← hw4, ← hX]
  replace HA : Aside (w4.heap[w.heap.size]? = some (.cells #[.int .i64 c1, .int .i64 c2, .int .i64 c3, .bool in0, .int .i64 left] 26 (0, 0))) := (hb4.block _ (Array.getElem?_eq_some_iff.1 HA.out).1).trans HA.out
  replace HB : Aside (Below w.heap.size w w4) := HB.out.trans (hb4.mono HB.out.size)
  replace HS2 : Aside (Below w2.heap.size w2 w4) := HS2.out.trans (hb4.mono HS2.out.size)
  clear hb4 hw4 hX
  have HA4 : Aside (w4.heap[w.heap.size]? = some (.cells #[.int .i64 c1, .int .i64 c2, .int .i64 c3, .bool in0, .int .i64 left] 26 (0, 0))) := HA.out
  have HX4 : Aside (w4.heap[X]? = some (.cells #[.int .i64 0, .int .i64 0, .int .i64 0, .bool false, .bool false, .bool false] 30 (0, 0))) := HXB.out
  clear HA HXB
  go_loopg [8] n (fun gg i wr => ∃ k : Nat, k ≤ n ∧ n - k ≤ gg ∧ i = .int .i64 k ∧ Aside (Below w4.heap.size w4 wr))
  case atStart => exact ⟨0, Nat.zero_le _, by omega, rfl, Below.refl _ _⟩
  case round =>
    obtain ⟨k, hk, hg, rfl, HW⟩ := hrel
    by_cases hlt : k < n
    · have hltz : (k : Int) < (n : Int) := by omega
      obtain ⟨b, hb⟩ : ∃ b, bs[k]? = some b := ⟨_, List.getElem?_eq_getElem (by rw [HN.out]; exact hlt)⟩
      have hne : bs ≠ [] := by intro e; rw [e] at hb; simp at hb
      obtain ⟨B, off, rfl, hBlt, hcl⟩ := HSC.out hne
      obtain ⟨B2, off2, rfl, hBlt2, hcl2⟩ := HSC2.out hne
      have k1 : wr.cell? ⟨B, off + k, none⟩ = some (.int .i64 b) := keepc HW.out (keepc HB.out (by have := hcl k b hb 0 (.int .i64 b) rfl; simpa using this))
      have k2 : wr.cell? ⟨B2, off2 + k, none⟩ = some (.int .i64 b) := keepc HW.out (keepc HS2.out (by have := hcl2 k b hb 0 (.int .i64 b) rfl; simpa using this))
      clear hcl hcl2 hb hne
      go_wp2_with fail
      go_quiet (fail)
      go_wp2_with fail
      go_roundg (n - (k + 1))
      case measure => omega
      case rel => exact ⟨k + 1, by omega, by omega, by go_num, HW.out.trans (by (repeat' (first | exact Below.refl _ _ | assumption | (with_reducible refine Below.drew ?_) | (with_reducible refine Below.setCell ?_ (by (first | (simp; done) | (simp; omega))) _) | (with_reducible refine below_drewN' ?_ _) | (refine Below.alloc ?_ (by (try simp only [World.size_alloc, World.size_drew, World.size_setCell]); omega) _) | (refine Below.trans ?_ (Below.mono (by assumption) (by (try simp only [World.size_alloc, World.size_drew, World.size_setCell]); omega))))))⟩
    · have hltz : ¬ (k : Int) < (n : Int) := by omega
      have HA : Aside (wr.heap[w.heap.size]? = some (.cells #[.int .i64 c1, .int .i64 c2, .int .i64 c3, .bool in0, .int .i64 left] 26 (0, 0))) := (HW.out.block _ (Array.getElem?_eq_some_iff.1 HA4.out).1).trans HA4.out
      have HXB : Aside (wr.heap[X]? = some (.cells #[.int .i64 0, .int .i64 0, .int .i64 0, .bool false, .bool false, .bool false] 30 (0, 0))) := (HW.out.block _ (Array.getElem?_eq_some_iff.1 HX4.out).1).trans HX4.out
      replace HB : Aside (Below w.heap.size w wr) := HB.out.trans (HW.out.mono HB.out.size)
      clear HA4 HX4 HW HS2 HSC HSC2 H2 X1
      have q0 : wr.cell? ⟨w.heap.size, 0, none⟩ = some (.int .i64 c1) := blk_cell HA.out rfl
      have q1 : wr.cell? ⟨w.heap.size, 1, none⟩ = some (.int .i64 c2) := blk_cell HA.out rfl
      have q2 : wr.cell? ⟨w.heap.size, 2, none⟩ = some (.int .i64 c3) := blk_cell HA.out rfl
      have q3 : wr.cell? ⟨w.heap.size, 3, none⟩ = some (.bool in0) := blk_cell HA.out rfl
      have q4 : wr.cell? ⟨w.heap.size, 4, none⟩ = some (.int .i64 left) := blk_cell HA.out rfl
      have r0 : wr.cell? ⟨X, 0, none⟩ = some (.int .i64 0) := blk_cell HXB.out rfl
      have r1 : wr.cell? ⟨X, 1, none⟩ = some (.int .i64 0) := blk_cell HXB.out rfl
      have r2 : wr.cell? ⟨X, 2, none⟩ = some (.int .i64 0) := blk_cell HXB.out rfl
      have r3 : wr.cell? ⟨X, 3, none⟩ = some (.bool false) := blk_cell HXB.out rfl
      have r4 : wr.cell? ⟨X, 4, none⟩ = some (.bool false) := blk_cell HXB.out rfl
      have r5 : wr.cell? ⟨X, 5, none⟩ = some (.bool false) := blk_cell HXB.out rfl
      go_wp2_with fail
      refine (X2.out _).mono ?_
      rintro e w5 ⟨rfl, hb5⟩
      replace HA : Aside (w5.heap[w.heap.size]? = some (.cells #[.int .i64 c1, .int .i64 c2, .int .i64 c3, .bool in0, .int .i64 left] 26 (0, 0))) := (hb5.block _ (Array.getElem?_eq_some_iff.1 HA.out).1).trans HA.out
      replace HXB : Aside (w5.heap[X]? = some (.cells #[.int .i64 0, .int .i64 0, .int .i64 0, .bool false, .bool false, .bool false] 30 (0, 0))) := (hb5.block _ (Array.getElem?_eq_some_iff.1 HXB.out).1).trans HXB.out
      replace HB : Aside (Below w.heap.size w w5) := HB.out.trans (hb5.mono HB.out.size)
      clear hb5 q0 q1 q2 q3 q4 r0 r1 r2 r3 r4 r5 X2
      have q0 : w5.cell? ⟨w.heap.size, 0, none⟩ = some (.int .i64 c1) := blk_cell HA.out rfl
      have q1 : w5.cell? ⟨w.heap.size, 1, none⟩ = some (.int .i64 c2) := blk_cell HA.out rfl
      have q2 : w5.cell? ⟨w.heap.size, 2, none⟩ = some (.int .i64 c3) := blk_cell HA.out rfl
      have q3 : w5.cell? ⟨w.heap.size, 3, none⟩ = some (.bool in0) := blk_cell HA.out rfl
      have q4 : w5.cell? ⟨w.heap.size, 4, none⟩ = some (.int .i64 left) := blk_cell HA.out rfl
      have r0 : w5.cell? ⟨X, 0, none⟩ = some (.int .i64 0) := blk_cell HXB.out rfl
      have r1 : w5.cell? ⟨X, 1, none⟩ = some (.int .i64 0) := blk_cell HXB.out rfl
      have r2 : w5.cell? ⟨X, 2, none⟩ = some (.int .i64 0) := blk_cell HXB.out rfl
      have r3 : w5.cell? ⟨X, 3, none⟩ = some (.bool false) := blk_cell HXB.out rfl
      have r4 : w5.cell? ⟨X, 4, none⟩ = some (.bool false) := blk_cell HXB.out rfl
      have r5 : w5.cell? ⟨X, 5, none⟩ = some (.bool false) := blk_cell HXB.out rfl
      go_wp2_with fail
      refine (X3.out _).mono ?_
      rintro e w6 ⟨rfl, hb6⟩
      replace HA : Aside (w6.heap[w.heap.size]? = some (.cells #[.int .i64 c1, .int .i64 c2, .int .i64 c3, .bool in0, .int .i64 left] 26 (0, 0))) := (hb6.block _ (Array.getElem?_eq_some_iff.1 HA.out).1).trans HA.out
      replace HXB : Aside (w6.heap[X]? = some (.cells #[.int .i64 0, .int .i64 0, .int .i64 0, .bool false, .bool false, .bool false] 30 (0, 0))) := (hb6.block _ (Array.getElem?_eq_some_iff.1 HXB.out).1).trans HXB.out
      replace HB : Aside (Below w.heap.size w w6) := HB.out.trans (hb6.mono HB.out.size)
      clear hb6 q0 q1 q2 q3 q4 r0 r1 r2 r3 r4 r5 X3
      have q0 : w6.cell? ⟨w.heap.size, 0, none⟩ = some (.int .i64 c1) := blk_cell HA.out rfl
      have q1 : w6.cell? ⟨w.heap.size, 1, none⟩ = some (.int .i64 c2) := blk_cell HA.out rfl
      have q2 : w6.cell? ⟨w.heap.size, 2, none⟩ = some (.int .i64 c3) := blk_cell HA.out rfl
      have q3 : w6.cell? ⟨w.heap.size, 3, none⟩ = some (.bool in0) := blk_cell HA.out rfl
      have q4 : w6.cell? ⟨w.heap.size, 4, none⟩ = some (.int .i64 left) := blk_cell HA.out rfl
      have r0 : w6.cell? ⟨X, 0, none⟩ = some (.int .i64 0) := blk_cell HXB.out rfl
      have r1 : w6.cell? ⟨X, 1, none⟩ = some (.int .i64 0) := blk_cell HXB.out rfl
      have r2 : w6.cell? ⟨X, 2, none⟩ = some (.int .i64 0) := blk_cell HXB.out rfl
      have r3 : w6.cell? ⟨X, 3, none⟩ = some (.bool false) := blk_cell HXB.out rfl
      have r4 : w6.cell? ⟨X, 4, none⟩ = some (.bool false) := blk_cell HXB.out rfl
      have r5 : w6.cell? ⟨X, 5, none⟩ = some (.bool false) := blk_cell HXB.out rfl
      go_wp2_with fail
      refine (HK.out _).mono ?_
      rintro e w9 ⟨rfl, hb9⟩
      go_wp2
      go_ret
      exact ⟨rfl, HB.out.trans (hb9.mono HB.out.size)⟩

set_option maxRecDepth 100000 in
set_option maxHeartbeats 8000000 in
theorem lv_good (c1 c2 c3 : Int) (in0 : Bool) (left : Int) (v : Value) (bs : List Int) (w : World) (hs : Sl w 1 eI v bs) (h6 : bs.length ≤ 6) (hbs : ∀ x ∈ bs, -9223372036854775808 ≤ x ∧ x ≤ 9223372036854775807) (hc : vcnt (c1, c2, c3) = true) (hv : vstand (c1, c2, c3) in0 left = true) :
    Calls Try.prog 3 #[.agg #[.int .i64 c1, .int .i64 c2, .int .i64 c3, .bool in0, .int .i64 left], v] w (Ret (.bool true) w) := by
  obtain ⟨i0, hi, hz0, hz1, hz2⟩ := info_parts info_bed
  have HK : Aside (∀ W, Calls Try.prog 13 #[] W (Ret (.bool true) W)) := fun W => known_any W
  have X1 : Aside (∀ W v', Sl W 1 eI v' bs → Calls Try.prog 14 #[cntV (c1, c2, c3), .bool in0, .int .i64 left, v'] W (Ret (visR (visitF (c1, c2, c3) in0 left bs)) W)) := fun W v' h => Visit_any (c1, c2, c3) in0 left v' bs W h hbs
  have X2 : Aside (∀ W, Calls Try.prog 15 #[cntV (c1, c2, c3)] W (Ret (.bool (vcnt (c1, c2, c3))) W)) := fun W => rcount_any _ W
  have X3 : Aside (∀ W, Calls Try.prog 16 #[cntV (c1, c2, c3), .bool in0, .int .i64 left] W (Ret (.bool (vstand (c1, c2, c3) in0 left)) W)) := fun W => rstart_any _ _ _ W
  have X4 : Aside (∀ W, Sl W 1 eI v bs → Calls Try.prog 17 #[cntV (c1, c2, c3), .bool in0, .int .i64 left, v] W (fun e w' => (∃ x : Int, e = .returned (.tuple #[thrV (thr (c1, c2, c3) in0 left bs).1, .int .i64 x, .int .i64 (thr (c1, c2, c3) in0 left bs).2.2])) ∧ Below W.heap.size W w')) := fun W h => rvisit_any (c1, c2, c3) in0 left v bs W h hc hv hbs
  have HV : visitF (c1, c2, c3) in0 left bs = ((thr (c1, c2, c3) in0 left bs).1, (thr (c1, c2, c3) in0 left bs).2.2) := by unfold visitF; rw [if_pos hc, if_pos hv]
  rw [HV] at X1
  rw [hc] at X2
  rw [hv] at X3
  generalize thr (c1, c2, c3) in0 left bs = tr at *
  obtain ⟨⟨tl, ts, td, ti, tb, tw⟩, dt, er⟩ := tr
  unfold visR thrV cntV at *
  simp only [] at *
  clear HV hc hv hbs
  have HS : Aside (Sl w 1 eI v bs) := hs
  obtain ⟨a, cp, rfl, hl, hs'⟩ := hs
  have HSC : Aside (bs ≠ [] → ∃ b off, a = some ⟨b, off, none⟩ ∧ b < w.heap.size ∧ ∀ j x, bs[j]? = some x → ∀ i y, (eI x)[i]? = some y → w.cell? ⟨b, off + j * 1 + i, none⟩ = some y) := hs'
  clear hs'
  obtain ⟨n, hn⟩ : ∃ n, bs.length = n := ⟨_, rfl⟩
  have HN : Aside (bs.length = n) := hn
  rw [hn] at HS h6 hl ⊢
  rw [hn] at X4
  clear hn
  have h6z : ¬ (6 : Int) < (n : Int) := by omega
  go_enter Try.func3, Try.ntmps3
  go_wp2_with (at_builtin; refine wpList_append_sl _ rfl _ _ 27 rfl (w.heap.size + 1) 34 i0 (.int .i64 0) 1 8 Try.underlying27 hi hz0 hz1 hz2 rfl (by decide) (.slice (some ⟨w.heap.size + 1, 0, none⟩) 0 0) 0 [] rfl (by have := owns_empty (w.alloc (.cells #[.int .i64 c1, .int .i64 c2, .int .i64 c3, .bool in0, .int .i64 left] 26)) 34 1; rw [World.size_alloc] at this; exact this) (vy := .slice a n cp) (ys := bs) (enc := eI) rfl (HS.out.below (by (repeat' (first | exact Below.refl _ _ | assumption | (with_reducible refine Below.drew ?_) | (with_reducible refine Below.setCell ?_ (by (first | (simp; done) | (simp; omega))) _) | (with_reducible refine below_drewN' ?_ _) | (refine Below.alloc ?_ (by (try simp only [World.size_alloc, World.size_drew, World.size_setCell]); omega) _) | (refine Below.trans ?_ (Below.mono (by assumption) (by (try simp only [World.size_alloc, World.size_drew, World.size_setCell]); omega))))))) (fun _ => rfl) (eI_one bs) (by rw [HN.out]; unfold maxLen; omega) (by rw [HN.out]; omega) (by simp) ?_; intro v2 w2 hown hgrow; have hB1 : Below w.heap.size w (((w.alloc (.cells #[.int .i64 c1, .int .i64 c2, .int .i64 c3, .bool in0, .int .i64 left] 26)).alloc (.cells #[] 34))) := (by (repeat' (first | exact Below.refl _ _ | assumption | (with_reducible refine Below.drew ?_) | (with_reducible refine Below.setCell ?_ (by (first | (simp; done) | (simp; omega))) _) | (with_reducible refine below_drewN' ?_ _) | (refine Below.alloc ?_ (by (try simp only [World.size_alloc, World.size_drew, World.size_setCell]); omega) _) | (refine Below.trans ?_ (Below.mono (by assumption) (by (try simp only [World.size_alloc, World.size_drew, World.size_setCell]); omega)))))); have hA1 : (((w.alloc (.cells #[.int .i64 c1, .int .i64 c2, .int .i64 c3, .bool in0, .int .i64 left] 26)).alloc (.cells #[] 34))).heap[w.heap.size]? = some (.cells #[.int .i64 c1, .int .i64 c2, .int .i64 c3, .bool in0, .int .i64 left] 26 (0, 0)) := (Below.heap_alloc _ _ _ (by simp)).trans (World.alloc_heap_new' _ _ _ rfl); have HA : Aside (w2.heap[w.heap.size]? = some (.cells #[.int .i64 c1, .int .i64 c2, .int .i64 c3, .bool in0, .int .i64 left] 26 (0, 0))) := (hgrow.block _ (Array.getElem?_eq_some_iff.1 hA1).1 (by simp [Value.ownBlock])).trans hA1; have q0 : w2.cell? ⟨w.heap.size, 0, none⟩ = some (.int .i64 c1) := blk_cell HA.out rfl; have q1 : w2.cell? ⟨w.heap.size, 1, none⟩ = some (.int .i64 c2) := blk_cell HA.out rfl; have q2 : w2.cell? ⟨w.heap.size, 2, none⟩ = some (.int .i64 c3) := blk_cell HA.out rfl; have q3 : w2.cell? ⟨w.heap.size, 3, none⟩ = some (.bool in0) := blk_cell HA.out rfl; have q4 : w2.cell? ⟨w.heap.size, 4, none⟩ = some (.int .i64 left) := blk_cell HA.out rfl)
  have hsl : Sl w2 1 eI v2 bs := sl_owns (fun _ => rfl) (by rw [HN.out]; omega) (by rw [Nat.zero_add, List.nil_append] at hown; exact hown)
  have HB : Aside (Below w.heap.size w w2) := hB1.grown hgrow hB1.size (fun j e => by simp only [Value.ownBlock, Option.some.injEq] at e; omega)
  have H2 : Aside (Sl w2 1 eI v2 bs) := hsl
  obtain ⟨a2, cp2, rfl, hl2, hs2⟩ := hsl
  have HSC2 : Aside (bs ≠ [] → ∃ b off, a2 = some ⟨b, off, none⟩ ∧ b < w2.heap.size ∧ ∀ j x, bs[j]? = some x → ∀ i y, (eI x)[i]? = some y → w2.cell? ⟨b, off + j * 1 + i, none⟩ = some y) := hs2
  rw [HN.out] at H2 hl2 ⊢
  clear hown hgrow hB1 hA1 hs2
  refine (X1.out _ _ H2.out).mono ?_
  rintro e w3 ⟨rfl, hb3⟩
  have HS2 : Aside (Below w2.heap.size w2 w3) := hb3
  replace HA : Aside (w3.heap[w.heap.size]? = some (.cells #[.int .i64 c1, .int .i64 c2, .int .i64 c3, .bool in0, .int .i64 left] 26 (0, 0))) := (hb3.block _ (Array.getElem?_eq_some_iff.1 HA.out).1).trans HA.out
  replace HB : Aside (Below w.heap.size w w3) := HB.out.trans (hb3.mono HB.out.size)
  clear hb3 q0 q1 q2 q3 q4
  go_wp2_with fail
  obtain ⟨X, hX⟩ : ∃ X, X = w3.heap.size := ⟨_, rfl⟩
  obtain ⟨w4, hw4⟩ : ∃ u, u = w3.alloc (.cells #[.int .i64 tl, .int .i64 ts, .int .i64 td, .bool ti, .bool tb, .bool tw] 30) := ⟨_, rfl⟩
  have hb4 : Below w3.heap.size w3 w4 := by rw [hw4]; (repeat' (first | exact Below.refl _ _ | assumption | (with_reducible refine Below.drew ?_) | (with_reducible refine Below.setCell ?_ (by (first | (simp; done) | (simp; omega))) _) | (with_reducible refine below_drewN' ?_ _) | (refine Below.alloc ?_ (by (try simp only [World.size_alloc, World.size_drew, World.size_setCell]); omega) _) | (refine Below.trans ?_ (Below.mono (by assumption) (by (try simp only [World.size_alloc, World.size_drew, World.size_setCell]); omega)))))
  have HXB : Aside (w4.heap[X]? = some (.cells #[.int .i64 tl, .int .i64 ts, .int .i64 td, .bool ti, .bool tb, .bool tw] 30 (0, 0))) := by rw [hw4, hX]; show _ = _; exact World.alloc_heap_new _ _
  rw [← hw4, ← hX]
  replace HA : Aside (w4.heap[w.heap.size]? = some (.cells #[.int .i64 c1, .int .i64 c2, .int .i64 c3, .bool in0, .int .i64 left] 26 (0, 0))) := (hb4.block _ (Array.getElem?_eq_some_iff.1 HA.out).1).trans HA.out
  replace HB : Aside (Below w.heap.size w w4) := HB.out.trans (hb4.mono HB.out.size)
  replace HS2 : Aside (Below w2.heap.size w2 w4) := HS2.out.trans (hb4.mono HS2.out.size)
  clear hb4 hw4 hX
  have HA4 : Aside (w4.heap[w.heap.size]? = some (.cells #[.int .i64 c1, .int .i64 c2, .int .i64 c3, .bool in0, .int .i64 left] 26 (0, 0))) := HA.out
  have HX4 : Aside (w4.heap[X]? = some (.cells #[.int .i64 tl, .int .i64 ts, .int .i64 td, .bool ti, .bool tb, .bool tw] 30 (0, 0))) := HXB.out
  clear HA HXB
  go_loopg [8] n (fun gg i wr => ∃ k : Nat, k ≤ n ∧ n - k ≤ gg ∧ i = .int .i64 k ∧ Aside (Below w4.heap.size w4 wr))
  case atStart => exact ⟨0, Nat.zero_le _, by omega, rfl, Below.refl _ _⟩
  case round =>
    obtain ⟨k, hk, hg, rfl, HW⟩ := hrel
    by_cases hlt : k < n
    · have hltz : (k : Int) < (n : Int) := by omega
      obtain ⟨b, hb⟩ : ∃ b, bs[k]? = some b := ⟨_, List.getElem?_eq_getElem (by rw [HN.out]; exact hlt)⟩
      have hne : bs ≠ [] := by intro e; rw [e] at hb; simp at hb
      obtain ⟨B, off, rfl, hBlt, hcl⟩ := HSC.out hne
      obtain ⟨B2, off2, rfl, hBlt2, hcl2⟩ := HSC2.out hne
      have k1 : wr.cell? ⟨B, off + k, none⟩ = some (.int .i64 b) := keepc HW.out (keepc HB.out (by have := hcl k b hb 0 (.int .i64 b) rfl; simpa using this))
      have k2 : wr.cell? ⟨B2, off2 + k, none⟩ = some (.int .i64 b) := keepc HW.out (keepc HS2.out (by have := hcl2 k b hb 0 (.int .i64 b) rfl; simpa using this))
      clear hcl hcl2 hb hne
      go_wp2_with fail
      go_quiet (fail)
      go_wp2_with fail
      go_roundg (n - (k + 1))
      case measure => omega
      case rel => exact ⟨k + 1, by omega, by omega, by go_num, HW.out.trans (by (repeat' (first | exact Below.refl _ _ | assumption | (with_reducible refine Below.drew ?_) | (with_reducible refine Below.setCell ?_ (by (first | (simp; done) | (simp; omega))) _) | (with_reducible refine below_drewN' ?_ _) | (refine Below.alloc ?_ (by (try simp only [World.size_alloc, World.size_drew, World.size_setCell]); omega) _) | (refine Below.trans ?_ (Below.mono (by assumption) (by (try simp only [World.size_alloc, World.size_drew, World.size_setCell]); omega))))))⟩
    · have hltz : ¬ (k : Int) < (n : Int) := by omega
      have HA : Aside (wr.heap[w.heap.size]? = some (.cells #[.int .i64 c1, .int .i64 c2, .int .i64 c3, .bool in0, .int .i64 left] 26 (0, 0))) := (HW.out.block _ (Array.getElem?_eq_some_iff.1 HA4.out).1).trans HA4.out
      have HXB : Aside (wr.heap[X]? = some (.cells #[.int .i64 tl, .int .i64 ts, .int .i64 td, .bool ti, .bool tb, .bool tw] 30 (0, 0))) := (HW.out.block _ (Array.getElem?_eq_some_iff.1 HX4.out).1).trans HX4.out
      replace HB : Aside (Below w.heap.size w wr) := HB.out.trans (HW.out.mono HB.out.size)
      clear HA4 HX4 HW HS2 HSC HSC2 H2 X1
      have q0 : wr.cell? ⟨w.heap.size, 0, none⟩ = some (.int .i64 c1) := blk_cell HA.out rfl
      have q1 : wr.cell? ⟨w.heap.size, 1, none⟩ = some (.int .i64 c2) := blk_cell HA.out rfl
      have q2 : wr.cell? ⟨w.heap.size, 2, none⟩ = some (.int .i64 c3) := blk_cell HA.out rfl
      have q3 : wr.cell? ⟨w.heap.size, 3, none⟩ = some (.bool in0) := blk_cell HA.out rfl
      have q4 : wr.cell? ⟨w.heap.size, 4, none⟩ = some (.int .i64 left) := blk_cell HA.out rfl
      have r0 : wr.cell? ⟨X, 0, none⟩ = some (.int .i64 tl) := blk_cell HXB.out rfl
      have r1 : wr.cell? ⟨X, 1, none⟩ = some (.int .i64 ts) := blk_cell HXB.out rfl
      have r2 : wr.cell? ⟨X, 2, none⟩ = some (.int .i64 td) := blk_cell HXB.out rfl
      have r3 : wr.cell? ⟨X, 3, none⟩ = some (.bool ti) := blk_cell HXB.out rfl
      have r4 : wr.cell? ⟨X, 4, none⟩ = some (.bool tb) := blk_cell HXB.out rfl
      have r5 : wr.cell? ⟨X, 5, none⟩ = some (.bool tw) := blk_cell HXB.out rfl
      go_wp2_with fail
      refine (X2.out _).mono ?_
      rintro e w5 ⟨rfl, hb5⟩
      replace HA : Aside (w5.heap[w.heap.size]? = some (.cells #[.int .i64 c1, .int .i64 c2, .int .i64 c3, .bool in0, .int .i64 left] 26 (0, 0))) := (hb5.block _ (Array.getElem?_eq_some_iff.1 HA.out).1).trans HA.out
      replace HXB : Aside (w5.heap[X]? = some (.cells #[.int .i64 tl, .int .i64 ts, .int .i64 td, .bool ti, .bool tb, .bool tw] 30 (0, 0))) := (hb5.block _ (Array.getElem?_eq_some_iff.1 HXB.out).1).trans HXB.out
      replace HB : Aside (Below w.heap.size w w5) := HB.out.trans (hb5.mono HB.out.size)
      clear hb5 q0 q1 q2 q3 q4 r0 r1 r2 r3 r4 r5 X2
      have q0 : w5.cell? ⟨w.heap.size, 0, none⟩ = some (.int .i64 c1) := blk_cell HA.out rfl
      have q1 : w5.cell? ⟨w.heap.size, 1, none⟩ = some (.int .i64 c2) := blk_cell HA.out rfl
      have q2 : w5.cell? ⟨w.heap.size, 2, none⟩ = some (.int .i64 c3) := blk_cell HA.out rfl
      have q3 : w5.cell? ⟨w.heap.size, 3, none⟩ = some (.bool in0) := blk_cell HA.out rfl
      have q4 : w5.cell? ⟨w.heap.size, 4, none⟩ = some (.int .i64 left) := blk_cell HA.out rfl
      have r0 : w5.cell? ⟨X, 0, none⟩ = some (.int .i64 tl) := blk_cell HXB.out rfl
      have r1 : w5.cell? ⟨X, 1, none⟩ = some (.int .i64 ts) := blk_cell HXB.out rfl
      have r2 : w5.cell? ⟨X, 2, none⟩ = some (.int .i64 td) := blk_cell HXB.out rfl
      have r3 : w5.cell? ⟨X, 3, none⟩ = some (.bool ti) := blk_cell HXB.out rfl
      have r4 : w5.cell? ⟨X, 4, none⟩ = some (.bool tb) := blk_cell HXB.out rfl
      have r5 : w5.cell? ⟨X, 5, none⟩ = some (.bool tw) := blk_cell HXB.out rfl
      go_wp2_with fail
      refine (X3.out _).mono ?_
      rintro e w6 ⟨rfl, hb6⟩
      replace HA : Aside (w6.heap[w.heap.size]? = some (.cells #[.int .i64 c1, .int .i64 c2, .int .i64 c3, .bool in0, .int .i64 left] 26 (0, 0))) := (hb6.block _ (Array.getElem?_eq_some_iff.1 HA.out).1).trans HA.out
      replace HXB : Aside (w6.heap[X]? = some (.cells #[.int .i64 tl, .int .i64 ts, .int .i64 td, .bool ti, .bool tb, .bool tw] 30 (0, 0))) := (hb6.block _ (Array.getElem?_eq_some_iff.1 HXB.out).1).trans HXB.out
      replace HB : Aside (Below w.heap.size w w6) := HB.out.trans (hb6.mono HB.out.size)
      clear hb6 q0 q1 q2 q3 q4 r0 r1 r2 r3 r4 r5 X3
      have q0 : w6.cell? ⟨w.heap.size, 0, none⟩ = some (.int .i64 c1) := blk_cell HA.out rfl
      have q1 : w6.cell? ⟨w.heap.size, 1, none⟩ = some (.int .i64 c2) := blk_cell HA.out rfl
      have q2 : w6.cell? ⟨w.heap.size, 2, none⟩ = some (.int .i64 c3) := blk_cell HA.out rfl
      have q3 : w6.cell? ⟨w.heap.size, 3, none⟩ = some (.bool in0) := blk_cell HA.out rfl
      have q4 : w6.cell? ⟨w.heap.size, 4, none⟩ = some (.int .i64 left) := blk_cell HA.out rfl
      have r0 : w6.cell? ⟨X, 0, none⟩ = some (.int .i64 tl) := blk_cell HXB.out rfl
      have r1 : w6.cell? ⟨X, 1, none⟩ = some (.int .i64 ts) := blk_cell HXB.out rfl
      have r2 : w6.cell? ⟨X, 2, none⟩ = some (.int .i64 td) := blk_cell HXB.out rfl
      have r3 : w6.cell? ⟨X, 3, none⟩ = some (.bool ti) := blk_cell HXB.out rfl
      have r4 : w6.cell? ⟨X, 4, none⟩ = some (.bool tb) := blk_cell HXB.out rfl
      have r5 : w6.cell? ⟨X, 5, none⟩ = some (.bool tw) := blk_cell HXB.out rfl
      go_wp2_with fail
      refine (X4.out _ (HS.out.below HB.out)).mono ?_
      rintro e w7 ⟨⟨xx, rfl⟩, hb7⟩
      replace HA : Aside (w7.heap[w.heap.size]? = some (.cells #[.int .i64 c1, .int .i64 c2, .int .i64 c3, .bool in0, .int .i64 left] 26 (0, 0))) := (hb7.block _ (Array.getElem?_eq_some_iff.1 HA.out).1).trans HA.out
      replace HXB : Aside (w7.heap[X]? = some (.cells #[.int .i64 tl, .int .i64 ts, .int .i64 td, .bool ti, .bool tb, .bool tw] 30 (0, 0))) := (hb7.block _ (Array.getElem?_eq_some_iff.1 HXB.out).1).trans HXB.out
      replace HB : Aside (Below w.heap.size w w7) := HB.out.trans (hb7.mono HB.out.size)
      clear hb7 q0 q1 q2 q3 q4 r0 r1 r2 r3 r4 r5 X4
      have q0 : w7.cell? ⟨w.heap.size, 0, none⟩ = some (.int .i64 c1) := blk_cell HA.out rfl
      have q1 : w7.cell? ⟨w.heap.size, 1, none⟩ = some (.int .i64 c2) := blk_cell HA.out rfl
      have q2 : w7.cell? ⟨w.heap.size, 2, none⟩ = some (.int .i64 c3) := blk_cell HA.out rfl
      have q3 : w7.cell? ⟨w.heap.size, 3, none⟩ = some (.bool in0) := blk_cell HA.out rfl
      have q4 : w7.cell? ⟨w.heap.size, 4, none⟩ = some (.int .i64 left) := blk_cell HA.out rfl
      have r0 : w7.cell? ⟨X, 0, none⟩ = some (.int .i64 tl) := blk_cell HXB.out rfl
      have r1 : w7.cell? ⟨X, 1, none⟩ = some (.int .i64 ts) := blk_cell HXB.out rfl
      have r2 : w7.cell? ⟨X, 2, none⟩ = some (.int .i64 td) := blk_cell HXB.out rfl
      have r3 : w7.cell? ⟨X, 3, none⟩ = some (.bool ti) := blk_cell HXB.out rfl
      have r4 : w7.cell? ⟨X, 4, none⟩ = some (.bool tb) := blk_cell HXB.out rfl
      have r5 : w7.cell? ⟨X, 5, none⟩ = some (.bool tw) := blk_cell HXB.out rfl
      have hXl : X < w7.heap.size := (Array.getElem?_eq_some_iff.1 HXB.out).1
      go_wp2_with fail
      refine (HK.out _).mono ?_
      rintro e w9 ⟨rfl, hb9⟩
      go_wp2
      go_ret
      exact ⟨rfl, HB.out.trans ((((Below.refl _ _).alloc (Nat.le_refl _) _).trans (hb9.mono (by simp))).mono HB.out.size)⟩

theorem visits_law (c1 c2 c3 : Int) (in0 : Bool) (left : Int) (v : Value) (bs : List Int) (w : World) (hs : Sl w 1 eI v bs) (hbs : ∀ x ∈ bs, -9223372036854775808 ≤ x ∧ x ≤ 9223372036854775807) :
    Calls Try.prog 3 #[.agg #[.int .i64 c1, .int .i64 c2, .int .i64 c3, .bool in0, .int .i64 left], v] w (Ret (.bool true) w) := by
  by_cases h6 : 6 < bs.length
  · exact lv_long c1 c2 c3 in0 left v bs w hs h6
  · cases hc : vcnt (c1, c2, c3) with
    | false => exact lv_count c1 c2 c3 in0 left v bs w hs (by omega) hbs hc
    | true =>
      cases hv : vstand (c1, c2, c3) in0 left with
      | false => exact lv_stand c1 c2 c3 in0 left v bs w hs (by omega) hbs hc hv
      | true => exact lv_good c1 c2 c3 in0 left v bs w hs (by omega) hbs hc hv
end Go.Proofs.Ythcgbceapabikaa
