/- Board, part F: whether the rings of a board are valid. -/
import Derived.Test.YtgceffpkhmjmkaaGreatE
set_option linter.unusedVariables false
set_option linter.unusedSimpArgs false
namespace Go.Proofs.YtgceffpkhmjmkaaGreat
open Go.RowKit Go.Shelf
attribute [local go_sem] Oper.semAt_some

def radOk (wi : Int) : Int → List Int → Bool
  | _, [] => true
  | a, x :: xs => decide (a < x ∧ x ≤ 5000) && radOk wi (x + 2 * wi) xs
def abv (wi : Int) : Int → List Int → Int
  | a, [] => a
  | _, x :: xs => abv wi (x + 2 * wi) xs

theorem radOk_append (wi : Int) (xs ys : List Int) : ∀ a, radOk wi a (xs ++ ys) = (radOk wi a xs && radOk wi (abv wi a xs) ys) := by
  induction xs with
  | nil => intro a; simp [radOk, abv]
  | cons x xs ih => intro a; simp only [List.cons_append, radOk, abv]; rw [ih, Bool.and_assoc]
theorem abv_snoc (wi : Int) (xs : List Int) (y : Int) : ∀ a, abv wi a (xs ++ [y]) = y + 2 * wi := by
  induction xs with
  | nil => intro a; simp [abv]
  | cons x xs ih => intro a; simp only [List.cons_append, abv]; exact ih _
theorem radOk_snoc (wi : Int) (xs : List Int) (y a : Int) : radOk wi a (xs ++ [y]) = (radOk wi a xs && decide (abv wi a xs < y ∧ y ≤ 5000)) := by
  rw [radOk_append]; simp [radOk]
theorem radOk_prefix {wi a : Int} {pre xs : List Int} (h : pre <+: xs) (hf : radOk wi a pre = false) : radOk wi a xs = false := by
  obtain ⟨t, rfl⟩ := h
  rw [radOk_append, hf]; rfl
theorem abv_pos (wi : Int) (hw : 0 ≤ wi) (xs : List Int) : ∀ a, 0 ≤ a → radOk wi a xs = true → 0 ≤ abv wi a xs := by
  induction xs with
  | nil => intro a ha _; exact ha
  | cons x xs ih =>
    intro a ha h
    simp only [radOk, Bool.and_eq_true, decide_eq_true_eq] at h
    exact ih _ (by omega) h.2

def ringsOk (b : Brd) : Bool := !(b.rings.isEmpty) && b.rings.all (fun r => inb 0 4 r.2) && radOk b.wire b.wire (radii b)

theorem keepsOthers_of_below {W W' : World} (h : Below W.heap.size W W') : KeepsOthers W W' :=
  ⟨h.size, fun k o hk _ => (h.block k (Array.getElem?_eq_some_iff.1 hk).1).trans hk⟩

theorem cellOther {W : World} {p q : Addr} {u v : Value} (h : q.block ≠ p.block) (hv : W.cell? q = some v) : (W.setCell p u).cell? q = some v := (World.cell?_of_block (Below.heap_setCell W p u q.block h)).trans hv

theorem kept_setCell {n₀ Bt : Nat} {W : World} {p : Addr} (u : Value) (h : n₀ ≤ p.block) (h' : Bt ≠ p.block) : Kept n₀ Bt W (W.setCell p u) := ⟨(Below.refl n₀ W).setCell h u, Below.heap_setCell W p u Bt h'⟩

set_option maxRecDepth 100000 in
set_option maxHeartbeats 2000000 in
theorem validRings_any (v : Value) (b : Brd) (w : World) (h : BrdAt w v b) (hw0 : 0 ≤ b.wire) (hw1 : b.wire ≤ 20) :
    Calls Tryz.prog 63 #[v] w (Ret (.bool (ringsOk b)) w) := by
  obtain ⟨vr, vl, vn, rfl, hr, hl, hn⟩ := h
  have hcon := fun W (hW : Below w.heap.size w W) => rings_any (fun r => !inb 0 4 r.2) 83 #[] (enters_of Tryz.func83 (by kernel_rfl) rfl) vr b.rings W (hr.below hW) (fun W' hW' x _ => ringWrong_any x W')
  have HR : Aside (Sl w 2 encP vr b.rings) := hr
  obtain ⟨ar, cr, rfl, lr, _⟩ := hr
  obtain ⟨al, cl, rfl, ll, _⟩ := hl
  obtain ⟨an, cn, rfl, ln, _⟩ := hn
  by_cases he : b.rings = []
  · have e1 : ringsOk b = false := by unfold ringsOk; rw [he]; rfl
    rw [e1]
    have e2 : b.rings.length = 0 := by rw [he]; rfl
    rw [e2] at *
    clear hcon HR e1 he e2
    generalize b.lines.length = lenl at *
    generalize b.nums.length = lenn at *
    go_enter Tryz.func63, Tryz.ntmps63
    go_wp2
    exact bodyPost_ret (v := .bool false) (by simp [results, Tryz.results63, go_sem]) rfl ⟨rfl, by (repeat' (first | exact Below.refl _ _ | assumption | (with_reducible refine Below.drew ?_) | (with_reducible refine Below.setCell ?_ (by (first | (simp; done) | (simp; omega))) _) | (with_reducible refine below_drewN' ?_ _) | (refine Below.alloc ?_ (by (try simp only [World.size_alloc, World.size_drew, World.size_setCell]); omega) _) | (refine Below.trans ?_ (Below.mono (by assumption) (by (try simp only [World.size_alloc, World.size_drew, World.size_setCell]); omega)))))⟩
  · have hne : b.rings.length ≠ 0 := by simpa using he
    have hz : ¬ ((b.rings.length : Int) = 0) := by omega
    cases hbad : b.rings.any (fun r => !inb 0 4 r.2) with
    | true =>
      have e1 : ringsOk b = false := by
        unfold ringsOk
        have : b.rings.all (fun r => inb 0 4 r.2) = false := by rw [← not_any_not, hbad]; rfl
        rw [this]; simp
      rw [e1]
      rw [hbad] at hcon
      clear e1 hbad he hne HR
      have hz' : ((b.rings.length : Int) == 0) = false := by simpa using hz
      generalize b.rings.length = len at *
      generalize b.lines.length = lenl at *
      generalize b.nums.length = lenn at *
      generalize b.wire = wi at *
      go_enter Tryz.func63, Tryz.ntmps63
      go_wp2_with (go_at_call 84; refine (hcon _ ?_).mono ?_; (repeat' (first | exact Below.refl _ _ | assumption | (with_reducible refine Below.drew ?_) | (with_reducible refine Below.setCell ?_ (by (first | (simp; done) | (simp; omega))) _) | (with_reducible refine below_drewN' ?_ _) | (refine Below.alloc ?_ (by (try simp only [World.size_alloc, World.size_drew, World.size_setCell]); omega) _) | (refine Below.trans ?_ (Below.mono (by assumption) (by (try simp only [World.size_alloc, World.size_drew, World.size_setCell]); omega))))); rintro e w1 ⟨rfl, hb1⟩; (obtain ⟨hc1, hf1⟩ := bcell hb1; have z1 := hb1.size; (try simp only [World.size_alloc, World.size_drew, World.size_setCell] at z1); (try have q1a : w.heap.size < w1.heap.size := by omega); (try have q1b : w.heap.size + 1 < w1.heap.size := by omega); (try have q1c : w.heap.size + 1 + 1 < w1.heap.size := by omega); (try have q1d : w.heap.size + 1 + 1 + 1 < w1.heap.size := by omega); (try have q1e : wr.heap.size < w1.heap.size := by omega); (try have q1f : wr.heap.size + 1 < w1.heap.size := by omega)))
      exact bodyPost_ret (v := .bool false) (by simp [results, Tryz.results63, go_sem, hc1, hf1]) rfl ⟨rfl, by (repeat' (first | exact Below.refl _ _ | assumption | (with_reducible refine Below.drew ?_) | (with_reducible refine Below.setCell ?_ (by (first | (simp; done) | (simp; omega))) _) | (with_reducible refine below_drewN' ?_ _) | (refine Below.alloc ?_ (by (try simp only [World.size_alloc, World.size_drew, World.size_setCell]); omega) _) | (refine Below.trans ?_ (Below.mono (by assumption) (by (try simp only [World.size_alloc, World.size_drew, World.size_setCell]); omega)))))⟩
    | false =>
      have e1 : ringsOk b = radOk b.wire b.wire (radii b) := by
        unfold ringsOk
        have : b.rings.all (fun r => inb 0 4 r.2) = true := by rw [← not_any_not, hbad]; rfl
        rw [this]; simp [he]
      rw [e1]
      rw [hbad] at hcon
      clear e1 hbad he hne
      generalize b.rings.length = len at *
      generalize b.lines.length = lenl at *
      generalize b.nums.length = lenn at *
      generalize b.wire = wi at *
      refine callsIn_wide (n := 10).1 ?_
      refine callsIn_of_wp_marks Tryz.func63 rfl trivial ?_ rfl
      simp only [Tryz.ntmps63, List.size_toArray, List.length_cons, List.length_nil, Nat.reduceAdd, Nat.reduceSub, Array.replicate_succ, Array.replicate_zero, List.push_toArray, List.append_toArray, List.nil_append, List.cons_append]
      gi_wp2_with (first | (refine ⟨trivial, ?_⟩; gi_at_call 84; refine (callsIn_wide.2 (hcon _ ?_)).mono ?_; (repeat' (first | exact Below.refl _ _ | assumption | (with_reducible refine Below.drew ?_) | (with_reducible refine Below.setCell ?_ (by (first | (simp; done) | (simp; omega))) _) | (with_reducible refine below_drewN' ?_ _) | (refine Below.alloc ?_ (by (try simp only [World.size_alloc, World.size_drew, World.size_setCell]); omega) _) | (refine Below.trans ?_ (Below.mono (by assumption) (by (try simp only [World.size_alloc, World.size_drew, World.size_setCell]); omega))))); rintro e w1 ⟨rfl, hb1⟩; (obtain ⟨hc1, hf1⟩ := bcell hb1; have z1 := hb1.size; (try simp only [World.size_alloc, World.size_drew, World.size_setCell] at z1); (try have q1a : w.heap.size < w1.heap.size := by omega); (try have q1b : w.heap.size + 1 < w1.heap.size := by omega); (try have q1c : w.heap.size + 1 + 1 < w1.heap.size := by omega); (try have q1d : w.heap.size + 1 + 1 + 1 < w1.heap.size := by omega); (try have q1e : wr.heap.size < w1.heap.size := by omega); (try have q1f : wr.heap.size + 1 < w1.heap.size := by omega))) | (refine ⟨trivial, ?_⟩; gi_at_call 85; refine (callsIn_wide.2 (radii_any _ _ _ _ _ _ _)).mono ?_; rintro e w2 ⟨rfl, rfl⟩))
      obtain ⟨W0, hW0⟩ : ∃ W0, W0 = ((w1.alloc (.cells #[.int .i64 wi] 3)).alloc (.cells #[.int .i64 b.eye, .int .i64 b.bull, .slice ar len cr, .slice al lenl cl, .slice an lenn cn, .int .i64 wi] 82)) := ⟨_, rfl⟩
      have s0 : W0.heap.size = w1.heap.size + 1 + 1 := by rw [hW0]; simp
      have B0 : Below w.heap.size w W0 := by rw [hW0]; clear hW0; (repeat' (first | exact Below.refl _ _ | assumption | (with_reducible refine Below.drew ?_) | (with_reducible refine Below.setCell ?_ (by (first | (simp; done) | (simp; omega))) _) | (with_reducible refine below_drewN' ?_ _) | (refine Below.alloc ?_ (by (try simp only [World.size_alloc, World.size_drew, World.size_setCell]); omega) _) | (refine Below.trans ?_ (Below.mono (by assumption) (by (try simp only [World.size_alloc, World.size_drew, World.size_setCell]); omega)))))
      have g0 : W0.cell? ⟨w.heap.size, 5, none⟩ = some (.int .i64 wi) := by rw [hW0]; clear hW0; go_simp
      have g1 : W0.cell? ⟨w.heap.size + 1, 0, none⟩ = some (.bool false) := by rw [hW0]; clear hW0; go_simp
      have g2 : W0.frozen? ⟨w.heap.size + 1, 0, none⟩ = false := by rw [hW0]; clear hW0; go_simp
      have g3 : W0.cell? ⟨w1.heap.size, 0, none⟩ = some (.int .i64 wi) := by rw [hW0]; clear hW0; go_simp
      have g4 : W0.frozen? ⟨w1.heap.size, 0, none⟩ = false := by rw [hW0]; clear hW0; go_simp
      have i0 : W0.cell? ⟨w1.heap.size + 1, 0, none⟩ = some (.int .i64 b.eye) := by rw [hW0]; clear hW0; go_simp
      have i1 : W0.cell? ⟨w1.heap.size + 1, 1, none⟩ = some (.int .i64 b.bull) := by rw [hW0]; clear hW0; go_simp
      have i2 : W0.cell? ⟨w1.heap.size + 1, 2, none⟩ = some (.slice ar len cr) := by rw [hW0]; clear hW0; go_simp
      rw [← hW0]
      clear hW0
      clear hc1 hf1
      refine wpIn_rangeFunc_ownF rfl (by decide) (gf := 103) (lb := #[.pointer (some ⟨w1.heap.size + 1, 0, none⟩)]) rfl trivial (enters_of Tryz.func103 (by kernel_rfl) rfl)
        (radii_stops 9 (by decide) (w1.heap.size + 1) w.heap.size b (.slice ar len cr) W0 (by omega) (by omega) i0 i1 i2 w HR.out (Nat.le_refl _) B0) Kept.trans (keptK_b (by omega) (by omega)) (Below.refl _ _) (fun _ => rfl)
        (fun pre W => (radOk wi wi pre = true ∧ W.cell? ⟨w.heap.size, 5, none⟩ = some (.int .i64 wi) ∧ W.cell? ⟨w.heap.size + 1, 0, none⟩ = some (.bool false) ∧ W.frozen? ⟨w.heap.size + 1, 0, none⟩ = false ∧ W.cell? ⟨w1.heap.size, 0, none⟩ = some (.int .i64 (abv wi wi pre)) ∧ W.frozen? ⟨w1.heap.size, 0, none⟩ = false) ∧ Below w.heap.size w W)
        (fun c pre W => (c = .ret ∧ radOk wi wi pre = false ∧ W.cell? ⟨w.heap.size + 1, 0, none⟩ = some (.bool false)) ∧ Below w.heap.size w W)
        (OwnFrom.and (Own.from (fun s A B row hs hg hr => ⟨hs.1, cell_kept hs.2.1 hg hr, cell_kept hs.2.2.1 hg hr, (frozen_kept hs.2.2.1 hg hr).trans hs.2.2.2.1, cell_kept hs.2.2.2.2.1 hg hr, (frozen_kept hs.2.2.2.2.1 hg hr).trans hs.2.2.2.2.2⟩) _) (ownFrom_below (Nat.le_refl _) (by omega)))
        (fun c => OwnFrom.and (Own.from (fun s A B row hs hg hr => ⟨hs.1, hs.2.1, cell_kept hs.2.2 hg hr⟩) _) (ownFrom_below (Nat.le_refl _) (by omega)))
        ⟨⟨rfl, g0, g1, g2, g3, g4⟩, B0⟩
        (fun x => { tmps := #[.agg #[.int .i64 b.eye, .int .i64 b.bull, .slice ar len cr, .slice al lenl cl, .slice an lenn cn, .int .i64 wi],
          .pointer (some ⟨w.heap.size, 0, none⟩), .pointer (some ⟨w.heap.size + 1, 0, none⟩), .func (.func 83) #[] #[], .pointer (some ⟨w1.heap.size, 0, none⟩), .int .i64 x,
          .pointer (some ⟨w.heap.size, 0, none⟩), .pointer (some ⟨w.heap.size, 2, none⟩), .slice ar len cr, .int .i64 len, .bool false, .bool false, .pointer (some ⟨w.heap.size, 0, none⟩), .pointer (some ⟨w.heap.size, 2, none⟩), .slice ar len cr,
          .func (.func 83) #[] #[], .bool false, .bool false, .pointer (some ⟨w.heap.size, 0, none⟩), .pointer (some ⟨w.heap.size, 5, none⟩), .int .i64 wi,
          .agg #[.int .i64 b.eye, .int .i64 b.bull, .slice ar len cr, .slice al lenl cl, .slice an lenn cn, .int .i64 wi],
          .func (.func 103) #[] #[.pointer (some ⟨w1.heap.size + 1, 0, none⟩)], .int .i64 x, undef, undef, undef, undef, undef, undef, undef, undef, undef, undef, undef, undef, undef], defers := [] }) ?assign ?body ?done ?stop
      case assign =>
        intro l x W K hK
        gi_wp2
        exact hK
      case body =>
        rintro l pre x W ⟨⟨hok, k0, k1, k2, k3, k4⟩, hB⟩ _
        have hA := abv_pos wi hw0 pre wi hw0 hok
        have HS : Aside (radOk wi wi (pre ++ [x]) = decide (abv wi wi pre < x ∧ x ≤ 5000)) := by rw [radOk_snoc, hok]; rfl
        have HV : Aside (abv wi wi (pre ++ [x]) = x + 2 * wi) := abv_snoc wi pre x wi
        clear hok
        generalize abv wi wi pre = A at *
        by_cases hx1 : x ≤ A
        · gi_wp2
          exact ⟨KeepsOthers.setCell _ _ _, ⟨rfl, by rw [HS.out]; simp; omega, World.cell?_setCell_same' _ _ _ (by rw [k1]; rfl)⟩, hB.setCell (p := ⟨w.heap.size + 1, 0, none⟩) (by simp) _⟩
        · by_cases hx2 : 5000 < x
          · gi_wp2
            exact ⟨KeepsOthers.setCell _ _ _, ⟨rfl, by rw [HS.out]; simp; omega, World.cell?_setCell_same' _ _ _ (by rw [k1]; rfl)⟩, hB.setCell (p := ⟨w.heap.size + 1, 0, none⟩) (by simp) _⟩
          · gi_wp2
            refine ⟨KeepsOthers.setCell _ _ _, kept_setCell _ (by simp; omega) (by simp), ⟨by rw [HS.out]; simp; omega, cellOther (by simp; omega) k0, cellOther (by simp; omega) k1, by rw [World.frozen?_setCell]; exact k2, ?_, by rw [World.frozen?_setCell]; exact k4⟩, hB.setCell (p := ⟨w1.heap.size, 0, none⟩) (by simp; omega) _⟩
            rw [HV.out]; exact World.cell?_setCell_same' _ _ _ (by rw [k3]; rfl)
      case done =>
        rintro D ys W hD rfl ⟨⟨hok, k0, k1, k2, k3, k4⟩, hB⟩ hK
        gi_wp2
        have hK' := (KeepsOthers.setCell W ⟨w.heap.size + 1, 0, none⟩ (.bool true)).same D _ hK rfl
        refine ⟨by simp, .inl ⟨_, _, rfl, run_takeDeferred hK', ?_⟩⟩
        have hc5 := cell_kept (World.cell?_setCell_same' W ⟨w.heap.size + 1, 0, none⟩ (.bool true) (by rw [k1]; rfl)) (grownBy_putObj' _ D (.deferred none)) (fun r e => by cases e; exact ⟨_, hK', rfl⟩)
        refine ⟨.bool true, ?_, (by rw [hok]), (hB.setCell (p := ⟨w.heap.size + 1, 0, none⟩) (by simp) _).trans (belowK_b (w := w) (Nat.le_refl _) _ D _ _ (by omega) hK' rfl rfl)⟩
        simp [results, Tryz.f63, go_sem, hc5]
      case stop =>
        rintro D c pre W hD hpre ⟨⟨rfl, hf, hcr⟩, hB⟩ hK
        gi_wp2
        refine ⟨by simp, .inl ⟨_, _, rfl, run_takeDeferred hK, ?_⟩⟩
        have hc5 := cell_kept hcr (grownBy_putObj' _ D (.deferred none)) (fun r e => by cases e; exact ⟨_, hK, rfl⟩)
        refine ⟨.bool false, ?_, (by rw [radOk_prefix hpre hf]), hB.trans (belowK_b (w := w) (Nat.le_refl _) W D _ _ (by omega) hK rfl rfl)⟩
        simp [results, Tryz.f63, go_sem, hc5]
end Go.Proofs.YtgceffpkhmjmkaaGreat
