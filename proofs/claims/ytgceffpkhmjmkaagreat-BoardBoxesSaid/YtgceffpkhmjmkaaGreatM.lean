/- Board, part M: whether a dart is on the wire of a circle. -/
import Derived.Test.YtgceffpkhmjmkaaGreatL
import Derived.Test.YtgceffpkhmjmkaaGreatR
set_option linter.unusedVariables false
set_option linter.unusedSimpArgs false
namespace Go.Proofs.YtgceffpkhmjmkaaGreat
open Go.RowKit Go.Shelf
attribute [local go_sem] Oper.semAt_some

def onRad (wi q r : Int) : Bool := decide ((r - wi) * (r - wi) ≤ q) && decide (q ≤ (r + wi) * (r + wi))
def anyR (wi q : Int) (l : List Int) : Bool := l.any (onRad wi q)
theorem anyR_append (wi q : Int) (l m : List Int) : anyR wi q (l ++ m) = (anyR wi q l || anyR wi q m) := by unfold anyR; exact List.any_append
theorem anyR_one (wi q x : Int) : anyR wi q [x] = onRad wi q x := by simp [anyR]
def anyS {b : Brd} (wi q : Int) (l : List { x : Int // x ∈ radii b }) : Bool := anyR wi q (l.map (·.1))
theorem anyS_snoc {b : Brd} (wi q : Int) (l : List { x : Int // x ∈ radii b }) (x : { x : Int // x ∈ radii b }) : anyS wi q (l ++ [x]) = (anyS wi q l || onRad wi q x.1) := by unfold anyS; rw [List.map_append, anyR_append]; exact congrArg _ (anyR_one wi q x.1)
def onCircle (b : Brd) (d : Int × Int) : Bool := anyR b.wire (dt d d) (radii b)

set_option maxRecDepth 100000 in
set_option maxHeartbeats 4000000 in
theorem onCircle_any (vr vl vn : Value) (b : Brd) (d : Int × Int) (w : World) (hr : Sl w 2 encP vr b.rings) (hl : Sl w 2 encP vl b.lines) (hn : Sl w 1 (fun x => [Value.int .i64 x]) vn b.nums) (g : Good b) (hd : Pt5 d) :
    Calls Tryz.prog 66 #[thr b d vr vl vn] w (Ret (.bool (onCircle b d)) w) := by
  have x1 := fun W => square_any d W hd.near
  have hq := dt_bd5 hd hd
  have hw0 := g.wire0
  have hw1 := g.wire1
  have HG : Aside (∀ r ∈ radii b, 0 < r ∧ r ≤ 5000) := g.rad
  obtain ⟨hq1, hq2⟩ := hq
  have HR : Aside (Sl w 2 encP vr b.rings) := hr
  obtain ⟨ar, cr, rfl, lr, _⟩ := hr
  obtain ⟨al, cl, rfl, ll, _⟩ := hl
  obtain ⟨an, cn, rfl, ln, _⟩ := hn
  clear g hd
  unfold onCircle
  unfold thr
  unfold pt at x1
  generalize dt d d = q at *
  have HE : Aside (∀ v, (radii b).any (onRad b.wire q) = v → (radii b).any (onRad b.wire q) = v) := fun _ h => h
  generalize b.rings.length = len at *
  generalize b.lines.length = lenl at *
  generalize b.nums.length = lenn at *
  generalize b.wire = wi at *
  obtain ⟨dx, dy⟩ := d
  simp only [] at x1
  refine callsIn_wide (n := 10).1 ?_
  refine callsIn_of_wp_marks Tryz.func66 rfl trivial ?_ rfl
  simp only [Tryz.ntmps66, List.size_toArray, List.length_cons, List.length_nil, Nat.reduceAdd, Nat.reduceSub, Array.replicate_succ, Array.replicate_zero, List.push_toArray, List.append_toArray, List.nil_append, List.cons_append]
  gi_wp2_with (first | (refine ⟨trivial, ?_⟩; gi_at_call 68; refine (callsIn_wide.2 (x1 _)).mono ?_; rintro e w1 ⟨rfl, hb1⟩; (obtain ⟨hc1, hf1⟩ := bcell hb1; have z1 := hb1.size; (try simp only [World.size_alloc, World.size_drew, World.size_setCell] at z1); (try have q1a : w.heap.size < w1.heap.size := by omega); (try have q1b : w.heap.size + 1 < w1.heap.size := by omega); (try have q1c : w.heap.size + 1 + 1 < w1.heap.size := by omega); (try have q1d : w.heap.size + 1 + 1 + 1 < w1.heap.size := by omega); (try have q1e : wr.heap.size < w1.heap.size := by omega); (try have q1f : wr.heap.size + 1 < w1.heap.size := by omega))) | (refine ⟨trivial, ?_⟩; gi_at_call 85; refine (callsIn_wide.2 (radii_any _ _ _ _ _ _ _)).mono ?_; rintro e w2 ⟨rfl, rfl⟩))
  obtain ⟨W0, hW0⟩ : ∃ W0, W0 = ((w1.alloc (.cells #[.int .i64 q] 3)).alloc (.cells #[.int .i64 b.eye, .int .i64 b.bull, .slice ar len cr, .slice al lenl cl, .slice an lenn cn, .int .i64 wi] 82)) := ⟨_, rfl⟩
  have s0 : W0.heap.size = w1.heap.size + 1 + 1 := by rw [hW0]; simp
  have B0 : Below w.heap.size w W0 := by rw [hW0]; clear hW0; (repeat' (first | exact Below.refl _ _ | assumption | (with_reducible refine Below.drew ?_) | (with_reducible refine Below.setCell ?_ (by (first | (simp; done) | (simp; omega))) _) | (with_reducible refine below_drewN' ?_ _) | (refine Below.alloc ?_ (by (try simp only [World.size_alloc, World.size_drew, World.size_setCell]); omega) _) | (refine Below.trans ?_ (Below.mono (by assumption) (by (try simp only [World.size_alloc, World.size_drew, World.size_setCell]); omega)))))
  have g0 : W0.cell? ⟨w.heap.size, 5, none⟩ = some (.int .i64 wi) := by rw [hW0]; clear hW0; go_simp
  have g1 : W0.cell? ⟨w.heap.size + 1, 0, none⟩ = some (.bool false) := by rw [hW0]; clear hW0; go_simp
  have g2 : W0.frozen? ⟨w.heap.size + 1, 0, none⟩ = false := by rw [hW0]; clear hW0; go_simp
  have g3 : W0.cell? ⟨w1.heap.size, 0, none⟩ = some (.int .i64 q) := by rw [hW0]; clear hW0; go_simp
  have i0 : W0.cell? ⟨w1.heap.size + 1, 0, none⟩ = some (.int .i64 b.eye) := by rw [hW0]; clear hW0; go_simp
  have i1 : W0.cell? ⟨w1.heap.size + 1, 1, none⟩ = some (.int .i64 b.bull) := by rw [hW0]; clear hW0; go_simp
  have i2 : W0.cell? ⟨w1.heap.size + 1, 2, none⟩ = some (.slice ar len cr) := by rw [hW0]; clear hW0; go_simp
  rw [← hW0]
  clear hW0 hc1 hf1 x1
  refine wpIn_rangeFunc_ownF rfl (by decide) (gf := 103) (lb := #[.pointer (some ⟨w1.heap.size + 1, 0, none⟩)]) rfl trivial (enters_of Tryz.func103 (by kernel_rfl) rfl)
    (radii_stopsR 9 (by decide) (w1.heap.size + 1) w.heap.size b (.slice ar len cr) W0 (by omega) (by omega) i0 i1 i2 w HR.out (Nat.le_refl _) B0) Kept.trans (keptK_b (by omega) (by omega)) (Below.refl _ _) (fun _ => rfl)
    (fun pre W => (anyS wi q pre = false ∧ W.cell? ⟨w.heap.size, 5, none⟩ = some (.int .i64 wi) ∧ W.cell? ⟨w.heap.size + 1, 0, none⟩ = some (.bool false) ∧ W.frozen? ⟨w.heap.size + 1, 0, none⟩ = false ∧ W.cell? ⟨w1.heap.size, 0, none⟩ = some (.int .i64 q) ∧ W.cell? ⟨w1.heap.size + 1, 0, none⟩ = some (.int .i64 b.eye)) ∧ Below w.heap.size w W)
    (fun c pre W => (c = .ret ∧ anyS wi q pre = true ∧ W.cell? ⟨w.heap.size + 1, 0, none⟩ = some (.bool true)) ∧ Below w.heap.size w W)
    (OwnFrom.and (Own.from (fun s A B row hs hg hr => ⟨hs.1, cell_kept hs.2.1 hg hr, cell_kept hs.2.2.1 hg hr, (frozen_kept hs.2.2.1 hg hr).trans hs.2.2.2.1, cell_kept hs.2.2.2.2.1 hg hr, cell_kept hs.2.2.2.2.2 hg hr⟩) _) (ownFrom_below (Nat.le_refl _) (by omega)))
    (fun c => OwnFrom.and (Own.from (fun s A B row hs hg hr => ⟨hs.1, hs.2.1, cell_kept hs.2.2 hg hr⟩) _) (ownFrom_below (Nat.le_refl _) (by omega)))
    ⟨⟨rfl, g0, g1, g2, g3, i0⟩, B0⟩
    (fun x => { tmps := #[.agg #[.int .i64 b.eye, .int .i64 b.bull, .slice ar len cr, .slice al lenl cl, .slice an lenn cn, .int .i64 wi, .int .i64 dx, .int .i64 dy],
          .pointer (some ⟨w.heap.size, 0, none⟩), .pointer (some ⟨w.heap.size + 1, 0, none⟩), .pointer (some ⟨w1.heap.size, 0, none⟩), .int .i64 x.1, undef, undef,
          .pointer (some ⟨w.heap.size, 6, none⟩), .agg #[.int .i64 dx, .int .i64 dy], .int .i64 q, .pointer (some ⟨w.heap.size, 0, none⟩),
          .agg #[.int .i64 b.eye, .int .i64 b.bull, .slice ar len cr, .slice al lenl cl, .slice an lenn cn, .int .i64 wi],
          .func (.func 103) #[] #[.pointer (some ⟨w1.heap.size + 1, 0, none⟩)], .int .i64 x.1, undef, undef, undef, undef, undef, undef, undef, undef, undef, undef, undef, undef, undef, undef, undef, undef, undef, undef, undef, undef, undef, undef, undef, undef], defers := [] }) ?assign ?body ?done ?stop
  case assign =>
    intro l x W K hK
    gi_wp2
    exact hK
  case body =>
    rintro l pre ⟨x, hx⟩ W ⟨⟨hno, k0, k1, k2, k3, k4⟩, hB⟩ _
    obtain ⟨hx0, hx1⟩ := HG.out x hx
    have HS : Aside (anyS wi q (pre ++ [(⟨x, hx⟩ : { x : Int // x ∈ radii b })]) = onRad wi q x) := by
      show _ = _
      rw [anyS_snoc, hno]; rfl
    clear hno
    have b1 := mul_bd (x - wi) (x - wi) 5100 5100 (by omega) (by omega) (by omega) (by omega)
    have b2 := mul_bd (x + wi) (x + wi) 5100 5100 (by omega) (by omega) (by omega) (by omega)
    have e1 : IntKind.i64.wrap (x - wi) = x - wi := IntWalk.i64_in _ (by omega)
    have e2 : IntKind.i64.wrap (x + wi) = x + wi := IntWalk.i64_in _ (by omega)
    obtain ⟨b3, b4⟩ := b1
    obtain ⟨b5, b6⟩ := b2
    simp only []
    have hBt : w1.heap.size + 1 < W.heap.size := World.block_lt_of_cell? W _ k4
    by_cases h1 : (x - wi) * (x - wi) ≤ q
    · by_cases h2 : q ≤ (x + wi) * (x + wi)
      · gi_wp2
        refine regionR_class (fun w' => Below W.heap.size W w' ∧ w'.cell? ⟨w.heap.size, 5, none⟩ = some (.int .i64 wi)) (by kernel_rfl) (by simp) (by kernel_rfl) ⟨(Below.refl _ _).drew, k0⟩ ?_
        iterate 14 (first | go_big_quiet_skip | (go_big_quiet_want; unfold Oper.quiet; apply Exists.intro; refine ⟨fun W hW => ?_, ?_⟩; (go_split_ands; unfold Oper.quietAt; go_simp; first | rfl | exact ⟨rfl, rfl⟩ | skip); go_big_quiet_on; (try simp only [Act.put, List.setIfInBounds_toArray, List.set_cons_zero, List.set_cons_succ])))
        refine wpQuiet_nil ?_
        intro W' hW
        obtain ⟨hW', _⟩ := hW
        have m1 := keepc hW' k1
        have m2 : W'.frozen? ⟨w.heap.size + 1, 0, none⟩ = false := (hW'.frozen (p := ⟨w.heap.size + 1, 0, none⟩) (World.block_lt_of_cell? W _ k1)).trans k2
        have m3 := keepc hW' k3
        have hB' : Below w.heap.size w W' := hB.trans (hW'.mono hB.size)
        have kK : Kept w.heap.size (w1.heap.size + 1) W W' := ⟨hW'.mono hB.size, hW'.block _ (by omega)⟩
        have kO := keepsOthers_of_below hW'
        gi_wp2
        exact ⟨kO.trans (KeepsOthers.setCell _ _ _), ⟨rfl, by rw [HS.out]; unfold onRad; rw [decide_eq_true h1, decide_eq_true h2]; rfl, World.cell?_setCell_same' _ _ _ (by rw [m1]; rfl)⟩, hB'.setCell (p := ⟨w.heap.size + 1, 0, none⟩) (by simp) _⟩
      · gi_wp2
        refine regionR_class (fun w' => Below W.heap.size W w' ∧ w'.cell? ⟨w.heap.size, 5, none⟩ = some (.int .i64 wi)) (by kernel_rfl) (by simp) (by kernel_rfl) ⟨(Below.refl _ _).drew, k0⟩ ?_
        iterate 14 (first | go_big_quiet_skip | (go_big_quiet_want; unfold Oper.quiet; apply Exists.intro; refine ⟨fun W hW => ?_, ?_⟩; (go_split_ands; unfold Oper.quietAt; go_simp; first | rfl | exact ⟨rfl, rfl⟩ | skip); go_big_quiet_on; (try simp only [Act.put, List.setIfInBounds_toArray, List.set_cons_zero, List.set_cons_succ])))
        refine wpQuiet_nil ?_
        intro W' hW
        obtain ⟨hW', _⟩ := hW
        have m1 := keepc hW' k1
        have m2 : W'.frozen? ⟨w.heap.size + 1, 0, none⟩ = false := (hW'.frozen (p := ⟨w.heap.size + 1, 0, none⟩) (World.block_lt_of_cell? W _ k1)).trans k2
        have m3 := keepc hW' k3
        have hB' : Below w.heap.size w W' := hB.trans (hW'.mono hB.size)
        have kK : Kept w.heap.size (w1.heap.size + 1) W W' := ⟨hW'.mono hB.size, hW'.block _ (by omega)⟩
        have kO := keepsOthers_of_below hW'
        gi_wp2
        exact ⟨kO, kK, ⟨by rw [HS.out]; unfold onRad; rw [decide_eq_true h1, decide_eq_false (by omega)]; rfl, keepc hW' k0, m1, m2, m3, keepc hW' k4⟩, hB'⟩
    · gi_wp2
      refine regionR_class (fun w' => Below W.heap.size W w' ∧ w'.cell? ⟨w.heap.size, 5, none⟩ = some (.int .i64 wi)) (by kernel_rfl) (by simp) (by kernel_rfl) ⟨(Below.refl _ _).drew, k0⟩ ?_
      iterate 14 (first | go_big_quiet_skip | (go_big_quiet_want; unfold Oper.quiet; apply Exists.intro; refine ⟨fun W hW => ?_, ?_⟩; (go_split_ands; unfold Oper.quietAt; go_simp; first | rfl | exact ⟨rfl, rfl⟩ | skip); go_big_quiet_on; (try simp only [Act.put, List.setIfInBounds_toArray, List.set_cons_zero, List.set_cons_succ])))
      refine wpQuiet_nil ?_
      intro W' hW
      obtain ⟨hW', _⟩ := hW
      have m1 := keepc hW' k1
      have m2 : W'.frozen? ⟨w.heap.size + 1, 0, none⟩ = false := (hW'.frozen (p := ⟨w.heap.size + 1, 0, none⟩) (World.block_lt_of_cell? W _ k1)).trans k2
      have m3 := keepc hW' k3
      have hB' : Below w.heap.size w W' := hB.trans (hW'.mono hB.size)
      have kK : Kept w.heap.size (w1.heap.size + 1) W W' := ⟨hW'.mono hB.size, hW'.block _ (by omega)⟩
      have kO := keepsOthers_of_below hW'
      gi_wp2
      exact ⟨kO, kK, ⟨by rw [HS.out]; unfold onRad; rw [decide_eq_false (by omega)]; rfl, keepc hW' k0, m1, m2, m3, keepc hW' k4⟩, hB'⟩
  case done =>
    rintro D ys W hD hys ⟨⟨hno, k0, k1, k2, k3, k4⟩, hB⟩ hK
    have hys' : ys.map (·.1) = radii b := hys
    unfold anyS at hno
    rw [hys'] at hno
    gi_wp2
    have hK' := (KeepsOthers.setCell W ⟨w.heap.size + 1, 0, none⟩ (.bool false)).same D _ hK rfl
    refine ⟨by simp, .inl ⟨_, _, rfl, run_takeDeferred hK', ?_⟩⟩
    have hc5 := cell_kept (World.cell?_setCell_same' W ⟨w.heap.size + 1, 0, none⟩ (.bool false) (by rw [k1]; rfl)) (grownBy_putObj' _ D (.deferred none)) (fun r e => by cases e; exact ⟨_, hK', rfl⟩)
    refine ⟨.bool false, ?_, (by rw [hno]), (hB.setCell (p := ⟨w.heap.size + 1, 0, none⟩) (by simp) _).trans (belowK_b (w := w) (Nat.le_refl _) _ D _ _ (by omega) hK' rfl rfl)⟩
    simp [results, Tryz.f66, go_sem, hc5]
  case stop =>
    rintro D c pre W hD hpre ⟨⟨rfl, hf, hcr⟩, hB⟩ hK
    have hyes : anyR wi q (radii b) = true := by
      obtain ⟨t, ht⟩ := (hpre : pre.map (·.1) <+: radii b)
      rw [← ht, anyR_append]; unfold anyS at hf; rw [hf]; rfl
    gi_wp2
    refine ⟨by simp, .inl ⟨_, _, rfl, run_takeDeferred hK, ?_⟩⟩
    have hc5 := cell_kept hcr (grownBy_putObj' _ D (.deferred none)) (fun r e => by cases e; exact ⟨_, hK, rfl⟩)
    refine ⟨.bool true, ?_, (by rw [hyes]), hB.trans (belowK_b (w := w) (Nat.le_refl _) W D _ _ (by omega) hK rfl rfl)⟩
    simp [results, Tryz.f66, go_sem, hc5]
end Go.Proofs.YtgceffpkhmjmkaaGreat
