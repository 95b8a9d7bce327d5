/- Board, part K: whether a dart is on the wire of a line. -/
import Derived.Test.YtgceffpkhmjmkaaGreatJ
set_option linter.unusedVariables false
set_option linter.unusedSimpArgs false
namespace Go.Proofs.YtgceffpkhmjmkaaGreat
open Go.RowKit Go.Shelf

/-- A valid point. -/
def Pt5 (p : Int × Int) : Prop := -5000 ≤ p.1 ∧ p.1 ≤ 5000 ∧ -5000 ≤ p.2 ∧ p.2 ≤ 5000
theorem Pt5.near {p : Int × Int} (h : Pt5 p) : Near p := by unfold Pt5 at h; unfold Near; omega
theorem pt5_of_vpt {p : Int × Int} (h : vpt p = true) : Pt5 p := by
  unfold vpt inb at h
  simp only [List.all_cons, List.all_nil, Bool.and_true, Bool.and_eq_true, decide_eq_true_eq] at h
  unfold Pt5; omega
theorem crs_bd5 {a b : Int × Int} (ha : Pt5 a) (hb : Pt5 b) : -50000000 ≤ crs a b ∧ crs a b ≤ 50000000 := by
  obtain ⟨a1, a2, a3, a4⟩ := ha
  obtain ⟨b1, b2, b3, b4⟩ := hb
  have m1 := mul_bd a.1 b.2 5000 5000 a1 a2 b3 b4
  have m2 := mul_bd a.2 b.1 5000 5000 a3 a4 b1 b2
  unfold crs; omega
theorem dt_bd5 {a b : Int × Int} (ha : Pt5 a) (hb : Pt5 b) : -50000000 ≤ dt a b ∧ dt a b ≤ 50000000 := by
  obtain ⟨a1, a2, a3, a4⟩ := ha
  obtain ⟨b1, b2, b3, b4⟩ := hb
  have m1 := mul_bd a.1 b.1 5000 5000 a1 a2 b1 b2
  have m2 := mul_bd a.2 b.2 5000 5000 a3 a4 b3 b4
  unfold dt; omega

/-- A region that draws its order, whose operations only read and whose callees turn nothing: one walk in the text's order serves every order, within a class of worlds. -/
theorem region_class {P : Program} {id : Nat} {Q : Exit → Act → World → Prop} {a : Act} {w : World} {l : List Oper} (C : World → Prop) (hm : P.follows .mixedOrders = true) (hB : Region.lexB .any l.toArray = true) (hC : C w.drew)
    (h : wpQuiet P l.toArray C (fun a' => ∀ w', C w' → Q .normal a' w') l a) : (Code.region id l.toArray true).wp P Q a w :=
  wp_region_quiet hm hB hC (by simpa using h)

def nearLine (wi : Int) (d p : Int × Int) : Bool := decide (0 < dt p d) && decide (crs p d * crs p d ≤ wi * wi * dt p p)

set_option maxRecDepth 100000 in
set_option maxHeartbeats 2000000 in
theorem near_any (T : Nat) (wi : Int) (d p : Int × Int) (w : World) (hd : Pt5 d) (hp : Pt5 p) (hw0 : 0 ≤ wi) (hw1 : wi ≤ 20)
    (c5 : w.cell? ⟨T, 5, none⟩ = some (.int .i64 wi)) (c6 : w.cell? ⟨T, 6, none⟩ = some (.int .i64 d.1)) (c7 : w.cell? ⟨T, 7, none⟩ = some (.int .i64 d.2)) :
    Calls Tryz.prog 92 #[pt p, .pointer (some ⟨T, 0, none⟩)] w (Ret (.bool (nearLine wi d p)) w) := by
  have hT : T < w.heap.size := World.block_lt_of_cell? w _ c5
  have x1 := fun W => cross_any p d W hp.near hd.near
  have x2 := fun W => dot_any p d W hp.near hd.near
  have x3 := fun W => square_any p W hp.near
  have b1 := crs_bd5 hp hd
  have b3 := dt_bd5 hp hp
  have b4 := mul_bd (crs p d) (crs p d) 50000000 50000000 b1.1 b1.2 b1.1 b1.2
  have b5 := mul_bd wi wi 20 20 (by omega) hw1 (by omega) hw1
  have b6 := mul_bd (wi * wi) (dt p p) 400 50000000 (by omega) (by omega) b3.1 b3.2
  have b7 := mul_bd (wi * wi) (dt p p) 400 50000000 (by omega) (by omega) b3.1 b3.2
  have y1 : -2500000000000000 ≤ crs p d * crs p d ∧ crs p d * crs p d ≤ 2500000000000000 := by omega
  have y2 : -400 ≤ wi * wi ∧ wi * wi ≤ 400 := by omega
  have y3 : -20000000000 ≤ wi * wi * dt p p ∧ wi * wi * dt p p ≤ 20000000000 := by omega
  clear b4 b5 b6 b7 hd hp
  unfold nearLine
  unfold pt at *
  generalize crs p d = c at *
  generalize dt p d = r at *
  generalize dt p p = s at *
  obtain ⟨dx, dy⟩ := d
  obtain ⟨px, py⟩ := p
  simp only [] at *
  obtain ⟨y1a, y1b⟩ := y1
  obtain ⟨y2a, y2b⟩ := y2
  obtain ⟨y3a, y3b⟩ := y3
  have e1 : IntKind.i64.wrap (c * c) = c * c := IntWalk.i64_in _ (by omega)
  have e2 : IntKind.i64.wrap (wi * wi) = wi * wi := IntWalk.i64_in _ (by omega)
  have e3 : IntKind.i64.wrap (wi * wi * s) = wi * wi * s := IntWalk.i64_in _ (by omega)
  by_cases h0 : 0 < r
  · have hd0 : decide (0 < r) = true := by simpa using h0
    rw [hd0]
    simp only [Bool.true_and]
    go_enter Tryz.func92, Tryz.ntmps92
    go_upto_region 3 with ((go_at_call 93; (with_reducible refine (x1 _).mono ?_); rintro e w1 ⟨rfl, hb1⟩; (obtain ⟨hc1, hf1⟩ := bcell hb1; have z1 := hb1.size; (try simp only [World.size_alloc, World.size_drew, World.size_setCell] at z1); (try have q1a : w.heap.size < w1.heap.size := by omega); (try have q1b : w.heap.size + 1 < w1.heap.size := by omega); (try have q1c : w.heap.size + 1 + 1 < w1.heap.size := by omega); (try have q1d : w.heap.size + 1 + 1 + 1 < w1.heap.size := by omega); (try have q1e : wr.heap.size < w1.heap.size := by omega); (try have q1f : wr.heap.size + 1 < w1.heap.size := by omega))))
    have k5 : w1.cell? ⟨T, 5, none⟩ = some (.int .i64 wi) := keepc hb1 (by go_simp)
    have k6 : w1.cell? ⟨T, 6, none⟩ = some (.int .i64 dx) := keepc hb1 (by go_simp)
    have k7 : w1.cell? ⟨T, 7, none⟩ = some (.int .i64 dy) := keepc hb1 (by go_simp)
    have k8 : w1.cell? ⟨w.heap.size + 1, 0, none⟩ = some (.int .i64 px) := keepc hb1 (by go_simp)
    have k9 : w1.cell? ⟨w.heap.size + 1, 1, none⟩ = some (.int .i64 py) := keepc hb1 (by go_simp)
    have MK : Aside (∀ w', Below w1.heap.size w1 w' → (Below w1.heap.size w1 w' ∧ w'.cell? ⟨T, 5, none⟩ = some (.int .i64 wi) ∧ w'.cell? ⟨T, 6, none⟩ = some (.int .i64 dx) ∧ w'.cell? ⟨T, 7, none⟩ = some (.int .i64 dy) ∧ w'.cell? ⟨w.heap.size + 1, 0, none⟩ = some (.int .i64 px) ∧ w'.cell? ⟨w.heap.size + 1, 1, none⟩ = some (.int .i64 py))) := fun w' hB => ⟨hB, keepc hB k5, keepc hB k6, keepc hB k7, keepc hB k8, keepc hB k9⟩
    clear hc1 hf1
    go_region_held3 (fun w' => Below w1.heap.size w1 w' ∧ w'.cell? ⟨T, 5, none⟩ = some (.int .i64 wi) ∧ w'.cell? ⟨T, 6, none⟩ = some (.int .i64 dx) ∧ w'.cell? ⟨T, 7, none⟩ = some (.int .i64 dy) ∧ w'.cell? ⟨w.heap.size + 1, 0, none⟩ = some (.int .i64 px) ∧ w'.cell? ⟨w.heap.size + 1, 1, none⟩ = some (.int .i64 py))
      ((refine MK.out _ ?_; (repeat' (first | exact Below.refl _ _ | assumption | (with_reducible refine Below.drew ?_) | (with_reducible refine Below.setCell ?_ (by (first | (simp; done) | (simp; omega))) _) | (with_reducible refine below_drewN' ?_ _) | (refine Below.alloc ?_ (by (try simp only [World.size_alloc, World.size_drew, World.size_setCell]); omega) _) | (refine Below.trans ?_ (Below.mono (by assumption) (by (try simp only [World.size_alloc, World.size_drew, World.size_setCell]); omega)))))))
      (first | (go_at_call 94; (with_reducible refine (x2 _).mono ?_); rintro e w2 ⟨rfl, hb2⟩; (obtain ⟨hc2, hf2⟩ := bcell hb2; have z2 := hb2.size; (try simp only [World.size_alloc, World.size_drew, World.size_setCell] at z2); (try have q2a : w.heap.size < w2.heap.size := by omega); (try have q2b : w.heap.size + 1 < w2.heap.size := by omega); (try have q2c : w.heap.size + 1 + 1 < w2.heap.size := by omega); (try have q2d : w.heap.size + 1 + 1 + 1 < w2.heap.size := by omega); (try have q2e : wr.heap.size < w2.heap.size := by omega); (try have q2f : wr.heap.size + 1 < w2.heap.size := by omega); (try have q2g : w1.heap.size < w2.heap.size := by omega); (try have q2h : w1.heap.size + 1 < w2.heap.size := by omega))) | (go_at_call 68; (with_reducible refine (x3 _).mono ?_); rintro e w3 ⟨rfl, hb3⟩; (obtain ⟨hc3, hf3⟩ := bcell hb3; have z3 := hb3.size; (try simp only [World.size_alloc, World.size_drew, World.size_setCell] at z3); (try have q3a : w.heap.size < w3.heap.size := by omega); (try have q3b : w.heap.size + 1 < w3.heap.size := by omega); (try have q3c : w.heap.size + 1 + 1 < w3.heap.size := by omega); (try have q3d : w.heap.size + 1 + 1 + 1 < w3.heap.size := by omega); (try have q3e : wr.heap.size < w3.heap.size := by omega); (try have q3f : wr.heap.size + 1 < w3.heap.size := by omega); (try have q3g : w2.heap.size < w3.heap.size := by omega); (try have q3h : w2.heap.size + 1 < w3.heap.size := by omega))))
    go_split_ands
    have BB : Below w.heap.size w w1 := by (repeat' (first | exact Below.refl _ _ | assumption | (with_reducible refine Below.drew ?_) | (with_reducible refine Below.setCell ?_ (by (first | (simp; done) | (simp; omega))) _) | (with_reducible refine below_drewN' ?_ _) | (refine Below.alloc ?_ (by (try simp only [World.size_alloc, World.size_drew, World.size_setCell]); omega) _) | (refine Below.trans ?_ (Below.mono (by assumption) (by (try simp only [World.size_alloc, World.size_drew, World.size_setCell]); omega)))))
    go_wp2
    all_goals
      go_ret
      exact ⟨rfl, by (repeat' (first | exact Below.refl _ _ | assumption | (with_reducible refine Below.drew ?_) | (with_reducible refine Below.setCell ?_ (by (first | (simp; done) | (simp; omega))) _) | (with_reducible refine below_drewN' ?_ _) | (refine Below.alloc ?_ (by (try simp only [World.size_alloc, World.size_drew, World.size_setCell]); omega) _) | (refine Below.trans ?_ (Below.mono (by assumption) (by (try simp only [World.size_alloc, World.size_drew, World.size_setCell]); omega)))))⟩
  · have hd0 : decide (0 < r) = false := by simpa using h0
    rw [hd0]
    simp only [Bool.false_and]
    go_enter Tryz.func92, Tryz.ntmps92
    go_upto_region 3 with ((go_at_call 93; (with_reducible refine (x1 _).mono ?_); rintro e w1 ⟨rfl, hb1⟩; (obtain ⟨hc1, hf1⟩ := bcell hb1; have z1 := hb1.size; (try simp only [World.size_alloc, World.size_drew, World.size_setCell] at z1); (try have q1a : w.heap.size < w1.heap.size := by omega); (try have q1b : w.heap.size + 1 < w1.heap.size := by omega); (try have q1c : w.heap.size + 1 + 1 < w1.heap.size := by omega); (try have q1d : w.heap.size + 1 + 1 + 1 < w1.heap.size := by omega); (try have q1e : wr.heap.size < w1.heap.size := by omega); (try have q1f : wr.heap.size + 1 < w1.heap.size := by omega))))
    have k5 : w1.cell? ⟨T, 5, none⟩ = some (.int .i64 wi) := keepc hb1 (by go_simp)
    have k6 : w1.cell? ⟨T, 6, none⟩ = some (.int .i64 dx) := keepc hb1 (by go_simp)
    have k7 : w1.cell? ⟨T, 7, none⟩ = some (.int .i64 dy) := keepc hb1 (by go_simp)
    have k8 : w1.cell? ⟨w.heap.size + 1, 0, none⟩ = some (.int .i64 px) := keepc hb1 (by go_simp)
    have k9 : w1.cell? ⟨w.heap.size + 1, 1, none⟩ = some (.int .i64 py) := keepc hb1 (by go_simp)
    have MK : Aside (∀ w', Below w1.heap.size w1 w' → (Below w1.heap.size w1 w' ∧ w'.cell? ⟨T, 5, none⟩ = some (.int .i64 wi) ∧ w'.cell? ⟨T, 6, none⟩ = some (.int .i64 dx) ∧ w'.cell? ⟨T, 7, none⟩ = some (.int .i64 dy) ∧ w'.cell? ⟨w.heap.size + 1, 0, none⟩ = some (.int .i64 px) ∧ w'.cell? ⟨w.heap.size + 1, 1, none⟩ = some (.int .i64 py))) := fun w' hB => ⟨hB, keepc hB k5, keepc hB k6, keepc hB k7, keepc hB k8, keepc hB k9⟩
    clear hc1 hf1
    refine region_class (fun w' => Below w1.heap.size w1 w' ∧ w'.cell? ⟨T, 5, none⟩ = some (.int .i64 wi) ∧ w'.cell? ⟨T, 6, none⟩ = some (.int .i64 dx) ∧ w'.cell? ⟨T, 7, none⟩ = some (.int .i64 dy) ∧ w'.cell? ⟨w.heap.size + 1, 0, none⟩ = some (.int .i64 px) ∧ w'.cell? ⟨w.heap.size + 1, 1, none⟩ = some (.int .i64 py)) (by kernel_rfl) (by kernel_rfl) (MK.out _ ((Below.refl _ _).drew)) ?_
    iterate 24 (first | go_big_quiet_skip | (go_big_quiet_want; unfold Oper.quiet; apply Exists.intro; refine ⟨fun W hW => ?_, ?_⟩; (go_split_ands; unfold Oper.quietAt; go_simp; first | rfl | exact ⟨rfl, rfl⟩ | (refine (x2 _).mono ?_; rintro e w2 ⟨rfl, hb2⟩; exact ⟨rfl, MK.out _ (Below.trans (by assumption) (Below.mono (by assumption) (Below.size (by assumption))))⟩)); go_big_quiet_on; (try simp only [Act.put, List.setIfInBounds_toArray, List.set_cons_zero, List.set_cons_succ])))
    refine wpQuiet_nil ?_
    intro W hW
    go_split_ands
    have BB : Below w.heap.size w w1 := by (repeat' (first | exact Below.refl _ _ | assumption | (with_reducible refine Below.drew ?_) | (with_reducible refine Below.setCell ?_ (by (first | (simp; done) | (simp; omega))) _) | (with_reducible refine below_drewN' ?_ _) | (refine Below.alloc ?_ (by (try simp only [World.size_alloc, World.size_drew, World.size_setCell]); omega) _) | (refine Below.trans ?_ (Below.mono (by assumption) (by (try simp only [World.size_alloc, World.size_drew, World.size_setCell]); omega)))))
    go_wp2
    all_goals
      go_ret
      exact ⟨rfl, by (repeat' (first | exact Below.refl _ _ | assumption | (with_reducible refine Below.drew ?_) | (with_reducible refine Below.setCell ?_ (by (first | (simp; done) | (simp; omega))) _) | (with_reducible refine below_drewN' ?_ _) | (refine Below.alloc ?_ (by (try simp only [World.size_alloc, World.size_drew, World.size_setCell]); omega) _) | (refine Below.trans ?_ (Below.mono (by assumption) (by (try simp only [World.size_alloc, World.size_drew, World.size_setCell]); omega)))))⟩
end Go.Proofs.YtgceffpkhmjmkaaGreat
