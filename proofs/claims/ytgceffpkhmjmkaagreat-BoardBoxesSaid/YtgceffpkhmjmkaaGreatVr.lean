/- Board, part Vr: the errors of boxes. -/
import Derived.Test.YtgceffpkhmjmkaaGreatUf
set_option linter.unusedVariables false
set_option linter.unusedSimpArgs false
namespace Go.Proofs.YtgceffpkhmjmkaaGreat
open Go.RowKit Go.Shelf

def boxE (x1 x2 y1 y2 : Int) : Int := if (validS (x1, x2) && validS (y1, y2)) = true then (if 2500 < (x2 - x1 + 1) * (y2 - y1 + 1) then 8 else 0) else 2
theorem validS_eq (a b : Int) : validS (a, b) = (decide (-5000 ≤ a) && decide (a ≤ b) && decide (b ≤ 5000)) := by
  unfold validS inb
  rw [Bool.eq_iff_iff]
  simp only [List.all_cons, List.all_nil, Bool.and_true, Bool.and_eq_true, decide_eq_true_eq]
  omega

set_option maxRecDepth 100000 in
set_option maxHeartbeats 4000000 in
theorem rBox_any (x1 x2 y1 y2 : Int) (w : World) :
    Calls Tryz.prog 20 #[.agg #[.int .i64 x1, .int .i64 x2, .int .i64 y1, .int .i64 y2]] w (Ret (.int .i64 (boxE x1 x2 y1 y2)) w) := by
  obtain ⟨res, hres⟩ : ∃ r, boxE x1 x2 y1 y2 = r := ⟨_, rfl⟩
  rw [hres]
  have HR : Aside ((if (validS (x1, x2) && validS (y1, y2)) = true then (if 2500 < (x2 - x1 + 1) * (y2 - y1 + 1) then 8 else 0) else 2) = res) := hres
  clear hres
  have i_0 : ∀ W : World, Sem.run Tryz.prog (Instr.index 101 (.agg #[.int .i64 x1, .int .i64 x2, .int .i64 y1, .int .i64 y2]) (.int .i64 0)) W = .ok (.agg #[.int .i64 x1, .int .i64 x2]) W := fun _ => by kernel_rfl
  have i_1 : ∀ W : World, Sem.run Tryz.prog (Instr.index 101 (.agg #[.int .i64 x1, .int .i64 x2, .int .i64 y1, .int .i64 y2]) (.int .i64 1)) W = .ok (.agg #[.int .i64 y1, .int .i64 y2]) W := fun _ => by kernel_rfl
  go_enter Tryz.func20, Tryz.ntmps20
  go_upto_region 1 with (fail)
  obtain ⟨W0, hW0⟩ : ∃ W0, W0 = w.alloc (.cells #[.int .i64 x1, .int .i64 x2, .int .i64 y1, .int .i64 y2] 49) := ⟨_, rfl⟩
  have B0 : Aside (Below w.heap.size w W0) := by rw [hW0]; clear hW0; show Below _ _ _; (repeat' (first | exact Below.refl _ _ | assumption | (with_reducible refine Below.drew ?_) | (with_reducible refine Below.setCell ?_ (by (first | (simp; done) | (simp; omega))) _) | (with_reducible refine below_drewN' ?_ _) | (refine Below.alloc ?_ (by (try simp only [World.size_alloc, World.size_drew, World.size_setCell]); omega) _) | (refine Below.trans ?_ (Below.mono (by assumption) (by (try simp only [World.size_alloc, World.size_drew, World.size_setCell]); omega)))))
  have x_0 : W0.cell? ⟨w.heap.size, 0, none⟩ = some (.int .i64 x1) := by rw [hW0]; clear hW0; go_simp
  have x_1 : W0.cell? ⟨w.heap.size, 1, none⟩ = some (.int .i64 x2) := by rw [hW0]; clear hW0; go_simp
  have x_2 : W0.cell? ⟨w.heap.size, 2, none⟩ = some (.int .i64 y1) := by rw [hW0]; clear hW0; go_simp
  have x_3 : W0.cell? ⟨w.heap.size, 3, none⟩ = some (.int .i64 y2) := by rw [hW0]; clear hW0; go_simp
  rw [← hW0]
  clear hW0
  go_wp2_with fail
  go_loopg [3] 2 (fun gg iv wr => ∃ k : Nat, k ≤ 2 ∧ 2 - k ≤ gg ∧ iv = .int .i64 k ∧ Aside (1 ≤ k → validS (x1, x2) = true) ∧ Aside (2 ≤ k → validS (y1, y2) = true) ∧ Aside (Below W0.heap.size W0 wr))
  case atStart => exact ⟨0, by omega, by omega, rfl, (fun h => absurd h (by decide)), (fun h => absurd h (by decide)), Below.refl _ _⟩
  case round =>
    obtain ⟨k, hk, hg, rfl, V1, V2, BK⟩ := hrel
    have z_0 := keepc BK.out x_0
    have z_1 := keepc BK.out x_1
    have z_2 := keepc BK.out x_2
    have z_3 := keepc BK.out x_3
    clear x_0 x_1 x_2 x_3
    obtain ⟨Wk, rfl⟩ : ∃ W' : World, W' = wr := ⟨_, rfl⟩
    rcases (by omega : k = 0 ∨ k = 1 ∨ k = 2) with rfl | rfl | rfl
    · have HV : Aside (validS (x1, x2) = (decide (-5000 ≤ x1) && decide (x1 ≤ x2) && decide (x2 ≤ 5000))) := validS_eq _ _
      by_cases e1 : x1 < -5000
      · have : (2 : Int) = res := by rw [← HR.out, HV.out, decide_eq_false (show ¬ -5000 ≤ x1 by omega)]; simp
        subst this
        go_wp2_with fail
        go_ret
        exact ⟨rfl, by show Below _ _ _; exact (B0.out.trans (BK.out.mono B0.out.size)).trans ((by (repeat' (first | exact Below.refl _ _ | assumption | (with_reducible refine Below.drew ?_) | (with_reducible refine Below.setCell ?_ (by (first | (simp; done) | (simp; omega))) _) | (with_reducible refine below_drewN' ?_ _) | (refine Below.alloc ?_ (by (try simp only [World.size_alloc, World.size_drew, World.size_setCell]); omega) _) | (refine Below.trans ?_ (Below.mono (by assumption) (by (try simp only [World.size_alloc, World.size_drew, World.size_setCell]); omega))))) : Below Wk.heap.size Wk _).mono (Nat.le_trans B0.out.size BK.out.size))⟩
      · by_cases e2 : x2 < x1
        · have : (2 : Int) = res := by rw [← HR.out, HV.out, decide_eq_false (show ¬ x1 ≤ x2 by omega)]; simp
          subst this
          go_wp2_with fail
          go_ret
          exact ⟨rfl, by show Below _ _ _; exact (B0.out.trans (BK.out.mono B0.out.size)).trans ((by (repeat' (first | exact Below.refl _ _ | assumption | (with_reducible refine Below.drew ?_) | (with_reducible refine Below.setCell ?_ (by (first | (simp; done) | (simp; omega))) _) | (with_reducible refine below_drewN' ?_ _) | (refine Below.alloc ?_ (by (try simp only [World.size_alloc, World.size_drew, World.size_setCell]); omega) _) | (refine Below.trans ?_ (Below.mono (by assumption) (by (try simp only [World.size_alloc, World.size_drew, World.size_setCell]); omega))))) : Below Wk.heap.size Wk _).mono (Nat.le_trans B0.out.size BK.out.size))⟩
        · by_cases e3 : 5000 < x2
          · have : (2 : Int) = res := by rw [← HR.out, HV.out, decide_eq_false (show ¬ x2 ≤ 5000 by omega)]; simp
            subst this
            go_wp2_with fail
            go_ret
            exact ⟨rfl, by show Below _ _ _; exact (B0.out.trans (BK.out.mono B0.out.size)).trans ((by (repeat' (first | exact Below.refl _ _ | assumption | (with_reducible refine Below.drew ?_) | (with_reducible refine Below.setCell ?_ (by (first | (simp; done) | (simp; omega))) _) | (with_reducible refine below_drewN' ?_ _) | (refine Below.alloc ?_ (by (try simp only [World.size_alloc, World.size_drew, World.size_setCell]); omega) _) | (refine Below.trans ?_ (Below.mono (by assumption) (by (try simp only [World.size_alloc, World.size_drew, World.size_setCell]); omega))))) : Below Wk.heap.size Wk _).mono (Nat.le_trans B0.out.size BK.out.size))⟩
          · have hv : Aside (1 ≤ 0 + 1 → validS (x1, x2) = true) := fun _ => by rw [HV.out, decide_eq_true (show -5000 ≤ x1 by omega), decide_eq_true (show x1 ≤ x2 by omega), decide_eq_true (show x2 ≤ 5000 by omega)]; rfl
            go_wp2_with fail
            go_roundg 1
            case measure => omega
            case rel => exact ⟨1, by omega, by omega, rfl, hv, (fun h => absurd h (by decide)), BK.out.trans ((by (repeat' (first | exact Below.refl _ _ | assumption | (with_reducible refine Below.drew ?_) | (with_reducible refine Below.setCell ?_ (by (first | (simp; done) | (simp; omega))) _) | (with_reducible refine below_drewN' ?_ _) | (refine Below.alloc ?_ (by (try simp only [World.size_alloc, World.size_drew, World.size_setCell]); omega) _) | (refine Below.trans ?_ (Below.mono (by assumption) (by (try simp only [World.size_alloc, World.size_drew, World.size_setCell]); omega))))) : Below Wk.heap.size Wk _).mono BK.out.size)⟩
    · have HV : Aside (validS (y1, y2) = (decide (-5000 ≤ y1) && decide (y1 ≤ y2) && decide (y2 ≤ 5000))) := validS_eq _ _
      by_cases e1 : y1 < -5000
      · have : (2 : Int) = res := by rw [← HR.out, HV.out, decide_eq_false (show ¬ -5000 ≤ y1 by omega)]; simp
        subst this
        go_wp2_with fail
        go_ret
        exact ⟨rfl, by show Below _ _ _; exact (B0.out.trans (BK.out.mono B0.out.size)).trans ((by (repeat' (first | exact Below.refl _ _ | assumption | (with_reducible refine Below.drew ?_) | (with_reducible refine Below.setCell ?_ (by (first | (simp; done) | (simp; omega))) _) | (with_reducible refine below_drewN' ?_ _) | (refine Below.alloc ?_ (by (try simp only [World.size_alloc, World.size_drew, World.size_setCell]); omega) _) | (refine Below.trans ?_ (Below.mono (by assumption) (by (try simp only [World.size_alloc, World.size_drew, World.size_setCell]); omega))))) : Below Wk.heap.size Wk _).mono (Nat.le_trans B0.out.size BK.out.size))⟩
      · by_cases e2 : y2 < y1
        · have : (2 : Int) = res := by rw [← HR.out, HV.out, decide_eq_false (show ¬ y1 ≤ y2 by omega)]; simp
          subst this
          go_wp2_with fail
          go_ret
          exact ⟨rfl, by show Below _ _ _; exact (B0.out.trans (BK.out.mono B0.out.size)).trans ((by (repeat' (first | exact Below.refl _ _ | assumption | (with_reducible refine Below.drew ?_) | (with_reducible refine Below.setCell ?_ (by (first | (simp; done) | (simp; omega))) _) | (with_reducible refine below_drewN' ?_ _) | (refine Below.alloc ?_ (by (try simp only [World.size_alloc, World.size_drew, World.size_setCell]); omega) _) | (refine Below.trans ?_ (Below.mono (by assumption) (by (try simp only [World.size_alloc, World.size_drew, World.size_setCell]); omega))))) : Below Wk.heap.size Wk _).mono (Nat.le_trans B0.out.size BK.out.size))⟩
        · by_cases e3 : 5000 < y2
          · have : (2 : Int) = res := by rw [← HR.out, HV.out, decide_eq_false (show ¬ y2 ≤ 5000 by omega)]; simp
            subst this
            go_wp2_with fail
            go_ret
            exact ⟨rfl, by show Below _ _ _; exact (B0.out.trans (BK.out.mono B0.out.size)).trans ((by (repeat' (first | exact Below.refl _ _ | assumption | (with_reducible refine Below.drew ?_) | (with_reducible refine Below.setCell ?_ (by (first | (simp; done) | (simp; omega))) _) | (with_reducible refine below_drewN' ?_ _) | (refine Below.alloc ?_ (by (try simp only [World.size_alloc, World.size_drew, World.size_setCell]); omega) _) | (refine Below.trans ?_ (Below.mono (by assumption) (by (try simp only [World.size_alloc, World.size_drew, World.size_setCell]); omega))))) : Below Wk.heap.size Wk _).mono (Nat.le_trans B0.out.size BK.out.size))⟩
          · have hv : Aside (2 ≤ 1 + 1 → validS (y1, y2) = true) := fun _ => by rw [HV.out, decide_eq_true (show -5000 ≤ y1 by omega), decide_eq_true (show y1 ≤ y2 by omega), decide_eq_true (show y2 ≤ 5000 by omega)]; rfl
            have hv1 : Aside (1 ≤ 1 + 1 → validS (x1, x2) = true) := fun _ => V1.out (by decide)
            go_wp2_with fail
            go_roundg 0
            case measure => omega
            case rel => exact ⟨2, by omega, by omega, rfl, hv1, hv, BK.out.trans ((by (repeat' (first | exact Below.refl _ _ | assumption | (with_reducible refine Below.drew ?_) | (with_reducible refine Below.setCell ?_ (by (first | (simp; done) | (simp; omega))) _) | (with_reducible refine below_drewN' ?_ _) | (refine Below.alloc ?_ (by (try simp only [World.size_alloc, World.size_drew, World.size_setCell]); omega) _) | (refine Below.trans ?_ (Below.mono (by assumption) (by (try simp only [World.size_alloc, World.size_drew, World.size_setCell]); omega))))) : Below Wk.heap.size Wk _).mono BK.out.size)⟩
    · have v1 := V1.out (by decide)
      have v2 := V2.out (by decide)
      have e := HR.out
      rw [v1, v2] at e
      rw [validS_eq] at v1 v2
      simp only [Bool.and_eq_true, decide_eq_true_eq] at v1 v2
      obtain ⟨⟨a1, a2⟩, a3⟩ := v1
      obtain ⟨⟨c1, c2⟩, c3⟩ := v2
      rw [Bool.and_self, if_pos rfl] at e
      have u1 : IntKind.i64.wrap (x2 - x1) = x2 - x1 := IntWalk.i64_in _ (by omega)
      have u2 : IntKind.i64.wrap (x2 - x1 + 1) = x2 - x1 + 1 := IntWalk.i64_in _ (by omega)
      have u3 : IntKind.i64.wrap (y2 - y1) = y2 - y1 := IntWalk.i64_in _ (by omega)
      have u4 : IntKind.i64.wrap (y2 - y1 + 1) = y2 - y1 + 1 := IntWalk.i64_in _ (by omega)
      have hm : 0 ≤ (x2 - x1 + 1) * (y2 - y1 + 1) ∧ (x2 - x1 + 1) * (y2 - y1 + 1) ≤ 10001 * 10001 := ⟨Int.mul_nonneg (by omega) (by omega), Int.mul_le_mul (by omega) (by omega) (by omega) (by omega)⟩
      have u5 : IntKind.i64.wrap ((x2 - x1 + 1) * (y2 - y1 + 1)) = (x2 - x1 + 1) * (y2 - y1 + 1) := IntWalk.i64_in _ (by omega)
      obtain ⟨pr, hpr⟩ : ∃ x, (x2 - x1 + 1) * (y2 - y1 + 1) = x := ⟨_, rfl⟩
      rw [hpr] at u5 e
      by_cases hb : 2500 < pr
      · rw [if_pos hb] at e
        subst e
        go_wp2_with fail
        simp only [hpr] at *
        go_wp2_with fail
        go_ret
        exact ⟨rfl, B0.out.trans (BK.out.mono B0.out.size)⟩
      · rw [if_neg hb] at e
        subst e
        go_wp2_with fail
        simp only [hpr] at *
        go_wp2_with fail
        go_ret
        exact ⟨rfl, B0.out.trans (BK.out.mono B0.out.size)⟩

set_option maxRecDepth 100000 in
set_option maxHeartbeats 4000000 in
theorem Beds_err (v : Value) (b : Brd) (x1 x2 y1 y2 : Int) (w : World) (h : BrdAt w v b) (E : Int) (hE : (if chk b = 0 then boxE x1 x2 y1 y2 else chk b) = E) (hn : E ≠ 0) :
    Calls Tryz.prog 21 #[v, .agg #[.int .i64 x1, .int .i64 x2, .int .i64 y1, .int .i64 y2]] w (Ret (.tuple #[.slice none 0 0, .int .i64 E]) w) := by
  have c1 := fun W (hW : Below w.heap.size w W) => check_any v b W (h.below hW)
  have c2 := fun W => validSpan_any (x1, x2) W
  have c3 := fun W => validSpan_any (y1, y2) W
  unfold spn at c2 c3
  simp only [] at c2 c3
  obtain ⟨vr, vl, vn, rfl, hr, hl, hnn⟩ := h
  obtain ⟨ar, cr, rfl, lr, _⟩ := hr
  obtain ⟨al, cl, rfl, ll, _⟩ := hl
  obtain ⟨an, cn, rfl, ln, _⟩ := hnn
  generalize b.rings.length = lenr at *
  generalize b.lines.length = lenl at *
  generalize b.nums.length = lenn at *
  generalize chk b = ck at *
  by_cases hc : ck = 0
  · subst hc
    rw [if_pos rfl] at hE
    unfold boxE at hE
    obtain ⟨vx, hvx⟩ : ∃ x, validS (x1, x2) = x := ⟨_, rfl⟩
    obtain ⟨vy, hvy⟩ : ∃ x, validS (y1, y2) = x := ⟨_, rfl⟩
    rw [hvx] at c2 hE
    rw [hvy] at c3 hE
    cases vx with
    | false =>
      have : (2 : Int) = E := by rw [← hE]; rfl
      subst this
      clear hE hn hvx hvy
      go_enter Tryz.func21, Tryz.ntmps21
      go_wp2_with (first | (go_at_call 10; (with_reducible refine (c1 _ ?hh).mono ?_); (case hh => (repeat' (first | exact Below.refl _ _ | assumption | (with_reducible refine Below.drew ?_) | (with_reducible refine Below.setCell ?_ (by (first | (simp; done) | (simp; omega))) _) | (with_reducible refine below_drewN' ?_ _) | (refine Below.alloc ?_ (by (try simp only [World.size_alloc, World.size_drew, World.size_setCell]); omega) _) | (refine Below.trans ?_ (Below.mono (by assumption) (by (try simp only [World.size_alloc, World.size_drew, World.size_setCell]); omega)))))); rintro e w1 ⟨rfl, hb1⟩; (obtain ⟨hc1, hf1⟩ := bcell hb1; have z1 := hb1.size; (try simp only [World.size_alloc, World.size_drew, World.size_setCell] at z1); (try have q1a : w.heap.size < w1.heap.size := by omega); (try have q1b : w.heap.size + 1 < w1.heap.size := by omega); (try have q1c : w.heap.size + 1 + 1 < w1.heap.size := by omega); (try have q1d : w.heap.size + 1 + 1 + 1 < w1.heap.size := by omega); (try have q1e : wr.heap.size < w1.heap.size := by omega); (try have q1f : wr.heap.size + 1 < w1.heap.size := by omega))) | (go_at_call 52; (with_reducible refine (c2 _).mono ?_); rintro e w2 ⟨rfl, hb2⟩; (obtain ⟨hc2, hf2⟩ := bcell hb2; have z2 := hb2.size; (try simp only [World.size_alloc, World.size_drew, World.size_setCell] at z2); (try have q2a : w.heap.size < w2.heap.size := by omega); (try have q2b : w.heap.size + 1 < w2.heap.size := by omega); (try have q2c : w.heap.size + 1 + 1 < w2.heap.size := by omega); (try have q2d : w.heap.size + 1 + 1 + 1 < w2.heap.size := by omega); (try have q2e : wr.heap.size < w2.heap.size := by omega); (try have q2f : wr.heap.size + 1 < w2.heap.size := by omega); (try have q2g : w1.heap.size < w2.heap.size := by omega); (try have q2h : w1.heap.size + 1 < w2.heap.size := by omega))))
      go_ret2
      exact ⟨rfl, by (repeat' (first | exact Below.refl _ _ | assumption | (with_reducible refine Below.drew ?_) | (with_reducible refine Below.setCell ?_ (by (first | (simp; done) | (simp; omega))) _) | (with_reducible refine below_drewN' ?_ _) | (refine Below.alloc ?_ (by (try simp only [World.size_alloc, World.size_drew, World.size_setCell]); omega) _) | (refine Below.trans ?_ (Below.mono (by assumption) (by (try simp only [World.size_alloc, World.size_drew, World.size_setCell]); omega)))))⟩
    | true =>
      cases vy with
      | false =>
        have : (2 : Int) = E := by rw [← hE]; rfl
        subst this
        clear hE hn hvx hvy
        go_enter Tryz.func21, Tryz.ntmps21
        go_wp2_with (first | (go_at_call 10; (with_reducible refine (c1 _ ?hh).mono ?_); (case hh => (repeat' (first | exact Below.refl _ _ | assumption | (with_reducible refine Below.drew ?_) | (with_reducible refine Below.setCell ?_ (by (first | (simp; done) | (simp; omega))) _) | (with_reducible refine below_drewN' ?_ _) | (refine Below.alloc ?_ (by (try simp only [World.size_alloc, World.size_drew, World.size_setCell]); omega) _) | (refine Below.trans ?_ (Below.mono (by assumption) (by (try simp only [World.size_alloc, World.size_drew, World.size_setCell]); omega)))))); rintro e w1 ⟨rfl, hb1⟩; (obtain ⟨hc1, hf1⟩ := bcell hb1; have z1 := hb1.size; (try simp only [World.size_alloc, World.size_drew, World.size_setCell] at z1); (try have q1a : w.heap.size < w1.heap.size := by omega); (try have q1b : w.heap.size + 1 < w1.heap.size := by omega); (try have q1c : w.heap.size + 1 + 1 < w1.heap.size := by omega); (try have q1d : w.heap.size + 1 + 1 + 1 < w1.heap.size := by omega); (try have q1e : wr.heap.size < w1.heap.size := by omega); (try have q1f : wr.heap.size + 1 < w1.heap.size := by omega))) | (go_at_call 52; (with_reducible refine (c2 _).mono ?_); rintro e w2 ⟨rfl, hb2⟩; (obtain ⟨hc2, hf2⟩ := bcell hb2; have z2 := hb2.size; (try simp only [World.size_alloc, World.size_drew, World.size_setCell] at z2); (try have q2a : w.heap.size < w2.heap.size := by omega); (try have q2b : w.heap.size + 1 < w2.heap.size := by omega); (try have q2c : w.heap.size + 1 + 1 < w2.heap.size := by omega); (try have q2d : w.heap.size + 1 + 1 + 1 < w2.heap.size := by omega); (try have q2e : wr.heap.size < w2.heap.size := by omega); (try have q2f : wr.heap.size + 1 < w2.heap.size := by omega); (try have q2g : w1.heap.size < w2.heap.size := by omega); (try have q2h : w1.heap.size + 1 < w2.heap.size := by omega))) | (go_at_call 52; (with_reducible refine (c3 _).mono ?_); rintro e w3 ⟨rfl, hb3⟩; (obtain ⟨hc3, hf3⟩ := bcell hb3; have z3 := hb3.size; (try simp only [World.size_alloc, World.size_drew, World.size_setCell] at z3); (try have q3a : w.heap.size < w3.heap.size := by omega); (try have q3b : w.heap.size + 1 < w3.heap.size := by omega); (try have q3c : w.heap.size + 1 + 1 < w3.heap.size := by omega); (try have q3d : w.heap.size + 1 + 1 + 1 < w3.heap.size := by omega); (try have q3e : wr.heap.size < w3.heap.size := by omega); (try have q3f : wr.heap.size + 1 < w3.heap.size := by omega); (try have q3g : w2.heap.size < w3.heap.size := by omega); (try have q3h : w2.heap.size + 1 < w3.heap.size := by omega))))
        go_ret2
        exact ⟨rfl, by (repeat' (first | exact Below.refl _ _ | assumption | (with_reducible refine Below.drew ?_) | (with_reducible refine Below.setCell ?_ (by (first | (simp; done) | (simp; omega))) _) | (with_reducible refine below_drewN' ?_ _) | (refine Below.alloc ?_ (by (try simp only [World.size_alloc, World.size_drew, World.size_setCell]); omega) _) | (refine Below.trans ?_ (Below.mono (by assumption) (by (try simp only [World.size_alloc, World.size_drew, World.size_setCell]); omega)))))⟩
      | true =>
        rw [Bool.and_self, if_pos rfl] at hE
        rw [validS_eq] at hvx hvy
        simp only [Bool.and_eq_true, decide_eq_true_eq] at hvx hvy
        obtain ⟨⟨a1, a2⟩, a3⟩ := hvx
        obtain ⟨⟨e1, e2⟩, e3⟩ := hvy
        have c4 := fun w => size_any x1 x2 w a1 (by omega) (by omega) a3
        have c5 := fun w => size_any y1 y2 w e1 (by omega) (by omega) e3
        have hm : 0 ≤ (x2 - x1 + 1) * (y2 - y1 + 1) ∧ (x2 - x1 + 1) * (y2 - y1 + 1) ≤ 10001 * 10001 := ⟨Int.mul_nonneg (by omega) (by omega), Int.mul_le_mul (by omega) (by omega) (by omega) (by omega)⟩
        have u5 : IntKind.i64.wrap ((x2 - x1 + 1) * (y2 - y1 + 1)) = (x2 - x1 + 1) * (y2 - y1 + 1) := IntWalk.i64_in _ (by omega)
        obtain ⟨s1, hs1⟩ : ∃ x, x2 - x1 + 1 = x := ⟨_, rfl⟩
        obtain ⟨s2, hs2⟩ : ∃ x, y2 - y1 + 1 = x := ⟨_, rfl⟩
        rw [hs1, hs2] at u5 hE
        rw [hs1] at c4
        rw [hs2] at c5
        have hb : 2500 < s1 * s2 := by
          rcases Int.lt_or_le 2500 (s1 * s2) with h | h
          · exact h
          · rw [if_neg (by omega)] at hE; exact absurd hE.symm hn
        rw [if_pos hb] at hE
        obtain ⟨pr, hpr⟩ : ∃ x, s1 * s2 = x := ⟨_, rfl⟩
        subst hE
        have HPR : Aside (s1 * s2 = pr) := hpr
        have u6 : IntKind.i64.wrap (s1 * s2) = pr := by rw [u5]; exact hpr
        rw [hpr] at hb
        clear u5 hn hm hs1 hs2 hpr a1 a2 a3 e1 e2 e3
        go_enter Tryz.func21, Tryz.ntmps21
        go_upto_region 6 with (first | (go_at_call 10; (with_reducible refine (c1 _ ?hh).mono ?_); (case hh => (repeat' (first | exact Below.refl _ _ | assumption | (with_reducible refine Below.drew ?_) | (with_reducible refine Below.setCell ?_ (by (first | (simp; done) | (simp; omega))) _) | (with_reducible refine below_drewN' ?_ _) | (refine Below.alloc ?_ (by (try simp only [World.size_alloc, World.size_drew, World.size_setCell]); omega) _) | (refine Below.trans ?_ (Below.mono (by assumption) (by (try simp only [World.size_alloc, World.size_drew, World.size_setCell]); omega)))))); rintro e w1 ⟨rfl, hb1⟩; (obtain ⟨hc1, hf1⟩ := bcell hb1; have z1 := hb1.size; (try simp only [World.size_alloc, World.size_drew, World.size_setCell] at z1); (try have q1a : w.heap.size < w1.heap.size := by omega); (try have q1b : w.heap.size + 1 < w1.heap.size := by omega); (try have q1c : w.heap.size + 1 + 1 < w1.heap.size := by omega); (try have q1d : w.heap.size + 1 + 1 + 1 < w1.heap.size := by omega); (try have q1e : wr.heap.size < w1.heap.size := by omega); (try have q1f : wr.heap.size + 1 < w1.heap.size := by omega))) | (go_at_call 52; (with_reducible refine (c2 _).mono ?_); rintro e w2 ⟨rfl, hb2⟩; (obtain ⟨hc2, hf2⟩ := bcell hb2; have z2 := hb2.size; (try simp only [World.size_alloc, World.size_drew, World.size_setCell] at z2); (try have q2a : w.heap.size < w2.heap.size := by omega); (try have q2b : w.heap.size + 1 < w2.heap.size := by omega); (try have q2c : w.heap.size + 1 + 1 < w2.heap.size := by omega); (try have q2d : w.heap.size + 1 + 1 + 1 < w2.heap.size := by omega); (try have q2e : wr.heap.size < w2.heap.size := by omega); (try have q2f : wr.heap.size + 1 < w2.heap.size := by omega); (try have q2g : w1.heap.size < w2.heap.size := by omega); (try have q2h : w1.heap.size + 1 < w2.heap.size := by omega))) | (go_at_call 52; (with_reducible refine (c3 _).mono ?_); rintro e w3 ⟨rfl, hb3⟩; (obtain ⟨hc3, hf3⟩ := bcell hb3; have z3 := hb3.size; (try simp only [World.size_alloc, World.size_drew, World.size_setCell] at z3); (try have q3a : w.heap.size < w3.heap.size := by omega); (try have q3b : w.heap.size + 1 < w3.heap.size := by omega); (try have q3c : w.heap.size + 1 + 1 < w3.heap.size := by omega); (try have q3d : w.heap.size + 1 + 1 + 1 < w3.heap.size := by omega); (try have q3e : wr.heap.size < w3.heap.size := by omega); (try have q3f : wr.heap.size + 1 < w3.heap.size := by omega); (try have q3g : w2.heap.size < w3.heap.size := by omega); (try have q3h : w2.heap.size + 1 < w3.heap.size := by omega))))
        have k0 : w3.cell? ⟨w.heap.size + 1, 0, none⟩ = some (.int .i64 x1) := by go_simp
        have k1 : w3.cell? ⟨w.heap.size + 1, 1, none⟩ = some (.int .i64 x2) := by go_simp
        have k2 : w3.cell? ⟨w.heap.size + 1, 2, none⟩ = some (.int .i64 y1) := by go_simp
        have k3 : w3.cell? ⟨w.heap.size + 1, 3, none⟩ = some (.int .i64 y2) := by go_simp
        have B3 : Aside (Below w.heap.size w w3) := by show Below _ _ _; (repeat' (first | exact Below.refl _ _ | assumption | (with_reducible refine Below.drew ?_) | (with_reducible refine Below.setCell ?_ (by (first | (simp; done) | (simp; omega))) _) | (with_reducible refine below_drewN' ?_ _) | (refine Below.alloc ?_ (by (try simp only [World.size_alloc, World.size_drew, World.size_setCell]); omega) _) | (refine Below.trans ?_ (Below.mono (by assumption) (by (try simp only [World.size_alloc, World.size_drew, World.size_setCell]); omega)))))
        have MK : Aside (∀ w', Below w3.heap.size w3 w' → (Below w3.heap.size w3 w' ∧ w'.cell? ⟨w.heap.size + 1, 0, none⟩ = some (.int .i64 x1) ∧ w'.cell? ⟨w.heap.size + 1, 1, none⟩ = some (.int .i64 x2) ∧ w'.cell? ⟨w.heap.size + 1, 2, none⟩ = some (.int .i64 y1) ∧ w'.cell? ⟨w.heap.size + 1, 3, none⟩ = some (.int .i64 y2))) := fun w' hB => ⟨hB, keepc hB k0, keepc hB k1, keepc hB k2, keepc hB k3⟩
        clear hc1 hf1 hc2 hf2 hc3 hf3 k0 k1 k2 k3 hb1 hb2 hb3 c1 c2 c3
        refine region_class (fun w' => Below w3.heap.size w3 w' ∧ w'.cell? ⟨w.heap.size + 1, 0, none⟩ = some (.int .i64 x1) ∧ w'.cell? ⟨w.heap.size + 1, 1, none⟩ = some (.int .i64 x2) ∧ w'.cell? ⟨w.heap.size + 1, 2, none⟩ = some (.int .i64 y1) ∧ w'.cell? ⟨w.heap.size + 1, 3, none⟩ = some (.int .i64 y2)) (by kernel_rfl) (by kernel_rfl) (MK.out _ ((Below.refl _ _).drew)) ?_
        iterate 8 (first | go_big_quiet_skip | (go_big_quiet_want; unfold Oper.quiet; apply Exists.intro; refine ⟨fun W hW => ?_, ?_⟩; (go_split_ands; unfold Oper.quietAt; go_simp; first | rfl | exact ⟨rfl, rfl⟩ | ((first | (with_reducible refine (c4 _).mono ?_) | (with_reducible refine (c5 _).mono ?_)); rintro e w2 ⟨rfl, hb2, _⟩; exact ⟨rfl, MK.out _ (Below.trans (by assumption) (Below.mono (by assumption) (Below.size (by assumption))))⟩)); go_big_quiet_on; (try simp only [Act.put, List.setIfInBounds_toArray, List.set_cons_zero, List.set_cons_succ])))
        refine wpQuiet_nil ?_
        intro W hW
        obtain ⟨hBW, _⟩ := hW
        go_wp2_with fail
        go_ret2
        exact ⟨rfl, B3.out.trans (hBW.mono B3.out.size)⟩
  · rw [if_neg hc] at hE
    subst hE
    go_enter Tryz.func21, Tryz.ntmps21
    go_wp2_with (go_at_call 10; (with_reducible refine (c1 _ ?hh).mono ?_); (case hh => (repeat' (first | exact Below.refl _ _ | assumption | (with_reducible refine Below.drew ?_) | (with_reducible refine Below.setCell ?_ (by (first | (simp; done) | (simp; omega))) _) | (with_reducible refine below_drewN' ?_ _) | (refine Below.alloc ?_ (by (try simp only [World.size_alloc, World.size_drew, World.size_setCell]); omega) _) | (refine Below.trans ?_ (Below.mono (by assumption) (by (try simp only [World.size_alloc, World.size_drew, World.size_setCell]); omega)))))); rintro e w1 ⟨rfl, hb1⟩; (obtain ⟨hc1, hf1⟩ := bcell hb1; have z1 := hb1.size; (try simp only [World.size_alloc, World.size_drew, World.size_setCell] at z1); (try have q1a : w.heap.size < w1.heap.size := by omega); (try have q1b : w.heap.size + 1 < w1.heap.size := by omega); (try have q1c : w.heap.size + 1 + 1 < w1.heap.size := by omega); (try have q1d : w.heap.size + 1 + 1 + 1 < w1.heap.size := by omega); (try have q1e : wr.heap.size < w1.heap.size := by omega); (try have q1f : wr.heap.size + 1 < w1.heap.size := by omega)))
    go_ret2
    exact ⟨rfl, by (repeat' (first | exact Below.refl _ _ | assumption | (with_reducible refine Below.drew ?_) | (with_reducible refine Below.setCell ?_ (by (first | (simp; done) | (simp; omega))) _) | (with_reducible refine below_drewN' ?_ _) | (refine Below.alloc ?_ (by (try simp only [World.size_alloc, World.size_drew, World.size_setCell]); omega) _) | (refine Below.trans ?_ (Below.mono (by assumption) (by (try simp only [World.size_alloc, World.size_drew, World.size_setCell]); omega)))))⟩
end Go.Proofs.YtgceffpkhmjmkaaGreat
