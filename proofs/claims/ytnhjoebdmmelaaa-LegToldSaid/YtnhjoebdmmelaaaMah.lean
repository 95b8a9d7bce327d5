/- Leg: parts I, J. -/
import Derived.Test.YtnhjoebdmmelaaaMaf
set_option linter.unusedVariables false
set_option linter.unusedSimpArgs false
namespace Go.Proofs.Ytnhjoebdmmelaaa
section
open Go.RowKit Go.Shelf
def mtlV (m : MtL) : Value := .agg #[.int .i64 m.legs, .int .i64 m.sets, .int .i64 m.clear, .int .i64 m.extra, .int .i64 m.first]
def MtAt (w : World) (V : Nat) (g : Mt) (f : Int) (m : MtL) : Prop :=
 w.heap[V]? = some (.cells #[.int .i64 g.s0, .int .i64 g.s1, .int .i64 g.l0, .int .i64 g.l1, .int .i64 f, .int .i64 g.win, .int .i64 m.legs, .int .i64 m.sets, .int .i64 m.clear, .int .i64 m.extra, .int .i64 m.first] 125 (0, 0))
set_option maxRecDepth 100000 in
set_option maxHeartbeats 2000000 in
theorem validMatch_any (m : MtL) (w : World) : Calls Try.prog 59 #[mtlV m] w (Ret (.bool (vmt m)) w) := by
 obtain ⟨a, b, c, d, e⟩ := m
 have y := fun lo hi x W k hk t => within_any lo hi _ [x] _ (sl_one W k hk t x)
 simp only [List.all_cons, List.all_nil, Bool.and_true] at y
 have y1 := y 1 25 a
 have y2 := y 1 25 b
 have y3 := y 1 2 c
 have y4 := y 0 25 d
 have y5 := y 0 1 e
 clear y
 unfold vmt mtlV
 simp only []
 generalize inb 1 25 a = r1 at *
 generalize inb 1 25 b = r2 at *
 generalize inb 1 2 c = r3 at *
 generalize inb 0 25 d = r4 at *
 generalize inb 0 1 e = r5 at *
 cases r1 with
 | false =>
  rw [Bool.false_and]
  go_enter Try.func59, Try.ntmps59
  go_wp2_with (first | (go_at_call 47; (with_reducible refine (y1 _ _ (by simp) _).mono ?_); rintro e w1 ⟨rfl, hb1⟩; (obtain ⟨hc1, hf1⟩ := bcell hb1; have z1 := hb1.size; (try simp only [World.size_alloc, World.size_drew, World.size_setCell] at z1); (try have q1a : w.heap.size < w1.heap.size := by omega); (try have q1b : w.heap.size + 1 < w1.heap.size := by omega); (try have q1c : w.heap.size + 1 + 1 < w1.heap.size := by omega); (try have q1d : w.heap.size + 1 + 1 + 1 < w1.heap.size := by omega); (try have q1e : wr.heap.size < w1.heap.size := by omega); (try have q1f : wr.heap.size + 1 < w1.heap.size := by omega))))
  go_ret
  exact ⟨rfl, by (repeat' (first | exact Below.refl _ _ | assumption | (with_reducible refine Below.drew ?_) | (with_reducible refine Below.setCell ?_ (by (first | (simp; done) | (simp; omega))) _) | (with_reducible refine below_drewN' ?_ _) | (refine Below.alloc ?_ (by (try simp only [World.size_alloc, World.size_drew, World.size_setCell]); omega) _) | (refine Below.trans ?_ (Below.mono (by assumption) (by (try simp only [World.size_alloc, World.size_drew, World.size_setCell]); omega)))))⟩
 | true =>
  rw [Bool.true_and]
  cases r2 with
  | false =>
   rw [Bool.false_and]
   go_enter Try.func59, Try.ntmps59
   go_wp2_with (first | (go_at_call 47; (with_reducible refine (y1 _ _ (by simp) _).mono ?_); rintro e w1 ⟨rfl, hb1⟩; (obtain ⟨hc1, hf1⟩ := bcell hb1; have z1 := hb1.size; (try simp only [World.size_alloc, World.size_drew, World.size_setCell] at z1); (try have q1a : w.heap.size < w1.heap.size := by omega); (try have q1b : w.heap.size + 1 < w1.heap.size := by omega); (try have q1c : w.heap.size + 1 + 1 < w1.heap.size := by omega); (try have q1d : w.heap.size + 1 + 1 + 1 < w1.heap.size := by omega); (try have q1e : wr.heap.size < w1.heap.size := by omega); (try have q1f : wr.heap.size + 1 < w1.heap.size := by omega))) | (go_at_call 47; (with_reducible refine (y2 _ _ (by simp) _).mono ?_); rintro e w2 ⟨rfl, hb2⟩; (obtain ⟨hc2, hf2⟩ := bcell hb2; have z2 := hb2.size; (try simp only [World.size_alloc, World.size_drew, World.size_setCell] at z2); (try have q2a : w.heap.size < w2.heap.size := by omega); (try have q2b : w.heap.size + 1 < w2.heap.size := by omega); (try have q2c : w.heap.size + 1 + 1 < w2.heap.size := by omega); (try have q2d : w.heap.size + 1 + 1 + 1 < w2.heap.size := by omega); (try have q2e : wr.heap.size < w2.heap.size := by omega); (try have q2f : wr.heap.size + 1 < w2.heap.size := by omega); (try have q2g : w1.heap.size < w2.heap.size := by omega); (try have q2h : w1.heap.size + 1 < w2.heap.size := by omega))))
   go_ret
   exact ⟨rfl, by (repeat' (first | exact Below.refl _ _ | assumption | (with_reducible refine Below.drew ?_) | (with_reducible refine Below.setCell ?_ (by (first | (simp; done) | (simp; omega))) _) | (with_reducible refine below_drewN' ?_ _) | (refine Below.alloc ?_ (by (try simp only [World.size_alloc, World.size_drew, World.size_setCell]); omega) _) | (refine Below.trans ?_ (Below.mono (by assumption) (by (try simp only [World.size_alloc, World.size_drew, World.size_setCell]); omega)))))⟩
  | true =>
   rw [Bool.true_and]
   cases r3 with
   | false =>
    rw [Bool.false_and]
    go_enter Try.func59, Try.ntmps59
    go_wp2_with (first | (go_at_call 47; (with_reducible refine (y1 _ _ (by simp) _).mono ?_); rintro e w1 ⟨rfl, hb1⟩; (obtain ⟨hc1, hf1⟩ := bcell hb1; have z1 := hb1.size; (try simp only [World.size_alloc, World.size_drew, World.size_setCell] at z1); (try have q1a : w.heap.size < w1.heap.size := by omega); (try have q1b : w.heap.size + 1 < w1.heap.size := by omega); (try have q1c : w.heap.size + 1 + 1 < w1.heap.size := by omega); (try have q1d : w.heap.size + 1 + 1 + 1 < w1.heap.size := by omega); (try have q1e : wr.heap.size < w1.heap.size := by omega); (try have q1f : wr.heap.size + 1 < w1.heap.size := by omega))) | (go_at_call 47; (with_reducible refine (y2 _ _ (by simp) _).mono ?_); rintro e w2 ⟨rfl, hb2⟩; (obtain ⟨hc2, hf2⟩ := bcell hb2; have z2 := hb2.size; (try simp only [World.size_alloc, World.size_drew, World.size_setCell] at z2); (try have q2a : w.heap.size < w2.heap.size := by omega); (try have q2b : w.heap.size + 1 < w2.heap.size := by omega); (try have q2c : w.heap.size + 1 + 1 < w2.heap.size := by omega); (try have q2d : w.heap.size + 1 + 1 + 1 < w2.heap.size := by omega); (try have q2e : wr.heap.size < w2.heap.size := by omega); (try have q2f : wr.heap.size + 1 < w2.heap.size := by omega); (try have q2g : w1.heap.size < w2.heap.size := by omega); (try have q2h : w1.heap.size + 1 < w2.heap.size := by omega))) | (go_at_call 47; (with_reducible refine (y3 _ _ (by simp) _).mono ?_); rintro e w3 ⟨rfl, hb3⟩; (obtain ⟨hc3, hf3⟩ := bcell hb3; have z3 := hb3.size; (try simp only [World.size_alloc, World.size_drew, World.size_setCell] at z3); (try have q3a : w.heap.size < w3.heap.size := by omega); (try have q3b : w.heap.size + 1 < w3.heap.size := by omega); (try have q3c : w.heap.size + 1 + 1 < w3.heap.size := by omega); (try have q3d : w.heap.size + 1 + 1 + 1 < w3.heap.size := by omega); (try have q3e : wr.heap.size < w3.heap.size := by omega); (try have q3f : wr.heap.size + 1 < w3.heap.size := by omega); (try have q3g : w2.heap.size < w3.heap.size := by omega); (try have q3h : w2.heap.size + 1 < w3.heap.size := by omega))))
    go_ret
    exact ⟨rfl, by (repeat' (first | exact Below.refl _ _ | assumption | (with_reducible refine Below.drew ?_) | (with_reducible refine Below.setCell ?_ (by (first | (simp; done) | (simp; omega))) _) | (with_reducible refine below_drewN' ?_ _) | (refine Below.alloc ?_ (by (try simp only [World.size_alloc, World.size_drew, World.size_setCell]); omega) _) | (refine Below.trans ?_ (Below.mono (by assumption) (by (try simp only [World.size_alloc, World.size_drew, World.size_setCell]); omega)))))⟩
   | true =>
    rw [Bool.true_and]
    cases r4 with
    | false =>
     rw [Bool.false_and]
     go_enter Try.func59, Try.ntmps59
     go_wp2_with (first | (go_at_call 47; (with_reducible refine (y1 _ _ (by simp) _).mono ?_); rintro e w1 ⟨rfl, hb1⟩; (obtain ⟨hc1, hf1⟩ := bcell hb1; have z1 := hb1.size; (try simp only [World.size_alloc, World.size_drew, World.size_setCell] at z1); (try have q1a : w.heap.size < w1.heap.size := by omega); (try have q1b : w.heap.size + 1 < w1.heap.size := by omega); (try have q1c : w.heap.size + 1 + 1 < w1.heap.size := by omega); (try have q1d : w.heap.size + 1 + 1 + 1 < w1.heap.size := by omega); (try have q1e : wr.heap.size < w1.heap.size := by omega); (try have q1f : wr.heap.size + 1 < w1.heap.size := by omega))) | (go_at_call 47; (with_reducible refine (y2 _ _ (by simp) _).mono ?_); rintro e w2 ⟨rfl, hb2⟩; (obtain ⟨hc2, hf2⟩ := bcell hb2; have z2 := hb2.size; (try simp only [World.size_alloc, World.size_drew, World.size_setCell] at z2); (try have q2a : w.heap.size < w2.heap.size := by omega); (try have q2b : w.heap.size + 1 < w2.heap.size := by omega); (try have q2c : w.heap.size + 1 + 1 < w2.heap.size := by omega); (try have q2d : w.heap.size + 1 + 1 + 1 < w2.heap.size := by omega); (try have q2e : wr.heap.size < w2.heap.size := by omega); (try have q2f : wr.heap.size + 1 < w2.heap.size := by omega); (try have q2g : w1.heap.size < w2.heap.size := by omega); (try have q2h : w1.heap.size + 1 < w2.heap.size := by omega))) | (go_at_call 47; (with_reducible refine (y3 _ _ (by simp) _).mono ?_); rintro e w3 ⟨rfl, hb3⟩; (obtain ⟨hc3, hf3⟩ := bcell hb3; have z3 := hb3.size; (try simp only [World.size_alloc, World.size_drew, World.size_setCell] at z3); (try have q3a : w.heap.size < w3.heap.size := by omega); (try have q3b : w.heap.size + 1 < w3.heap.size := by omega); (try have q3c : w.heap.size + 1 + 1 < w3.heap.size := by omega); (try have q3d : w.heap.size + 1 + 1 + 1 < w3.heap.size := by omega); (try have q3e : wr.heap.size < w3.heap.size := by omega); (try have q3f : wr.heap.size + 1 < w3.heap.size := by omega); (try have q3g : w2.heap.size < w3.heap.size := by omega); (try have q3h : w2.heap.size + 1 < w3.heap.size := by omega))) | (go_at_call 47; (with_reducible refine (y4 _ _ (by simp) _).mono ?_); rintro e w4 ⟨rfl, hb4⟩; (obtain ⟨hc4, hf4⟩ := bcell hb4; have z4 := hb4.size; (try simp only [World.size_alloc, World.size_drew, World.size_setCell] at z4); (try have q4a : w.heap.size < w4.heap.size := by omega); (try have q4b : w.heap.size + 1 < w4.heap.size := by omega); (try have q4c : w.heap.size + 1 + 1 < w4.heap.size := by omega); (try have q4d : w.heap.size + 1 + 1 + 1 < w4.heap.size := by omega); (try have q4e : wr.heap.size < w4.heap.size := by omega); (try have q4f : wr.heap.size + 1 < w4.heap.size := by omega); (try have q4g : w3.heap.size < w4.heap.size := by omega); (try have q4h : w3.heap.size + 1 < w4.heap.size := by omega))))
     go_ret
     exact ⟨rfl, by (repeat' (first | exact Below.refl _ _ | assumption | (with_reducible refine Below.drew ?_) | (with_reducible refine Below.setCell ?_ (by (first | (simp; done) | (simp; omega))) _) | (with_reducible refine below_drewN' ?_ _) | (refine Below.alloc ?_ (by (try simp only [World.size_alloc, World.size_drew, World.size_setCell]); omega) _) | (refine Below.trans ?_ (Below.mono (by assumption) (by (try simp only [World.size_alloc, World.size_drew, World.size_setCell]); omega)))))⟩
    | true =>
     rw [Bool.true_and]
     go_enter Try.func59, Try.ntmps59
     go_wp2_with (first | (go_at_call 47; (with_reducible refine (y1 _ _ (by simp) _).mono ?_); rintro e w1 ⟨rfl, hb1⟩; (obtain ⟨hc1, hf1⟩ := bcell hb1; have z1 := hb1.size; (try simp only [World.size_alloc, World.size_drew, World.size_setCell] at z1); (try have q1a : w.heap.size < w1.heap.size := by omega); (try have q1b : w.heap.size + 1 < w1.heap.size := by omega); (try have q1c : w.heap.size + 1 + 1 < w1.heap.size := by omega); (try have q1d : w.heap.size + 1 + 1 + 1 < w1.heap.size := by omega); (try have q1e : wr.heap.size < w1.heap.size := by omega); (try have q1f : wr.heap.size + 1 < w1.heap.size := by omega))) | (go_at_call 47; (with_reducible refine (y2 _ _ (by simp) _).mono ?_); rintro e w2 ⟨rfl, hb2⟩; (obtain ⟨hc2, hf2⟩ := bcell hb2; have z2 := hb2.size; (try simp only [World.size_alloc, World.size_drew, World.size_setCell] at z2); (try have q2a : w.heap.size < w2.heap.size := by omega); (try have q2b : w.heap.size + 1 < w2.heap.size := by omega); (try have q2c : w.heap.size + 1 + 1 < w2.heap.size := by omega); (try have q2d : w.heap.size + 1 + 1 + 1 < w2.heap.size := by omega); (try have q2e : wr.heap.size < w2.heap.size := by omega); (try have q2f : wr.heap.size + 1 < w2.heap.size := by omega); (try have q2g : w1.heap.size < w2.heap.size := by omega); (try have q2h : w1.heap.size + 1 < w2.heap.size := by omega))) | (go_at_call 47; (with_reducible refine (y3 _ _ (by simp) _).mono ?_); rintro e w3 ⟨rfl, hb3⟩; (obtain ⟨hc3, hf3⟩ := bcell hb3; have z3 := hb3.size; (try simp only [World.size_alloc, World.size_drew, World.size_setCell] at z3); (try have q3a : w.heap.size < w3.heap.size := by omega); (try have q3b : w.heap.size + 1 < w3.heap.size := by omega); (try have q3c : w.heap.size + 1 + 1 < w3.heap.size := by omega); (try have q3d : w.heap.size + 1 + 1 + 1 < w3.heap.size := by omega); (try have q3e : wr.heap.size < w3.heap.size := by omega); (try have q3f : wr.heap.size + 1 < w3.heap.size := by omega); (try have q3g : w2.heap.size < w3.heap.size := by omega); (try have q3h : w2.heap.size + 1 < w3.heap.size := by omega))) | (go_at_call 47; (with_reducible refine (y4 _ _ (by simp) _).mono ?_); rintro e w4 ⟨rfl, hb4⟩; (obtain ⟨hc4, hf4⟩ := bcell hb4; have z4 := hb4.size; (try simp only [World.size_alloc, World.size_drew, World.size_setCell] at z4); (try have q4a : w.heap.size < w4.heap.size := by omega); (try have q4b : w.heap.size + 1 < w4.heap.size := by omega); (try have q4c : w.heap.size + 1 + 1 < w4.heap.size := by omega); (try have q4d : w.heap.size + 1 + 1 + 1 < w4.heap.size := by omega); (try have q4e : wr.heap.size < w4.heap.size := by omega); (try have q4f : wr.heap.size + 1 < w4.heap.size := by omega); (try have q4g : w3.heap.size < w4.heap.size := by omega); (try have q4h : w3.heap.size + 1 < w4.heap.size := by omega))) | (go_at_call 47; (with_reducible refine (y5 _ _ (by simp) _).mono ?_); rintro e w5 ⟨rfl, hb5⟩; (obtain ⟨hc5, hf5⟩ := bcell hb5; have z5 := hb5.size; (try simp only [World.size_alloc, World.size_drew, World.size_setCell] at z5); (try have q5a : w.heap.size < w5.heap.size := by omega); (try have q5b : w.heap.size + 1 < w5.heap.size := by omega); (try have q5c : w.heap.size + 1 + 1 < w5.heap.size := by omega); (try have q5d : w.heap.size + 1 + 1 + 1 < w5.heap.size := by omega); (try have q5e : wr.heap.size < w5.heap.size := by omega); (try have q5f : wr.heap.size + 1 < w5.heap.size := by omega); (try have q5g : w4.heap.size < w5.heap.size := by omega); (try have q5h : w4.heap.size + 1 < w5.heap.size := by omega))))
     go_ret
     exact ⟨rfl, by (repeat' (first | exact Below.refl _ _ | assumption | (with_reducible refine Below.drew ?_) | (with_reducible refine Below.setCell ?_ (by (first | (simp; done) | (simp; omega))) _) | (with_reducible refine below_drewN' ?_ _) | (refine Below.alloc ?_ (by (try simp only [World.size_alloc, World.size_drew, World.size_setCell]); omega) _) | (refine Below.trans ?_ (Below.mono (by assumption) (by (try simp only [World.size_alloc, World.size_drew, World.size_setCell]); omega)))))⟩
theorem eqArr (d : Nat) (a b c e : Int) (w : World) : (Op.equalIn (d + 1 + 1) 69 (.agg #[.int .i64 a, .int .i64 b]) (.agg #[.int .i64 c, .int .i64 e])).run Try.prog w = .ok (a == c && b == e) w := by
 unfold Op.equalIn
 simp only [Sem.run_bind, run_underlying Try.underlying69, Result.andThen_ok]
 have h3 : ∀ x y w, (Op.equalIn (d + 1) 3 (.int .i64 x) (.int .i64 y)).run Try.prog w = .ok (x == y) w := fun x y w => run_equalIn_int w d 3 .i64 .i64 x y Try.underlying3
 have hs : ∀ w, (sizeOf 3).run Try.prog w = .ok 1 w := fun w => Try.sizeOf3 w
 simp only [hs, Result.andThen_ok]
 have hp0 : ∀ (x y : Int) w, (part 3 #[Value.int IntKind.i64 x, Value.int IntKind.i64 y] (0 * 1)).run Try.prog w = .ok (.int .i64 x) w := fun _ _ _ => by kernel_rfl
 have hp1 : ∀ (x y : Int) w, (part 3 #[Value.int IntKind.i64 x, Value.int IntKind.i64 y] (1 * 1)).run Try.prog w = .ok (.int .i64 y) w := fun _ _ _ => by kernel_rfl
 have hr : ∀ {β : Type} (f : Nat → β → Sem (ForInStep β)) (z : β), forIn [:2] z f = forIn (m := Sem) [0, 1] z f := by
  intro β f z
  rw [Std.Legacy.Range.forIn_eq_forIn_range']
  rfl
 rw [hr]
 simp only [List.forIn_cons, List.forIn_nil, Sem.run_bind, hp0, h3, Result.andThen_ok]
 cases h1 : (a == c) <;> cases h2 : (b == e) <;> simp [Sem.run_pure, Sem.run_bind, hp1, h3, h2, Result.andThen]
theorem eqArr2 (a b c e : Int) (w : World) : (Op.equalIn 10000 69 (.agg #[.int .i64 a, .int .i64 b]) (.agg #[.int .i64 c, .int .i64 e])).run Try.prog w = .ok (a == c && b == e) w := eqArr 9998 a b c e w
set_option maxRecDepth 100000 in
set_option maxHeartbeats 4000000 in
theorem winsSet0 (V : Nat) (s0 s1 l0 l1 f win : Int) (legs sets clear extra first : Int) (w : World)
  (hV : w.heap[V]? = some (.cells #[.int .i64 s0, .int .i64 s1, .int .i64 l0, .int .i64 l1, .int .i64 f, .int .i64 win, .int .i64 legs, .int .i64 sets, .int .i64 clear, .int .i64 extra, .int .i64 first] 125 (0, 0)))
  (a0 : 0 ≤ l0) (a1 : l0 ≤ 9000000000000000000) (b0 : 0 ≤ l1) (b1 : l1 ≤ 9000000000000000000) (c0 : 0 ≤ sets) (c1 : sets ≤ 25) (d0 : 0 ≤ legs) (d1 : legs ≤ 25) (e0 : 0 ≤ extra) (e1 : extra ≤ 25) :
  Calls Try.prog 80 #[.pointer (some ⟨V, 0, none⟩), .int .i64 0] w (Ret (.bool (setWon ⟨legs, sets, clear, extra, first⟩ s0 s1 l0 l1)) w) := by
 have k0 : w.cell? ⟨V, 0, none⟩ = some (.int .i64 s0) := blk_cell hV rfl
 have k1 : w.cell? ⟨V, 1, none⟩ = some (.int .i64 s1) := blk_cell hV rfl
 have k2 : w.cell? ⟨V, 2, none⟩ = some (.int .i64 l0) := blk_cell hV rfl
 have k3 : w.cell? ⟨V, 3, none⟩ = some (.int .i64 l1) := blk_cell hV rfl
 have k6 : w.cell? ⟨V, 6, none⟩ = some (.int .i64 legs) := blk_cell hV rfl
 have k7 : w.cell? ⟨V, 7, none⟩ = some (.int .i64 sets) := blk_cell hV rfl
 have k8 : w.cell? ⟨V, 8, none⟩ = some (.int .i64 clear) := blk_cell hV rfl
 have k9 : w.cell? ⟨V, 9, none⟩ = some (.int .i64 extra) := blk_cell hV rfl
 clear hV
 have MK : Aside (∀ w', Below w.heap.size w w' → (Below w.heap.size w w' ∧ w'.cell? ⟨V, 2, none⟩ = some (.int .i64 l0) ∧ w'.cell? ⟨V, 3, none⟩ = some (.int .i64 l1))) := fun w' hB => ⟨hB, keepc hB k2, keepc hB k3⟩
 have ew : IntKind.i64.wrap (l0 - l1) = l0 - l1 := IntWalk.i64_in _ (by omega)
 have ew1 : IntKind.i64.wrap 1 = 1 := by decide
 have ew0 : IntKind.i64.wrap 0 = 0 := by decide
 have HS : Aside (setWon ⟨legs, sets, clear, extra, first⟩ s0 s1 l0 l1 = if s0 = sets - 1 ∧ s1 = sets - 1 then (decide (legs ≤ l0) && decide (clear ≤ l0 - l1)) || decide (l0 = legs + extra) else decide (l0 = legs)) := rfl
 generalize setWon ⟨legs, sets, clear, extra, first⟩ s0 s1 l0 l1 = res at *
 have hq := eqArr2 s0 s1 (sets - 1) (sets - 1)
 go_enter Try.func80, Try.ntmps80
 go_wp2_with fail
 refine region_class (fun w' => Below w.heap.size w w' ∧ w'.cell? ⟨V, 2, none⟩ = some (.int .i64 l0) ∧ w'.cell? ⟨V, 3, none⟩ = some (.int .i64 l1)) (by kernel_rfl) (by kernel_rfl) (MK.out _ ((Below.refl _ _).drew)) ?_
 iterate 25 (first | go_big_quiet_skip | (go_big_quiet_want; unfold Oper.quiet; apply Exists.intro; refine ⟨fun W hW => ?_, ?_⟩; (go_split_ands; unfold Oper.quietAt; go_simp; first | rfl | exact ⟨rfl, rfl⟩ | fail); go_big_quiet_on; (try simp only [Act.put, List.setIfInBounds_toArray, List.set_cons_zero, List.set_cons_succ])))
 refine wpQuiet_nil ?_
 intro wa hwa
 have ba : Below w.heap.size w wa := hwa.1
 have j0 := keepc ba k0
 have j1 := keepc ba k1
 have j6 := keepc ba k6
 have j7 := keepc ba k7
 have j8 := keepc ba k8
 have j9 := keepc ba k9
 have BA : Aside (Below w.heap.size w wa) := ba
 clear hwa MK k0 k1 k2 k3 k6 k7 k8 k9 ba ew ew1 ew0
 by_cases hA : s0 = sets - 1 ∧ s1 = sets - 1
 ·have HR : Aside (res = ((decide (legs ≤ l0) && decide (clear ≤ l0 - l1)) || decide (l0 = legs + extra))) := by
   show _ = _
   rw [HS.out, if_pos hA]
  have q0 : (s0 == sets - 1) = true := by simpa using hA.1
  have q1 : (s1 == sets - 1) = true := by simpa using hA.2
  clear hA HS
  go_wp2_with fail
  clear hq q0 q1
  have MK : Aside (∀ w', Below wa.heap.size wa w' → (Below wa.heap.size wa w' ∧ w'.cell? ⟨V, 6, none⟩ = some (.int .i64 legs) ∧ w'.cell? ⟨V, 8, none⟩ = some (.int .i64 clear) ∧ w'.cell? ⟨V, 9, none⟩ = some (.int .i64 extra))) := fun w' hB => ⟨hB, keepc hB j6, keepc hB j8, keepc hB j9⟩
  have ew : IntKind.i64.wrap (legs + extra) = legs + extra := IntWalk.i64_in _ (by omega)
  have e3 : decide (l0 = legs + extra) = (l0 == legs + extra) := by rw [Bool.eq_iff_iff]; simp
  cases hp : decide (legs ≤ l0) with
  | false =>
   have HR2 : Aside (res = (l0 == legs + extra)) := by
    show _ = _
    rw [HR.out, hp, Bool.false_and, Bool.false_or, e3]
   clear HR e3
   refine region_class (fun w' => Below wa.heap.size wa w' ∧ w'.cell? ⟨V, 6, none⟩ = some (.int .i64 legs) ∧ w'.cell? ⟨V, 8, none⟩ = some (.int .i64 clear) ∧ w'.cell? ⟨V, 9, none⟩ = some (.int .i64 extra)) (by kernel_rfl) (by kernel_rfl) (MK.out _ ((Below.refl _ _).drew)) ?_
   iterate 32 (first | go_big_quiet_skip | (go_big_quiet_want; unfold Oper.quiet; apply Exists.intro; refine ⟨fun W hW => ?_, ?_⟩; (go_split_ands; unfold Oper.quietAt; go_simp; first | rfl | exact ⟨rfl, rfl⟩ | fail); go_big_quiet_on; (try simp only [Act.put, List.setIfInBounds_toArray, List.set_cons_zero, List.set_cons_succ])))
   refine wpQuiet_nil ?_
   intro w2 hw2
   clear ew
   go_wp2
   go_ret
   exact ⟨by rw [HR2.out]; rfl, BA.out.trans (hw2.1.mono BA.out.size)⟩
  | true =>
   cases hc : decide (clear ≤ l0 - l1) with
   | false =>
    have HR2 : Aside (res = (l0 == legs + extra)) := by
     show _ = _
     rw [HR.out, hp, hc, Bool.true_and, Bool.false_or, e3]
    clear HR e3
    refine region_class (fun w' => Below wa.heap.size wa w' ∧ w'.cell? ⟨V, 6, none⟩ = some (.int .i64 legs) ∧ w'.cell? ⟨V, 8, none⟩ = some (.int .i64 clear) ∧ w'.cell? ⟨V, 9, none⟩ = some (.int .i64 extra)) (by kernel_rfl) (by kernel_rfl) (MK.out _ ((Below.refl _ _).drew)) ?_
    iterate 32 (first | go_big_quiet_skip | (go_big_quiet_want; unfold Oper.quiet; apply Exists.intro; refine ⟨fun W hW => ?_, ?_⟩; (go_split_ands; unfold Oper.quietAt; go_simp; first | rfl | exact ⟨rfl, rfl⟩ | fail); go_big_quiet_on; (try simp only [Act.put, List.setIfInBounds_toArray, List.set_cons_zero, List.set_cons_succ])))
    refine wpQuiet_nil ?_
    intro w2 hw2
    clear ew
    go_wp2
    go_ret
    exact ⟨by rw [HR2.out]; rfl, BA.out.trans (hw2.1.mono BA.out.size)⟩
   | true =>
    have HR2 : Aside (res = true) := by
     show _ = _
     rw [HR.out, hp, hc, Bool.true_and, Bool.true_or]
    clear HR e3
    refine region_class (fun w' => Below wa.heap.size wa w' ∧ w'.cell? ⟨V, 6, none⟩ = some (.int .i64 legs) ∧ w'.cell? ⟨V, 8, none⟩ = some (.int .i64 clear) ∧ w'.cell? ⟨V, 9, none⟩ = some (.int .i64 extra)) (by kernel_rfl) (by kernel_rfl) (MK.out _ ((Below.refl _ _).drew)) ?_
    iterate 32 (first | go_big_quiet_skip | (go_big_quiet_want; unfold Oper.quiet; apply Exists.intro; refine ⟨fun W hW => ?_, ?_⟩; (go_split_ands; unfold Oper.quietAt; go_simp; first | rfl | exact ⟨rfl, rfl⟩ | fail); go_big_quiet_on; (try simp only [Act.put, List.setIfInBounds_toArray, List.set_cons_zero, List.set_cons_succ])))
    refine wpQuiet_nil ?_
    intro w2 hw2
    clear ew
    go_wp2
    go_ret
    exact ⟨by rw [HR2.out]; rfl, BA.out.trans (hw2.1.mono BA.out.size)⟩
 ·have HR : Aside (res = (l0 == legs)) := by
   show _ = _
   rw [HS.out, if_neg hA]
   rw [Bool.eq_iff_iff]; simp
  clear HS
  cases q0 : (s0 == sets - 1) with
  | false =>
   clear hA
   go_wp2
   go_ret
   exact ⟨by rw [HR.out]; rfl, BA.out⟩
  | true =>
   have q1 : (s1 == sets - 1) = false := by
    simp only [beq_iff_eq] at q0
    simpa [q0] using hA
   clear hA
   go_wp2
   go_ret
   exact ⟨by rw [HR.out]; rfl, BA.out⟩
set_option maxRecDepth 100000 in
set_option maxHeartbeats 4000000 in
theorem winsSet1 (V : Nat) (s0 s1 l0 l1 f win : Int) (legs sets clear extra first : Int) (w : World)
  (hV : w.heap[V]? = some (.cells #[.int .i64 s0, .int .i64 s1, .int .i64 l0, .int .i64 l1, .int .i64 f, .int .i64 win, .int .i64 legs, .int .i64 sets, .int .i64 clear, .int .i64 extra, .int .i64 first] 125 (0, 0)))
  (a0 : 0 ≤ l0) (a1 : l0 ≤ 9000000000000000000) (b0 : 0 ≤ l1) (b1 : l1 ≤ 9000000000000000000) (c0 : 0 ≤ sets) (c1 : sets ≤ 25) (d0 : 0 ≤ legs) (d1 : legs ≤ 25) (e0 : 0 ≤ extra) (e1 : extra ≤ 25) :
  Calls Try.prog 80 #[.pointer (some ⟨V, 0, none⟩), .int .i64 1] w (Ret (.bool (setWon ⟨legs, sets, clear, extra, first⟩ s0 s1 l1 l0)) w) := by
 have k0 : w.cell? ⟨V, 0, none⟩ = some (.int .i64 s0) := blk_cell hV rfl
 have k1 : w.cell? ⟨V, 1, none⟩ = some (.int .i64 s1) := blk_cell hV rfl
 have k2 : w.cell? ⟨V, 2, none⟩ = some (.int .i64 l0) := blk_cell hV rfl
 have k3 : w.cell? ⟨V, 3, none⟩ = some (.int .i64 l1) := blk_cell hV rfl
 have k6 : w.cell? ⟨V, 6, none⟩ = some (.int .i64 legs) := blk_cell hV rfl
 have k7 : w.cell? ⟨V, 7, none⟩ = some (.int .i64 sets) := blk_cell hV rfl
 have k8 : w.cell? ⟨V, 8, none⟩ = some (.int .i64 clear) := blk_cell hV rfl
 have k9 : w.cell? ⟨V, 9, none⟩ = some (.int .i64 extra) := blk_cell hV rfl
 clear hV
 have MK : Aside (∀ w', Below w.heap.size w w' → (Below w.heap.size w w' ∧ w'.cell? ⟨V, 2, none⟩ = some (.int .i64 l0) ∧ w'.cell? ⟨V, 3, none⟩ = some (.int .i64 l1))) := fun w' hB => ⟨hB, keepc hB k2, keepc hB k3⟩
 have ew : IntKind.i64.wrap (l1 - l0) = l1 - l0 := IntWalk.i64_in _ (by omega)
 have ew1 : IntKind.i64.wrap 1 = 1 := by decide
 have ew0 : IntKind.i64.wrap 0 = 0 := by decide
 have HS : Aside (setWon ⟨legs, sets, clear, extra, first⟩ s0 s1 l1 l0 = if s0 = sets - 1 ∧ s1 = sets - 1 then (decide (legs ≤ l1) && decide (clear ≤ l1 - l0)) || decide (l1 = legs + extra) else decide (l1 = legs)) := rfl
 generalize setWon ⟨legs, sets, clear, extra, first⟩ s0 s1 l1 l0 = res at *
 have hq := eqArr2 s0 s1 (sets - 1) (sets - 1)
 go_enter Try.func80, Try.ntmps80
 go_wp2_with fail
 refine region_class (fun w' => Below w.heap.size w w' ∧ w'.cell? ⟨V, 2, none⟩ = some (.int .i64 l0) ∧ w'.cell? ⟨V, 3, none⟩ = some (.int .i64 l1)) (by kernel_rfl) (by kernel_rfl) (MK.out _ ((Below.refl _ _).drew)) ?_
 iterate 25 (first | go_big_quiet_skip | (go_big_quiet_want; unfold Oper.quiet; apply Exists.intro; refine ⟨fun W hW => ?_, ?_⟩; (go_split_ands; unfold Oper.quietAt; go_simp; first | rfl | exact ⟨rfl, rfl⟩ | fail); go_big_quiet_on; (try simp only [Act.put, List.setIfInBounds_toArray, List.set_cons_zero, List.set_cons_succ])))
 refine wpQuiet_nil ?_
 intro wa hwa
 have ba : Below w.heap.size w wa := hwa.1
 have j0 := keepc ba k0
 have j1 := keepc ba k1
 have j6 := keepc ba k6
 have j7 := keepc ba k7
 have j8 := keepc ba k8
 have j9 := keepc ba k9
 have BA : Aside (Below w.heap.size w wa) := ba
 clear hwa MK k0 k1 k2 k3 k6 k7 k8 k9 ba ew ew1 ew0
 by_cases hA : s0 = sets - 1 ∧ s1 = sets - 1
 ·have HR : Aside (res = ((decide (legs ≤ l1) && decide (clear ≤ l1 - l0)) || decide (l1 = legs + extra))) := by
   show _ = _
   rw [HS.out, if_pos hA]
  have q0 : (s0 == sets - 1) = true := by simpa using hA.1
  have q1 : (s1 == sets - 1) = true := by simpa using hA.2
  clear hA HS
  go_wp2_with fail
  clear hq q0 q1
  have MK : Aside (∀ w', Below wa.heap.size wa w' → (Below wa.heap.size wa w' ∧ w'.cell? ⟨V, 6, none⟩ = some (.int .i64 legs) ∧ w'.cell? ⟨V, 8, none⟩ = some (.int .i64 clear) ∧ w'.cell? ⟨V, 9, none⟩ = some (.int .i64 extra))) := fun w' hB => ⟨hB, keepc hB j6, keepc hB j8, keepc hB j9⟩
  have ew : IntKind.i64.wrap (legs + extra) = legs + extra := IntWalk.i64_in _ (by omega)
  have e3 : decide (l1 = legs + extra) = (l1 == legs + extra) := by rw [Bool.eq_iff_iff]; simp
  cases hp : decide (legs ≤ l1) with
  | false =>
   have HR2 : Aside (res = (l1 == legs + extra)) := by
    show _ = _
    rw [HR.out, hp, Bool.false_and, Bool.false_or, e3]
   clear HR e3
   refine region_class (fun w' => Below wa.heap.size wa w' ∧ w'.cell? ⟨V, 6, none⟩ = some (.int .i64 legs) ∧ w'.cell? ⟨V, 8, none⟩ = some (.int .i64 clear) ∧ w'.cell? ⟨V, 9, none⟩ = some (.int .i64 extra)) (by kernel_rfl) (by kernel_rfl) (MK.out _ ((Below.refl _ _).drew)) ?_
   iterate 32 (first | go_big_quiet_skip | (go_big_quiet_want; unfold Oper.quiet; apply Exists.intro; refine ⟨fun W hW => ?_, ?_⟩; (go_split_ands; unfold Oper.quietAt; go_simp; first | rfl | exact ⟨rfl, rfl⟩ | fail); go_big_quiet_on; (try simp only [Act.put, List.setIfInBounds_toArray, List.set_cons_zero, List.set_cons_succ])))
   refine wpQuiet_nil ?_
   intro w2 hw2
   clear ew
   go_wp2
   go_ret
   exact ⟨by rw [HR2.out]; rfl, BA.out.trans (hw2.1.mono BA.out.size)⟩
  | true =>
   cases hc : decide (clear ≤ l1 - l0) with
   | false =>
    have HR2 : Aside (res = (l1 == legs + extra)) := by
     show _ = _
     rw [HR.out, hp, hc, Bool.true_and, Bool.false_or, e3]
    clear HR e3
    refine region_class (fun w' => Below wa.heap.size wa w' ∧ w'.cell? ⟨V, 6, none⟩ = some (.int .i64 legs) ∧ w'.cell? ⟨V, 8, none⟩ = some (.int .i64 clear) ∧ w'.cell? ⟨V, 9, none⟩ = some (.int .i64 extra)) (by kernel_rfl) (by kernel_rfl) (MK.out _ ((Below.refl _ _).drew)) ?_
    iterate 32 (first | go_big_quiet_skip | (go_big_quiet_want; unfold Oper.quiet; apply Exists.intro; refine ⟨fun W hW => ?_, ?_⟩; (go_split_ands; unfold Oper.quietAt; go_simp; first | rfl | exact ⟨rfl, rfl⟩ | fail); go_big_quiet_on; (try simp only [Act.put, List.setIfInBounds_toArray, List.set_cons_zero, List.set_cons_succ])))
    refine wpQuiet_nil ?_
    intro w2 hw2
    clear ew
    go_wp2
    go_ret
    exact ⟨by rw [HR2.out]; rfl, BA.out.trans (hw2.1.mono BA.out.size)⟩
   | true =>
    have HR2 : Aside (res = true) := by
     show _ = _
     rw [HR.out, hp, hc, Bool.true_and, Bool.true_or]
    clear HR e3
    refine region_class (fun w' => Below wa.heap.size wa w' ∧ w'.cell? ⟨V, 6, none⟩ = some (.int .i64 legs) ∧ w'.cell? ⟨V, 8, none⟩ = some (.int .i64 clear) ∧ w'.cell? ⟨V, 9, none⟩ = some (.int .i64 extra)) (by kernel_rfl) (by kernel_rfl) (MK.out _ ((Below.refl _ _).drew)) ?_
    iterate 32 (first | go_big_quiet_skip | (go_big_quiet_want; unfold Oper.quiet; apply Exists.intro; refine ⟨fun W hW => ?_, ?_⟩; (go_split_ands; unfold Oper.quietAt; go_simp; first | rfl | exact ⟨rfl, rfl⟩ | fail); go_big_quiet_on; (try simp only [Act.put, List.setIfInBounds_toArray, List.set_cons_zero, List.set_cons_succ])))
    refine wpQuiet_nil ?_
    intro w2 hw2
    clear ew
    go_wp2
    go_ret
    exact ⟨by rw [HR2.out]; rfl, BA.out.trans (hw2.1.mono BA.out.size)⟩
 ·have HR : Aside (res = (l1 == legs)) := by
   show _ = _
   rw [HS.out, if_neg hA]
   rw [Bool.eq_iff_iff]; simp
  clear HS
  cases q0 : (s0 == sets - 1) with
  | false =>
   clear hA
   go_wp2
   go_ret
   exact ⟨by rw [HR.out]; rfl, BA.out⟩
  | true =>
   have q1 : (s1 == sets - 1) = false := by
    simp only [beq_iff_eq] at q0
    simpa [q0] using hA
   clear hA
   go_wp2
   go_ret
   exact ⟨by rw [HR.out]; rfl, BA.out⟩
end
section
open Go.RowKit Go.Shelf
def MTakeOk (V : Nat) (g : Mt) (f : Int) (m : MtL) (w : World) (e : Ending) (w' : World) : Prop := (∃ v, e = .returned v) ∧ MtAt w' V g f m ∧ Only V w w'
set_option maxRecDepth 100000 in
set_option maxHeartbeats 4000000 in
theorem mtake0 (V : Nat) (s0 s1 l0 l1 f win : Int) (legs sets clear extra first : Int) (w : World) (hV : w.heap[V]? = some (.cells #[.int .i64 s0, .int .i64 s1, .int .i64 l0, .int .i64 l1, .int .i64 f, .int .i64 win, .int .i64 legs, .int .i64 sets, .int .i64 clear, .int .i64 extra, .int .i64 first] 125 (0, 0)))
  (a0 : 0 ≤ l0) (a1 : l0 < 9000000000000000000) (b0 : 0 ≤ l1) (b1 : l1 < 9000000000000000000) (g0 : 0 ≤ s0) (g1 : s0 < 9000000000000000000) (h0 : 0 ≤ s1) (h1 : s1 < 9000000000000000000) (c0 : 0 ≤ sets) (c1 : sets ≤ 25) (d0 : 0 ≤ legs) (d1 : legs ≤ 25) (e0 : 0 ≤ extra) (e1 : extra ≤ 25) :
  Calls Try.prog 60 #[.pointer (some ⟨V, 0, none⟩), .int .i64 0] w (MTakeOk V (Mt.step ⟨legs, sets, clear, extra, first⟩ ⟨s0, s1, l0, l1, win⟩ 0) f ⟨legs, sets, clear, extra, first⟩ w) := by
 have hlt : V < w.heap.size := (Array.getElem?_eq_some_iff.1 hV).1
 have hl : w.cell? ⟨V, 2, none⟩ = some (.int .i64 l0) := blk_cell hV rfl
 have MA : Aside (∀ w', Below w.heap.size w w' → (Below w.heap.size w w' ∧ w'.cell? ⟨V, 2, none⟩ = some (.int .i64 l0))) := fun w' hB => ⟨hB, keepc hB hl⟩
 have ew : IntKind.i64.wrap (l0 + 1) = l0 + 1 := IntWalk.i64_in _ (by omega)
 have HV : Aside (w.heap[V]? = some (.cells #[.int .i64 s0, .int .i64 s1, .int .i64 l0, .int .i64 l1, .int .i64 f, .int .i64 win, .int .i64 legs, .int .i64 sets, .int .i64 clear, .int .i64 extra, .int .i64 first] 125 (0, 0))) := hV
 have xW := fun W (h : W.heap[V]? = some (.cells #[.int .i64 s0, .int .i64 s1, .int .i64 (l0 + 1), .int .i64 l1, .int .i64 f, .int .i64 win, .int .i64 legs, .int .i64 sets, .int .i64 clear, .int .i64 extra, .int .i64 first] 125 (0, 0))) => winsSet0 V s0 s1 (l0 + 1) l1 f win legs sets clear extra first W h (by omega) (by omega) (by omega) (by omega) c0 c1 d0 d1 e0 e1
 have HS : Aside (Mt.step ⟨legs, sets, clear, extra, first⟩ ⟨s0, s1, l0, l1, win⟩ 0 = (if setWon ⟨legs, sets, clear, extra, first⟩ s0 s1 (l0 + 1) l1 = true then (if s0 + 1 = sets then ⟨s0 + 1, s1, l0 + 1, l1, 0⟩ else ⟨s0 + 1, s1, 0, 0, win⟩) else ⟨s0, s1, l0 + 1, l1, win⟩)) := rfl
 generalize Mt.step ⟨legs, sets, clear, extra, first⟩ ⟨s0, s1, l0, l1, win⟩ 0 = res at *
 clear hV
 go_enter Try.func60, Try.ntmps60
 go_wp2_with fail
 refine region_tail 12 (fun w' => Below w.heap.size w w' ∧ w'.cell? ⟨V, 2, none⟩ = some (.int .i64 l0)) 14 (by kernel_rfl) (by decide +kernel) (MA.out _ ((Below.refl _ _).drew)) ?_
 simp only [List.take_succ_cons, List.take_zero]
 iterate 12 (first | go_big_quiet_skip | (go_big_quiet_want; unfold Oper.quiet; apply Exists.intro; refine ⟨fun W hW => ?_, ?_⟩; (go_split_ands; unfold Oper.quietAt; go_simp; first | rfl | exact ⟨rfl, rfl⟩ | fail); go_big_quiet_on; (try simp only [Act.put, List.setIfInBounds_toArray, List.set_cons_zero, List.set_cons_succ])))
 refine wpQuiet_nil ?_
 intro wb hwb
 have bb : Below w.heap.size w wb := hwb.1
 clear hwb MA hl
 have vb := (bb.block V hlt).trans HV.out
 have ob : Aside (Only V w wb) := Only.of_below bb
 have kb : wb.cell? ⟨V, 2, none⟩ = some (.int .i64 l0) := blk_cell vb rfl
 have fb := blk_free vb 2
 clear bb HV
 refine wpAny_one (i := 12) (by decide +kernel) rfl rfl ?_
 unfold Oper.wp
 go_simp
 refine wpAny_done (by decide +kernel) ?_ _
 obtain ⟨wc, hwc⟩ : ∃ u, u = wb.setCell ⟨V, 2, none⟩ (.int .i64 (l0 + 1)) := ⟨_, rfl⟩
 have vc : wc.heap[V]? = some (.cells #[.int .i64 s0, .int .i64 s1, .int .i64 (l0 + 1), .int .i64 l1, .int .i64 f, .int .i64 win, .int .i64 legs, .int .i64 sets, .int .i64 clear, .int .i64 extra, .int .i64 first] 125 (0, 0)) := by rw [hwc]; exact Go.Joins.block_setCell vb _
 have oc : Aside (Only V w wc) := by rw [hwc]; exact ob.out.trans (Only.set _ _ _ _)
 rw [← hwc]
 clear hwc vb ob kb fb ew
 have xw := xW wc vc
 clear xW
 have zc : V < wc.heap.size := (Array.getElem?_eq_some_iff.1 vc).1
 have VC : Aside (wc.heap[V]? = some (.cells #[.int .i64 s0, .int .i64 s1, .int .i64 (l0 + 1), .int .i64 l1, .int .i64 f, .int .i64 win, .int .i64 legs, .int .i64 sets, .int .i64 clear, .int .i64 extra, .int .i64 first] 125 (0, 0))) := vc
 clear vc
 cases hr : setWon ⟨legs, sets, clear, extra, first⟩ s0 s1 (l0 + 1) l1 with
 | false =>
  rw [hr] at xw
  have HR : Aside (res = ⟨s0, s1, l0 + 1, l1, win⟩) := by
   show _ = _
   rw [HS.out, if_neg (by rw [hr]; simp)]
  clear HS hr
  go_wp2_with fail
  refine xw.mono ?_
  rintro e wd ⟨rfl, hd⟩
  have vd := (hd.block V zc).trans VC.out
  have od : Aside (Only V w wd) := oc.out.trans (Only.of_below hd)
  clear hd
  go_wp2
  refine bodyPost_ret (results_none rfl _ _ _) rfl ?_
  exact ⟨⟨_, rfl⟩, by rw [HR.out]; exact vd, od.out⟩
 | true =>
  rw [hr] at xw
  have HR : Aside (res = (if s0 + 1 = sets then ⟨s0 + 1, s1, l0 + 1, l1, 0⟩ else ⟨s0 + 1, s1, 0, 0, win⟩)) := by
   show _ = _
   rw [HS.out, if_pos (by rw [hr])]
  clear HS hr
  go_wp2_with fail
  refine xw.mono ?_
  rintro e wd ⟨rfl, hd⟩
  have vd := (hd.block V zc).trans VC.out
  have od : Aside (Only V w wd) := oc.out.trans (Only.of_below hd)
  have zd : V < wd.heap.size := Nat.lt_of_lt_of_le zc hd.size
  have VD : Aside (wd.heap[V]? = some (.cells #[.int .i64 s0, .int .i64 s1, .int .i64 (l0 + 1), .int .i64 l1, .int .i64 f, .int .i64 win, .int .i64 legs, .int .i64 sets, .int .i64 clear, .int .i64 extra, .int .i64 first] 125 (0, 0))) := vd
  have kd : wd.cell? ⟨V, 0, none⟩ = some (.int .i64 s0) := blk_cell vd rfl
  clear hd vd VC oc zc xw
  go_wp2_with fail
  have MD : Aside (∀ w', Below wd.heap.size wd w' → (Below wd.heap.size wd w' ∧ w'.cell? ⟨V, 0, none⟩ = some (.int .i64 s0))) := fun w' hB => ⟨hB, keepc hB kd⟩
  have ew : IntKind.i64.wrap (s0 + 1) = s0 + 1 := IntWalk.i64_in _ (by omega)
  refine region_tail 12 (fun w' => Below wd.heap.size wd w' ∧ w'.cell? ⟨V, 0, none⟩ = some (.int .i64 s0)) 14 (by kernel_rfl) (by decide +kernel) (MD.out _ ((Below.refl _ _).drew)) ?_
  simp only [List.take_succ_cons, List.take_zero]
  iterate 12 (first | go_big_quiet_skip | (go_big_quiet_want; unfold Oper.quiet; apply Exists.intro; refine ⟨fun W hW => ?_, ?_⟩; (go_split_ands; unfold Oper.quietAt; go_simp; first | rfl | exact ⟨rfl, rfl⟩ | fail); go_big_quiet_on; (try simp only [Act.put, List.setIfInBounds_toArray, List.set_cons_zero, List.set_cons_succ])))
  refine wpQuiet_nil ?_
  intro we hwe
  have be : Below wd.heap.size wd we := hwe.1
  clear hwe MD kd
  have ve := (be.block V zd).trans VD.out
  have oe : Aside (Only V w we) := od.out.trans (Only.of_below be)
  have ke : we.cell? ⟨V, 0, none⟩ = some (.int .i64 s0) := blk_cell ve rfl
  have fe := blk_free ve 0
  clear be VD od zd
  refine wpAny_one (i := 12) (by decide +kernel) rfl rfl ?_
  unfold Oper.wp
  go_simp
  refine wpAny_done (by decide +kernel) ?_ _
  obtain ⟨wf, hwf⟩ : ∃ u, u = we.setCell ⟨V, 0, none⟩ (.int .i64 (s0 + 1)) := ⟨_, rfl⟩
  have vf : wf.heap[V]? = some (.cells #[.int .i64 (s0 + 1), .int .i64 s1, .int .i64 (l0 + 1), .int .i64 l1, .int .i64 f, .int .i64 win, .int .i64 legs, .int .i64 sets, .int .i64 clear, .int .i64 extra, .int .i64 first] 125 (0, 0)) := by rw [hwf]; exact Go.Joins.block_setCell ve _
  have of : Aside (Only V w wf) := by rw [hwf]; exact oe.out.trans (Only.set _ _ _ _)
  rw [← hwf]
  clear hwf ve oe ke fe ew
  have zf : V < wf.heap.size := (Array.getElem?_eq_some_iff.1 vf).1
  have kf : wf.cell? ⟨V, 0, none⟩ = some (.int .i64 (s0 + 1)) := blk_cell vf rfl
  have jf : wf.cell? ⟨V, 7, none⟩ = some (.int .i64 sets) := blk_cell vf rfl
  have VF : Aside (wf.heap[V]? = some (.cells #[.int .i64 (s0 + 1), .int .i64 s1, .int .i64 (l0 + 1), .int .i64 l1, .int .i64 f, .int .i64 win, .int .i64 legs, .int .i64 sets, .int .i64 clear, .int .i64 extra, .int .i64 first] 125 (0, 0))) := vf
  clear vf
  have MF : Aside (∀ w', Below wf.heap.size wf w' → (Below wf.heap.size wf w' ∧ w'.cell? ⟨V, 0, none⟩ = some (.int .i64 (s0 + 1)) ∧ w'.cell? ⟨V, 7, none⟩ = some (.int .i64 sets))) := fun w' hB => ⟨hB, keepc hB kf, keepc hB jf⟩
  go_wp2_with fail
  refine region_class (fun w' => Below wf.heap.size wf w' ∧ w'.cell? ⟨V, 0, none⟩ = some (.int .i64 (s0 + 1)) ∧ w'.cell? ⟨V, 7, none⟩ = some (.int .i64 sets)) (by kernel_rfl) (by kernel_rfl) (MF.out _ ((Below.refl _ _).drew)) ?_
  iterate 13 (first | go_big_quiet_skip | (go_big_quiet_want; unfold Oper.quiet; apply Exists.intro; refine ⟨fun W hW => ?_, ?_⟩; (go_split_ands; unfold Oper.quietAt; go_simp; first | rfl | exact ⟨rfl, rfl⟩ | fail); go_big_quiet_on; (try simp only [Act.put, List.setIfInBounds_toArray, List.set_cons_zero, List.set_cons_succ])))
  refine wpQuiet_nil ?_
  intro wg hwg
  have bg : Below wf.heap.size wf wg := hwg.1
  clear hwg MF kf jf
  have vg := (bg.block V zf).trans VF.out
  have og : Aside (Only V w wg) := of.out.trans (Only.of_below bg)
  clear bg VF of zf
  by_cases hs : s0 + 1 = sets
  ·have hq : (s0 + 1 == sets) = true := by simpa using hs
   have HR2 : Aside (res = ⟨s0 + 1, s1, l0 + 1, l1, 0⟩) := by
    show _ = _
    rw [HR.out, if_pos hs]
   have k5 : wg.cell? ⟨V, 5, none⟩ = some (.int .i64 win) := blk_cell vg rfl
   have f5 := blk_free vg 5
   have VG : Aside (wg.heap[V]? = some (.cells #[.int .i64 (s0 + 1), .int .i64 s1, .int .i64 (l0 + 1), .int .i64 l1, .int .i64 f, .int .i64 win, .int .i64 legs, .int .i64 sets, .int .i64 clear, .int .i64 extra, .int .i64 first] 125 (0, 0))) := vg
   clear hs HR vg
   go_wp2
   refine bodyPost_ret (results_none rfl _ _ _) rfl ?_
   exact ⟨⟨_, rfl⟩, by rw [HR2.out]; exact Go.Joins.block_setCell VG.out _, og.out.trans (Only.set _ _ _ _)⟩
  ·have hq : (s0 + 1 == sets) = false := by simpa using hs
   have HR2 : Aside (res = ⟨s0 + 1, s1, 0, 0, win⟩) := by
    show _ = _
    rw [HR.out, if_neg hs]
   have k2 : wg.cell? ⟨V, 2, none⟩ = some (.int .i64 (l0 + 1)) := blk_cell vg rfl
   have k3 : wg.cell? ⟨V, 3, none⟩ = some (.int .i64 l1) := blk_cell vg rfl
   have f2 := blk_free vg
   have VG : Aside (wg.heap[V]? = some (.cells #[.int .i64 (s0 + 1), .int .i64 s1, .int .i64 (l0 + 1), .int .i64 l1, .int .i64 f, .int .i64 win, .int .i64 legs, .int .i64 sets, .int .i64 clear, .int .i64 extra, .int .i64 first] 125 (0, 0))) := vg
   clear hs HR vg
   go_wp2
   go_end0
   exact ⟨⟨_, rfl⟩, by rw [HR2.out]; exact Go.Joins.block_setCell (Go.Joins.block_setCell VG.out _) _, (og.out.trans (Only.set _ _ _ _)).trans (Only.set _ _ _ _)⟩
set_option maxRecDepth 100000 in
set_option maxHeartbeats 4000000 in
theorem mtake1 (V : Nat) (s0 s1 l0 l1 f win : Int) (legs sets clear extra first : Int) (w : World) (hV : w.heap[V]? = some (.cells #[.int .i64 s0, .int .i64 s1, .int .i64 l0, .int .i64 l1, .int .i64 f, .int .i64 win, .int .i64 legs, .int .i64 sets, .int .i64 clear, .int .i64 extra, .int .i64 first] 125 (0, 0)))
  (a0 : 0 ≤ l0) (a1 : l0 < 9000000000000000000) (b0 : 0 ≤ l1) (b1 : l1 < 9000000000000000000) (g0 : 0 ≤ s0) (g1 : s0 < 9000000000000000000) (h0 : 0 ≤ s1) (h1 : s1 < 9000000000000000000) (c0 : 0 ≤ sets) (c1 : sets ≤ 25) (d0 : 0 ≤ legs) (d1 : legs ≤ 25) (e0 : 0 ≤ extra) (e1 : extra ≤ 25) :
  Calls Try.prog 60 #[.pointer (some ⟨V, 0, none⟩), .int .i64 1] w (MTakeOk V (Mt.step ⟨legs, sets, clear, extra, first⟩ ⟨s0, s1, l0, l1, win⟩ 1) f ⟨legs, sets, clear, extra, first⟩ w) := by
 have hlt : V < w.heap.size := (Array.getElem?_eq_some_iff.1 hV).1
 have hl : w.cell? ⟨V, 3, none⟩ = some (.int .i64 l1) := blk_cell hV rfl
 have MA : Aside (∀ w', Below w.heap.size w w' → (Below w.heap.size w w' ∧ w'.cell? ⟨V, 3, none⟩ = some (.int .i64 l1))) := fun w' hB => ⟨hB, keepc hB hl⟩
 have ew : IntKind.i64.wrap (l1 + 1) = l1 + 1 := IntWalk.i64_in _ (by omega)
 have HV : Aside (w.heap[V]? = some (.cells #[.int .i64 s0, .int .i64 s1, .int .i64 l0, .int .i64 l1, .int .i64 f, .int .i64 win, .int .i64 legs, .int .i64 sets, .int .i64 clear, .int .i64 extra, .int .i64 first] 125 (0, 0))) := hV
 have xW := fun W (h : W.heap[V]? = some (.cells #[.int .i64 s0, .int .i64 s1, .int .i64 l0, .int .i64 (l1 + 1), .int .i64 f, .int .i64 win, .int .i64 legs, .int .i64 sets, .int .i64 clear, .int .i64 extra, .int .i64 first] 125 (0, 0))) => winsSet1 V s0 s1 l0 (l1 + 1) f win legs sets clear extra first W h (by omega) (by omega) (by omega) (by omega) c0 c1 d0 d1 e0 e1
 have HS : Aside (Mt.step ⟨legs, sets, clear, extra, first⟩ ⟨s0, s1, l0, l1, win⟩ 1 = (if setWon ⟨legs, sets, clear, extra, first⟩ s0 s1 (l1 + 1) l0 = true then (if s1 + 1 = sets then ⟨s0, s1 + 1, l0, l1 + 1, 1⟩ else ⟨s0, s1 + 1, 0, 0, win⟩) else ⟨s0, s1, l0, l1 + 1, win⟩)) := rfl
 generalize Mt.step ⟨legs, sets, clear, extra, first⟩ ⟨s0, s1, l0, l1, win⟩ 1 = res at *
 clear hV
 go_enter Try.func60, Try.ntmps60
 go_wp2_with fail
 refine region_tail 12 (fun w' => Below w.heap.size w w' ∧ w'.cell? ⟨V, 3, none⟩ = some (.int .i64 l1)) 14 (by kernel_rfl) (by decide +kernel) (MA.out _ ((Below.refl _ _).drew)) ?_
 simp only [List.take_succ_cons, List.take_zero]
 iterate 12 (first | go_big_quiet_skip | (go_big_quiet_want; unfold Oper.quiet; apply Exists.intro; refine ⟨fun W hW => ?_, ?_⟩; (go_split_ands; unfold Oper.quietAt; go_simp; first | rfl | exact ⟨rfl, rfl⟩ | fail); go_big_quiet_on; (try simp only [Act.put, List.setIfInBounds_toArray, List.set_cons_zero, List.set_cons_succ])))
 refine wpQuiet_nil ?_
 intro wb hwb
 have bb : Below w.heap.size w wb := hwb.1
 clear hwb MA hl
 have vb := (bb.block V hlt).trans HV.out
 have ob : Aside (Only V w wb) := Only.of_below bb
 have kb : wb.cell? ⟨V, 3, none⟩ = some (.int .i64 l1) := blk_cell vb rfl
 have fb := blk_free vb 3
 clear bb HV
 refine wpAny_one (i := 12) (by decide +kernel) rfl rfl ?_
 unfold Oper.wp
 go_simp
 refine wpAny_done (by decide +kernel) ?_ _
 obtain ⟨wc, hwc⟩ : ∃ u, u = wb.setCell ⟨V, 3, none⟩ (.int .i64 (l1 + 1)) := ⟨_, rfl⟩
 have vc : wc.heap[V]? = some (.cells #[.int .i64 s0, .int .i64 s1, .int .i64 l0, .int .i64 (l1 + 1), .int .i64 f, .int .i64 win, .int .i64 legs, .int .i64 sets, .int .i64 clear, .int .i64 extra, .int .i64 first] 125 (0, 0)) := by rw [hwc]; exact Go.Joins.block_setCell vb _
 have oc : Aside (Only V w wc) := by rw [hwc]; exact ob.out.trans (Only.set _ _ _ _)
 rw [← hwc]
 clear hwc vb ob kb fb ew
 have xw := xW wc vc
 clear xW
 have zc : V < wc.heap.size := (Array.getElem?_eq_some_iff.1 vc).1
 have VC : Aside (wc.heap[V]? = some (.cells #[.int .i64 s0, .int .i64 s1, .int .i64 l0, .int .i64 (l1 + 1), .int .i64 f, .int .i64 win, .int .i64 legs, .int .i64 sets, .int .i64 clear, .int .i64 extra, .int .i64 first] 125 (0, 0))) := vc
 clear vc
 cases hr : setWon ⟨legs, sets, clear, extra, first⟩ s0 s1 (l1 + 1) l0 with
 | false =>
  rw [hr] at xw
  have HR : Aside (res = ⟨s0, s1, l0, l1 + 1, win⟩) := by
   show _ = _
   rw [HS.out, if_neg (by rw [hr]; simp)]
  clear HS hr
  go_wp2_with fail
  refine xw.mono ?_
  rintro e wd ⟨rfl, hd⟩
  have vd := (hd.block V zc).trans VC.out
  have od : Aside (Only V w wd) := oc.out.trans (Only.of_below hd)
  clear hd
  go_wp2
  refine bodyPost_ret (results_none rfl _ _ _) rfl ?_
  exact ⟨⟨_, rfl⟩, by rw [HR.out]; exact vd, od.out⟩
 | true =>
  rw [hr] at xw
  have HR : Aside (res = (if s1 + 1 = sets then ⟨s0, s1 + 1, l0, l1 + 1, 1⟩ else ⟨s0, s1 + 1, 0, 0, win⟩)) := by
   show _ = _
   rw [HS.out, if_pos (by rw [hr])]
  clear HS hr
  go_wp2_with fail
  refine xw.mono ?_
  rintro e wd ⟨rfl, hd⟩
  have vd := (hd.block V zc).trans VC.out
  have od : Aside (Only V w wd) := oc.out.trans (Only.of_below hd)
  have zd : V < wd.heap.size := Nat.lt_of_lt_of_le zc hd.size
  have VD : Aside (wd.heap[V]? = some (.cells #[.int .i64 s0, .int .i64 s1, .int .i64 l0, .int .i64 (l1 + 1), .int .i64 f, .int .i64 win, .int .i64 legs, .int .i64 sets, .int .i64 clear, .int .i64 extra, .int .i64 first] 125 (0, 0))) := vd
  have kd : wd.cell? ⟨V, 1, none⟩ = some (.int .i64 s1) := blk_cell vd rfl
  clear hd vd VC oc zc xw
  go_wp2_with fail
  have MD : Aside (∀ w', Below wd.heap.size wd w' → (Below wd.heap.size wd w' ∧ w'.cell? ⟨V, 1, none⟩ = some (.int .i64 s1))) := fun w' hB => ⟨hB, keepc hB kd⟩
  have ew : IntKind.i64.wrap (s1 + 1) = s1 + 1 := IntWalk.i64_in _ (by omega)
  refine region_tail 12 (fun w' => Below wd.heap.size wd w' ∧ w'.cell? ⟨V, 1, none⟩ = some (.int .i64 s1)) 14 (by kernel_rfl) (by decide +kernel) (MD.out _ ((Below.refl _ _).drew)) ?_
  simp only [List.take_succ_cons, List.take_zero]
  iterate 12 (first | go_big_quiet_skip | (go_big_quiet_want; unfold Oper.quiet; apply Exists.intro; refine ⟨fun W hW => ?_, ?_⟩; (go_split_ands; unfold Oper.quietAt; go_simp; first | rfl | exact ⟨rfl, rfl⟩ | fail); go_big_quiet_on; (try simp only [Act.put, List.setIfInBounds_toArray, List.set_cons_zero, List.set_cons_succ])))
  refine wpQuiet_nil ?_
  intro we hwe
  have be : Below wd.heap.size wd we := hwe.1
  clear hwe MD kd
  have ve := (be.block V zd).trans VD.out
  have oe : Aside (Only V w we) := od.out.trans (Only.of_below be)
  have ke : we.cell? ⟨V, 1, none⟩ = some (.int .i64 s1) := blk_cell ve rfl
  have fe := blk_free ve 1
  clear be VD od zd
  refine wpAny_one (i := 12) (by decide +kernel) rfl rfl ?_
  unfold Oper.wp
  go_simp
  refine wpAny_done (by decide +kernel) ?_ _
  obtain ⟨wf, hwf⟩ : ∃ u, u = we.setCell ⟨V, 1, none⟩ (.int .i64 (s1 + 1)) := ⟨_, rfl⟩
  have vf : wf.heap[V]? = some (.cells #[.int .i64 s0, .int .i64 (s1 + 1), .int .i64 l0, .int .i64 (l1 + 1), .int .i64 f, .int .i64 win, .int .i64 legs, .int .i64 sets, .int .i64 clear, .int .i64 extra, .int .i64 first] 125 (0, 0)) := by rw [hwf]; exact Go.Joins.block_setCell ve _
  have of : Aside (Only V w wf) := by rw [hwf]; exact oe.out.trans (Only.set _ _ _ _)
  rw [← hwf]
  clear hwf ve oe ke fe ew
  have zf : V < wf.heap.size := (Array.getElem?_eq_some_iff.1 vf).1
  have kf : wf.cell? ⟨V, 1, none⟩ = some (.int .i64 (s1 + 1)) := blk_cell vf rfl
  have jf : wf.cell? ⟨V, 7, none⟩ = some (.int .i64 sets) := blk_cell vf rfl
  have VF : Aside (wf.heap[V]? = some (.cells #[.int .i64 s0, .int .i64 (s1 + 1), .int .i64 l0, .int .i64 (l1 + 1), .int .i64 f, .int .i64 win, .int .i64 legs, .int .i64 sets, .int .i64 clear, .int .i64 extra, .int .i64 first] 125 (0, 0))) := vf
  clear vf
  have MF : Aside (∀ w', Below wf.heap.size wf w' → (Below wf.heap.size wf w' ∧ w'.cell? ⟨V, 1, none⟩ = some (.int .i64 (s1 + 1)) ∧ w'.cell? ⟨V, 7, none⟩ = some (.int .i64 sets))) := fun w' hB => ⟨hB, keepc hB kf, keepc hB jf⟩
  go_wp2_with fail
  refine region_class (fun w' => Below wf.heap.size wf w' ∧ w'.cell? ⟨V, 1, none⟩ = some (.int .i64 (s1 + 1)) ∧ w'.cell? ⟨V, 7, none⟩ = some (.int .i64 sets)) (by kernel_rfl) (by kernel_rfl) (MF.out _ ((Below.refl _ _).drew)) ?_
  iterate 13 (first | go_big_quiet_skip | (go_big_quiet_want; unfold Oper.quiet; apply Exists.intro; refine ⟨fun W hW => ?_, ?_⟩; (go_split_ands; unfold Oper.quietAt; go_simp; first | rfl | exact ⟨rfl, rfl⟩ | fail); go_big_quiet_on; (try simp only [Act.put, List.setIfInBounds_toArray, List.set_cons_zero, List.set_cons_succ])))
  refine wpQuiet_nil ?_
  intro wg hwg
  have bg : Below wf.heap.size wf wg := hwg.1
  clear hwg MF kf jf
  have vg := (bg.block V zf).trans VF.out
  have og : Aside (Only V w wg) := of.out.trans (Only.of_below bg)
  clear bg VF of zf
  by_cases hs : s1 + 1 = sets
  ·have hq : (s1 + 1 == sets) = true := by simpa using hs
   have HR2 : Aside (res = ⟨s0, s1 + 1, l0, l1 + 1, 1⟩) := by
    show _ = _
    rw [HR.out, if_pos hs]
   have k5 : wg.cell? ⟨V, 5, none⟩ = some (.int .i64 win) := blk_cell vg rfl
   have f5 := blk_free vg 5
   have VG : Aside (wg.heap[V]? = some (.cells #[.int .i64 s0, .int .i64 (s1 + 1), .int .i64 l0, .int .i64 (l1 + 1), .int .i64 f, .int .i64 win, .int .i64 legs, .int .i64 sets, .int .i64 clear, .int .i64 extra, .int .i64 first] 125 (0, 0))) := vg
   clear hs HR vg
   go_wp2
   refine bodyPost_ret (results_none rfl _ _ _) rfl ?_
   exact ⟨⟨_, rfl⟩, by rw [HR2.out]; exact Go.Joins.block_setCell VG.out _, og.out.trans (Only.set _ _ _ _)⟩
  ·have hq : (s1 + 1 == sets) = false := by simpa using hs
   have HR2 : Aside (res = ⟨s0, s1 + 1, 0, 0, win⟩) := by
    show _ = _
    rw [HR.out, if_neg hs]
   have k2 : wg.cell? ⟨V, 2, none⟩ = some (.int .i64 l0) := blk_cell vg rfl
   have k3 : wg.cell? ⟨V, 3, none⟩ = some (.int .i64 (l1 + 1)) := blk_cell vg rfl
   have f2 := blk_free vg
   have VG : Aside (wg.heap[V]? = some (.cells #[.int .i64 s0, .int .i64 (s1 + 1), .int .i64 l0, .int .i64 (l1 + 1), .int .i64 f, .int .i64 win, .int .i64 legs, .int .i64 sets, .int .i64 clear, .int .i64 extra, .int .i64 first] 125 (0, 0))) := vg
   clear hs HR vg
   go_wp2
   go_end0
   exact ⟨⟨_, rfl⟩, by rw [HR2.out]; exact Go.Joins.block_setCell (Go.Joins.block_setCell VG.out _) _, (og.out.trans (Only.set _ _ _ _)).trans (Only.set _ _ _ _)⟩
set_option maxRecDepth 100000 in
set_option maxHeartbeats 4000000 in
theorem mnext (V : Nat) (s0 s1 l0 l1 f win : Int) (legs sets clear extra first : Int) (w : World) (hV : w.heap[V]? = some (.cells #[.int .i64 s0, .int .i64 s1, .int .i64 l0, .int .i64 l1, .int .i64 f, .int .i64 win, .int .i64 legs, .int .i64 sets, .int .i64 clear, .int .i64 extra, .int .i64 first] 125 (0, 0)))
  (a0 : 0 ≤ l0) (a1 : l0 ≤ 1000000000000000000) (b0 : 0 ≤ l1) (b1 : l1 ≤ 1000000000000000000) (g0 : 0 ≤ s0) (g1 : s0 ≤ 1000000000000000000) (h0 : 0 ≤ s1) (h1 : s1 ≤ 1000000000000000000) (c0 : 0 ≤ first) (c1 : first ≤ 1) :
  Calls Try.prog 61 #[.pointer (some ⟨V, 0, none⟩)] w (Ret (.int .i64 (Mt.next ⟨legs, sets, clear, extra, first⟩ ⟨s0, s1, l0, l1, win⟩)) w) := by
 have k0 : w.cell? ⟨V, 0, none⟩ = some (.int .i64 s0) := blk_cell hV rfl
 have k1 : w.cell? ⟨V, 1, none⟩ = some (.int .i64 s1) := blk_cell hV rfl
 have k2 : w.cell? ⟨V, 2, none⟩ = some (.int .i64 l0) := blk_cell hV rfl
 have k3 : w.cell? ⟨V, 3, none⟩ = some (.int .i64 l1) := blk_cell hV rfl
 have k5 : w.cell? ⟨V, 5, none⟩ = some (.int .i64 win) := blk_cell hV rfl
 have k10 : w.cell? ⟨V, 10, none⟩ = some (.int .i64 first) := blk_cell hV rfl
 clear hV
 unfold Mt.next
 simp only []
 by_cases hw : win = -1
 ·subst hw
  rw [if_pos rfl]
  have e1 : IntKind.i64.wrap (s0 + s1) = s0 + s1 := IntWalk.i64_in _ (by omega)
  have e2 : IntKind.i64.wrap (s0 + s1 + l0) = s0 + s1 + l0 := IntWalk.i64_in _ (by omega)
  have e3 : IntKind.i64.wrap (s0 + s1 + l0 + l1) = s0 + s1 + l0 + l1 := IntWalk.i64_in _ (by omega)
  have MK : Aside (∀ w', Below w.heap.size w w' → (Below w.heap.size w w' ∧ w'.cell? ⟨V, 0, none⟩ = some (.int .i64 s0) ∧ w'.cell? ⟨V, 1, none⟩ = some (.int .i64 s1) ∧ w'.cell? ⟨V, 2, none⟩ = some (.int .i64 l0) ∧ w'.cell? ⟨V, 3, none⟩ = some (.int .i64 l1))) := fun w' hB => ⟨hB, keepc hB k0, keepc hB k1, keepc hB k2, keepc hB k3⟩
  go_enter Try.func61, Try.ntmps61
  go_wp2_with fail
  refine region_class (fun w' => Below w.heap.size w w' ∧ w'.cell? ⟨V, 0, none⟩ = some (.int .i64 s0) ∧ w'.cell? ⟨V, 1, none⟩ = some (.int .i64 s1) ∧ w'.cell? ⟨V, 2, none⟩ = some (.int .i64 l0) ∧ w'.cell? ⟨V, 3, none⟩ = some (.int .i64 l1)) (by kernel_rfl) (by kernel_rfl) (MK.out _ ((Below.refl _ _).drew)) ?_
  iterate 28 (first | go_big_quiet_skip | (go_big_quiet_want; unfold Oper.quiet; apply Exists.intro; refine ⟨fun W hW => ?_, ?_⟩; (go_split_ands; unfold Oper.quietAt; go_simp; first | rfl | exact ⟨rfl, rfl⟩ | fail); go_big_quiet_on; (try simp only [Act.put, List.setIfInBounds_toArray, List.set_cons_zero, List.set_cons_succ])))
  refine wpQuiet_nil ?_
  intro wa hwa
  have ba : Below w.heap.size w wa := hwa.1
  have j10 := keepc ba k10
  have BA : Aside (Below w.heap.size w wa) := ba
  clear hwa MK k0 k1 k2 k3 k5 k10 ba e1 e2 e3
  obtain ⟨T, hT⟩ : ∃ T, s0 + s1 + l0 + l1 = T := ⟨_, rfl⟩
  have t0 : 0 ≤ T := by omega
  have t1 : T ≤ 4000000000000000000 := by omega
  have HT : Aside (s0 + s1 + l0 + l1 = T) := hT
  rw [hT]
  clear hT
  go_wp2
  go_ret
  refine ⟨?_, BA.out⟩
  rw [HT.out]
  rfl
 ·rw [if_neg hw]
  have hq : (win != -1) = true := by simpa using hw
  go_enter Try.func61, Try.ntmps61
  go_wp2
  go_ret
  exact ⟨rfl, Below.refl _ _⟩
end
end Go.Proofs.Ytnhjoebdmmelaaa
