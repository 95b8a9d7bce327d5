/- Leg: parts Aa, Ab, Ac. -/
import Derived.Maps.AppendAt
import Derived.Test.YtnhjoebdmmelaaaMam
import Derived.Test.YtnhjoebdmmelaaaMai
set_option linter.unusedVariables false
set_option linter.unusedSimpArgs false
namespace Go.Proofs.Ytnhjoebdmmelaaa
section
open Go.RowKit Go.Maps Go.Sort Go.Shelf Go.Deep
theorem ltake_any {V gl gd gi M cl cd ci nn i : Nat} {vc vw : Value} {D : DataW Unit} {r : LegR} {g : LegG} (w : World) (h : LegW w V gl gd gi M cl cd ci nn vc vw D r g) (hr : r.Ok) (hg : g.Ok r i) (hi : i ≤ 10000) (p : Int) (vb : Value) (bs : List Int) (hbs : Sl w 1 eI vb bs) (h64 : ∀ x ∈ bs, -9223372036854775808 ≤ x ∧ x ≤ 9223372036854775807) (hnn : nn < 1000000) :
  Calls Try.prog 53 #[.pointer (some ⟨V, 0, none⟩), .agg #[.int .i64 p, vb]] w (TakeG V gl gd gi M cl cd ci nn vc vw r g p bs w) := by
 cases hov : g.over with
 | true => exact take_over w h hov p vb bs
 | false =>
  cases hp : inb 0 ((r.counts.length : Int) - 1) p with
  | false => exact take_who w h hov p hp hr.n8 vb bs
  | true =>
   by_cases hx : p = g.next
   ·unfold inb at hp
    simp only [decide_eq_true_eq] at hp
    obtain ⟨k, rfl⟩ := Int.eq_ofNat_of_zero_le hp.1
    obtain ⟨a, cp, rfl, hlc, hcs⟩ := h.counts
    obtain ⟨b, off, rfl, _⟩ := hcs hr.ne
    exact take_good w h hr hg hi hov (by omega) hx.symm vb bs hbs h64 hnn
   ·exact take_turn w h hov p hp hr.n8 hx vb bs
def vleg (r : LegR) : Bool := inb 1 8 (r.counts.length : Int) && (!(r.counts.any fun c => !vcnt c) && (inb 0 ((r.counts.length : Int) - 1) r.first && inb 0 200 r.rounds))
theorem vleg_ok {r : LegR} (h : vleg r = true) : r.Ok ∧ 0 ≤ r.rounds ∧ r.rounds ≤ 200 := by
 unfold vleg at h
 rw [not_any_not] at h
 unfold inb at h
 simp only [Bool.and_eq_true, decide_eq_true_eq, List.all_eq_true] at h
 obtain ⟨h1, h2, h3, h4⟩ := h
 refine ⟨⟨fun e => by rw [e] at h1; simp at h1, by omega, h2, by omega, by omega⟩, h4.1, h4.2⟩
set_option maxRecDepth 100000 in
set_option maxHeartbeats 2000000 in
theorem Check_any (r : LegR) (vc : Value) (w : World) (hs : Sl w 3 encC vc r.counts) :
  Calls Try.prog 21 #[legRV r vc] w (Ret (.int .i64 (if vleg r = true then 0 else 2)) w) := by
 obtain ⟨cs, f, rd, eq⟩ := r
 unfold vleg legRV
 simp only [] at hs ⊢
 have y1 := fun W k hk t => within_any 1 8 _ [(cs.length : Int)] _ (sl_one W k hk t (cs.length : Int))
 have y2 := fun W k hk t => within_any 0 ((cs.length : Int) - 1) _ [f] _ (sl_one W k hk t f)
 have y3 := fun W k hk t => within_any 0 200 _ [rd] _ (sl_one W k hk t rd)
 simp only [List.all_cons, List.all_nil, Bool.and_true] at y1 y2 y3
 have y4 : ∀ W, Below w.heap.size w W → Calls Try.prog 48 #[vc, .func (.func 46) #[] #[]] W (Ret (.bool (cs.any fun c => !vcnt c)) W) := fun W hB =>
  counts_any (fun c => !vcnt c) 46 #[] (enters_of Try.func46 (by kernel_rfl) rfl) vc cs W (hs.below hB) (fun W' _ x _ => countWrong_any x W')
 have hA : inb 1 8 (cs.length : Int) = true → cs.length ≤ 8 := by
  intro h; unfold inb at h; simp only [decide_eq_true_eq] at h; omega
 obtain ⟨a, cp, rfl, hl, _⟩ := hs
 obtain ⟨n, hn⟩ : ∃ n, cs.length = n := ⟨_, rfl⟩
 rw [hn] at y1 y2 y4 hA hl ⊢
 generalize (cs.any fun c => !vcnt c) = B at y4 ⊢
 generalize inb 0 ((n : Int) - 1) f = C at y2 ⊢
 generalize inb 0 200 rd = E at y3 ⊢
 generalize inb 1 8 (n : Int) = A at y1 hA ⊢
 have Y4 : Aside _ := y4
 clear hn y4
 cases A with
 | false =>
  rw [Bool.false_and]
  clear hA
  go_enter Try.func21, Try.ntmps21
  go_wp2_with (go_at_call 47; (with_reducible refine (y1 _ _ (by simp) _).mono ?_); rintro e w1 ⟨rfl, hb1⟩; (obtain ⟨hc1, hf1⟩ := bcell hb1; have z1 := hb1.size; (try simp only [World.size_alloc, World.size_drew, World.size_setCell] at z1); (try have q1a : w.heap.size < w1.heap.size := by omega); (try have q1b : w.heap.size + 1 < w1.heap.size := by omega); (try have q1c : w.heap.size + 1 + 1 < w1.heap.size := by omega); (try have q1d : w.heap.size + 1 + 1 + 1 < w1.heap.size := by omega); (try have q1e : wr.heap.size < w1.heap.size := by omega); (try have q1f : wr.heap.size + 1 < w1.heap.size := by omega)))
  go_ret
  exact ⟨rfl, by (repeat' (first | exact Below.refl _ _ | assumption | (with_reducible refine Below.drew ?_) | (with_reducible refine Below.setCell ?_ (by (first | (simp; done) | (simp; omega))) _) | (with_reducible refine below_drewN' ?_ _) | (refine Below.alloc ?_ (by (try simp only [World.size_alloc, World.size_drew, World.size_setCell]); omega) _) | (refine Below.trans ?_ (Below.mono (by assumption) (by (try simp only [World.size_alloc, World.size_drew, World.size_setCell]); omega)))))⟩
 | true =>
  have hn8 := hA rfl
  have e1 : IntKind.i64.wrap ((n : Int) - 1) = (n : Int) - 1 := IntWalk.i64_in _ (by omega)
  rw [Bool.true_and]
  clear hA hl
  cases B with
  | true =>
   rw [Bool.not_true, Bool.false_and]
   go_enter Try.func21, Try.ntmps21
   go_wp2_with (first | (go_at_call 47; (with_reducible refine (y1 _ _ (by simp) _).mono ?_); rintro e w1 ⟨rfl, hb1⟩; (have B1 : Below w.heap.size w w1 := by (repeat' (first | exact Below.refl _ _ | assumption | (with_reducible refine Below.drew ?_) | (with_reducible refine Below.setCell ?_ (by (first | (simp; done) | (simp; omega))) _) | (with_reducible refine below_drewN' ?_ _) | (refine Below.alloc ?_ (by (try simp only [World.size_alloc, World.size_drew, World.size_setCell]); omega) _) | (refine Below.trans ?_ (Below.mono (by assumption) (by (try simp only [World.size_alloc, World.size_drew, World.size_setCell]); omega)))))); (obtain ⟨hc1, hf1⟩ := bcell hb1; have z1 := hb1.size; (try simp only [World.size_alloc, World.size_drew, World.size_setCell] at z1); (try have q1a : w.heap.size < w1.heap.size := by omega); (try have q1b : w.heap.size + 1 < w1.heap.size := by omega); (try have q1c : w.heap.size + 1 + 1 < w1.heap.size := by omega); (try have q1d : w.heap.size + 1 + 1 + 1 < w1.heap.size := by omega); (try have q1e : wr.heap.size < w1.heap.size := by omega); (try have q1f : wr.heap.size + 1 < w1.heap.size := by omega))) | (go_at_call 48; refine (Y4.out _ B1).mono ?_; rintro e w2 ⟨rfl, hb2⟩; (obtain ⟨hc2, hf2⟩ := bcell hb2; have z2 := hb2.size; (try simp only [World.size_alloc, World.size_drew, World.size_setCell] at z2); (try have q2a : w.heap.size < w2.heap.size := by omega); (try have q2b : w.heap.size + 1 < w2.heap.size := by omega); (try have q2c : w.heap.size + 1 + 1 < w2.heap.size := by omega); (try have q2d : w.heap.size + 1 + 1 + 1 < w2.heap.size := by omega); (try have q2e : wr.heap.size < w2.heap.size := by omega); (try have q2f : wr.heap.size + 1 < w2.heap.size := by omega); (try have q2g : w1.heap.size < w2.heap.size := by omega); (try have q2h : w1.heap.size + 1 < w2.heap.size := by omega))))
   go_ret
   exact ⟨rfl, by (repeat' (first | exact Below.refl _ _ | assumption | (with_reducible refine Below.drew ?_) | (with_reducible refine Below.setCell ?_ (by (first | (simp; done) | (simp; omega))) _) | (with_reducible refine below_drewN' ?_ _) | (refine Below.alloc ?_ (by (try simp only [World.size_alloc, World.size_drew, World.size_setCell]); omega) _) | (refine Below.trans ?_ (Below.mono (by assumption) (by (try simp only [World.size_alloc, World.size_drew, World.size_setCell]); omega)))))⟩
  | false =>
   rw [Bool.not_false, Bool.true_and]
   cases C with
   | false =>
    rw [Bool.false_and]
    go_enter Try.func21, Try.ntmps21
    go_wp2_with (first | (go_at_call 47; (with_reducible refine (y1 _ _ (by simp) _).mono ?_); rintro e w1 ⟨rfl, hb1⟩; (have B1 : Below w.heap.size w w1 := by (repeat' (first | exact Below.refl _ _ | assumption | (with_reducible refine Below.drew ?_) | (with_reducible refine Below.setCell ?_ (by (first | (simp; done) | (simp; omega))) _) | (with_reducible refine below_drewN' ?_ _) | (refine Below.alloc ?_ (by (try simp only [World.size_alloc, World.size_drew, World.size_setCell]); omega) _) | (refine Below.trans ?_ (Below.mono (by assumption) (by (try simp only [World.size_alloc, World.size_drew, World.size_setCell]); omega)))))); (obtain ⟨hc1, hf1⟩ := bcell hb1; have z1 := hb1.size; (try simp only [World.size_alloc, World.size_drew, World.size_setCell] at z1); (try have q1a : w.heap.size < w1.heap.size := by omega); (try have q1b : w.heap.size + 1 < w1.heap.size := by omega); (try have q1c : w.heap.size + 1 + 1 < w1.heap.size := by omega); (try have q1d : w.heap.size + 1 + 1 + 1 < w1.heap.size := by omega); (try have q1e : wr.heap.size < w1.heap.size := by omega); (try have q1f : wr.heap.size + 1 < w1.heap.size := by omega))) | (go_at_call 48; refine (Y4.out _ B1).mono ?_; rintro e w2 ⟨rfl, hb2⟩; (obtain ⟨hc2, hf2⟩ := bcell hb2; have z2 := hb2.size; (try simp only [World.size_alloc, World.size_drew, World.size_setCell] at z2); (try have q2a : w.heap.size < w2.heap.size := by omega); (try have q2b : w.heap.size + 1 < w2.heap.size := by omega); (try have q2c : w.heap.size + 1 + 1 < w2.heap.size := by omega); (try have q2d : w.heap.size + 1 + 1 + 1 < w2.heap.size := by omega); (try have q2e : wr.heap.size < w2.heap.size := by omega); (try have q2f : wr.heap.size + 1 < w2.heap.size := by omega); (try have q2g : w1.heap.size < w2.heap.size := by omega); (try have q2h : w1.heap.size + 1 < w2.heap.size := by omega))) | (go_at_call 47; (with_reducible refine (y2 _ _ (by simp) _).mono ?_); rintro e w3 ⟨rfl, hb3⟩; (obtain ⟨hc3, hf3⟩ := bcell hb3; have z3 := hb3.size; (try simp only [World.size_alloc, World.size_drew, World.size_setCell] at z3); (try have q3a : w.heap.size < w3.heap.size := by omega); (try have q3b : w.heap.size + 1 < w3.heap.size := by omega); (try have q3c : w.heap.size + 1 + 1 < w3.heap.size := by omega); (try have q3d : w.heap.size + 1 + 1 + 1 < w3.heap.size := by omega); (try have q3e : wr.heap.size < w3.heap.size := by omega); (try have q3f : wr.heap.size + 1 < w3.heap.size := by omega); (try have q3g : w2.heap.size < w3.heap.size := by omega); (try have q3h : w2.heap.size + 1 < w3.heap.size := by omega))))
    go_ret
    exact ⟨rfl, by (repeat' (first | exact Below.refl _ _ | assumption | (with_reducible refine Below.drew ?_) | (with_reducible refine Below.setCell ?_ (by (first | (simp; done) | (simp; omega))) _) | (with_reducible refine below_drewN' ?_ _) | (refine Below.alloc ?_ (by (try simp only [World.size_alloc, World.size_drew, World.size_setCell]); omega) _) | (refine Below.trans ?_ (Below.mono (by assumption) (by (try simp only [World.size_alloc, World.size_drew, World.size_setCell]); omega)))))⟩
   | true =>
    rw [Bool.true_and]
    go_enter Try.func21, Try.ntmps21
    cases E with
    | false =>
     go_wp2_with (first | (go_at_call 47; (with_reducible refine (y1 _ _ (by simp) _).mono ?_); rintro e w1 ⟨rfl, hb1⟩; (have B1 : Below w.heap.size w w1 := by (repeat' (first | exact Below.refl _ _ | assumption | (with_reducible refine Below.drew ?_) | (with_reducible refine Below.setCell ?_ (by (first | (simp; done) | (simp; omega))) _) | (with_reducible refine below_drewN' ?_ _) | (refine Below.alloc ?_ (by (try simp only [World.size_alloc, World.size_drew, World.size_setCell]); omega) _) | (refine Below.trans ?_ (Below.mono (by assumption) (by (try simp only [World.size_alloc, World.size_drew, World.size_setCell]); omega)))))); (obtain ⟨hc1, hf1⟩ := bcell hb1; have z1 := hb1.size; (try simp only [World.size_alloc, World.size_drew, World.size_setCell] at z1); (try have q1a : w.heap.size < w1.heap.size := by omega); (try have q1b : w.heap.size + 1 < w1.heap.size := by omega); (try have q1c : w.heap.size + 1 + 1 < w1.heap.size := by omega); (try have q1d : w.heap.size + 1 + 1 + 1 < w1.heap.size := by omega); (try have q1e : wr.heap.size < w1.heap.size := by omega); (try have q1f : wr.heap.size + 1 < w1.heap.size := by omega))) | (go_at_call 48; refine (Y4.out _ B1).mono ?_; rintro e w2 ⟨rfl, hb2⟩; (obtain ⟨hc2, hf2⟩ := bcell hb2; have z2 := hb2.size; (try simp only [World.size_alloc, World.size_drew, World.size_setCell] at z2); (try have q2a : w.heap.size < w2.heap.size := by omega); (try have q2b : w.heap.size + 1 < w2.heap.size := by omega); (try have q2c : w.heap.size + 1 + 1 < w2.heap.size := by omega); (try have q2d : w.heap.size + 1 + 1 + 1 < w2.heap.size := by omega); (try have q2e : wr.heap.size < w2.heap.size := by omega); (try have q2f : wr.heap.size + 1 < w2.heap.size := by omega); (try have q2g : w1.heap.size < w2.heap.size := by omega); (try have q2h : w1.heap.size + 1 < w2.heap.size := by omega))) | (go_at_call 47; (with_reducible refine (y2 _ _ (by simp) _).mono ?_); rintro e w3 ⟨rfl, hb3⟩; (obtain ⟨hc3, hf3⟩ := bcell hb3; have z3 := hb3.size; (try simp only [World.size_alloc, World.size_drew, World.size_setCell] at z3); (try have q3a : w.heap.size < w3.heap.size := by omega); (try have q3b : w.heap.size + 1 < w3.heap.size := by omega); (try have q3c : w.heap.size + 1 + 1 < w3.heap.size := by omega); (try have q3d : w.heap.size + 1 + 1 + 1 < w3.heap.size := by omega); (try have q3e : wr.heap.size < w3.heap.size := by omega); (try have q3f : wr.heap.size + 1 < w3.heap.size := by omega); (try have q3g : w2.heap.size < w3.heap.size := by omega); (try have q3h : w2.heap.size + 1 < w3.heap.size := by omega))) | (go_at_call 47; (with_reducible refine (y3 _ _ (by simp) _).mono ?_); rintro e w4 ⟨rfl, hb4⟩; (obtain ⟨hc4, hf4⟩ := bcell hb4; have z4 := hb4.size; (try simp only [World.size_alloc, World.size_drew, World.size_setCell] at z4); (try have q4a : w.heap.size < w4.heap.size := by omega); (try have q4b : w.heap.size + 1 < w4.heap.size := by omega); (try have q4c : w.heap.size + 1 + 1 < w4.heap.size := by omega); (try have q4d : w.heap.size + 1 + 1 + 1 < w4.heap.size := by omega); (try have q4e : wr.heap.size < w4.heap.size := by omega); (try have q4f : wr.heap.size + 1 < w4.heap.size := by omega); (try have q4g : w3.heap.size < w4.heap.size := by omega); (try have q4h : w3.heap.size + 1 < w4.heap.size := by omega))))
     go_ret
     exact ⟨rfl, by (repeat' (first | exact Below.refl _ _ | assumption | (with_reducible refine Below.drew ?_) | (with_reducible refine Below.setCell ?_ (by (first | (simp; done) | (simp; omega))) _) | (with_reducible refine below_drewN' ?_ _) | (refine Below.alloc ?_ (by (try simp only [World.size_alloc, World.size_drew, World.size_setCell]); omega) _) | (refine Below.trans ?_ (Below.mono (by assumption) (by (try simp only [World.size_alloc, World.size_drew, World.size_setCell]); omega)))))⟩
    | true =>
     go_wp2_with (first | (go_at_call 47; (with_reducible refine (y1 _ _ (by simp) _).mono ?_); rintro e w1 ⟨rfl, hb1⟩; (have B1 : Below w.heap.size w w1 := by (repeat' (first | exact Below.refl _ _ | assumption | (with_reducible refine Below.drew ?_) | (with_reducible refine Below.setCell ?_ (by (first | (simp; done) | (simp; omega))) _) | (with_reducible refine below_drewN' ?_ _) | (refine Below.alloc ?_ (by (try simp only [World.size_alloc, World.size_drew, World.size_setCell]); omega) _) | (refine Below.trans ?_ (Below.mono (by assumption) (by (try simp only [World.size_alloc, World.size_drew, World.size_setCell]); omega)))))); (obtain ⟨hc1, hf1⟩ := bcell hb1; have z1 := hb1.size; (try simp only [World.size_alloc, World.size_drew, World.size_setCell] at z1); (try have q1a : w.heap.size < w1.heap.size := by omega); (try have q1b : w.heap.size + 1 < w1.heap.size := by omega); (try have q1c : w.heap.size + 1 + 1 < w1.heap.size := by omega); (try have q1d : w.heap.size + 1 + 1 + 1 < w1.heap.size := by omega); (try have q1e : wr.heap.size < w1.heap.size := by omega); (try have q1f : wr.heap.size + 1 < w1.heap.size := by omega))) | (go_at_call 48; refine (Y4.out _ B1).mono ?_; rintro e w2 ⟨rfl, hb2⟩; (obtain ⟨hc2, hf2⟩ := bcell hb2; have z2 := hb2.size; (try simp only [World.size_alloc, World.size_drew, World.size_setCell] at z2); (try have q2a : w.heap.size < w2.heap.size := by omega); (try have q2b : w.heap.size + 1 < w2.heap.size := by omega); (try have q2c : w.heap.size + 1 + 1 < w2.heap.size := by omega); (try have q2d : w.heap.size + 1 + 1 + 1 < w2.heap.size := by omega); (try have q2e : wr.heap.size < w2.heap.size := by omega); (try have q2f : wr.heap.size + 1 < w2.heap.size := by omega); (try have q2g : w1.heap.size < w2.heap.size := by omega); (try have q2h : w1.heap.size + 1 < w2.heap.size := by omega))) | (go_at_call 47; (with_reducible refine (y2 _ _ (by simp) _).mono ?_); rintro e w3 ⟨rfl, hb3⟩; (obtain ⟨hc3, hf3⟩ := bcell hb3; have z3 := hb3.size; (try simp only [World.size_alloc, World.size_drew, World.size_setCell] at z3); (try have q3a : w.heap.size < w3.heap.size := by omega); (try have q3b : w.heap.size + 1 < w3.heap.size := by omega); (try have q3c : w.heap.size + 1 + 1 < w3.heap.size := by omega); (try have q3d : w.heap.size + 1 + 1 + 1 < w3.heap.size := by omega); (try have q3e : wr.heap.size < w3.heap.size := by omega); (try have q3f : wr.heap.size + 1 < w3.heap.size := by omega); (try have q3g : w2.heap.size < w3.heap.size := by omega); (try have q3h : w2.heap.size + 1 < w3.heap.size := by omega))) | (go_at_call 47; (with_reducible refine (y3 _ _ (by simp) _).mono ?_); rintro e w4 ⟨rfl, hb4⟩; (obtain ⟨hc4, hf4⟩ := bcell hb4; have z4 := hb4.size; (try simp only [World.size_alloc, World.size_drew, World.size_setCell] at z4); (try have q4a : w.heap.size < w4.heap.size := by omega); (try have q4b : w.heap.size + 1 < w4.heap.size := by omega); (try have q4c : w.heap.size + 1 + 1 < w4.heap.size := by omega); (try have q4d : w.heap.size + 1 + 1 + 1 < w4.heap.size := by omega); (try have q4e : wr.heap.size < w4.heap.size := by omega); (try have q4f : wr.heap.size + 1 < w4.heap.size := by omega); (try have q4g : w3.heap.size < w4.heap.size := by omega); (try have q4h : w3.heap.size + 1 < w4.heap.size := by omega))))
     go_ret
     exact ⟨rfl, by (repeat' (first | exact Below.refl _ _ | assumption | (with_reducible refine Below.drew ?_) | (with_reducible refine Below.setCell ?_ (by (first | (simp; done) | (simp; omega))) _) | (with_reducible refine below_drewN' ?_ _) | (refine Below.alloc ?_ (by (try simp only [World.size_alloc, World.size_drew, World.size_setCell]); omega) _) | (refine Below.trans ?_ (Below.mono (by assumption) (by (try simp only [World.size_alloc, World.size_drew, World.size_setCell]); omega)))))⟩
end
section
open Go.RowKit Go.Maps Go.Sort Go.Shelf Go.Deep
def jstep (r : LegR) (s : LegG × List (Int × Int × Int)) (i : Nat) (v : Int × List Int) : LegG × List (Int × Int × Int) :=
 ((takeG r s.1 v.1 v.2).1, if (takeG r s.1 v.1 v.2).2.2 = 0 then s.2 else s.2 ++ [((i : Int), (takeG r s.1 v.1 v.2).2.1, (takeG r s.1 v.1 v.2).2.2)])
def judgeK (r : LegR) (l : List (Int × List Int)) : Nat → LegG × List (Int × Int × Int)
 | 0 => (beginG r, [])
 | k + 1 => match l[k]? with
  | some v => jstep r (judgeK r l k) k v
  | none => judgeK r l k
def judgeE (r : LegR) (l : List (Int × List Int)) : Int := if vleg r = true then (if 2000 < l.length then 5 else 0) else 2
def encF (x : Int × Int × Int) : List Value := [.int .i64 x.1, .int .i64 x.2.1, .int .i64 x.2.2]
def eB (x : Bool) : List Value := [.bool x]
def encV (x : Int × Value × List Int) : List Value := [.int .i64 x.1, x.2.1]
def zeroSt : Value := .agg #[.slice none 0 0, .slice none 0 0, .slice none 0 0, .int .i64 0, .int .i64 0, .bool false, .slice none 0 0]
def StAt (w : World) (v : Value) (g : LegG) (B : Nat) : Prop := ∃ vl vd vi vw, v = .agg #[vl, vd, vi, .int .i64 g.next, .int .i64 g.round, .bool g.over, vw] ∧ Sl w 1 eI vl g.left ∧ Sl w 1 eI vd g.darts ∧ Sl w 1 eB vi g.inn ∧ Sl w 1 eI vw g.wins ∧
 (∀ b o n c, (vl = .slice (some ⟨b, o, none⟩) n c ∨ vd = .slice (some ⟨b, o, none⟩) n c ∨ vi = .slice (some ⟨b, o, none⟩) n c ∨ (g.wins ≠ [] ∧ vw = .slice (some ⟨b, o, none⟩) n c)) → B ≤ b)
def ZeroSt (w : World) (R : Nat) : Prop := w.heap[R]? = some (.cells #[.slice none 0 0, .slice none 0 0, .slice none 0 0, .int .i64 0, .int .i64 0, .bool false, .slice none 0 0] 51 (0, 0))
theorem ownsRow_outs {S : List Nat} {w w' : World} {b : Nat} {e : TypeId} {size : Nat} {v : Value} {n : Nat} {xs : List Value} (hO : Outs S w w') (h : w.ownsRow b e size v n xs) (hne : ∀ k ∈ S, k < b) : w'.ownsRow b e size v n xs := by
 obtain ⟨h1, h2⟩ := h
 refine ⟨h1, ?_⟩
 rcases h2 with h2 | ⟨g, cap, cur, h3, h4, h5, h6⟩
 ·exact .inl h2
 ·exact .inr ⟨g, cap, cur, h3, h4, (hO.block g (fun hm => by have := hne g hm; omega) (Array.getElem?_eq_some_iff.1 h5).1).trans h5, h6⟩
theorem Outs.sl' {α : Type} {S : List Nat} {w w' : World} {k : Nat} {enc : α → List Value} {v : Value} {xs : List α} (h : Outs S w w') (hs : Sl w k enc v xs) (hS : xs ≠ [] → ∀ g o n c, v = .slice (some ⟨g, o, none⟩) n c → g ∉ S) : Sl w' k enc v xs := by
 by_cases hne : xs = []
 ·subst hne
  obtain ⟨a, c, rfl, hl, _⟩ := hs
  exact ⟨a, c, rfl, hl, fun h => absurd rfl h⟩
 ·exact h.sl hs (hS hne)
theorem StAt.outs {S : List Nat} {w w' : World} {v : Value} {g : LegG} {B : Nat} (hO : Outs S w w') (h : StAt w v g B) (hS : ∀ k ∈ S, k < B) : StAt w' v g B := by
 obtain ⟨vl, vd, vi, vw, rfl, h1, h2, h3, h4, hB⟩ := h
 have key : ∀ b, B ≤ b → b ∉ S := fun b hb hm => by have := hS b hm; omega
 exact ⟨vl, vd, vi, vw, rfl, hO.sl h1 (fun b o n c e => key b (hB b o n c (.inl e))), hO.sl h2 (fun b o n c e => key b (hB b o n c (.inr (.inl e)))), hO.sl h3 (fun b o n c e => key b (hB b o n c (.inr (.inr (.inl e))))),
  hO.sl' h4 (fun hne b o n c e => key b (hB b o n c (.inr (.inr (.inr ⟨hne, e⟩))))), hB⟩
theorem LegW.outs {S : List Nat} {w w' : World} {V gl gd gi M cl cd ci nn : Nat} {vc vw : Value} {D : DataW Unit} {r : LegR} {g : LegG} (h : LegW w V gl gd gi M cl cd ci nn vc vw D r g) (hO : Outs S w w') (hS : ∀ k ∈ [V, gl, gd, gi, M], k ∉ S)
  (hc : ∀ b o n c, vc = .slice (some ⟨b, o, none⟩) n c → b ∉ S) (hw : g.wins ≠ [] → ∀ b o n c, vw = .slice (some ⟨b, o, none⟩) n c → b ∉ S) : LegW w' V gl gd gi M cl cd ci nn vc vw D r g := by
 have hs : ∀ k ∈ [V, gl, gd, gi, M], k < w.heap.size → w'.heap[k]? = w.heap[k]? := fun k hm hk => hO.block k (hS k hm) hk
 exact ⟨(hs V (by simp) (Array.getElem?_eq_some_iff.1 h.blk).1).trans h.blk, h.left.same (hs _ (by simp) h.left.lt), h.darts.same (hs _ (by simp) h.darts.lt), h.inn.same (hs _ (by simp) h.inn.lt), ownsMap_same h.own (hs _ (by simp) h.own.lt), h.rep, hO.sl h.counts hc, hO.sl' h.wins hw, h.l1, h.l2, h.l3, h.d1, h.d2, h.d3, h.d4, h.cout, h.wout⟩
structure JInv (r : LegR) (w : World) (V gl gd gi M cl cd ci : Nat) (vc : Value) (Z R i : Nat) (g : LegG) (fs : List (Int × Int × Int)) (vf : Value) (wr : World) : Prop where
 leg : ∃ nn vw D, nn ≤ i ∧ LegW wr V gl gd gi M cl cd ci nn vc vw D r g ∧ (g.wins ≠ [] → ∀ b o n c, vw = .slice (some ⟨b, o, none⟩) n c → vf.ownBlock ≠ some b ∧ w.heap.size + 2 ≤ b)
 ok : g.Ok r (2 * i)
 own : wr.ownsRow Z 61 3 vf fs.length ((fs.map encF).flatten)
 nil : fs = [] → vf = .slice none 0 0
 bel : Below w.heap.size w wr
 zero : ZeroSt wr R
 siz : Z ≤ wr.heap.size
structure JFix (w : World) (V gl gd gi M : Nat) (vc : Value) (Z R : Nat) : Prop where
 lo : ∀ j ∈ [V, gl, gd, gi, M], w.heap.size + 2 ≤ j ∧ j < Z
 r0 : w.heap.size ≤ R
 r1 : R < w.heap.size + 2
 cnt : ∀ b o n c, vc = .slice (some ⟨b, o, none⟩) n c → b < Z
theorem JInv.below {r : LegR} {w : World} {V gl gd gi M cl cd ci : Nat} {vc : Value} {Z R i : Nat} {g : LegG} {fs : List (Int × Int × Int)} {vf : Value} {wr w' : World} (h : JInv r w V gl gd gi M cl cd ci vc Z R i g fs vf wr) (hB : Below wr.heap.size wr w') : JInv r w V gl gd gi M cl cd ci vc Z R i g fs vf w' := by
 obtain ⟨nn, vw, D, h1, h2, h3⟩ := h.leg
 exact ⟨⟨nn, vw, D, h1, h2.below hB, h3⟩, h.ok, ownsRow_below h.own hB, h.nil, h.bel.trans (hB.mono h.bel.size), (hB.block R (Array.getElem?_eq_some_iff.1 h.zero).1).trans h.zero, Nat.le_trans h.siz hB.size⟩
theorem JInv.step {r : LegR} {w : World} {V gl gd gi M cl cd ci : Nat} {vc : Value} {Z R i : Nat} {g : LegG} {fs : List (Int × Int × Int)} {vf : Value} {wr : World} (h : JInv r w V gl gd gi M cl cd ci vc Z R i g fs vf wr) (hf : JFix w V gl gd gi M vc Z R) (hr : r.Ok)
  {nn : Nat} {vw : Value} (hnn : nn ≤ i) (hwn : g.wins ≠ [] → ∀ b o n c, vw = .slice (some ⟨b, o, none⟩) n c → vf.ownBlock ≠ some b ∧ w.heap.size + 2 ≤ b) {p : Int} {bs : List Int} {e : Ending} {w2 : World} (hT : TakeG V gl gd gi M cl cd ci nn vc vw r g p bs wr e w2) :
  JInv r w V gl gd gi M cl cd ci vc Z R (i + 1) (takeG r g p bs).1 fs vf w2 := by
 obtain ⟨_, hO, nn', vw', D', h1, h2, h3⟩ := hT
 have hwr : w.heap.size ≤ wr.heap.size := h.bel.size
 refine ⟨⟨nn', vw', D', by omega, h3, fun hne b o n c e => ?_⟩, (takeG_ok hr h.ok p bs).mono (by omega), ownsRow_outs hO h.own (fun k hk => (hf.lo k hk).2), h.nil, h.bel.trans (hO.below (B := w.heap.size) (fun k hk => by have := (hf.lo k hk).1; omega) hwr), ?_, Nat.le_trans h.siz hO.size⟩
 ·rcases h2 with ⟨rfl, h2⟩ | h2
  ·exact hwn (by rw [← h2]; exact hne) b o n c e
  ·have h5 := h2 b o n c e
   refine ⟨fun e2 => ?_, ?_⟩
   ·have h6 := (h.own.lt b e2).2
    omega
   ·have h6 := (hf.lo V (by simp))
    have h7 := hf.r1
    have h8 := h.siz
    omega
 ·exact (hO.block R (fun hm => by have := (hf.lo R hm).1; have := hf.r1; omega) (Array.getElem?_eq_some_iff.1 h.zero).1).trans h.zero
theorem JInv.app {r : LegR} {w : World} {V gl gd gi M cl cd ci : Nat} {vc : Value} {Z R i : Nat} {g : LegG} {fs : List (Int × Int × Int)} {vf : Value} {W W3 : World} (h : JInv r w V gl gd gi M cl cd ci vc Z R i g fs vf W) (hf : JFix w V gl gd gi M vc Z R) {v' : Value} {f : Int × Int × Int}
  (hown : W3.ownsRow Z 61 3 v' (fs.length + 1) ((fs.map encF).flatten ++ encF f)) (hg : W.grownBy W3 vf.ownBlock) (hat : v'.ownBlock = vf.ownBlock ∨ v'.ownBlock = some W.heap.size) :
  JInv r w V gl gd gi M cl cd ci vc Z R i g (fs ++ [f]) v' W3 := by
 obtain ⟨nn, vw, D, h1, h2, h3⟩ := h.leg
 have hO : Outs (match vf.ownBlock with | some b => [b] | none => []) W W3 := by
  refine ⟨hg.os, hg.tape, hg.output, hg.size, fun k hk hl => hg.block k hl (fun e => ?_)⟩
  rw [← e] at hk
  simp at hk
 have hblk : ∀ b, b ∈ (match vf.ownBlock with | some b => [b] | none => []) → vf.ownBlock = some b := by
  intro b hb
  cases hv : vf.ownBlock with
  | none => rw [hv] at hb; cases hb
  | some x => rw [hv] at hb; simp at hb; rw [hb]
 have hlo : ∀ b, b ∈ (match vf.ownBlock with | some b => [b] | none => []) → Z ≤ b := fun b hb => (h.own.lt b (hblk b hb)).1
 have hZ : w.heap.size + 2 ≤ Z := by have := (hf.lo V (by simp)); omega
 refine ⟨⟨nn, vw, D, h1, h2.outs hO (fun k hk hm => by have := hlo k hm; have := (hf.lo k hk).2; omega) (fun b o n c e hm => by have := hlo b hm; have := hf.cnt b o n c e; omega) (fun hne b o n c e hm => (h3 hne b o n c e).1 (hblk b hm)), fun hne b o n c e => ?_⟩, h.ok, ?_, fun e => by simp at e, h.bel.trans (hO.below (B := w.heap.size) (fun k hk => by have := hlo k hk; omega) h.bel.size), (hO.block R (fun hm => by have := hlo R hm; have := hf.r1; omega) (Array.getElem?_eq_some_iff.1 h.zero).1).trans h.zero, Nat.le_trans h.siz hO.size⟩
 ·rcases hat with e2 | e2
  ·rw [e2]; exact h3 hne b o n c e
  ·rw [e2]
   refine ⟨?_, (h3 hne b o n c e).2⟩
   intro e3
   obtain ⟨a, cc, ev, _, hs⟩ := h2.wins
   obtain ⟨bb, off, rfl, hlt, _⟩ := hs hne
   rw [e] at ev
   cases ev
   cases e3
   omega
 ·have : ((fs ++ [f]).map encF).flatten = (fs.map encF).flatten ++ encF f := by simp
  rw [this, List.length_append]
  exact hown
theorem judgeK_step {r : LegR} {l : List (Int × List Int)} {k : Nat} {v : Int × List Int} (h : l[k]? = some v) : judgeK r l (k + 1) = jstep r (judgeK r l k) k v := by
 show (match l[k]? with | some v => jstep r (judgeK r l k) k v | none => judgeK r l k) = _
 rw [h]
end
section
open Go.RowKit Go.Maps Go.Sort Go.Shelf Go.Deep
theorem outs_set7 {R : Nat} (w1 : World) (x0 x1 x2 x3 x4 x5 x6 : Value) :
  Outs [R] w1 (((((((w1.setCell ⟨R, 0, none⟩ x0).setCell ⟨R, 1, none⟩ x1).setCell ⟨R, 2, none⟩ x2).setCell ⟨R, 3, none⟩ x3).setCell ⟨R, 4, none⟩ x4).setCell ⟨R, 5, none⟩ x5).setCell ⟨R, 6, none⟩ x6) :=
 ((((((Outs.set (by simp) _ _ _).trans (Outs.set (by simp) _ _ _)).trans (Outs.set (by simp) _ _ _)).trans (Outs.set (by simp) _ _ _)).trans (Outs.set (by simp) _ _ _)).trans (Outs.set (by simp) _ _ _)).trans (Outs.set (by simp) _ _ _)
theorem Row.slw {α : Type} {w : World} {g n : Nat} {T : TypeId} {enc : α → Value} {xs : List α} (h : Row w g T (xs.map enc)) (hn : xs.length = n) (h8 : n ≤ 1000) (c : Nat) : Sl w 1 (fun x => [enc x]) (rowV g n c) xs := by
 subst hn
 exact h.sl (by omega) c
theorem judge_end {r : LegR} {w : World} {V gl gd gi M cl cd ci nn : Nat} {vb vw : Value} {D : DataW Unit} {Z R i : Nat} {g : LegG} {fs : List (Int × Int × Int)} {vf : Value} {wr W : World} (h : JInv r w V gl gd gi M cl cd ci vb Z R i g fs vf wr) (hf : JFix w V gl gd gi M vb Z R) (hL : LegW wr V gl gd gi M cl cd ci nn vb vw D r g)
  (hwn : g.wins ≠ [] → ∀ b o n c, vw = .slice (some ⟨b, o, none⟩) n c → w.heap.size + 2 ≤ b) (hn8 : r.counts.length ≤ 8) (hfl : fs.length ≤ 5000) (hO : Outs [R] wr W) :
  StAt W (.agg #[rowV gl r.counts.length cl, rowV gd r.counts.length cd, rowV gi r.counts.length ci, .int .i64 g.next, .int .i64 g.round, .bool g.over, vw]) g w.heap.size ∧ Sl W 3 encF vf fs ∧ (fs ≠ [] → ∀ b o n c, vf = .slice (some ⟨b, o, none⟩) n c → w.heap.size ≤ b) := by
 have hR : ∀ k, w.heap.size + 2 ≤ k → k ∉ [R] := fun k hk hm => by simp at hm; have := hf.r1; omega
 have hlo := hf.lo
 refine ⟨⟨_, _, _, _, rfl, ?_, ?_, ?_, ?_, ?_⟩, ?_, ?_⟩
 ·exact hO.sl (hL.left.slw hL.l1 (by omega) cl) (fun b o n c e => by simp only [Value.slice.injEq, Option.some.injEq, Addr.mk.injEq, and_true] at e; exact hR b (by have := (hlo gl (by simp)).1; omega))
 ·exact hO.sl (hL.darts.slw hL.l2 (by omega) cd) (fun b o n c e => by simp only [Value.slice.injEq, Option.some.injEq, Addr.mk.injEq, and_true] at e; exact hR b (by have := (hlo gd (by simp)).1; omega))
 ·exact hO.sl (hL.inn.slw hL.l3 (by omega) ci) (fun b o n c e => by simp only [Value.slice.injEq, Option.some.injEq, Addr.mk.injEq, and_true] at e; exact hR b (by have := (hlo gi (by simp)).1; omega))
 ·exact hO.sl' hL.wins (fun hne b o n c e => hR b (hwn hne b o n c e))
 ·intro b o n c e
  simp only [Value.slice.injEq, Option.some.injEq, Addr.mk.injEq, and_true] at e
  rcases e with e | e | e | ⟨hne, e⟩
  ·have := (hlo gl (by simp)).1; omega
  ·have := (hlo gd (by simp)).1; omega
  ·have := (hlo gi (by simp)).1; omega
  ·have := hwn hne b o n c e; omega
 ·by_cases hne : fs = []
  ·subst hne
   rw [h.nil rfl]
   exact ⟨none, 0, rfl, by simp, fun h => absurd rfl h⟩
  ·have hs := sl_of_row (enc := encF) (k := 3) (fun x => rfl) (by omega) hne h.own
   obtain ⟨gf, cf, rfl, hZg, _, hs⟩ := hs
   refine hO.sl hs (fun b o n c e => hR b ?_)
   simp only [Value.slice.injEq, Option.some.injEq, Addr.mk.injEq, and_true] at e
   have h2 := (hlo V (by simp))
   omega
 ·intro hne b o n c e
  have h1 := (h.own.lt b (by rw [e]; cases o with | zero => rfl | succ o => exfalso; have := h.own.2; rcases this with ⟨e1, _⟩ | ⟨g1, c1, cu, e1, _⟩ <;> rw [e] at e1 <;> simp at e1)).1
  have h2 := (hlo V (by simp))
  omega
def JudgeOk (r : LegR) (l : List (Int × List Int)) (w : World) (e : Ending) (w' : World) : Prop :=
 Below w.heap.size w w' ∧ ∃ vs vf, e = .returned (.tuple #[vs, vf, .int .i64 (judgeE r l)]) ∧ (judgeE r l = 0 → StAt w' vs (judgeK r l l.length).1 w.heap.size ∧ Sl w' 3 encF vf (judgeK r l l.length).2 ∧ ((judgeK r l l.length).2 ≠ [] → ∀ b o n c, vf = .slice (some ⟨b, o, none⟩) n c → w.heap.size ≤ b)) ∧ (judgeE r l ≠ 0 → vs = zeroSt ∧ vf = .slice none 0 0)
theorem below_set7 {B R : Nat} {w w1 : World} (h : Below B w w1) (hR : B ≤ R) (x0 x1 x2 x3 x4 x5 x6 : Value) :
  Below B w (((((((w1.setCell ⟨R, 0, none⟩ x0).setCell ⟨R, 1, none⟩ x1).setCell ⟨R, 2, none⟩ x2).setCell ⟨R, 3, none⟩ x3).setCell ⟨R, 4, none⟩ x4).setCell ⟨R, 5, none⟩ x5).setCell ⟨R, 6, none⟩ x6) :=
 (below_set6 h hR x0 x1 x2 x3 x4 x5).setCell (p := ⟨R, 6, none⟩) hR x6
theorem judge_bad {r : LegR} {l : List (Int × List Int)} {w w' : World} {er : Int} (hB : Below w.heap.size w w') (he : judgeE r l = er) (h0 : er ≠ 0) : JudgeOk r l w (.returned (.tuple #[zeroSt, .slice none 0 0, .int .i64 er])) w' := by
 refine ⟨hB, zeroSt, .slice none 0 0, by rw [he], fun h => absurd (he.symm.trans h) h0, fun _ => ⟨rfl, rfl⟩⟩
theorem judgeK_len (r : LegR) (l : List (Int × List Int)) (k : Nat) : (judgeK r l k).2.length ≤ k := by
 induction k with
 | zero => exact Nat.le_refl _
 | succ k ih =>
  unfold judgeK
  split
  ·unfold jstep
   simp only []
   split
   ·omega
   ·rw [List.length_append]; simp; omega
  ·omega
theorem info_fault : (Try.prog.info? 61).map (fun i => (i.zero, i.size, i.bytes)) = some (some (.agg #[.int .i64 0, .int .i64 0, .int .i64 0]), 3, 24) := by kernel_rfl
set_option maxRecDepth 100000 in
set_option maxHeartbeats 8000000 in
theorem Judge_any (r : LegR) (vc : Value) (lv : List (Int × Value × List Int)) (v : Value) (w : World) (hc : Sl w 3 encC vc r.counts) (hv : Sl w 2 encV v lv)
  (hb : ∀ x ∈ lv, Sl w 1 eI x.2.1 x.2.2 ∧ ∀ b ∈ x.2.2, -9223372036854775808 ≤ b ∧ b ≤ 9223372036854775807) :
  Calls Try.prog 27 #[legRV r vc, v] w (JudgeOk r (lv.map (fun x => (x.1, x.2.2))) w) := by
 obtain ⟨i0, hi, hz0, hz1, hz2⟩ := info_parts info_fault
 have HC : Aside (Sl w 3 encC vc r.counts) := hc
 have HX : Aside (∀ x ∈ lv, Sl w 1 eI x.2.1 x.2.2 ∧ ∀ b ∈ x.2.2, -9223372036854775808 ≤ b ∧ b ≤ 9223372036854775807) := hb
 have x1 : ∀ W, Below w.heap.size w W → Calls Try.prog 21 #[legRV r vc] W (Ret (.int .i64 (if vleg r = true then 0 else 2)) W) := fun W hB => Check_any r vc W (hc.below hB)
 have x2 : vleg r = true → ∀ W, Below w.heap.size w W → Calls Try.prog 52 #[legRV r vc] W (BeginOk r W) := fun h W hB => begin_any r vc W (hc.below hB) (vleg_ok h).1.ne (by have := (vleg_ok h).1.n8; omega)
 obtain ⟨l, hl⟩ : ∃ l, lv.map (fun x => (x.1, x.2.2)) = l := ⟨_, rfl⟩
 have HLM : Aside (lv.map (fun x => (x.1, x.2.2)) = l) := hl
 rw [hl]
 obtain ⟨n, hn⟩ : ∃ n, lv.length = n := ⟨_, rfl⟩
 have HN : Aside (lv.length = n ∧ l.length = n) := ⟨hn, by rw [← hl, List.length_map, hn]⟩
 have HE : Aside (judgeE r l = if vleg r = true then (if 2000 < n then 5 else 0) else 2) := by show _ = _; unfold judgeE; rw [HN.out.2]
 have HVL : Aside (vleg r = true → r.Ok) := fun h => (vleg_ok h).1
 obtain ⟨ac, cpc, rfl, _, _⟩ := hc
 obtain ⟨a, cp, rfl, hll, hs⟩ := hv
 have HS : Aside (lv ≠ [] → ∃ b off, a = some ⟨b, off, none⟩ ∧ b < w.heap.size ∧ ∀ j x, lv[j]? = some x → ∀ i y, (encV x)[i]? = some y → w.cell? ⟨b, off + j * 2 + i, none⟩ = some y) := hs
 unfold legRV at *
 rw [hn] at hll ⊢
 obtain ⟨f, hf⟩ : ∃ f, r.first = f := ⟨_, rfl⟩
 obtain ⟨rd, hrd⟩ : ∃ f, r.rounds = f := ⟨_, rfl⟩
 obtain ⟨eq, heq⟩ : ∃ f, r.equal = f := ⟨_, rfl⟩
 rw [hf, hrd, heq] at x1 x2 ⊢
 clear hl hn hs hb hf hrd heq
 go_enter Try.func27, Try.ntmps27
 go_wp2_with fail
 obtain ⟨wa, hwa⟩ : ∃ u, u = (w.alloc (.cells #[.slice ac r.counts.length cpc, .int .i64 f, .int .i64 rd, .bool eq] 42)).alloc (.cells #[.slice none 0 0, .slice none 0 0, .slice none 0 0, .int .i64 0, .int .i64 0, .bool false, .slice none 0 0] 51) := ⟨_, rfl⟩
 have BA : Aside (Below w.heap.size w wa) := by rw [hwa]; (repeat' (first | exact Below.refl _ _ | assumption | (with_reducible refine Below.drew ?_) | (with_reducible refine Below.setCell ?_ (by (first | (simp; done) | (simp; omega))) _) | (with_reducible refine below_drewN' ?_ _) | (refine Below.alloc ?_ (by (try simp only [World.size_alloc, World.size_drew, World.size_setCell]); omega) _) | (refine Below.trans ?_ (Below.mono (by assumption) (by (try simp only [World.size_alloc, World.size_drew, World.size_setCell]); omega)))))
 have za : Aside (ZeroSt wa (w.heap.size + 1)) := by rw [hwa]; exact World.alloc_heap_new' _ _ _ (by simp)
 have ba : Aside (wa.heap[w.heap.size]? = some (.cells #[.slice ac r.counts.length cpc, .int .i64 f, .int .i64 rd, .bool eq] 42 (0, 0))) := by rw [hwa]; exact (Below.heap_alloc _ _ _ (by simp)).trans (World.alloc_heap_new' _ _ _ rfl)
 rw [← hwa]
 clear hwa
 refine (x1 _ BA.out).mono ?_
 rintro e w1 ⟨rfl, hb1⟩
 have B1 : Aside (Below w.heap.size w w1) := BA.out.trans (hb1.mono BA.out.size)
 have z1 : Aside (ZeroSt w1 (w.heap.size + 1)) := (hb1.block _ (Array.getElem?_eq_some_iff.1 za.out).1).trans za.out
 have b1 : Aside (w1.heap[w.heap.size]? = some (.cells #[.slice ac r.counts.length cpc, .int .i64 f, .int .i64 rd, .bool eq] 42 (0, 0))) := (hb1.block _ (Array.getElem?_eq_some_iff.1 ba.out).1).trans ba.out
 clear hb1 za ba BA x1
 cases hvl : vleg r with
 | false =>
  have HE2 : Aside (judgeE r l = 2) := by show _ = _; rw [HE.out, if_neg (by rw [hvl]; simp)]
  have r0 := blk_cell z1.out (i := 0) rfl
  have r1 := blk_cell z1.out (i := 1) rfl
  have r2 := blk_cell z1.out (i := 2) rfl
  have r3 := blk_cell z1.out (i := 3) rfl
  have r4 := blk_cell z1.out (i := 4) rfl
  have r5 := blk_cell z1.out (i := 5) rfl
  have r6 := blk_cell z1.out (i := 6) rfl
  have rf := blk_free z1.out
  clear x2 hvl HE z1 b1 HX HS HC HVL HLM
  go_wp2
  refine bodyPost_ret (v := .tuple #[zeroSt, .slice none 0 0, .int .i64 2]) (by simp [zeroSt, results, Try.results27, go_sem, r0, r1, r2, r3, r4, r5, r6]) rfl (judge_bad ?_ HE2.out (by decide))
  exact below_set7 B1.out (by omega) _ _ _ _ _ _ _
 | true =>
  by_cases h2 : 2000 < n
  ·-- @@b
   have HE2 : Aside (judgeE r l = 5) := by show _ = _; rw [HE.out, if_pos hvl, if_pos h2]
   have h2z : (2000 : Int) < (n : Int) := by omega
   have r0 := blk_cell z1.out (i := 0) rfl
   have r1 := blk_cell z1.out (i := 1) rfl
   have r2 := blk_cell z1.out (i := 2) rfl
   have r3 := blk_cell z1.out (i := 3) rfl
   have r4 := blk_cell z1.out (i := 4) rfl
   have r5 := blk_cell z1.out (i := 5) rfl
   have r6 := blk_cell z1.out (i := 6) rfl
   have rf := blk_free z1.out
   clear x2 hvl HE z1 b1 HX HS HC HVL HLM
   go_wp2
   refine bodyPost_ret (v := .tuple #[zeroSt, .slice none 0 0, .int .i64 5]) (by simp [zeroSt, results, Try.results27, go_sem, r0, r1, r2, r3, r4, r5, r6]) rfl (judge_bad ?_ HE2.out (by decide))
   exact below_set7 B1.out (by omega) _ _ _ _ _ _ _
  ·-- @@c
   have HE2 : Aside (judgeE r l = 0) := by show _ = _; rw [HE.out, if_pos hvl, if_neg h2]
   have HRO : Aside r.Ok := HVL.out hvl
   have h2z : ¬ (2000 : Int) < (n : Int) := by omega
   have X2 : Aside _ := x2 hvl
   have c0 := blk_cell b1.out (i := 0) rfl
   have c1 := blk_cell b1.out (i := 1) rfl
   have c2 := blk_cell b1.out (i := 2) rfl
   have c3 := blk_cell b1.out (i := 3) rfl
   clear x2 hvl HE HVL
   go_wp2_with fail
   refine (X2.out _ B1.out).mono ?_
   rintro e w3 ⟨V, gl, gd, gi, M, cl, cd, ci, nn, vb, vw, D, rfl, hL, hlo, rfl, hb3⟩
   have hZ := z1.out
   have HFX : Aside (JFix w V gl gd gi M vb w3.heap.size (w.heap.size + 1)) := by
    have hs1 : w.heap.size + 1 < w1.heap.size := (Array.getElem?_eq_some_iff.1 hZ).1
    refine ⟨fun j hj => ⟨by have := hlo j hj; omega, ?_⟩, by omega, by omega, fun b o n' c' e => ?_⟩
    ·simp only [List.mem_cons, List.not_mem_nil, or_false] at hj
     rcases hj with rfl | rfl | rfl | rfl | rfl
     ·exact (Array.getElem?_eq_some_iff.1 hL.blk).1
     ·exact hL.left.lt
     ·exact hL.darts.lt
     ·exact hL.inn.lt
     ·exact hL.own.lt
    ·obtain ⟨a', c2', e2, _, hs'⟩ := hL.counts
     obtain ⟨b', o', rfl, hlt, _⟩ := hs' HRO.out.ne
     rw [e] at e2
     cases e2
     exact hlt
   have HI : Aside (JInv r w V gl gd gi M cl cd ci vb w3.heap.size (w.heap.size + 1) 0 (judgeK r l 0).1 (judgeK r l 0).2 (.slice none 0 0) w3) :=
    ⟨⟨0, vw, D, Nat.le_refl _, hL, fun h => absurd rfl h⟩, beginG_ok HRO.out, World.ownsRow_nil _ _ _ _, fun _ => rfl, B1.out.trans (hb3.mono B1.out.size), (hb3.block _ (Array.getElem?_eq_some_iff.1 hZ).1).trans hZ, Nat.le_refl _⟩
   obtain ⟨Z, hZe⟩ : ∃ Z, w3.heap.size = Z := ⟨_, rfl⟩
   rw [hZe] at HFX HI
   clear hL hlo hb3 hZ z1 b1 X2 c0 c1 c2 c3 B1 hZe
   go_wp2_with fail
   go_loopg [9, 28] n (fun gg fw i wr => ∃ (k : Nat) (fv : Value), k ≤ n ∧ n - k ≤ gg ∧ i = .int .i64 k ∧ fv = fw ∧ Aside (JInv r w V gl gd gi M cl cd ci vb Z (w.heap.size + 1) k (judgeK r l k).1 (judgeK r l k).2 fv wr))
   case atStart => exact ⟨0, _, Nat.zero_le _, by omega, rfl, rfl, HI.out⟩
   case round =>
    clear HI
    obtain ⟨k, fv, hk, hg, rfl, rfl, HI⟩ := hrel
    by_cases hlt : k < n
    ·have hltz : (k : Int) < (n : Int) := by omega
     obtain ⟨x, hx⟩ : ∃ x, lv[k]? = some x := ⟨_, List.getElem?_eq_getElem (by rw [HN.out.1]; exact hlt)⟩
     obtain ⟨B, off, rfl, hBlt, hcl⟩ := HS.out (by intro e; rw [e] at hx; simp at hx)
     have hxm := HX.out x (List.mem_of_getElem? hx)
     have hlx : l[k]? = some (x.1, x.2.2) := by rw [← HLM.out, List.getElem?_map, hx]; rfl
     obtain ⟨p, vq, bs⟩ := x
     obtain ⟨hxs, hx64⟩ := hxm
     simp only [] at hxs hx64
     have kp : wr.cell? ⟨B, off + k * 2, none⟩ = some (.int .i64 p) := keepc HI.out.bel (by have := hcl k _ hx 0 (.int .i64 p) rfl; simpa using this)
     have kq : wr.cell? ⟨B, off + k * 2 + 1, none⟩ = some vq := keepc HI.out.bel (by have := hcl k _ hx 1 vq rfl; simpa using this)
     obtain ⟨nn, vw, D, hnn, hL, hwn⟩ := HI.out.leg
     have XT : Aside (∀ W, Below wr.heap.size wr W → Calls Try.prog 53 #[.pointer (some ⟨V, 0, none⟩), .agg #[.int .i64 p, vq]] W (TakeG V gl gd gi M cl cd ci nn vb vw r (judgeK r l k).1 p bs W)) := fun W hB =>
      ltake_any W (hL.below hB) HRO.out HI.out.ok (by omega) p vq bs (hxs.below (HI.out.bel.trans (hB.mono HI.out.bel.size))) hx64 (by omega)
     have HW : Aside (nn ≤ k ∧ ((judgeK r l k).1.wins ≠ [] → ∀ b o n c, vw = .slice (some ⟨b, o, none⟩) n c → fv.ownBlock ≠ some b ∧ w.heap.size + 2 ≤ b)) := ⟨hnn, hwn⟩
     have HST : Aside (judgeK r l (k + 1) = jstep r (judgeK r l k) k (p, bs)) := judgeK_step hlx
     obtain ⟨aq, cq, rfl, _, _⟩ := hxs
     clear hcl hx hlx hx64 hL hwn hnn
     go_wp2_with fail
     obtain ⟨wq, hwq⟩ : ∃ u, u = wr.alloc (.cells #[.int .i64 p, .slice aq bs.length cq] 84) := ⟨_, rfl⟩
     have BQ : Aside (Below wr.heap.size wr wq) := by rw [hwq]; exact (Below.refl _ _).alloc (Nat.le_refl _) _
     rw [← hwq]
     clear hwq kp kq
     refine (XT.out _ BQ.out).mono ?_
     rintro e w2 hT
     have HT : Aside (TakeG V gl gd gi M cl cd ci nn vb vw r (judgeK r l k).1 p bs wq e w2) := hT
     have HI2 : Aside (JInv r w V gl gd gi M cl cd ci vb Z (w.heap.size + 1) (k + 1) (takeG r (judgeK r l k).1 p bs).1 (judgeK r l k).2 fv w2) := (HI.out.below BQ.out).step HFX.out HRO.out HW.out.1 HW.out.2 HT.out
     obtain ⟨rfl, _⟩ := hT
     clear HT XT HW BQ HI
     unfold jstep at HST
     obtain ⟨tg, htg⟩ : ∃ t, takeG r (judgeK r l k).1 p bs = t := ⟨_, rfl⟩
     simp only [] at HST
     rw [htg] at HST HI2 ⊢
     clear htg
     obtain ⟨g', dart, er⟩ := tg
     simp only [] at HST HI2 ⊢
     by_cases her : er = 0
     ·subst her
      have HI3 : Aside (JInv r w V gl gd gi M cl cd ci vb Z (w.heap.size + 1) (k + 1) (judgeK r l (k + 1)).1 (judgeK r l (k + 1)).2 fv w2) := by
       show JInv _ _ _ _ _ _ _ _ _ _ _ _ _ _ _ _ _ _
       rw [HST.out]
       exact HI2.out
      clear HI2 HST
      go_wp2_with fail
      go_roundg (n - (k + 1))
      case measure => omega
      case rel => exact ⟨k + 1, _, by omega, by omega, by go_num, rfl, HI3.out⟩
     ·have HER : Aside (¬ er = 0) := her
      have hown2 := HI2.out.own
      have hsz2 := HI2.out.siz
      obtain ⟨m, hm⟩ : ∃ m, (judgeK r l k).2.length = m := ⟨_, rfl⟩
      have hmk : m ≤ k := by rw [← hm]; exact judgeK_len r l k
      rw [hm] at hown2
      have HM : Aside ((judgeK r l k).2.length = m) := hm
      clear hm
      go_wp2_with (at_builtin; refine wpList_append_own_at _ rfl _ _ 57 rfl Z 61 i0 (.agg #[.int .i64 0, .int .i64 0, .int .i64 0]) 3 24 Try.underlying57 hi hz0 hz1 hz2 rfl (by decide) _ _ _ rfl (hown2.alloc _) ⟨w2.heap.size, 0, none⟩ 1 1 [.int .i64 k, .int .i64 dart, .int .i64 er] rfl rfl (by intro j u h; match j, h with | 0, h => (simp at h; subst h; go_simp) | 1, h => (simp at h; subst h; go_simp) | 2, h => (simp at h; subst h; go_simp) | j + 3, h => simp at h) (by intro u hu; simp at hu; rcases hu with rfl | rfl | rfl <;> rfl) (by unfold maxLen; omega) (by omega) (by simp; omega) ?_; intro v' w6 hown6 hgrow6 hnil6 hat6)
      have HI3 : Aside (JInv r w V gl gd gi M cl cd ci vb Z (w.heap.size + 1) (k + 1) (judgeK r l (k + 1)).1 (judgeK r l (k + 1)).2 v' w6) := by
       show JInv _ _ _ _ _ _ _ _ _ _ _ _ _ _ _ _ _ _
       rw [HST.out, if_neg HER.out]
       refine (HI2.out.below ((Below.refl _ _).alloc (Nat.le_refl _) _)).app HFX.out ?_ hgrow6 hat6
       rw [HM.out]
       exact hown6
      clear HI2 HST hown2 hown6 hgrow6 hnil6 hat6
      go_roundg (n - (k + 1))
      case measure => omega
      case rel => exact ⟨k + 1, _, by omega, by omega, by go_num, rfl, HI3.out⟩
    ·have hltz : ¬ (k : Int) < (n : Int) := by omega
     have : k = n := by omega
     subst this
     obtain ⟨nn, vw, D, hnn, hL, hwn⟩ := HI.out.leg
     have HLL : Aside _ := hL
     have hwR : Aside ((judgeK r l k).1.wins ≠ [] → ∀ b o n c, vw = .slice (some ⟨b, o, none⟩) n c → w.heap.size + 2 ≤ b) := fun hne b o n' c e => (hwn hne b o n' c e).2
     have hVR : V ≠ w.heap.size + 1 := by have := (HFX.out.lo V (by simp)).1; omega
     have hw := hL.wins
     obtain ⟨a5, c5, rfl, _, _⟩ := hw
     have k4 := blk_cell hL.blk (i := 4) rfl
     have k5 := blk_cell hL.blk (i := 5) rfl
     have k6 := blk_cell hL.blk (i := 6) rfl
     have k7 := blk_cell hL.blk (i := 7) rfl
     have k8 := blk_cell hL.blk (i := 8) rfl
     have k9 := blk_cell hL.blk (i := 9) rfl
     have k10 := blk_cell hL.blk (i := 10) rfl
     have hz := HI.out.zero
     have r0 := blk_cell hz (i := 0) rfl
     have r1 := blk_cell hz (i := 1) rfl
     have r2 := blk_cell hz (i := 2) rfl
     have r3 := blk_cell hz (i := 3) rfl
     have r4 := blk_cell hz (i := 4) rfl
     have r5 := blk_cell hz (i := 5) rfl
     have r6 := blk_cell hz (i := 6) rfl
     have rf := blk_free hz
     have HBL : Aside (Below w.heap.size w wr) := HI.out.bel
     have HK : Aside (judgeK r l l.length = judgeK r l k) := by show _ = _; rw [HN.out.2]
     have HFL : Aside ((judgeK r l k).2.length ≤ 5000) := by have := judgeK_len r l k; show _ ≤ _; omega
     clear hL hz hwn hnn
     go_wp2
     refine bodyPost_ret (v := .tuple #[.agg #[rowV gl r.counts.length cl, rowV gd r.counts.length cd, rowV gi r.counts.length ci, .int .i64 (judgeK r l k).1.next, .int .i64 (judgeK r l k).1.round, .bool (judgeK r l k).1.over, .slice a5 (judgeK r l k).1.wins.length c5], fv, .int .i64 0]) (by simp [results, Try.results27, go_sem, r0, r1, r2, r3, r4, r5, r6]) rfl ?_
     refine ⟨below_set7 HBL.out (by omega) _ _ _ _ _ _ _, _, _, by rw [HE2.out], fun _ => ?_, fun h => absurd HE2.out h⟩
     rw [HK.out]
     exact judge_end HI.out HFX.out HLL.out hwR.out HRO.out.n8 HFL.out (outs_set7 _ _ _ _ _ _ _ _)
end
end Go.Proofs.Ytnhjoebdmmelaaa
