/- Board, part H: whether the lines of a board are valid. -/
import Derived.Test.YtgceffpkhmjmkaaGreatB
import Derived.Test.YtgceffpkhmjmkaaGreatD
import Derived.Deep.DeepCutAuto
set_option linter.unusedVariables false
set_option linter.unusedSimpArgs false
namespace Go.Proofs.YtgceffpkhmjmkaaGreat
open Go.RowKit Go.Shelf

/-- The check of line i. -/
def lineOk (ls : List (Int × Int)) (i : Nat) : Bool :=
  match ls[0]?, ls[i]?, ls[(i + 1) % ls.length]? with
  | some f, some l, some m => decide (partTo l m = 1) && (decide (i = 0) || (match ls[i - 1]? with | some q => sooner f q l | none => false))
  | _, _, _ => false
def linesOk (b : Brd) : Bool := decide (3 ≤ b.lines.length) && !(b.lines.any fun p => decide (p = (0, 0)) || !vpt p) && (List.range b.lines.length).all (lineOk b.lines)

theorem some_set {W : World} {p q : Addr} {u : Value} (h : (W.cell? q).isSome = true) : ((W.setCell p u).cell? q).isSome = true := by
  obtain ⟨v, hv⟩ := Option.isSome_iff_exists.1 h
  obtain ⟨v', hv'⟩ := cell?_setCell_some (w := W) (p := p) (x := u) hv
  rw [hv']; rfl

theorem near_of_vpt {p : Int × Int} (h : vpt p = true) : Near p := by
  unfold vpt inb at h
  simp only [List.all_cons, List.all_nil, Bool.and_true, Bool.and_eq_true, decide_eq_true_eq] at h
  unfold Near; omega

set_option maxRecDepth 100000 in
set_option maxHeartbeats 4000000 in
theorem validLines_any (v : Value) (b : Brd) (w : World) (h : BrdAt w v b) (h20 : b.lines.length ≤ 20) :
    Calls Tryz.prog 65 #[v] w (Ret (.bool (linesOk b)) w) := by
  have hbrd := h
  obtain ⟨vr, vl, vn, rfl, hr, hl, hn⟩ := h
  have hcon := fun W (hW : Below w.heap.size w W) => pts_any (fun p => decide (p = (0, 0)) || !vpt p) 86 #[] (enters_of Tryz.func86 (by kernel_rfl) rfl) vl b.lines W (hl.below hW) (fun W' hW' x _ => lineWrong_any x W')
  obtain ⟨ar, cr, rfl, lr, _⟩ := hr
  obtain ⟨al, cl, rfl, ll, hs⟩ := hl
  obtain ⟨an, cn, rfl, ln, _⟩ := hn
  by_cases h3 : b.lines.length < 3
  · have e1 : linesOk b = false := by unfold linesOk; rw [decide_eq_false (show ¬ 3 ≤ b.lines.length by omega)]; rfl
    rw [e1]
    clear e1 hcon hbrd hs
    generalize b.rings.length = lenr at *
    generalize b.lines.length = lenl at *
    generalize b.nums.length = lenn at *
    have h3' : (lenl : Int) < 3 := by omega
    go_enter Tryz.func65, Tryz.ntmps65
    go_wp2
    go_ret
    exact ⟨rfl, by (repeat' (first | exact Below.refl _ _ | assumption | (with_reducible refine Below.drew ?_) | (with_reducible refine Below.setCell ?_ (by (first | (simp; done) | (simp; omega))) _) | (with_reducible refine below_drewN' ?_ _) | (refine Below.alloc ?_ (by (try simp only [World.size_alloc, World.size_drew, World.size_setCell]); omega) _) | (refine Below.trans ?_ (Below.mono (by assumption) (by (try simp only [World.size_alloc, World.size_drew, World.size_setCell]); omega)))))⟩
  · cases hbad : (b.lines.any fun p => decide (p = (0, 0)) || !vpt p) with
    | true =>
      have e1 : linesOk b = false := by unfold linesOk; rw [hbad]; simp
      rw [e1]
      rw [hbad] at hcon
      clear e1 hbad hbrd hs
      generalize b.rings.length = lenr at *
      generalize b.lines.length = lenl at *
      generalize b.nums.length = lenn at *
      have h3' : (3 : Int) ≤ (lenl : Int) := by omega
      go_enter Tryz.func65, Tryz.ntmps65
      go_wp2_with (go_at_call 87; refine (hcon _ ?_).mono ?_; (repeat' (first | exact Below.refl _ _ | assumption | (with_reducible refine Below.drew ?_) | (with_reducible refine Below.setCell ?_ (by (first | (simp; done) | (simp; omega))) _) | (with_reducible refine below_drewN' ?_ _) | (refine Below.alloc ?_ (by (try simp only [World.size_alloc, World.size_drew, World.size_setCell]); omega) _) | (refine Below.trans ?_ (Below.mono (by assumption) (by (try simp only [World.size_alloc, World.size_drew, World.size_setCell]); omega))))); rintro e w1 ⟨rfl, hb1⟩; (obtain ⟨hc1, hf1⟩ := bcell hb1; have z1 := hb1.size; (try simp only [World.size_alloc, World.size_drew, World.size_setCell] at z1); (try have q1a : w.heap.size < w1.heap.size := by omega); (try have q1b : w.heap.size + 1 < w1.heap.size := by omega); (try have q1c : w.heap.size + 1 + 1 < w1.heap.size := by omega); (try have q1d : w.heap.size + 1 + 1 + 1 < w1.heap.size := by omega); (try have q1e : wr.heap.size < w1.heap.size := by omega); (try have q1f : wr.heap.size + 1 < w1.heap.size := by omega)))
      go_ret
      exact ⟨rfl, by (repeat' (first | exact Below.refl _ _ | assumption | (with_reducible refine Below.drew ?_) | (with_reducible refine Below.setCell ?_ (by (first | (simp; done) | (simp; omega))) _) | (with_reducible refine below_drewN' ?_ _) | (refine Below.alloc ?_ (by (try simp only [World.size_alloc, World.size_drew, World.size_setCell]); omega) _) | (refine Below.trans ?_ (Below.mono (by assumption) (by (try simp only [World.size_alloc, World.size_drew, World.size_setCell]); omega)))))⟩
    | false =>
      have e1 : linesOk b = (List.range b.lines.length).all (lineOk b.lines) := by
        unfold linesOk; rw [hbad, decide_eq_true (show 3 ≤ b.lines.length by omega)]; rfl
      rw [e1]
      rw [hbad] at hcon
      have HN : Aside (∀ p ∈ b.lines, Near p) := fun p hp => by
        have := List.any_eq_false.1 hbad p hp
        simp at this
        exact near_of_vpt this.2
      clear e1 hbad hs
      have HB : Aside (BrdAt w (.agg #[.int .i64 b.eye, .int .i64 b.bull, .slice ar b.rings.length cr, .slice al b.lines.length cl, .slice an b.nums.length cn, .int .i64 b.wire]) b) := hbrd
      clear hbrd
      obtain ⟨f, hf⟩ : ∃ f, b.lines[0]? = some f := ⟨_, List.getElem?_eq_getElem (by omega)⟩
      have hline0 := fun W (hW : Below w.heap.size w W) => line_any _ b 0 f W (HB.out.below hW) hf
      have HF : Aside (b.lines[0]? = some f) := hf
      clear hf
      obtain ⟨n, hln⟩ : ∃ n, b.lines.length = n := ⟨_, rfl⟩
      have HL : Aside (b.lines.length = n) := hln
      have H0 : Aside (∀ W, Below w.heap.size w W → ∀ (k : Nat) (p : Int × Int), b.lines[k]? = some p → Calls Tryz.prog 88 #[.agg #[.int .i64 b.eye, .int .i64 b.bull, .slice ar b.rings.length cr, .slice al n cl, .slice an b.nums.length cn, .int .i64 b.wire], .int .i64 k] W (Ret (pt p) W)) := by
        intro W hW k p hp
        have := line_any _ b k p W (HB.out.below hW) hp
        rw [hln] at this; exact this
      have hline0 := fun W (hW : Below w.heap.size w W) => H0.out W hW 0 f HF.out
      rw [hln] at hcon h3 h20 ll ⊢
      clear hln HB
      have hnz : (3 : Int) ≤ (n : Int) := by omega
      unfold pt at hline0
      generalize b.rings.length = lenr at *
      generalize b.nums.length = lenn at *
      obtain ⟨fx, fy⟩ := f
      simp only [] at hline0
      go_enter Tryz.func65, Tryz.ntmps65
      go_wp2_with (first | (go_at_call 87; refine (hcon _ ?_).mono ?_; (repeat' (first | exact Below.refl _ _ | assumption | (with_reducible refine Below.drew ?_) | (with_reducible refine Below.setCell ?_ (by (first | (simp; done) | (simp; omega))) _) | (with_reducible refine below_drewN' ?_ _) | (refine Below.alloc ?_ (by (try simp only [World.size_alloc, World.size_drew, World.size_setCell]); omega) _) | (refine Below.trans ?_ (Below.mono (by assumption) (by (try simp only [World.size_alloc, World.size_drew, World.size_setCell]); omega))))); rintro e w1 ⟨rfl, hb1⟩; (obtain ⟨hc1, hf1⟩ := bcell hb1; have z1 := hb1.size; (try simp only [World.size_alloc, World.size_drew, World.size_setCell] at z1); (try have q1a : w.heap.size < w1.heap.size := by omega); (try have q1b : w.heap.size + 1 < w1.heap.size := by omega); (try have q1c : w.heap.size + 1 + 1 < w1.heap.size := by omega); (try have q1d : w.heap.size + 1 + 1 + 1 < w1.heap.size := by omega); (try have q1e : wr.heap.size < w1.heap.size := by omega); (try have q1f : wr.heap.size + 1 < w1.heap.size := by omega))) | (go_at_call 88; refine (hline0 _ ?_).mono ?_; (repeat' (first | exact Below.refl _ _ | assumption | (with_reducible refine Below.drew ?_) | (with_reducible refine Below.setCell ?_ (by (first | (simp; done) | (simp; omega))) _) | (with_reducible refine below_drewN' ?_ _) | (refine Below.alloc ?_ (by (try simp only [World.size_alloc, World.size_drew, World.size_setCell]); omega) _) | (refine Below.trans ?_ (Below.mono (by assumption) (by (try simp only [World.size_alloc, World.size_drew, World.size_setCell]); omega))))); rintro e w2 ⟨rfl, hb2⟩; (obtain ⟨hc2, hf2⟩ := bcell hb2; have z2 := hb2.size; (try simp only [World.size_alloc, World.size_drew, World.size_setCell] at z2); (try have q2a : w.heap.size < w2.heap.size := by omega); (try have q2b : w.heap.size + 1 < w2.heap.size := by omega); (try have q2c : w.heap.size + 1 + 1 < w2.heap.size := by omega); (try have q2d : w.heap.size + 1 + 1 + 1 < w2.heap.size := by omega); (try have q2e : wr.heap.size < w2.heap.size := by omega); (try have q2f : wr.heap.size + 1 < w2.heap.size := by omega); (try have q2g : w1.heap.size < w2.heap.size := by omega); (try have q2h : w1.heap.size + 1 < w2.heap.size := by omega))))
      obtain ⟨W3, hW3⟩ : ∃ W3, W3 = w2.alloc (.cells #[.int .i64 fx, .int .i64 fy] 85) := ⟨_, rfl⟩
      have t0 : W3.cell? ⟨w.heap.size, 0, none⟩ = some (.int .i64 b.eye) := by rw [hW3]; clear hW3; go_simp
      have t1 : W3.cell? ⟨w.heap.size, 1, none⟩ = some (.int .i64 b.bull) := by rw [hW3]; clear hW3; go_simp
      have t2 : W3.cell? ⟨w.heap.size, 2, none⟩ = some (.slice ar lenr cr) := by rw [hW3]; clear hW3; go_simp
      have t3 : W3.cell? ⟨w.heap.size, 3, none⟩ = some (.slice al n cl) := by rw [hW3]; clear hW3; go_simp
      have t4 : W3.cell? ⟨w.heap.size, 4, none⟩ = some (.slice an lenn cn) := by rw [hW3]; clear hW3; go_simp
      have t5 : W3.cell? ⟨w.heap.size, 5, none⟩ = some (.int .i64 b.wire) := by rw [hW3]; clear hW3; go_simp
      have f0 : W3.cell? ⟨w2.heap.size, 0, none⟩ = some (.int .i64 fx) := by rw [hW3]; clear hW3; go_simp
      have f1 : W3.cell? ⟨w2.heap.size, 1, none⟩ = some (.int .i64 fy) := by rw [hW3]; clear hW3; go_simp
      have B3 : Below w.heap.size w W3 := by rw [hW3]; clear hW3; (repeat' (first | exact Below.refl _ _ | assumption | (with_reducible refine Below.drew ?_) | (with_reducible refine Below.setCell ?_ (by (first | (simp; done) | (simp; omega))) _) | (with_reducible refine below_drewN' ?_ _) | (refine Below.alloc ?_ (by (try simp only [World.size_alloc, World.size_drew, World.size_setCell]); omega) _) | (refine Below.trans ?_ (Below.mono (by assumption) (by (try simp only [World.size_alloc, World.size_drew, World.size_setCell]); omega)))))
      have s3 : w2.heap.size < W3.heap.size := by rw [hW3]; simp
      rw [← hW3]
      clear hW3 hc1 hf1 hc2 hf2 hcon hline0
      go_loopg [26] n (fun gg i wr => ∃ k : Nat, k ≤ n ∧ n - k ≤ gg ∧ i = .int .i64 k ∧ Aside (∀ j, j < k → lineOk b.lines j = true) ∧ Aside (Below W3.heap.size W3 wr))
      case atStart => exact ⟨0, Nat.zero_le _, by omega, rfl, fun j hj => absurd hj (Nat.not_lt_zero _), Below.refl _ _⟩
      case round =>
        obtain ⟨k, hk, hgg, rfl, HA, HW⟩ := hrel
        by_cases hlt : k < n
        · have hltz : (k : Int) < (n : Int) := by omega
          obtain ⟨p, hp⟩ : ∃ p, b.lines[k]? = some p := ⟨_, List.getElem?_eq_getElem (by rw [HL.out]; exact hlt)⟩
          obtain ⟨q, hq⟩ : ∃ q, b.lines[(k + 1) % n]? = some q := ⟨_, List.getElem?_eq_getElem (by rw [HL.out]; exact Nat.mod_lt _ (by omega))⟩
          have T0 := keepc HW.out t0
          have T1 := keepc HW.out t1
          have T2 := keepc HW.out t2
          have T3 := keepc HW.out t3
          have T4 := keepc HW.out t4
          have T5 := keepc HW.out t5
          have F0 := keepc HW.out f0
          have F1 := keepc HW.out f1
          have sr : W3.heap.size ≤ wr.heap.size := HW.out.size
          have v0 : w.heap.size < wr.heap.size := by omega
          have v1 : w2.heap.size < wr.heap.size := by omega
          have l1 := fun W (hW : Below wr.heap.size wr W) => H0.out W (B3.trans ((HW.out.trans (hW.mono sr)).mono B3.size)) k p hp
          have l2 := fun W (hW : Below wr.heap.size wr W) => H0.out W (B3.trans ((HW.out.trans (hW.mono sr)).mono B3.size)) ((k + 1) % n) q hq
          rw [show (((k + 1) % n : Nat) : Int) = ((k : Int) + 1) % (n : Int) by push_cast; rfl] at l2
          have HP : Aside (b.lines[k]? = some p) := hp
          have HQ : Aside (b.lines[(k + 1) % n]? = some q) := hq
          clear hp hq t0 t1 t2 t3 t4 t5 f0 f1 hb1 hb2 z1 z2 q1a q2a
          obtain ⟨px, py⟩ := p
          obtain ⟨qx, qy⟩ := q
          unfold pt at l1 l2
          simp only [] at l1 l2
          have eS : IntKind.i64.wrap ((k : Int) + 1) = (k : Int) + 1 := IntWalk.i64_in _ (by omega)
          have eT : ((k : Int) + 1).tmod (n : Int) = ((k : Int) + 1) % (n : Int) := Int.tmod_eq_emod_of_nonneg (by omega)
          have eZ : ¬ (n : Int) = 0 := by omega
          have eZ' : ((n : Int) == 0) = false := by simpa using eZ
          have eW : IntKind.i64.wrap (((k : Int) + 1) % (n : Int)) = ((k : Int) + 1) % (n : Int) := IntWalk.i64_in _ (by have := Int.emod_nonneg ((k : Int) + 1) eZ; have := Int.emod_lt_of_pos ((k : Int) + 1) (show (0 : Int) < n by omega); omega)
          have eN : ¬ n = 0 := by omega
          go_upto_region 8 with (fail)
          go_cut [6, 7] (fun s6 s7 wc => ∃ B6 B7 : Nat, s6 = .pointer (some ⟨B6, 0, none⟩) ∧ s7 = .pointer (some ⟨B7, 0, none⟩) ∧ wc.cell? ⟨B6, 0, none⟩ = some (.int .i64 px) ∧ wc.cell? ⟨B6, 1, none⟩ = some (.int .i64 py) ∧ wc.cell? ⟨B7, 0, none⟩ = some (.int .i64 qx) ∧ wc.cell? ⟨B7, 1, none⟩ = some (.int .i64 qy) ∧ Aside (Below wr.heap.size wr wc))
          case first =>
            have mkS : ∀ w', Below wr.heap.size wr w' → (Below wr.heap.size wr w' ∧ w'.cell? ⟨w.heap.size, 0, none⟩ = some (.int .i64 b.eye) ∧ w'.cell? ⟨w.heap.size, 1, none⟩ = some (.int .i64 b.bull) ∧ w'.cell? ⟨w.heap.size, 2, none⟩ = some (.slice ar lenr cr) ∧ w'.cell? ⟨w.heap.size, 3, none⟩ = some (.slice al n cl) ∧ w'.cell? ⟨w.heap.size, 4, none⟩ = some (.slice an lenn cn) ∧ w'.cell? ⟨w.heap.size, 5, none⟩ = some (.int .i64 b.wire)) :=
              fun w' hB => ⟨hB, keepc hB T0, keepc hB T1, keepc hB T2, keepc hB T3, keepc hB T4, keepc hB T5⟩
            have MK : Aside (∀ w', Below wr.heap.size wr w' → (Below wr.heap.size wr w' ∧ w'.cell? ⟨w.heap.size, 0, none⟩ = some (.int .i64 b.eye) ∧ w'.cell? ⟨w.heap.size, 1, none⟩ = some (.int .i64 b.bull) ∧ w'.cell? ⟨w.heap.size, 2, none⟩ = some (.slice ar lenr cr) ∧ w'.cell? ⟨w.heap.size, 3, none⟩ = some (.slice al n cl) ∧ w'.cell? ⟨w.heap.size, 4, none⟩ = some (.slice an lenn cn) ∧ w'.cell? ⟨w.heap.size, 5, none⟩ = some (.int .i64 b.wire))) := mkS
            clear mkS
            go_region_held3 (fun w' => Below wr.heap.size wr w' ∧ w'.cell? ⟨w.heap.size, 0, none⟩ = some (.int .i64 b.eye) ∧ w'.cell? ⟨w.heap.size, 1, none⟩ = some (.int .i64 b.bull) ∧ w'.cell? ⟨w.heap.size, 2, none⟩ = some (.slice ar lenr cr) ∧ w'.cell? ⟨w.heap.size, 3, none⟩ = some (.slice al n cl) ∧ w'.cell? ⟨w.heap.size, 4, none⟩ = some (.slice an lenn cn) ∧ w'.cell? ⟨w.heap.size, 5, none⟩ = some (.int .i64 b.wire))
              ((refine MK.out _ ?_; (repeat' (first | exact Below.refl _ _ | assumption | (with_reducible refine Below.drew ?_) | (with_reducible refine Below.setCell ?_ (by (first | (simp; done) | (simp; omega))) _) | (with_reducible refine below_drewN' ?_ _) | (refine Below.alloc ?_ (by (try simp only [World.size_alloc, World.size_drew, World.size_setCell]); omega) _) | (refine Below.trans ?_ (Below.mono (by assumption) (by (try simp only [World.size_alloc, World.size_drew, World.size_setCell]); omega)))))))
              (first | (go_at_call 88; (with_reducible refine (l1 _ ?hh).mono ?_); (case hh => (repeat' (first | exact Below.refl _ _ | assumption | (with_reducible refine Below.drew ?_) | (with_reducible refine Below.setCell ?_ (by (first | (simp; done) | (simp; omega))) _) | (with_reducible refine below_drewN' ?_ _) | (refine Below.alloc ?_ (by (try simp only [World.size_alloc, World.size_drew, World.size_setCell]); omega) _) | (refine Below.trans ?_ (Below.mono (by assumption) (by (try simp only [World.size_alloc, World.size_drew, World.size_setCell]); omega)))))); rintro e w1 ⟨rfl, hb1⟩; (obtain ⟨hc1, hf1⟩ := bcell hb1; have z1 := hb1.size; (try simp only [World.size_alloc, World.size_drew, World.size_setCell] at z1); (try have q1a : w.heap.size < w1.heap.size := by omega); (try have q1b : w.heap.size + 1 < w1.heap.size := by omega); (try have q1c : w.heap.size + 1 + 1 < w1.heap.size := by omega); (try have q1d : w.heap.size + 1 + 1 + 1 < w1.heap.size := by omega); (try have q1e : wr.heap.size < w1.heap.size := by omega); (try have q1f : wr.heap.size + 1 < w1.heap.size := by omega))) | (go_at_call 88; (with_reducible refine (l2 _ ?hh).mono ?_); (case hh => (repeat' (first | exact Below.refl _ _ | assumption | (with_reducible refine Below.drew ?_) | (with_reducible refine Below.setCell ?_ (by (first | (simp; done) | (simp; omega))) _) | (with_reducible refine below_drewN' ?_ _) | (refine Below.alloc ?_ (by (try simp only [World.size_alloc, World.size_drew, World.size_setCell]); omega) _) | (refine Below.trans ?_ (Below.mono (by assumption) (by (try simp only [World.size_alloc, World.size_drew, World.size_setCell]); omega)))))); rintro e w2 ⟨rfl, hb2⟩; (obtain ⟨hc2, hf2⟩ := bcell hb2; have z2 := hb2.size; (try simp only [World.size_alloc, World.size_drew, World.size_setCell] at z2); (try have q2a : w.heap.size < w2.heap.size := by omega); (try have q2b : w.heap.size + 1 < w2.heap.size := by omega); (try have q2c : w.heap.size + 1 + 1 < w2.heap.size := by omega); (try have q2d : w.heap.size + 1 + 1 + 1 < w2.heap.size := by omega); (try have q2e : wr.heap.size < w2.heap.size := by omega); (try have q2f : wr.heap.size + 1 < w2.heap.size := by omega); (try have q2g : w1.heap.size < w2.heap.size := by omega); (try have q2h : w1.heap.size + 1 < w2.heap.size := by omega))))
            all_goals
              go_wp2_with fail
              go_meet
              refine ⟨_, _, rfl, rfl, ?_, ?_, ?_, ?_, ?_⟩
              · (first | (go_simp; done) | (go_simp; refine World.cell?_setCell_same' _ _ _ ?_; (repeat (with_reducible refine some_set ?_)); go_simp))
              · (first | (go_simp; done) | (go_simp; refine World.cell?_setCell_same' _ _ _ ?_; (repeat (with_reducible refine some_set ?_)); go_simp))
              · (first | (go_simp; done) | (go_simp; refine World.cell?_setCell_same' _ _ _ ?_; (repeat (with_reducible refine some_set ?_)); go_simp))
              · (first | (go_simp; done) | (go_simp; refine World.cell?_setCell_same' _ _ _ ?_; (repeat (with_reducible refine some_set ?_)); go_simp))
              · show Below _ _ _
                (repeat' (first | exact Below.refl _ _ | assumption | (with_reducible refine Below.drew ?_) | (with_reducible refine Below.setCell ?_ (by (first | (simp; done) | (simp; omega))) _) | (with_reducible refine below_drewN' ?_ _) | (refine Below.alloc ?_ (by (try simp only [World.size_alloc, World.size_drew, World.size_setCell]); omega) _) | (refine Below.trans ?_ (Below.mono (by assumption) (by (try simp only [World.size_alloc, World.size_drew, World.size_setCell]); omega)))))
          case rest =>
            obtain ⟨B6, B7, rfl, rfl, c60, c61, c70, c71, HC⟩ := hcut
            have T0' := keepc HC.out T0
            have T1' := keepc HC.out T1
            have T2' := keepc HC.out T2
            have T3' := keepc HC.out T3
            have T4' := keepc HC.out T4
            have T5' := keepc HC.out T5
            have F0' := keepc HC.out F0
            have F1' := keepc HC.out F1
            have sc : wr.heap.size ≤ wc.heap.size := HC.out.size
            have b6 := World.block_lt_of_cell? wc _ c60
            have b7 := World.block_lt_of_cell? wc _ c70
            simp only [] at b6 b7
            have hpt := fun W => partTo_any (px, py) (qx, qy) W (HN.out _ (List.mem_of_getElem? HP.out)) (HN.out _ (List.mem_of_getElem? HQ.out))
            unfold pt at hpt
            have hNC : wr.heap.size ≤ wc.heap.size := sc
            have u0 : w.heap.size < wc.heap.size := by omega
            have u1 : w2.heap.size < wc.heap.size := by omega
            clear T0 T1 T2 T3 T4 T5 F0 F1
            have BW : Below W3.heap.size W3 wc := HW.out.trans (HC.out.mono sr)
            have BC : Below w.heap.size w wc := B3.trans ((HW.out.trans (HC.out.mono sr)).mono B3.size)
            simp only [] at hpt
            obtain ⟨pr, hpr⟩ : ∃ pr, partTo (px, py) (qx, qy) = pr := ⟨_, rfl⟩
            have HPR : Aside (partTo (px, py) (qx, qy) = pr) := hpr
            rw [hpr] at hpt
            clear hpr
            by_cases hp1 : pr = 1
            · have HP1 : Aside (pr = 1) := hp1
              subst hp1
              by_cases hk0 : k = 0
              · have HA' : Aside (∀ j, j < k + 1 → lineOk b.lines j = true) := fun j hj => by
                  by_cases e : j = k
                  · subst e
                    unfold lineOk
                    rw [HL.out, HF.out, HP.out, HQ.out]
                    simp [HPR.out, hk0]
                  · exact HA.out j (by omega)
                have hd : decide ((0 : Int) < (k : Int)) = false := by simp; omega
                have hd' : decide (0 < k) = false := by simp; omega
                clear HA hk0
                go_upto_region 11 with ((go_at_call 89; (with_reducible refine (hpt _).mono ?_); rintro e w4 ⟨rfl, hb4⟩; (obtain ⟨hc4, hf4⟩ := bcell hb4; have z4 := hb4.size; (try simp only [World.size_alloc, World.size_drew, World.size_setCell] at z4); (try have q4a : w.heap.size < w4.heap.size := by omega); (try have q4b : w.heap.size + 1 < w4.heap.size := by omega); (try have q4c : w.heap.size + 1 + 1 < w4.heap.size := by omega); (try have q4d : w.heap.size + 1 + 1 + 1 < w4.heap.size := by omega); (try have q4e : wr.heap.size < w4.heap.size := by omega); (try have q4f : wr.heap.size + 1 < w4.heap.size := by omega); (try have q4g : w3.heap.size < w4.heap.size := by omega); (try have q4h : w3.heap.size + 1 < w4.heap.size := by omega))))
                go_quiet (fail)
                go_wp2
                go_roundg (n - (k + 1))
                case measure => omega
                case rel => exact ⟨k + 1, by omega, by omega, by go_num, HA', (show Below _ _ _ by (repeat' (first | exact Below.refl _ _ | assumption | (with_reducible refine Below.drew ?_) | (with_reducible refine Below.setCell ?_ (by (first | (simp; done) | (simp; omega))) _) | (with_reducible refine below_drewN' ?_ _) | (refine Below.alloc ?_ (by (try simp only [World.size_alloc, World.size_drew, World.size_setCell]); omega) _) | (refine Below.trans ?_ (Below.mono (by assumption) (by (try simp only [World.size_alloc, World.size_drew, World.size_setCell]); omega))))))⟩
              · obtain ⟨q0, hq0⟩ : ∃ q0, b.lines[k - 1]? = some q0 := ⟨_, List.getElem?_eq_getElem (by rw [HL.out]; omega)⟩
                have l3 := fun W (hW : Below wc.heap.size wc W) => H0.out W (BC.trans (hW.mono BC.size)) (k - 1) q0 hq0
                rw [show ((k - 1 : Nat) : Int) = (k : Int) - 1 by omega] at l3
                have hso := fun W => sooner_any (fx, fy) q0 (px, py) W (HN.out _ (List.mem_of_getElem? HF.out)) (HN.out _ (List.mem_of_getElem? hq0)) (HN.out _ (List.mem_of_getElem? HP.out))
                have HQ0 : Aside (b.lines[k - 1]? = some q0) := hq0
                clear hq0
                obtain ⟨sv, hsv⟩ : ∃ sv, sooner (fx, fy) q0 (px, py) = sv := ⟨_, rfl⟩
                have HSV : Aside (sooner (fx, fy) q0 (px, py) = sv) := hsv
                rw [hsv] at hso
                have HLK : Aside (lineOk b.lines k = sv) := by
                  show lineOk b.lines k = sv
                  unfold lineOk
                  rw [HL.out, HF.out, HP.out, HQ.out, HQ0.out]
                  simp [HPR.out, hk0, hsv]
                clear hsv
                obtain ⟨qx0, qy0⟩ := q0
                unfold pt at l3 hso
                simp only [] at l3 hso
                have hd : decide ((0 : Int) < (k : Int)) = true := by simp; omega
                have hd' : decide (0 < k) = true := by simp; omega
                have hk1 : (0 : Int) < (k : Int) := by omega
                have eM : IntKind.i64.wrap ((k : Int) - 1) = (k : Int) - 1 := IntWalk.i64_in _ (by omega)
                have MK : Aside (∀ w', Below wc.heap.size wc w' → (Below wc.heap.size wc w' ∧ w'.cell? ⟨w.heap.size, 0, none⟩ = some (.int .i64 b.eye) ∧ w'.cell? ⟨w.heap.size, 1, none⟩ = some (.int .i64 b.bull) ∧ w'.cell? ⟨w.heap.size, 2, none⟩ = some (.slice ar lenr cr) ∧ w'.cell? ⟨w.heap.size, 3, none⟩ = some (.slice al n cl) ∧ w'.cell? ⟨w.heap.size, 4, none⟩ = some (.slice an lenn cn) ∧ w'.cell? ⟨w.heap.size, 5, none⟩ = some (.int .i64 b.wire) ∧ w'.cell? ⟨w2.heap.size, 0, none⟩ = some (.int .i64 fx) ∧ w'.cell? ⟨w2.heap.size, 1, none⟩ = some (.int .i64 fy) ∧ w'.cell? ⟨B6, 0, none⟩ = some (.int .i64 px) ∧ w'.cell? ⟨B6, 1, none⟩ = some (.int .i64 py))) :=
                  fun w' hB => ⟨hB, keepc hB T0', keepc hB T1', keepc hB T2', keepc hB T3', keepc hB T4', keepc hB T5', keepc hB F0', keepc hB F1', keepc hB c60, keepc hB c61⟩
                cases sv with
                | true =>
                  go_upto_region 11 with ((go_at_call 89; (with_reducible refine (hpt _).mono ?_); rintro e w4 ⟨rfl, hb4⟩; (obtain ⟨hc4, hf4⟩ := bcell hb4; have z4 := hb4.size; (try simp only [World.size_alloc, World.size_drew, World.size_setCell] at z4); (try have q4a : w.heap.size < w4.heap.size := by omega); (try have q4b : w.heap.size + 1 < w4.heap.size := by omega); (try have q4c : w.heap.size + 1 + 1 < w4.heap.size := by omega); (try have q4d : w.heap.size + 1 + 1 + 1 < w4.heap.size := by omega); (try have q4e : wr.heap.size < w4.heap.size := by omega); (try have q4f : wr.heap.size + 1 < w4.heap.size := by omega); (try have q4g : w3.heap.size < w4.heap.size := by omega); (try have q4h : w3.heap.size + 1 < w4.heap.size := by omega))))
                  go_region_held3 (fun w' => Below wc.heap.size wc w' ∧ w'.cell? ⟨w.heap.size, 0, none⟩ = some (.int .i64 b.eye) ∧ w'.cell? ⟨w.heap.size, 1, none⟩ = some (.int .i64 b.bull) ∧ w'.cell? ⟨w.heap.size, 2, none⟩ = some (.slice ar lenr cr) ∧ w'.cell? ⟨w.heap.size, 3, none⟩ = some (.slice al n cl) ∧ w'.cell? ⟨w.heap.size, 4, none⟩ = some (.slice an lenn cn) ∧ w'.cell? ⟨w.heap.size, 5, none⟩ = some (.int .i64 b.wire) ∧ w'.cell? ⟨w2.heap.size, 0, none⟩ = some (.int .i64 fx) ∧ w'.cell? ⟨w2.heap.size, 1, none⟩ = some (.int .i64 fy) ∧ w'.cell? ⟨B6, 0, none⟩ = some (.int .i64 px) ∧ w'.cell? ⟨B6, 1, none⟩ = some (.int .i64 py))
                    ((refine MK.out _ ?_; (repeat' (first | exact Below.refl _ _ | assumption | (with_reducible refine Below.drew ?_) | (with_reducible refine Below.setCell ?_ (by (first | (simp; done) | (simp; omega))) _) | (with_reducible refine below_drewN' ?_ _) | (refine Below.alloc ?_ (by (try simp only [World.size_alloc, World.size_drew, World.size_setCell]); omega) _) | (refine Below.trans ?_ (Below.mono (by assumption) (by (try simp only [World.size_alloc, World.size_drew, World.size_setCell]); omega)))))))
                    (first | (go_at_call 88; (with_reducible refine (l3 _ ?hh).mono ?_); (case hh => (repeat' (first | exact Below.refl _ _ | assumption | (with_reducible refine Below.drew ?_) | (with_reducible refine Below.setCell ?_ (by (first | (simp; done) | (simp; omega))) _) | (with_reducible refine below_drewN' ?_ _) | (refine Below.alloc ?_ (by (try simp only [World.size_alloc, World.size_drew, World.size_setCell]); omega) _) | (refine Below.trans ?_ (Below.mono (by assumption) (by (try simp only [World.size_alloc, World.size_drew, World.size_setCell]); omega)))))); rintro e w5 ⟨rfl, hb5⟩; (obtain ⟨hc5, hf5⟩ := bcell hb5; have z5 := hb5.size; (try simp only [World.size_alloc, World.size_drew, World.size_setCell] at z5); (try have q5a : w.heap.size < w5.heap.size := by omega); (try have q5b : w.heap.size + 1 < w5.heap.size := by omega); (try have q5c : w.heap.size + 1 + 1 < w5.heap.size := by omega); (try have q5d : w.heap.size + 1 + 1 + 1 < w5.heap.size := by omega); (try have q5e : wr.heap.size < w5.heap.size := by omega); (try have q5f : wr.heap.size + 1 < w5.heap.size := by omega); (try have q5g : w4.heap.size < w5.heap.size := by omega); (try have q5h : w4.heap.size + 1 < w5.heap.size := by omega))) | (go_at_call 90; (with_reducible refine (hso _).mono ?_); rintro e w6 ⟨rfl, hb6⟩; (obtain ⟨hc6, hf6⟩ := bcell hb6; have z6 := hb6.size; (try simp only [World.size_alloc, World.size_drew, World.size_setCell] at z6); (try have q6a : w.heap.size < w6.heap.size := by omega); (try have q6b : w.heap.size + 1 < w6.heap.size := by omega); (try have q6c : w.heap.size + 1 + 1 < w6.heap.size := by omega); (try have q6d : w.heap.size + 1 + 1 + 1 < w6.heap.size := by omega); (try have q6e : wr.heap.size < w6.heap.size := by omega); (try have q6f : wr.heap.size + 1 < w6.heap.size := by omega); (try have q6g : w5.heap.size < w6.heap.size := by omega); (try have q6h : w5.heap.size + 1 < w6.heap.size := by omega))))
                  go_split_ands
                  go_wp2
                  go_roundg (n - (k + 1))
                  case measure => omega
                  case rel => exact ⟨k + 1, by omega, by omega, by go_num, (show Aside _ from fun j hj => by
                    by_cases e : j = k
                    · subst e; exact HLK.out
                    · exact HA.out j (by omega)), (show Below _ _ _ by (repeat' (first | exact Below.refl _ _ | assumption | (with_reducible refine Below.drew ?_) | (with_reducible refine Below.setCell ?_ (by (first | (simp; done) | (simp; omega))) _) | (with_reducible refine below_drewN' ?_ _) | (refine Below.alloc ?_ (by (try simp only [World.size_alloc, World.size_drew, World.size_setCell]); omega) _) | (refine Below.trans ?_ (Below.mono (by assumption) (by (try simp only [World.size_alloc, World.size_drew, World.size_setCell]); omega))))))⟩
                | false =>
                  have E0 : Aside ((List.range n).all (lineOk b.lines) = false) := by
                    show _ = _
                    rw [List.all_eq_false]
                    exact ⟨k, List.mem_range.2 hlt, by rw [HLK.out]; simp⟩
                  go_upto_region 11 with ((go_at_call 89; (with_reducible refine (hpt _).mono ?_); rintro e w4 ⟨rfl, hb4⟩; (obtain ⟨hc4, hf4⟩ := bcell hb4; have z4 := hb4.size; (try simp only [World.size_alloc, World.size_drew, World.size_setCell] at z4); (try have q4a : w.heap.size < w4.heap.size := by omega); (try have q4b : w.heap.size + 1 < w4.heap.size := by omega); (try have q4c : w.heap.size + 1 + 1 < w4.heap.size := by omega); (try have q4d : w.heap.size + 1 + 1 + 1 < w4.heap.size := by omega); (try have q4e : wr.heap.size < w4.heap.size := by omega); (try have q4f : wr.heap.size + 1 < w4.heap.size := by omega); (try have q4g : w3.heap.size < w4.heap.size := by omega); (try have q4h : w3.heap.size + 1 < w4.heap.size := by omega))))
                  go_region_held3 (fun w' => Below wc.heap.size wc w' ∧ w'.cell? ⟨w.heap.size, 0, none⟩ = some (.int .i64 b.eye) ∧ w'.cell? ⟨w.heap.size, 1, none⟩ = some (.int .i64 b.bull) ∧ w'.cell? ⟨w.heap.size, 2, none⟩ = some (.slice ar lenr cr) ∧ w'.cell? ⟨w.heap.size, 3, none⟩ = some (.slice al n cl) ∧ w'.cell? ⟨w.heap.size, 4, none⟩ = some (.slice an lenn cn) ∧ w'.cell? ⟨w.heap.size, 5, none⟩ = some (.int .i64 b.wire) ∧ w'.cell? ⟨w2.heap.size, 0, none⟩ = some (.int .i64 fx) ∧ w'.cell? ⟨w2.heap.size, 1, none⟩ = some (.int .i64 fy) ∧ w'.cell? ⟨B6, 0, none⟩ = some (.int .i64 px) ∧ w'.cell? ⟨B6, 1, none⟩ = some (.int .i64 py))
                    ((refine MK.out _ ?_; (repeat' (first | exact Below.refl _ _ | assumption | (with_reducible refine Below.drew ?_) | (with_reducible refine Below.setCell ?_ (by (first | (simp; done) | (simp; omega))) _) | (with_reducible refine below_drewN' ?_ _) | (refine Below.alloc ?_ (by (try simp only [World.size_alloc, World.size_drew, World.size_setCell]); omega) _) | (refine Below.trans ?_ (Below.mono (by assumption) (by (try simp only [World.size_alloc, World.size_drew, World.size_setCell]); omega)))))))
                    (first | (go_at_call 88; (with_reducible refine (l3 _ ?hh).mono ?_); (case hh => (repeat' (first | exact Below.refl _ _ | assumption | (with_reducible refine Below.drew ?_) | (with_reducible refine Below.setCell ?_ (by (first | (simp; done) | (simp; omega))) _) | (with_reducible refine below_drewN' ?_ _) | (refine Below.alloc ?_ (by (try simp only [World.size_alloc, World.size_drew, World.size_setCell]); omega) _) | (refine Below.trans ?_ (Below.mono (by assumption) (by (try simp only [World.size_alloc, World.size_drew, World.size_setCell]); omega)))))); rintro e w5 ⟨rfl, hb5⟩; (obtain ⟨hc5, hf5⟩ := bcell hb5; have z5 := hb5.size; (try simp only [World.size_alloc, World.size_drew, World.size_setCell] at z5); (try have q5a : w.heap.size < w5.heap.size := by omega); (try have q5b : w.heap.size + 1 < w5.heap.size := by omega); (try have q5c : w.heap.size + 1 + 1 < w5.heap.size := by omega); (try have q5d : w.heap.size + 1 + 1 + 1 < w5.heap.size := by omega); (try have q5e : wr.heap.size < w5.heap.size := by omega); (try have q5f : wr.heap.size + 1 < w5.heap.size := by omega); (try have q5g : w4.heap.size < w5.heap.size := by omega); (try have q5h : w4.heap.size + 1 < w5.heap.size := by omega))) | (go_at_call 90; (with_reducible refine (hso _).mono ?_); rintro e w6 ⟨rfl, hb6⟩; (obtain ⟨hc6, hf6⟩ := bcell hb6; have z6 := hb6.size; (try simp only [World.size_alloc, World.size_drew, World.size_setCell] at z6); (try have q6a : w.heap.size < w6.heap.size := by omega); (try have q6b : w.heap.size + 1 < w6.heap.size := by omega); (try have q6c : w.heap.size + 1 + 1 < w6.heap.size := by omega); (try have q6d : w.heap.size + 1 + 1 + 1 < w6.heap.size := by omega); (try have q6e : wr.heap.size < w6.heap.size := by omega); (try have q6f : wr.heap.size + 1 < w6.heap.size := by omega); (try have q6g : w5.heap.size < w6.heap.size := by omega); (try have q6h : w5.heap.size + 1 < w6.heap.size := by omega))))
                  go_split_ands
                  go_wp2
                  go_ret
                  exact ⟨by rw [E0.out]; rfl, by (repeat' (first | exact Below.refl _ _ | assumption | (with_reducible refine Below.drew ?_) | (with_reducible refine Below.setCell ?_ (by (first | (simp; done) | (simp; omega))) _) | (with_reducible refine below_drewN' ?_ _) | (refine Below.alloc ?_ (by (try simp only [World.size_alloc, World.size_drew, World.size_setCell]); omega) _) | (refine Below.trans ?_ (Below.mono (by assumption) (by (try simp only [World.size_alloc, World.size_drew, World.size_setCell]); omega)))))⟩
            · have e0 : (List.range n).all (lineOk b.lines) = false := by
                rw [List.all_eq_false]
                refine ⟨k, List.mem_range.2 hlt, ?_⟩
                unfold lineOk
                rw [HL.out, HF.out, HP.out, HQ.out]
                simp [HPR.out, hp1]
              have E0 : Aside ((List.range n).all (lineOk b.lines) = false) := e0
              clear e0
              go_wp2_with (go_at_call 89; (with_reducible refine (hpt _).mono ?_); rintro e w4 ⟨rfl, hb4⟩; (obtain ⟨hc4, hf4⟩ := bcell hb4; have z4 := hb4.size; (try simp only [World.size_alloc, World.size_drew, World.size_setCell] at z4); (try have q4a : w.heap.size < w4.heap.size := by omega); (try have q4b : w.heap.size + 1 < w4.heap.size := by omega); (try have q4c : w.heap.size + 1 + 1 < w4.heap.size := by omega); (try have q4d : w.heap.size + 1 + 1 + 1 < w4.heap.size := by omega); (try have q4e : wr.heap.size < w4.heap.size := by omega); (try have q4f : wr.heap.size + 1 < w4.heap.size := by omega); (try have q4g : w3.heap.size < w4.heap.size := by omega); (try have q4h : w3.heap.size + 1 < w4.heap.size := by omega)))
              go_ret
              exact ⟨by rw [E0.out]; rfl, by (repeat' (first | exact Below.refl _ _ | assumption | (with_reducible refine Below.drew ?_) | (with_reducible refine Below.setCell ?_ (by (first | (simp; done) | (simp; omega))) _) | (with_reducible refine below_drewN' ?_ _) | (refine Below.alloc ?_ (by (try simp only [World.size_alloc, World.size_drew, World.size_setCell]); omega) _) | (refine Below.trans ?_ (Below.mono (by assumption) (by (try simp only [World.size_alloc, World.size_drew, World.size_setCell]); omega)))))⟩
        · have : k = n := by omega
          subst this
          have E0 : Aside ((List.range k).all (lineOk b.lines) = true) := by
            show _ = _
            rw [List.all_eq_true]
            exact fun j hj => HA.out j (List.mem_range.1 hj)
          have hltz : ¬ (k : Int) < (k : Int) := by omega
          have BC : Below w.heap.size w wr := B3.trans (HW.out.mono B3.size)
          go_wp2
          go_ret
          exact ⟨by rw [E0.out]; rfl, by (repeat' (first | exact Below.refl _ _ | assumption | (with_reducible refine Below.drew ?_) | (with_reducible refine Below.setCell ?_ (by (first | (simp; done) | (simp; omega))) _) | (with_reducible refine below_drewN' ?_ _) | (refine Below.alloc ?_ (by (try simp only [World.size_alloc, World.size_drew, World.size_setCell]); omega) _) | (refine Below.trans ?_ (Below.mono (by assumption) (by (try simp only [World.size_alloc, World.size_drew, World.size_setCell]); omega)))))⟩
end Go.Proofs.YtgceffpkhmjmkaaGreat
