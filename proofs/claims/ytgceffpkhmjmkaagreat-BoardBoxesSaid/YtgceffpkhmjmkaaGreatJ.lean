/- Board, part J: the sector of a point; the bed of a number; the rim; which ring. -/
import Derived.Test.YtgceffpkhmjmkaaGreatB
import Derived.Test.YtgceffpkhmjmkaaGreatD
import Derived.Deep.DeepCutAuto
set_option linter.unusedVariables false
set_option linter.unusedSimpArgs false
namespace Go.Proofs.YtgceffpkhmjmkaaGreat
open Go.RowKit Go.Shelf

/-- The sector after the first k lines. -/
def sec (ls : List (Int × Int)) (d : Int × Int) : Nat → Nat
  | 0 => 0
  | k + 1 => match ls[0]?, ls[k]? with
    | some f, some l => if sooner f d l then sec ls d k else k
    | _, _ => sec ls d k
def sector (b : Brd) (d : Int × Int) : Nat := sec b.lines d b.lines.length

theorem sec_le (ls : List (Int × Int)) (d : Int × Int) (k : Nat) : sec ls d k ≤ k := by
  induction k with
  | zero => exact Nat.le_refl _
  | succ k ih =>
    unfold sec
    split
    · split <;> omega
    · omega

set_option maxRecDepth 100000 in
set_option maxHeartbeats 4000000 in
theorem sector_any (v : Value) (b : Brd) (d : Int × Int) (w : World) (h : BrdAt w v b) (hd : Near d) (hne : b.lines ≠ []) (hN : ∀ p ∈ b.lines, Near p) :
    Calls Tryz.prog 71 #[v, pt d] w (Ret (.int .i64 (sector b d)) w) := by
  have hbrd := h
  obtain ⟨vr, vl, vn, rfl, ⟨ar, cr, rfl, lr, _⟩, ⟨al, cl, rfl, ll, _⟩, ⟨an, cn, rfl, ln, _⟩⟩ := h
  have hpos : 0 < b.lines.length := List.length_pos_iff.2 hne
  have HN : Aside (∀ p ∈ b.lines, Near p) := hN
  have HB : Aside (BrdAt w (.agg #[.int .i64 b.eye, .int .i64 b.bull, .slice ar b.rings.length cr, .slice al b.lines.length cl, .slice an b.nums.length cn, .int .i64 b.wire]) b) := hbrd
  have HD : Aside (Near d) := hd
  clear hbrd hN hne hd
  obtain ⟨f, hf⟩ : ∃ f, b.lines[0]? = some f := ⟨_, List.getElem?_eq_getElem hpos⟩
  have HF : Aside (b.lines[0]? = some f) := hf
  clear hf
  obtain ⟨n, hln⟩ : ∃ n, b.lines.length = n := ⟨_, rfl⟩
  have HL : Aside (b.lines.length = n) := hln
  have H0 : Aside (∀ W, Below w.heap.size w W → ∀ (k : Nat) (p : Int × Int), b.lines[k]? = some p → Calls Tryz.prog 88 #[.agg #[.int .i64 b.eye, .int .i64 b.bull, .slice ar b.rings.length cr, .slice al n cl, .slice an b.nums.length cn, .int .i64 b.wire], .int .i64 k] W (Ret (pt p) W)) := by
    intro W hW k p hp
    have := line_any _ b k p W (HB.out.below hW) hp
    rw [hln] at this; exact this
  have hline0 := fun W (hW : Below w.heap.size w W) => H0.out W hW 0 f HF.out
  have HE : Aside (sector b d = sec b.lines d n) := by show _ = _; unfold sector; rw [hln]
  rw [HE.out]
  rw [hln] at ll hpos ⊢
  clear hln HB
  unfold pt at hline0 ⊢
  generalize b.rings.length = lenr at *
  generalize b.nums.length = lenn at *
  obtain ⟨fx, fy⟩ := f
  obtain ⟨dx, dy⟩ := d
  simp only [] at hline0 ⊢
  have HG : Aside (∀ x, Ending.returned (.int .i64 (sec b.lines (dx, dy) n)) = x → Ending.returned (.int .i64 (sec b.lines (dx, dy) n)) = x) := fun _ h => h
  go_enter Tryz.func71, Tryz.ntmps71
  go_wp2_with (go_at_call 88; refine (hline0 _ ?_).mono ?_; (repeat' (first | exact Below.refl _ _ | assumption | (with_reducible refine Below.drew ?_) | (with_reducible refine Below.setCell ?_ (by (first | (simp; done) | (simp; omega))) _) | (with_reducible refine below_drewN' ?_ _) | (refine Below.alloc ?_ (by (try simp only [World.size_alloc, World.size_drew, World.size_setCell]); omega) _) | (refine Below.trans ?_ (Below.mono (by assumption) (by (try simp only [World.size_alloc, World.size_drew, World.size_setCell]); omega))))); rintro e w2 ⟨rfl, hb2⟩; (obtain ⟨hc2, hf2⟩ := bcell hb2; have z2 := hb2.size; (try simp only [World.size_alloc, World.size_drew, World.size_setCell] at z2); (try have q2a : w.heap.size < w2.heap.size := by omega); (try have q2b : w.heap.size + 1 < w2.heap.size := by omega); (try have q2c : w.heap.size + 1 + 1 < w2.heap.size := by omega); (try have q2d : w.heap.size + 1 + 1 + 1 < w2.heap.size := by omega); (try have q2e : wr.heap.size < w2.heap.size := by omega); (try have q2f : wr.heap.size + 1 < w2.heap.size := by omega); (try have q2g : w1.heap.size < w2.heap.size := by omega); (try have q2h : w1.heap.size + 1 < w2.heap.size := by omega)))
  obtain ⟨W3, hW3⟩ : ∃ W3, W3 = w2.alloc (.cells #[.int .i64 fx, .int .i64 fy] 85) := ⟨_, rfl⟩
  have t0 : W3.cell? ⟨w.heap.size, 0, none⟩ = some (.int .i64 b.eye) := by rw [hW3]; clear hW3; go_simp
  have t1 : W3.cell? ⟨w.heap.size, 1, none⟩ = some (.int .i64 b.bull) := by rw [hW3]; clear hW3; go_simp
  have t2 : W3.cell? ⟨w.heap.size, 2, none⟩ = some (.slice ar lenr cr) := by rw [hW3]; clear hW3; go_simp
  have t3 : W3.cell? ⟨w.heap.size, 3, none⟩ = some (.slice al n cl) := by rw [hW3]; clear hW3; go_simp
  have t4 : W3.cell? ⟨w.heap.size, 4, none⟩ = some (.slice an lenn cn) := by rw [hW3]; clear hW3; go_simp
  have t5 : W3.cell? ⟨w.heap.size, 5, none⟩ = some (.int .i64 b.wire) := by rw [hW3]; clear hW3; go_simp
  have d0 : W3.cell? ⟨w.heap.size + 1, 0, none⟩ = some (.int .i64 dx) := by rw [hW3]; clear hW3; go_simp
  have d1 : W3.cell? ⟨w.heap.size + 1, 1, none⟩ = some (.int .i64 dy) := by rw [hW3]; clear hW3; go_simp
  have f0 : W3.cell? ⟨w2.heap.size, 0, none⟩ = some (.int .i64 fx) := by rw [hW3]; clear hW3; go_simp
  have f1 : W3.cell? ⟨w2.heap.size, 1, none⟩ = some (.int .i64 fy) := by rw [hW3]; clear hW3; go_simp
  have B3 : Below w.heap.size w W3 := by rw [hW3]; clear hW3; (repeat' (first | exact Below.refl _ _ | assumption | (with_reducible refine Below.drew ?_) | (with_reducible refine Below.setCell ?_ (by (first | (simp; done) | (simp; omega))) _) | (with_reducible refine below_drewN' ?_ _) | (refine Below.alloc ?_ (by (try simp only [World.size_alloc, World.size_drew, World.size_setCell]); omega) _) | (refine Below.trans ?_ (Below.mono (by assumption) (by (try simp only [World.size_alloc, World.size_drew, World.size_setCell]); omega)))))
  have s3 : w2.heap.size < W3.heap.size := by rw [hW3]; simp
  rw [← hW3]
  clear hW3 hc2 hf2 hline0
  go_loopg [6, 14] n (fun gg s i wr => ∃ k : Nat, k ≤ n ∧ n - k ≤ gg ∧ i = .int .i64 k ∧ s = .int .i64 (sec b.lines (dx, dy) k) ∧ Aside (Below W3.heap.size W3 wr))
  case atStart => exact ⟨0, Nat.zero_le _, by omega, rfl, rfl, Below.refl _ _⟩
  case round =>
    obtain ⟨k, hk, hgg, rfl, rfl, HW⟩ := hrel
    by_cases hlt : k < n
    · have hltz : (k : Int) < (n : Int) := by omega
      obtain ⟨p, hp⟩ : ∃ p, b.lines[k]? = some p := ⟨_, List.getElem?_eq_getElem (by rw [HL.out]; exact hlt)⟩
      have T0 := keepc HW.out t0
      have T1 := keepc HW.out t1
      have T2 := keepc HW.out t2
      have T3 := keepc HW.out t3
      have T4 := keepc HW.out t4
      have T5 := keepc HW.out t5
      have D0 := keepc HW.out d0
      have D1 := keepc HW.out d1
      have F0 := keepc HW.out f0
      have F1 := keepc HW.out f1
      have sr : W3.heap.size ≤ wr.heap.size := HW.out.size
      have v0 : w.heap.size < wr.heap.size := by omega
      have v0' : w.heap.size + 1 < wr.heap.size := by omega
      have v1 : w2.heap.size < wr.heap.size := by omega
      have BW : Below w.heap.size w wr := B3.trans (HW.out.mono B3.size)
      have l1 := fun W (hW : Below wr.heap.size wr W) => H0.out W (BW.trans (hW.mono BW.size)) k p hp
      have hso := fun W => sooner_any (fx, fy) (dx, dy) p W (HN.out _ (List.mem_of_getElem? HF.out)) HD.out (HN.out _ (List.mem_of_getElem? hp))
      have HS : Aside (sec b.lines (dx, dy) (k + 1) = if sooner (fx, fy) (dx, dy) p then sec b.lines (dx, dy) k else k) := by
        show _ = _
        conv => lhs; unfold sec
        rw [HF.out, hp]
      clear hp t0 t1 t2 t3 t4 t5 f0 f1 d0 d1 hb2 z2 q2a
      obtain ⟨px, py⟩ := p
      unfold pt at l1 hso
      simp only [] at l1 hso
      generalize sooner (fx, fy) (dx, dy) (px, py) = sv at hso HS
      have hk20 : (k : Int) + 1 ≤ 9223372036854775807 := by omega
      generalize sec b.lines (dx, dy) k = sk at *
      have MK : Aside (∀ w', Below wr.heap.size wr w' → (Below wr.heap.size wr w' ∧ w'.cell? ⟨w.heap.size, 0, none⟩ = some (.int .i64 b.eye) ∧ w'.cell? ⟨w.heap.size, 1, none⟩ = some (.int .i64 b.bull) ∧ w'.cell? ⟨w.heap.size, 2, none⟩ = some (.slice ar lenr cr) ∧ w'.cell? ⟨w.heap.size, 3, none⟩ = some (.slice al n cl) ∧ w'.cell? ⟨w.heap.size, 4, none⟩ = some (.slice an lenn cn) ∧ w'.cell? ⟨w.heap.size, 5, none⟩ = some (.int .i64 b.wire) ∧ w'.cell? ⟨w.heap.size + 1, 0, none⟩ = some (.int .i64 dx) ∧ w'.cell? ⟨w.heap.size + 1, 1, none⟩ = some (.int .i64 dy) ∧ w'.cell? ⟨w2.heap.size, 0, none⟩ = some (.int .i64 fx) ∧ w'.cell? ⟨w2.heap.size, 1, none⟩ = some (.int .i64 fy))) :=
        fun w' hB => ⟨hB, keepc hB T0, keepc hB T1, keepc hB T2, keepc hB T3, keepc hB T4, keepc hB T5, keepc hB D0, keepc hB D1, keepc hB F0, keepc hB F1⟩
      cases sv
      all_goals
        go_upto_region 5 with (fail)
        go_region_held3 (fun w' => Below wr.heap.size wr w' ∧ w'.cell? ⟨w.heap.size, 0, none⟩ = some (.int .i64 b.eye) ∧ w'.cell? ⟨w.heap.size, 1, none⟩ = some (.int .i64 b.bull) ∧ w'.cell? ⟨w.heap.size, 2, none⟩ = some (.slice ar lenr cr) ∧ w'.cell? ⟨w.heap.size, 3, none⟩ = some (.slice al n cl) ∧ w'.cell? ⟨w.heap.size, 4, none⟩ = some (.slice an lenn cn) ∧ w'.cell? ⟨w.heap.size, 5, none⟩ = some (.int .i64 b.wire) ∧ w'.cell? ⟨w.heap.size + 1, 0, none⟩ = some (.int .i64 dx) ∧ w'.cell? ⟨w.heap.size + 1, 1, none⟩ = some (.int .i64 dy) ∧ w'.cell? ⟨w2.heap.size, 0, none⟩ = some (.int .i64 fx) ∧ w'.cell? ⟨w2.heap.size, 1, none⟩ = some (.int .i64 fy))
          ((refine MK.out _ ?_; (repeat' (first | exact Below.refl _ _ | assumption | (with_reducible refine Below.drew ?_) | (with_reducible refine Below.setCell ?_ (by (first | (simp; done) | (simp; omega))) _) | (with_reducible refine below_drewN' ?_ _) | (refine Below.alloc ?_ (by (try simp only [World.size_alloc, World.size_drew, World.size_setCell]); omega) _) | (refine Below.trans ?_ (Below.mono (by assumption) (by (try simp only [World.size_alloc, World.size_drew, World.size_setCell]); omega)))))))
          (first | (go_at_call 88; (with_reducible refine (l1 _ ?hh).mono ?_); (case hh => (repeat' (first | exact Below.refl _ _ | assumption | (with_reducible refine Below.drew ?_) | (with_reducible refine Below.setCell ?_ (by (first | (simp; done) | (simp; omega))) _) | (with_reducible refine below_drewN' ?_ _) | (refine Below.alloc ?_ (by (try simp only [World.size_alloc, World.size_drew, World.size_setCell]); omega) _) | (refine Below.trans ?_ (Below.mono (by assumption) (by (try simp only [World.size_alloc, World.size_drew, World.size_setCell]); omega)))))); rintro e w5 ⟨rfl, hb5⟩; (obtain ⟨hc5, hf5⟩ := bcell hb5; have z5 := hb5.size; (try simp only [World.size_alloc, World.size_drew, World.size_setCell] at z5); (try have q5a : w.heap.size < w5.heap.size := by omega); (try have q5b : w.heap.size + 1 < w5.heap.size := by omega); (try have q5c : w.heap.size + 1 + 1 < w5.heap.size := by omega); (try have q5d : w.heap.size + 1 + 1 + 1 < w5.heap.size := by omega); (try have q5e : wr.heap.size < w5.heap.size := by omega); (try have q5f : wr.heap.size + 1 < w5.heap.size := by omega); (try have q5g : w4.heap.size < w5.heap.size := by omega); (try have q5h : w4.heap.size + 1 < w5.heap.size := by omega))) | (go_at_call 90; (with_reducible refine (hso _).mono ?_); rintro e w6 ⟨rfl, hb6⟩; (obtain ⟨hc6, hf6⟩ := bcell hb6; have z6 := hb6.size; (try simp only [World.size_alloc, World.size_drew, World.size_setCell] at z6); (try have q6a : w.heap.size < w6.heap.size := by omega); (try have q6b : w.heap.size + 1 < w6.heap.size := by omega); (try have q6c : w.heap.size + 1 + 1 < w6.heap.size := by omega); (try have q6d : w.heap.size + 1 + 1 + 1 < w6.heap.size := by omega); (try have q6e : wr.heap.size < w6.heap.size := by omega); (try have q6f : wr.heap.size + 1 < w6.heap.size := by omega); (try have q6g : w5.heap.size < w6.heap.size := by omega); (try have q6h : w5.heap.size + 1 < w6.heap.size := by omega))))
        go_split_ands
        go_wp2
        go_roundg (n - (k + 1))
        case measure => omega
        case rel => exact ⟨k + 1, by omega, by omega, by go_num, by rw [HS.out]; rfl, (show Below _ _ _ by first | exact HW.out.trans (Below.mono (by assumption) sr) | (repeat' (first | exact Below.refl _ _ | assumption | (with_reducible refine Below.drew ?_) | (with_reducible refine Below.setCell ?_ (by (first | (simp; done) | (simp; omega))) _) | (with_reducible refine below_drewN' ?_ _) | (refine Below.alloc ?_ (by (try simp only [World.size_alloc, World.size_drew, World.size_setCell]); omega) _) | (refine Below.trans ?_ (Below.mono (by assumption) (by (try simp only [World.size_alloc, World.size_drew, World.size_setCell]); omega))))))⟩
    · have : k = n := by omega
      subst this
      have hltz : ¬ (k : Int) < (k : Int) := by omega
      have BC : Below w.heap.size w wr := B3.trans (HW.out.mono B3.size)
      go_wp2
      go_ret
      exact ⟨rfl, by (repeat' (first | exact Below.refl _ _ | assumption | (with_reducible refine Below.drew ?_) | (with_reducible refine Below.setCell ?_ (by (first | (simp; done) | (simp; omega))) _) | (with_reducible refine below_drewN' ?_ _) | (refine Below.alloc ?_ (by (try simp only [World.size_alloc, World.size_drew, World.size_setCell]); omega) _) | (refine Below.trans ?_ (Below.mono (by assumption) (by (try simp only [World.size_alloc, World.size_drew, World.size_setCell]); omega)))))⟩

def bedOf (f m : Int) : Int := if f = 0 then 0 else 100 * f + m

set_option maxHeartbeats 400000 in
theorem bedOf_any (f m : Int) (w : World) (h1 : 0 ≤ f) (h2 : f ≤ 4) (h3 : 1 ≤ m) (h4 : m ≤ 20) :
    Calls Tryz.prog 43 #[.int .i64 f, .int .i64 m] w (Ret (.int .i64 (bedOf f m)) w) := by
  unfold bedOf
  by_cases h0 : f = 0
  · subst h0
    rw [if_pos rfl]
    go_enter Tryz.func43, Tryz.ntmps43
    go_wp2
    go_ret
    exact ⟨rfl, by (repeat' (first | exact Below.refl _ _ | assumption | (with_reducible refine Below.drew ?_) | (with_reducible refine Below.setCell ?_ (by (first | (simp; done) | (simp; omega))) _) | (with_reducible refine below_drewN' ?_ _) | (refine Below.alloc ?_ (by (try simp only [World.size_alloc, World.size_drew, World.size_setCell]); omega) _) | (refine Below.trans ?_ (Below.mono (by assumption) (by (try simp only [World.size_alloc, World.size_drew, World.size_setCell]); omega)))))⟩
  · rw [if_neg h0]
    go_enter Tryz.func43, Tryz.ntmps43
    go_wp2
    go_ret
    exact ⟨rfl, by (repeat' (first | exact Below.refl _ _ | assumption | (with_reducible refine Below.drew ?_) | (with_reducible refine Below.setCell ?_ (by (first | (simp; done) | (simp; omega))) _) | (with_reducible refine below_drewN' ?_ _) | (refine Below.alloc ?_ (by (try simp only [World.size_alloc, World.size_drew, World.size_setCell]); omega) _) | (refine Below.trans ?_ (Below.mono (by assumption) (by (try simp only [World.size_alloc, World.size_drew, World.size_setCell]); omega)))))⟩

def rim (b : Brd) : Int := match b.rings.getLast? with | some r => r.1 | none => 0

set_option maxHeartbeats 400000 in
theorem rim_any (v : Value) (b : Brd) (w : World) (h : BrdAt w v b) (hne : b.rings ≠ []) :
    Calls Tryz.prog 91 #[v] w (Ret (.int .i64 (rim b)) w) := by
  obtain ⟨vr, vl, vn, rfl, ⟨ar, cr, rfl, lr, hs⟩, ⟨al, cl, rfl, ll, _⟩, ⟨an, cn, rfl, ln, _⟩⟩ := h
  obtain ⟨r, off, rfl, hr, hc⟩ := hs hne
  have hpos : 0 < b.rings.length := List.length_pos_iff.2 hne
  obtain ⟨x, hx⟩ : ∃ x, b.rings[b.rings.length - 1]? = some x := ⟨_, List.getElem?_eq_getElem (by omega)⟩
  have er : rim b = x.1 := by unfold rim; rw [List.getLast?_eq_getElem?, hx]
  rw [er]
  have x0 : w.cell? ⟨r, off + (b.rings.length - 1) * 2, none⟩ = some (.int .i64 x.1) := by have := hc _ x hx 0 (.int .i64 x.1) rfl; simpa using this
  clear hs hc hx er hne
  obtain ⟨x1, x2⟩ := x
  simp only [] at x0 ⊢
  generalize b.rings.length = lenr at *
  generalize b.lines.length = lenl at *
  generalize b.nums.length = lenn at *
  have p1 : (0 : Int) ≤ (lenr : Int) - 1 := by omega
  have p2 : (lenr : Int) - 1 < (lenr : Int) := by omega
  have p3 : ((lenr : Int) - 1).toNat = lenr - 1 := by omega
  go_enter Tryz.func91, Tryz.ntmps91
  go_wp2
  go_ret
  exact ⟨rfl, by (repeat' (first | exact Below.refl _ _ | assumption | (with_reducible refine Below.drew ?_) | (with_reducible refine Below.setCell ?_ (by (first | (simp; done) | (simp; omega))) _) | (with_reducible refine below_drewN' ?_ _) | (refine Below.alloc ?_ (by (try simp only [World.size_alloc, World.size_drew, World.size_setCell]); omega) _) | (refine Below.trans ?_ (Below.mono (by assumption) (by (try simp only [World.size_alloc, World.size_drew, World.size_setCell]); omega)))))⟩
end Go.Proofs.YtgceffpkhmjmkaaGreat
