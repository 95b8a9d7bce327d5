/- Board, part Ui: equal boards compare as the same. -/
import Derived.Test.YtgceffpkhmjmkaaGreatUh
import Derived.Test.YtgceffpkhmjmkaaGreatW
set_option linter.unusedVariables false
set_option linter.unusedSimpArgs false
namespace Go.Proofs.YtgceffpkhmjmkaaGreat
open Go.RowKit Go.Shelf

def BxS (ar : Option Addr) (lenr cr : Nat) (ar2 : Option Addr) (cr2 : Nat) (al : Option Addr) (lenl cl : Nat) (al2 : Option Addr) (cl2 : Nat) (B : Nat) (W : World) : Prop :=
  W.cell? ⟨B, 2, none⟩ = some (.slice ar lenr cr) ∧ W.cell? ⟨B + 1, 2, none⟩ = some (.slice ar2 lenr cr2) ∧ W.cell? ⟨B, 3, none⟩ = some (.slice al lenl cl) ∧ W.cell? ⟨B + 1, 3, none⟩ = some (.slice al2 lenl cl2)
theorem two_cells {w : World} {xs : List (Int × Int)} {a a2 : Option Addr} {n n2 c c2 : Nat} (h1 : Sl w 2 encP (.slice a n c) xs) (h2 : Sl w 2 encP (.slice a2 n2 c2) xs) :
    ∀ k, k < xs.length → ∃ (b1 o1 b2 o2 : Nat) (x y : Int), a = some ⟨b1, o1, none⟩ ∧ a2 = some ⟨b2, o2, none⟩ ∧ w.cell? ⟨b1, o1 + k * 2, none⟩ = some (.int .i64 x) ∧ w.cell? ⟨b1, o1 + k * 2 + 1, none⟩ = some (.int .i64 y) ∧ w.cell? ⟨b2, o2 + k * 2, none⟩ = some (.int .i64 x) ∧ w.cell? ⟨b2, o2 + k * 2 + 1, none⟩ = some (.int .i64 y) := by
  intro k hk
  have hne : xs ≠ [] := by intro e; rw [e] at hk; simp at hk
  obtain ⟨a', c', e1, _, s1⟩ := h1
  obtain ⟨a2', c2', e2, _, s2⟩ := h2
  cases e1
  cases e2
  obtain ⟨b1, o1, rfl, _, q1⟩ := s1 hne
  obtain ⟨b2, o2, rfl, _, q2⟩ := s2 hne
  have hx := List.getElem?_eq_getElem hk
  exact ⟨b1, o1, b2, o2, xs[k].1, xs[k].2, rfl, rfl, by simpa using q1 k _ hx 0 _ rfl, by simpa using q1 k _ hx 1 _ rfl, by simpa using q2 k _ hx 0 _ rfl, by simpa using q2 k _ hx 1 _ rfl⟩

set_option maxRecDepth 100000 in
set_option maxHeartbeats 4000000 in
theorem same_eq (va vb : Value) (b : Brd) (w : World) (h1 : BrdAt w va b) (h2 : BrdAt w vb b) : Calls Tryz.prog 14 #[va, vb] w (Ret (.bool true) w) := by
  obtain ⟨vr, vl, vn, rfl, sr, sl, sn⟩ := h1
  obtain ⟨ur, ul, un, rfl, tr, tl, tn⟩ := h2
  have x1 := fun W (hW : Below w.heap.size w W) => alike_any vn un b.nums b.nums W (sn.below hW) (tn.below hW)
  rw [decide_eq_true rfl] at x1
  have HR : Aside (Sl w 2 encP vr b.rings) := sr
  have HL : Aside (Sl w 2 encP vl b.lines) := sl
  have HR2 : Aside (Sl w 2 encP ur b.rings) := tr
  have HL2 : Aside (Sl w 2 encP ul b.lines) := tl
  obtain ⟨ar, cr, rfl, lr, _⟩ := sr
  obtain ⟨al, cl, rfl, ll, _⟩ := sl
  obtain ⟨an, cn, rfl, ln, _⟩ := sn
  obtain ⟨ar2, cr2, rfl, lr2, _⟩ := tr
  obtain ⟨al2, cl2, rfl, ll2, _⟩ := tl
  obtain ⟨an2, cn2, rfl, ln2, _⟩ := tn
  have CR : Aside (∀ k, k < b.rings.length → ∃ (b1 o1 b2 o2 : Nat) (x y : Int), ar = some ⟨b1, o1, none⟩ ∧ ar2 = some ⟨b2, o2, none⟩ ∧ w.cell? ⟨b1, o1 + k * 2, none⟩ = some (.int .i64 x) ∧ w.cell? ⟨b1, o1 + k * 2 + 1, none⟩ = some (.int .i64 y) ∧ w.cell? ⟨b2, o2 + k * 2, none⟩ = some (.int .i64 x) ∧ w.cell? ⟨b2, o2 + k * 2 + 1, none⟩ = some (.int .i64 y)) := two_cells HR.out HR2.out
  have CLN : Aside (∀ k, k < b.lines.length → ∃ (b1 o1 b2 o2 : Nat) (x y : Int), al = some ⟨b1, o1, none⟩ ∧ al2 = some ⟨b2, o2, none⟩ ∧ w.cell? ⟨b1, o1 + k * 2, none⟩ = some (.int .i64 x) ∧ w.cell? ⟨b1, o1 + k * 2 + 1, none⟩ = some (.int .i64 y) ∧ w.cell? ⟨b2, o2 + k * 2, none⟩ = some (.int .i64 x) ∧ w.cell? ⟨b2, o2 + k * 2 + 1, none⟩ = some (.int .i64 y)) := two_cells HL.out HL2.out
  clear HR HL HR2 HL2
  generalize b.rings.length = lenr at *
  generalize b.lines.length = lenl at *
  generalize b.nums.length = lenn at *
  go_enter Tryz.func14, Tryz.ntmps14
  go_wp2_with (go_at_call 29; (with_reducible refine (x1 _ ?hh).mono ?_); (case hh => (repeat' (first | exact Below.refl _ _ | assumption | (with_reducible refine Below.drew ?_) | (with_reducible refine Below.setCell ?_ (by (first | (simp; done) | (simp; omega))) _) | (with_reducible refine below_drewN' ?_ _) | (refine Below.alloc ?_ (by (try simp only [World.size_alloc, World.size_drew, World.size_setCell]); omega) _) | (refine Below.trans ?_ (Below.mono (by assumption) (by (try simp only [World.size_alloc, World.size_drew, World.size_setCell]); omega)))))); rintro e w1 ⟨rfl, hb1⟩; (obtain ⟨hc1, hf1⟩ := bcell hb1; have z1 := hb1.size; (try simp only [World.size_alloc, World.size_drew, World.size_setCell] at z1); (try have q1a : w.heap.size < w1.heap.size := by omega); (try have q1b : w.heap.size + 1 < w1.heap.size := by omega); (try have q1c : w.heap.size + 1 + 1 < w1.heap.size := by omega); (try have q1d : w.heap.size + 1 + 1 + 1 < w1.heap.size := by omega); (try have q1e : wr.heap.size < w1.heap.size := by omega); (try have q1f : wr.heap.size + 1 < w1.heap.size := by omega)))
  have BX : Aside (Below w.heap.size w w1) := by show Below _ _ _; (repeat' (first | exact Below.refl _ _ | assumption | (with_reducible refine Below.drew ?_) | (with_reducible refine Below.setCell ?_ (by (first | (simp; done) | (simp; omega))) _) | (with_reducible refine below_drewN' ?_ _) | (refine Below.alloc ?_ (by (try simp only [World.size_alloc, World.size_drew, World.size_setCell]); omega) _) | (refine Below.trans ?_ (Below.mono (by assumption) (by (try simp only [World.size_alloc, World.size_drew, World.size_setCell]); omega)))))

  have BB : Aside (BxS ar lenr cr ar2 cr2 al lenl cl al2 cl2 w.heap.size w1) := by
    show BxS ar lenr cr ar2 cr2 al lenl cl al2 cl2 _ _

    exact ⟨by go_simp, by go_simp, by go_simp, by go_simp⟩
  go_loopg [5] lenr (fun gg i wr => ∃ k : Nat, k ≤ lenr ∧ lenr - k ≤ gg ∧ i = .int .i64 k ∧ Aside (Below w.heap.size w wr) ∧ Aside (BxS ar lenr cr ar2 cr2 al lenl cl al2 cl2 w.heap.size wr))
  case atStart => exact ⟨0, Nat.zero_le _, by omega, rfl, BX, BB⟩
  case round =>
    obtain ⟨k, hk, hg, rfl, BW, BC⟩ := hrel
    obtain ⟨j1, j2, j3, j4⟩ := BC.out
    by_cases hlt : k < lenr
    · have hltz : (k : Int) < (lenr : Int) := by omega
      obtain ⟨b1, o1, b2, o2, x, y, rfl, rfl, c1, c2, c3, c4⟩ := CR.out k hlt
      have k1 := keepc BW.out c1
      have k2 := keepc BW.out c2
      have k3 := keepc BW.out c3
      have k4 := keepc BW.out c4
      have MK : Aside (∀ w', Below wr.heap.size wr w' → (Below wr.heap.size wr w' ∧ w'.cell? ⟨w.heap.size, 2, none⟩ = some (.slice (some ⟨b1, o1, none⟩) lenr cr) ∧ w'.cell? ⟨w.heap.size + 1, 2, none⟩ = some (.slice (some ⟨b2, o2, none⟩) lenr cr2) ∧ w'.cell? ⟨b1, o1 + k * 2, none⟩ = some (.int .i64 x) ∧ w'.cell? ⟨b1, o1 + k * 2 + 1, none⟩ = some (.int .i64 y) ∧ w'.cell? ⟨b2, o2 + k * 2, none⟩ = some (.int .i64 x) ∧ w'.cell? ⟨b2, o2 + k * 2 + 1, none⟩ = some (.int .i64 y))) := fun w' hB => ⟨hB, keepc hB j1, keepc hB j2, keepc hB k1, keepc hB k2, keepc hB k3, keepc hB k4⟩
      have MB : Aside _ := fun (w' : World) (hB : Below wr.heap.size wr w') => (⟨keepc hB j1, keepc hB j2, keepc hB j3, keepc hB j4⟩ : BxS _ _ _ _ _ _ _ _ _ _ w.heap.size w')
      clear c1 c2 c3 c4
      go_upto_region 6 with (fail)
      refine region_class (fun w' => Below wr.heap.size wr w' ∧ w'.cell? ⟨w.heap.size, 2, none⟩ = some (.slice (some ⟨b1, o1, none⟩) lenr cr) ∧ w'.cell? ⟨w.heap.size + 1, 2, none⟩ = some (.slice (some ⟨b2, o2, none⟩) lenr cr2) ∧ w'.cell? ⟨b1, o1 + k * 2, none⟩ = some (.int .i64 x) ∧ w'.cell? ⟨b1, o1 + k * 2 + 1, none⟩ = some (.int .i64 y) ∧ w'.cell? ⟨b2, o2 + k * 2, none⟩ = some (.int .i64 x) ∧ w'.cell? ⟨b2, o2 + k * 2 + 1, none⟩ = some (.int .i64 y)) (by kernel_rfl) (by kernel_rfl) (MK.out _ ((Below.refl _ _).drew)) ?_
      iterate 11 (first | go_big_quiet_skip | (go_big_quiet_want; unfold Oper.quiet; apply Exists.intro; refine ⟨fun W hW => ?_, ?_⟩; (go_split_ands; unfold Oper.quietAt; go_simp; first | rfl | exact ⟨rfl, rfl⟩ | skip); go_big_quiet_on; (try simp only [Act.put, List.setIfInBounds_toArray, List.set_cons_zero, List.set_cons_succ])))
      refine wpQuiet_nil ?_
      intro W hW
      obtain ⟨hBW, _⟩ := hW
      have BXW := MB.out _ hBW
      go_wp2
      go_roundg (lenr - (k + 1))
      case measure => omega
      case rel => exact ⟨k + 1, by omega, by omega, by go_num, BW.out.trans (hBW.mono BW.out.size), BXW⟩
    · obtain rfl : lenr = k := by omega
      have hltz : ¬ (lenr : Int) < (lenr : Int) := by omega
      go_wp2
      have BX := BW
      have BB := BC
      obtain ⟨wo, rfl⟩ : ∃ wo : World, wo = wr := ⟨_, rfl⟩
      go_loopg [6] lenl (fun gg i wr => ∃ k : Nat, k ≤ lenl ∧ lenl - k ≤ gg ∧ i = .int .i64 k ∧ Aside (Below w.heap.size w wr) ∧ Aside (BxS ar lenr cr ar2 cr2 al lenl cl al2 cl2 w.heap.size wr))
      case atStart => exact ⟨0, Nat.zero_le _, by omega, rfl, BX, BB⟩
      case round =>
        obtain ⟨k, hk, hg, rfl, BW, BC⟩ := hrel
        obtain ⟨j1, j2, j3, j4⟩ := BC.out
        by_cases hlt : k < lenl
        · have hltz : (k : Int) < (lenl : Int) := by omega
          obtain ⟨b1, o1, b2, o2, x, y, rfl, rfl, c1, c2, c3, c4⟩ := CLN.out k hlt
          have k1 := keepc BW.out c1
          have k2 := keepc BW.out c2
          have k3 := keepc BW.out c3
          have k4 := keepc BW.out c4
          have MK : Aside (∀ w', Below wr.heap.size wr w' → (Below wr.heap.size wr w' ∧ w'.cell? ⟨w.heap.size, 3, none⟩ = some (.slice (some ⟨b1, o1, none⟩) lenl cl) ∧ w'.cell? ⟨w.heap.size + 1, 3, none⟩ = some (.slice (some ⟨b2, o2, none⟩) lenl cl2) ∧ w'.cell? ⟨b1, o1 + k * 2, none⟩ = some (.int .i64 x) ∧ w'.cell? ⟨b1, o1 + k * 2 + 1, none⟩ = some (.int .i64 y) ∧ w'.cell? ⟨b2, o2 + k * 2, none⟩ = some (.int .i64 x) ∧ w'.cell? ⟨b2, o2 + k * 2 + 1, none⟩ = some (.int .i64 y))) := fun w' hB => ⟨hB, keepc hB j3, keepc hB j4, keepc hB k1, keepc hB k2, keepc hB k3, keepc hB k4⟩
          have MB : Aside _ := fun (w' : World) (hB : Below wr.heap.size wr w') => (⟨keepc hB j1, keepc hB j2, keepc hB j3, keepc hB j4⟩ : BxS _ _ _ _ _ _ _ _ _ _ w.heap.size w')
          clear c1 c2 c3 c4
          go_upto_region 11 with (fail)
          refine region_class (fun w' => Below wr.heap.size wr w' ∧ w'.cell? ⟨w.heap.size, 3, none⟩ = some (.slice (some ⟨b1, o1, none⟩) lenl cl) ∧ w'.cell? ⟨w.heap.size + 1, 3, none⟩ = some (.slice (some ⟨b2, o2, none⟩) lenl cl2) ∧ w'.cell? ⟨b1, o1 + k * 2, none⟩ = some (.int .i64 x) ∧ w'.cell? ⟨b1, o1 + k * 2 + 1, none⟩ = some (.int .i64 y) ∧ w'.cell? ⟨b2, o2 + k * 2, none⟩ = some (.int .i64 x) ∧ w'.cell? ⟨b2, o2 + k * 2 + 1, none⟩ = some (.int .i64 y)) (by kernel_rfl) (by kernel_rfl) (MK.out _ ((Below.refl _ _).drew)) ?_
          iterate 11 (first | go_big_quiet_skip | (go_big_quiet_want; unfold Oper.quiet; apply Exists.intro; refine ⟨fun W hW => ?_, ?_⟩; (go_split_ands; unfold Oper.quietAt; go_simp; first | rfl | exact ⟨rfl, rfl⟩ | skip); go_big_quiet_on; (try simp only [Act.put, List.setIfInBounds_toArray, List.set_cons_zero, List.set_cons_succ])))
          refine wpQuiet_nil ?_
          intro W hW
          obtain ⟨hBW, _⟩ := hW
          have BXW := MB.out _ hBW
          go_wp2
          go_roundg (lenl - (k + 1))
          case measure => omega
          case rel => exact ⟨k + 1, by omega, by omega, by go_num, BW.out.trans (hBW.mono BW.out.size), BXW⟩
        · obtain rfl : lenl = k := by omega
          have hltz : ¬ (lenl : Int) < (lenl : Int) := by omega
          go_wp2
          go_ret
          exact ⟨rfl, BW.out⟩
end Go.Proofs.YtgceffpkhmjmkaaGreat
