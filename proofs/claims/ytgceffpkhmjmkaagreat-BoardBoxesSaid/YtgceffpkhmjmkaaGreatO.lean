/- Board, part O: Bed; the greatest of some numbers; the predicates of the errors of wear. -/
import Derived.Test.YtgceffpkhmjmkaaGreatN
set_option linter.unusedVariables false
set_option linter.unusedSimpArgs false
namespace Go.Proofs.YtgceffpkhmjmkaaGreat
open Go.RowKit Go.Shelf

def bedR (b : Brd) (p : Int × Int) : Value :=
  if chk b = 0 then (if vpt p then .tuple #[.int .i64 (bedW b p), .bool (onWire b p), .int .i64 0] else .tuple #[.int .i64 0, .bool false, .int .i64 2]) else .tuple #[.int .i64 0, .bool false, .int .i64 (chk b)]

set_option maxRecDepth 100000 in
set_option maxHeartbeats 4000000 in
theorem Bed_any (v : Value) (b : Brd) (p : Int × Int) (w : World) (h : BrdAt w v b) :
    Calls Tryz.prog 11 #[v, pt p] w (Ret (bedR b p) w) := by
  have x1 := fun W (hW : Below w.heap.size w W) => check_any v b W (h.below hW)
  have x2 := fun W => vpt_any p W
  obtain ⟨vr, vl, vn, rfl, hr, hl, hn⟩ := h
  unfold bedR
  by_cases hc : chk b = 0
  · rw [if_pos hc]
    rw [hc] at x1
    cases hv : vpt p with
    | true =>
      have x3 := fun W (hW : Below w.heap.size w W) => bed_any vr vl vn b p W (hr.below hW) (hl.below hW) (hn.below hW) (good_of_chk hc) (pt5_of_vpt hv)
      rw [hv] at x2
      obtain ⟨ar, cr, rfl, lr, _⟩ := hr
      obtain ⟨al, cl, rfl, ll, _⟩ := hl
      obtain ⟨an, cn, rfl, ln, _⟩ := hn
      clear hc hv
      rw [if_pos rfl]
      unfold thr at x3
      unfold pt at *
      generalize bedW b p = bw at *
      generalize onWire b p = ow at *
      generalize b.rings.length = lenr at *
      generalize b.lines.length = lenl at *
      generalize b.nums.length = lenn at *
      obtain ⟨px, py⟩ := p
      simp only [] at *
      go_enter Tryz.func11, Tryz.ntmps11
      go_wp2_with (first | (go_at_call 10; (with_reducible refine (x1 _ ?hh).mono ?_); (case hh => (repeat' (first | exact Below.refl _ _ | assumption | (with_reducible refine Below.drew ?_) | (with_reducible refine Below.setCell ?_ (by (first | (simp; done) | (simp; omega))) _) | (with_reducible refine below_drewN' ?_ _) | (refine Below.alloc ?_ (by (try simp only [World.size_alloc, World.size_drew, World.size_setCell]); omega) _) | (refine Below.trans ?_ (Below.mono (by assumption) (by (try simp only [World.size_alloc, World.size_drew, World.size_setCell]); omega)))))); rintro e w1 ⟨rfl, hb1⟩; (obtain ⟨hc1, hf1⟩ := bcell hb1; have z1 := hb1.size; (try simp only [World.size_alloc, World.size_drew, World.size_setCell] at z1); (try have q1a : w.heap.size < w1.heap.size := by omega); (try have q1b : w.heap.size + 1 < w1.heap.size := by omega); (try have q1c : w.heap.size + 1 + 1 < w1.heap.size := by omega); (try have q1d : w.heap.size + 1 + 1 + 1 < w1.heap.size := by omega); (try have q1e : wr.heap.size < w1.heap.size := by omega); (try have q1f : wr.heap.size + 1 < w1.heap.size := by omega))) | (go_at_call 41; (with_reducible refine (x2 _).mono ?_); rintro e w2 ⟨rfl, hb2⟩; (obtain ⟨hc2, hf2⟩ := bcell hb2; have z2 := hb2.size; (try simp only [World.size_alloc, World.size_drew, World.size_setCell] at z2); (try have q2a : w.heap.size < w2.heap.size := by omega); (try have q2b : w.heap.size + 1 < w2.heap.size := by omega); (try have q2c : w.heap.size + 1 + 1 < w2.heap.size := by omega); (try have q2d : w.heap.size + 1 + 1 + 1 < w2.heap.size := by omega); (try have q2e : wr.heap.size < w2.heap.size := by omega); (try have q2f : wr.heap.size + 1 < w2.heap.size := by omega); (try have q2g : w1.heap.size < w2.heap.size := by omega); (try have q2h : w1.heap.size + 1 < w2.heap.size := by omega))) | (go_at_call 42; (with_reducible refine (x3 _ ?hh).mono ?_); (case hh => (repeat' (first | exact Below.refl _ _ | assumption | (with_reducible refine Below.drew ?_) | (with_reducible refine Below.setCell ?_ (by (first | (simp; done) | (simp; omega))) _) | (with_reducible refine below_drewN' ?_ _) | (refine Below.alloc ?_ (by (try simp only [World.size_alloc, World.size_drew, World.size_setCell]); omega) _) | (refine Below.trans ?_ (Below.mono (by assumption) (by (try simp only [World.size_alloc, World.size_drew, World.size_setCell]); omega)))))); rintro e w3 ⟨rfl, hb3⟩; (obtain ⟨hc3, hf3⟩ := bcell hb3; have z3 := hb3.size; (try simp only [World.size_alloc, World.size_drew, World.size_setCell] at z3); (try have q3a : w.heap.size < w3.heap.size := by omega); (try have q3b : w.heap.size + 1 < w3.heap.size := by omega); (try have q3c : w.heap.size + 1 + 1 < w3.heap.size := by omega); (try have q3d : w.heap.size + 1 + 1 + 1 < w3.heap.size := by omega); (try have q3e : wr.heap.size < w3.heap.size := by omega); (try have q3f : wr.heap.size + 1 < w3.heap.size := by omega); (try have q3g : w2.heap.size < w3.heap.size := by omega); (try have q3h : w2.heap.size + 1 < w3.heap.size := by omega))))
      go_ret3
      exact ⟨rfl, by (repeat' (first | exact Below.refl _ _ | assumption | (with_reducible refine Below.drew ?_) | (with_reducible refine Below.setCell ?_ (by (first | (simp; done) | (simp; omega))) _) | (with_reducible refine below_drewN' ?_ _) | (refine Below.alloc ?_ (by (try simp only [World.size_alloc, World.size_drew, World.size_setCell]); omega) _) | (refine Below.trans ?_ (Below.mono (by assumption) (by (try simp only [World.size_alloc, World.size_drew, World.size_setCell]); omega)))))⟩
    | false =>
      rw [hv] at x2
      obtain ⟨ar, cr, rfl, lr, _⟩ := hr
      obtain ⟨al, cl, rfl, ll, _⟩ := hl
      obtain ⟨an, cn, rfl, ln, _⟩ := hn
      clear hc hv
      rw [if_neg (by simp)]
      unfold pt at *
      generalize b.rings.length = lenr at *
      generalize b.lines.length = lenl at *
      generalize b.nums.length = lenn at *
      go_enter Tryz.func11, Tryz.ntmps11
      go_wp2_with (first | (go_at_call 10; (with_reducible refine (x1 _ ?hh).mono ?_); (case hh => (repeat' (first | exact Below.refl _ _ | assumption | (with_reducible refine Below.drew ?_) | (with_reducible refine Below.setCell ?_ (by (first | (simp; done) | (simp; omega))) _) | (with_reducible refine below_drewN' ?_ _) | (refine Below.alloc ?_ (by (try simp only [World.size_alloc, World.size_drew, World.size_setCell]); omega) _) | (refine Below.trans ?_ (Below.mono (by assumption) (by (try simp only [World.size_alloc, World.size_drew, World.size_setCell]); omega)))))); rintro e w1 ⟨rfl, hb1⟩; (obtain ⟨hc1, hf1⟩ := bcell hb1; have z1 := hb1.size; (try simp only [World.size_alloc, World.size_drew, World.size_setCell] at z1); (try have q1a : w.heap.size < w1.heap.size := by omega); (try have q1b : w.heap.size + 1 < w1.heap.size := by omega); (try have q1c : w.heap.size + 1 + 1 < w1.heap.size := by omega); (try have q1d : w.heap.size + 1 + 1 + 1 < w1.heap.size := by omega); (try have q1e : wr.heap.size < w1.heap.size := by omega); (try have q1f : wr.heap.size + 1 < w1.heap.size := by omega))) | (go_at_call 41; (with_reducible refine (x2 _).mono ?_); rintro e w2 ⟨rfl, hb2⟩; (obtain ⟨hc2, hf2⟩ := bcell hb2; have z2 := hb2.size; (try simp only [World.size_alloc, World.size_drew, World.size_setCell] at z2); (try have q2a : w.heap.size < w2.heap.size := by omega); (try have q2b : w.heap.size + 1 < w2.heap.size := by omega); (try have q2c : w.heap.size + 1 + 1 < w2.heap.size := by omega); (try have q2d : w.heap.size + 1 + 1 + 1 < w2.heap.size := by omega); (try have q2e : wr.heap.size < w2.heap.size := by omega); (try have q2f : wr.heap.size + 1 < w2.heap.size := by omega); (try have q2g : w1.heap.size < w2.heap.size := by omega); (try have q2h : w1.heap.size + 1 < w2.heap.size := by omega))))
      go_ret3
      exact ⟨rfl, by (repeat' (first | exact Below.refl _ _ | assumption | (with_reducible refine Below.drew ?_) | (with_reducible refine Below.setCell ?_ (by (first | (simp; done) | (simp; omega))) _) | (with_reducible refine below_drewN' ?_ _) | (refine Below.alloc ?_ (by (try simp only [World.size_alloc, World.size_drew, World.size_setCell]); omega) _) | (refine Below.trans ?_ (Below.mono (by assumption) (by (try simp only [World.size_alloc, World.size_drew, World.size_setCell]); omega)))))⟩
  · rw [if_neg hc]
    obtain ⟨ar, cr, rfl, lr, _⟩ := hr
    obtain ⟨al, cl, rfl, ll, _⟩ := hl
    obtain ⟨an, cn, rfl, ln, _⟩ := hn
    unfold pt
    generalize chk b = c at *
    generalize b.rings.length = lenr at *
    generalize b.lines.length = lenl at *
    generalize b.nums.length = lenn at *
    go_enter Tryz.func11, Tryz.ntmps11
    go_wp2_with (go_at_call 10; (with_reducible refine (x1 _ ?hh).mono ?_); (case hh => (repeat' (first | exact Below.refl _ _ | assumption | (with_reducible refine Below.drew ?_) | (with_reducible refine Below.setCell ?_ (by (first | (simp; done) | (simp; omega))) _) | (with_reducible refine below_drewN' ?_ _) | (refine Below.alloc ?_ (by (try simp only [World.size_alloc, World.size_drew, World.size_setCell]); omega) _) | (refine Below.trans ?_ (Below.mono (by assumption) (by (try simp only [World.size_alloc, World.size_drew, World.size_setCell]); omega)))))); rintro e w1 ⟨rfl, hb1⟩; (obtain ⟨hc1, hf1⟩ := bcell hb1; have z1 := hb1.size; (try simp only [World.size_alloc, World.size_drew, World.size_setCell] at z1); (try have q1a : w.heap.size < w1.heap.size := by omega); (try have q1b : w.heap.size + 1 < w1.heap.size := by omega); (try have q1c : w.heap.size + 1 + 1 < w1.heap.size := by omega); (try have q1d : w.heap.size + 1 + 1 + 1 < w1.heap.size := by omega); (try have q1e : wr.heap.size < w1.heap.size := by omega); (try have q1f : wr.heap.size + 1 < w1.heap.size := by omega)))
    go_ret3
    exact ⟨rfl, by (repeat' (first | exact Below.refl _ _ | assumption | (with_reducible refine Below.drew ?_) | (with_reducible refine Below.setCell ?_ (by (first | (simp; done) | (simp; omega))) _) | (with_reducible refine below_drewN' ?_ _) | (refine Below.alloc ?_ (by (try simp only [World.size_alloc, World.size_drew, World.size_setCell]); omega) _) | (refine Below.trans ?_ (Below.mono (by assumption) (by (try simp only [World.size_alloc, World.size_drew, World.size_setCell]); omega)))))⟩

/-- The greatest of some numbers. -/
def mx : List Int → Int
  | [] => 0
  | x :: xs => xs.foldl max x
theorem mx_snoc (xs : List Int) (y : Int) (h : xs ≠ []) : mx (xs ++ [y]) = max (mx xs) y := by
  cases xs with
  | nil => exact absurd rfl h
  | cons x xs => simp [mx, List.foldl_append]

set_option maxRecDepth 100000 in
set_option maxHeartbeats 1000000 in
theorem max_any (v : Value) (xs : List Int) (w : World) (hs : Sl w 1 (fun x => [Value.int .i64 x]) v xs) (hne : xs ≠ []) :
    Calls Tryz.prog 61 #[v] w (Ret (.int .i64 (mx xs)) w) := by
  obtain ⟨a, c, rfl, hl, hs⟩ := hs
  obtain ⟨b, off, rfl, hb, hc⟩ := hs hne
  clear hs
  have hpos : 0 < xs.length := List.length_pos_iff.2 hne
  have HC : Aside (∀ j x, xs[j]? = some x → w.cell? ⟨b, off + j, none⟩ = some (.int .i64 x)) := fun j x hx => by have := hc j x hx 0 (.int .i64 x) rfl; simpa using this
  clear hc hne
  obtain ⟨n, hn⟩ : ∃ n, xs.length = n := ⟨_, rfl⟩
  have HN : Aside (xs.length = n) := hn
  rw [hn] at hl hpos ⊢
  have HE : Aside (mx xs = mx (xs.take n)) := by show _ = _; rw [← hn, List.take_length]
  rw [HE.out]
  clear hn
  obtain ⟨x0, hx0⟩ : ∃ x, xs[0]? = some x := ⟨_, List.getElem?_eq_getElem (by rw [HN.out]; exact hpos)⟩
  have k0 : w.cell? ⟨b, off, none⟩ = some (.int .i64 x0) := by have := HC.out 0 x0 hx0; simpa using this
  have H1 : Aside (mx (xs.take 1) = x0) := by
    show _ = _
    cases xs with
    | nil => simp at hx0
    | cons y ys => simp at hx0; simp [mx, hx0]
  clear hx0
  have hz1 : ¬ ((n : Int) < 1) := by omega
  have hz0 : (0 : Int) < (n : Int) := by omega
  go_enter Tryz.func61, Tryz.ntmps61
  go_wp2
  go_loopg [3, 4] n (fun gg m i wr => ∃ k : Nat, 1 ≤ k ∧ k ≤ n ∧ n - k ≤ gg ∧ i = .int .i64 k ∧ m = .int .i64 (mx (xs.take k)) ∧ wr = w)
  case atStart => exact ⟨1, by omega, by omega, by omega, rfl, by rw [H1.out], rfl⟩
  case round =>
    obtain ⟨k, hk1, hk, hg, rfl, rfl, rfl⟩ := hrel
    by_cases hlt : k < n
    · have hltz : (k : Int) < (n : Int) := by omega
      obtain ⟨x, hx⟩ : ∃ x, xs[k]? = some x := ⟨_, List.getElem?_eq_getElem (by rw [HN.out]; exact hlt)⟩
      have kx := HC.out k x hx
      have HM : Aside (mx (xs.take (k + 1)) = max (mx (xs.take k)) x) := by
        show _ = _
        obtain ⟨hk', e⟩ := List.getElem?_eq_some_iff.1 hx
        rw [List.take_succ_eq_append_getElem hk', e]
        exact mx_snoc _ _ (by intro e0; have := congrArg List.length e0; have := HN.out; simp only [List.length_take, List.length_nil] at *; omega)
      clear hx
      generalize mx (xs.take k) = m at *
      go_wp2
      go_roundg (n - (k + 1))
      case measure => omega
      case rel => exact ⟨k + 1, by omega, by omega, by omega, by go_num, by rw [HM.out], rfl⟩
    · have : k = n := by omega
      subst this
      have hltz : ¬ (k : Int) < (k : Int) := by omega
      go_wp2
      go_ret
      exact ⟨rfl, Below.refl _ _⟩

set_option maxHeartbeats 400000 in
theorem uneven_any (n : Int) (B : Nat) (v : Value) (xs : List Int) (w : World) (hs : Sl w 1 (fun x => [Value.int .i64 x]) v xs) (hB : w.cell? ⟨B, 0, none⟩ = some (.int .i64 n)) :
    Calls Tryz.prog 79 #[v, .pointer (some ⟨B, 0, none⟩)] w (Ret (.bool ((xs.length : Int) != n)) w) := by
  obtain ⟨a, c, rfl, hl, _⟩ := hs
  generalize xs.length = l at *
  go_enter Tryz.func79, Tryz.ntmps79
  go_wp2
  all_goals
    go_ret
    exact ⟨rfl, by (repeat' (first | exact Below.refl _ _ | assumption | (with_reducible refine Below.drew ?_) | (with_reducible refine Below.setCell ?_ (by (first | (simp; done) | (simp; omega))) _) | (with_reducible refine below_drewN' ?_ _) | (refine Below.alloc ?_ (by (try simp only [World.size_alloc, World.size_drew, World.size_setCell]); omega) _) | (refine Below.trans ?_ (Below.mono (by assumption) (by (try simp only [World.size_alloc, World.size_drew, World.size_setCell]); omega)))))⟩

set_option maxHeartbeats 400000 in
theorem weekWrong_any (v : Value) (xs : List Int) (w : World) (hs : Sl w 1 (fun x => [Value.int .i64 x]) v xs) :
    Calls Tryz.prog 81 #[v] w (Ret (.bool (!(xs.all (inb 0 1000000)))) w) := by
  have x1 := within_any 0 1000000 v xs w hs
  obtain ⟨a, c, rfl, hl, _⟩ := hs
  generalize xs.length = l at *
  generalize (xs.all (inb 0 1000000)) = r at *
  go_enter Tryz.func81, Tryz.ntmps81
  go_wp2_with (go_at_call 55; (with_reducible refine x1.mono ?_); rintro e w1 ⟨rfl, hb1⟩; (obtain ⟨hc1, hf1⟩ := bcell hb1; have z1 := hb1.size; (try simp only [World.size_alloc, World.size_drew, World.size_setCell] at z1); (try have q1a : w.heap.size < w1.heap.size := by omega); (try have q1b : w.heap.size + 1 < w1.heap.size := by omega); (try have q1c : w.heap.size + 1 + 1 < w1.heap.size := by omega); (try have q1d : w.heap.size + 1 + 1 + 1 < w1.heap.size := by omega); (try have q1e : wr.heap.size < w1.heap.size := by omega); (try have q1f : wr.heap.size + 1 < w1.heap.size := by omega)))
  go_ret
  exact ⟨rfl, by (repeat' (first | exact Below.refl _ _ | assumption | (with_reducible refine Below.drew ?_) | (with_reducible refine Below.setCell ?_ (by (first | (simp; done) | (simp; omega))) _) | (with_reducible refine below_drewN' ?_ _) | (refine Below.alloc ?_ (by (try simp only [World.size_alloc, World.size_drew, World.size_setCell]); omega) _) | (refine Below.trans ?_ (Below.mono (by assumption) (by (try simp only [World.size_alloc, World.size_drew, World.size_setCell]); omega)))))⟩
end Go.Proofs.YtgceffpkhmjmkaaGreat
