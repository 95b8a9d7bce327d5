/- Board, part D: that all of some numbers lie within bounds; whether a point is valid; the predicates that are handed to the library's searches. -/
import Derived.Test.YtgceffpkhmjmkaaGreatC
import Derived.Laws.StructEq
set_option linter.unusedVariables false
set_option linter.unusedSimpArgs false
namespace Go.Proofs.YtgceffpkhmjmkaaGreat
open Go.RowKit Go.Shelf

def inb (lo hi n : Int) : Bool := decide (lo ≤ n ∧ n ≤ hi)

theorem inb_out (lo hi n : Int) : (!inb lo hi n) = (decide (n < lo) || decide (hi < n)) := by
  unfold inb
  by_cases h1 : n < lo
  · simp [h1]
  · by_cases h2 : hi < n
    · simp [h2]
    · simp [h1, h2]; omega

set_option maxHeartbeats 400000 in
theorem outside_any (lo hi n : Int) (B C : Nat) (W : World) (hB : W.cell? ⟨B, 0, none⟩ = some (.int .i64 lo)) (hC : W.cell? ⟨C, 0, none⟩ = some (.int .i64 hi)) :
    Calls Tryz.prog 77 #[.int .i64 n, .pointer (some ⟨B, 0, none⟩), .pointer (some ⟨C, 0, none⟩)] W (Ret (.bool (!inb lo hi n)) W) := by
  rw [inb_out]
  by_cases h1 : n < lo
  · have e : (decide (n < lo) || decide (hi < n)) = true := by simp [h1]
    rw [e]; clear e
    go_enter Tryz.func77, Tryz.ntmps77
    go_wp2
    go_ret
    exact ⟨rfl, by (repeat' (first | exact Below.refl _ _ | assumption | (with_reducible refine Below.drew ?_) | (with_reducible refine Below.setCell ?_ (by (first | (simp; done) | (simp; omega))) _) | (with_reducible refine below_drewN' ?_ _) | (refine Below.alloc ?_ (by (try simp only [World.size_alloc, World.size_drew, World.size_setCell]); omega) _) | (refine Below.trans ?_ (Below.mono (by assumption) (by (try simp only [World.size_alloc, World.size_drew, World.size_setCell]); omega)))))⟩
  · by_cases h2 : hi < n
    · have e : (decide (n < lo) || decide (hi < n)) = true := by simp [h2]
      rw [e]; clear e
      go_enter Tryz.func77, Tryz.ntmps77
      go_wp2
      go_ret
      exact ⟨rfl, by (repeat' (first | exact Below.refl _ _ | assumption | (with_reducible refine Below.drew ?_) | (with_reducible refine Below.setCell ?_ (by (first | (simp; done) | (simp; omega))) _) | (with_reducible refine below_drewN' ?_ _) | (refine Below.alloc ?_ (by (try simp only [World.size_alloc, World.size_drew, World.size_setCell]); omega) _) | (refine Below.trans ?_ (Below.mono (by assumption) (by (try simp only [World.size_alloc, World.size_drew, World.size_setCell]); omega)))))⟩
    · have e : (decide (n < lo) || decide (hi < n)) = false := by simp [h1, h2]
      rw [e]; clear e
      go_enter Tryz.func77, Tryz.ntmps77
      go_wp2
      go_ret
      exact ⟨rfl, by (repeat' (first | exact Below.refl _ _ | assumption | (with_reducible refine Below.drew ?_) | (with_reducible refine Below.setCell ?_ (by (first | (simp; done) | (simp; omega))) _) | (with_reducible refine below_drewN' ?_ _) | (refine Below.alloc ?_ (by (try simp only [World.size_alloc, World.size_drew, World.size_setCell]); omega) _) | (refine Below.trans ?_ (Below.mono (by assumption) (by (try simp only [World.size_alloc, World.size_drew, World.size_setCell]); omega)))))⟩

theorem not_any_not {α : Type} (p : α → Bool) (xs : List α) : (!(xs.any fun x => !p x)) = xs.all p := by
  induction xs with
  | nil => rfl
  | cons x xs ih => simp only [List.any_cons, List.all_cons, Bool.not_or, Bool.not_not]; rw [ih]

set_option maxHeartbeats 400000 in
theorem within_any (lo hi : Int) (v : Value) (xs : List Int) (w : World) (hs : Sl w 1 (fun x => [Value.int .i64 x]) v xs) :
    Calls Tryz.prog 55 #[.int .i64 lo, .int .i64 hi, v] w (Ret (.bool (xs.all (inb lo hi))) w) := by
  have hbb : Below w.heap.size w ((w.alloc (.cells #[.int .i64 lo] 3)).alloc (.cells #[.int .i64 hi] 3)) := by (repeat' (first | exact Below.refl _ _ | assumption | (with_reducible refine Below.drew ?_) | (with_reducible refine Below.setCell ?_ (by (first | (simp; done) | (simp; omega))) _) | (with_reducible refine below_drewN' ?_ _) | (refine Below.alloc ?_ (by (try simp only [World.size_alloc, World.size_drew, World.size_setCell]); omega) _) | (refine Below.trans ?_ (Below.mono (by assumption) (by (try simp only [World.size_alloc, World.size_drew, World.size_setCell]); omega)))))
  have hcall := ints_any (fun x => .int .i64 x) (fun x => !inb lo hi x) 77 #[.pointer (some ⟨w.heap.size, 0, none⟩), .pointer (some ⟨w.heap.size + 1, 0, none⟩)] (enters_of Tryz.func77 (by kernel_rfl) rfl) v xs
    ((w.alloc (.cells #[.int .i64 lo] 3)).alloc (.cells #[.int .i64 hi] 3)) (hs.below hbb)
    (fun W hW x _ => outside_any lo hi x _ _ W (keepc hW (by go_simp)) (keepc hW (by go_simp)))
  rw [← not_any_not]
  obtain ⟨a, c, rfl, hl, hs⟩ := hs
  clear hs hl hbb
  generalize (xs.any fun x => !inb lo hi x) = r at hcall ⊢
  go_enter Tryz.func55, Tryz.ntmps55
  go_wp2_with (go_at_call 78; refine hcall.mono ?_; rintro e w1 ⟨rfl, hb1⟩)
  go_ret
  exact ⟨rfl, by (repeat' (first | exact Below.refl _ _ | assumption | (with_reducible refine Below.drew ?_) | (with_reducible refine Below.setCell ?_ (by (first | (simp; done) | (simp; omega))) _) | (with_reducible refine below_drewN' ?_ _) | (refine Below.alloc ?_ (by (try simp only [World.size_alloc, World.size_drew, World.size_setCell]); omega) _) | (refine Below.trans ?_ (Below.mono (by assumption) (by (try simp only [World.size_alloc, World.size_drew, World.size_setCell]); omega)))))⟩

def vpt (p : Int × Int) : Bool := [p.1, p.2].all (inb (-5000) 5000)

theorem sl_two (W : World) (k : Nat) (hk : k = W.heap.size) (t : TypeId) (x y : Int) : Sl (W.alloc (.cells #[.int .i64 x, .int .i64 y] t)) 1 (fun x => [Value.int .i64 x]) (.slice (some ⟨k, 0, none⟩) 2 2) [x, y] := by
  subst hk
  refine ⟨_, 2, rfl, by simp, fun _ => ⟨_, _, rfl, by simp, ?_⟩⟩
  intro j z hz i v hv
  match i, hv with
  | 0, hv =>
    simp at hv; subst hv
    match j, hz with
    | 0, hz => simp at hz; subst hz; go_simp
    | 1, hz => simp at hz; subst hz; go_simp
  | i + 1, hv => simp at hv

theorem sl_one (W : World) (k : Nat) (hk : k = W.heap.size) (t : TypeId) (x : Int) : Sl (W.alloc (.cells #[.int .i64 x] t)) 1 (fun x => [Value.int .i64 x]) (.slice (some ⟨k, 0, none⟩) 1 1) [x] := by
  subst hk
  refine ⟨_, 1, rfl, by simp, fun _ => ⟨_, _, rfl, by simp, ?_⟩⟩
  intro j z hz i v hv
  match i, hv with
  | 0, hv =>
    simp at hv; subst hv
    match j, hz with
    | 0, hz => simp at hz; subst hz; go_simp
  | i + 1, hv => simp at hv

set_option maxHeartbeats 400000 in
theorem vpt_any (p : Int × Int) (w : World) :
    Calls Tryz.prog 41 #[pt p] w (Ret (.bool (vpt p)) w) := by
  obtain ⟨x, y⟩ := p
  have hcall := fun W k hk t => within_any (-5000) 5000 _ [x, y] _ (sl_two W k hk t x y)
  unfold vpt pt
  simp only []
  generalize ([x, y].all (inb (-5000) 5000)) = r at hcall ⊢
  go_enter Tryz.func41, Tryz.ntmps41
  go_wp2_with (go_at_call 55; (with_reducible refine (hcall _ _ (by simp) _).mono ?_); rintro e w1 ⟨rfl, hb1⟩)
  go_ret
  exact ⟨rfl, by (repeat' (first | exact Below.refl _ _ | assumption | (with_reducible refine Below.drew ?_) | (with_reducible refine Below.setCell ?_ (by (first | (simp; done) | (simp; omega))) _) | (with_reducible refine below_drewN' ?_ _) | (refine Below.alloc ?_ (by (try simp only [World.size_alloc, World.size_drew, World.size_setCell]); omega) _) | (refine Below.trans ?_ (Below.mono (by assumption) (by (try simp only [World.size_alloc, World.size_drew, World.size_setCell]); omega)))))⟩

set_option maxHeartbeats 400000 in
/-- wrong in validRings: a factor out of its bounds. -/
theorem ringWrong_any (r : Int × Int) (w : World) :
    Calls Tryz.prog 83 #[pt r] w (Ret (.bool (!inb 0 4 r.2)) w) := by
  obtain ⟨x, y⟩ := r
  have hcall := fun W k hk t => within_any 0 4 _ [y] _ (sl_one W k hk t y)
  have e : ([y].all (inb 0 4)) = inb 0 4 y := by simp
  rw [e] at hcall
  unfold pt
  simp only []
  clear e
  generalize (inb 0 4 y) = r at hcall ⊢
  go_enter Tryz.func83, Tryz.ntmps83
  go_wp2_with (go_at_call 55; (with_reducible refine (hcall _ _ (by simp) _).mono ?_); rintro e w1 ⟨rfl, hb1⟩)
  go_ret
  exact ⟨rfl, by (repeat' (first | exact Below.refl _ _ | assumption | (with_reducible refine Below.drew ?_) | (with_reducible refine Below.setCell ?_ (by (first | (simp; done) | (simp; omega))) _) | (with_reducible refine below_drewN' ?_ _) | (refine Below.alloc ?_ (by (try simp only [World.size_alloc, World.size_drew, World.size_setCell]); omega) _) | (refine Below.trans ?_ (Below.mono (by assumption) (by (try simp only [World.size_alloc, World.size_drew, World.size_setCell]); omega)))))⟩

set_option maxHeartbeats 400000 in
/-- wrong in validLines: the centre, or no valid point. -/
theorem lineWrong_any (p : Int × Int) (w : World) :
    Calls Tryz.prog 86 #[pt p] w (Ret (.bool (decide (p = (0, 0)) || !vpt p)) w) := by
  have hcall := fun W => vpt_any p W
  obtain ⟨x, y⟩ := p
  unfold pt at *
  generalize vpt (x, y) = r at hcall ⊢
  simp only [Prod.mk.injEq] at *
  by_cases h0 : x = 0 ∧ y = 0
  · obtain ⟨rfl, rfl⟩ := h0
    simp only [and_self, decide_true, Bool.true_or]
    go_enter Tryz.func86, Tryz.ntmps86
    go_wp2_with (go_at_call 41; refine (hcall _).mono ?_; rintro e w1 ⟨rfl, hb1⟩)
    go_ret
    exact ⟨rfl, by (repeat' (first | exact Below.refl _ _ | assumption | (with_reducible refine Below.drew ?_) | (with_reducible refine Below.setCell ?_ (by (first | (simp; done) | (simp; omega))) _) | (with_reducible refine below_drewN' ?_ _) | (refine Below.alloc ?_ (by (try simp only [World.size_alloc, World.size_drew, World.size_setCell]); omega) _) | (refine Below.trans ?_ (Below.mono (by assumption) (by (try simp only [World.size_alloc, World.size_drew, World.size_setCell]); omega)))))⟩
  · simp only [h0, decide_false, Bool.false_or]
    by_cases hx : x = 0
    · subst hx
      have hy : ¬ y = 0 := fun h => h0 ⟨rfl, h⟩
      clear h0
      go_enter Tryz.func86, Tryz.ntmps86
      go_wp2_with (go_at_call 41; refine (hcall _).mono ?_; rintro e w1 ⟨rfl, hb1⟩)
      go_ret
      exact ⟨rfl, by (repeat' (first | exact Below.refl _ _ | assumption | (with_reducible refine Below.drew ?_) | (with_reducible refine Below.setCell ?_ (by (first | (simp; done) | (simp; omega))) _) | (with_reducible refine below_drewN' ?_ _) | (refine Below.alloc ?_ (by (try simp only [World.size_alloc, World.size_drew, World.size_setCell]); omega) _) | (refine Below.trans ?_ (Below.mono (by assumption) (by (try simp only [World.size_alloc, World.size_drew, World.size_setCell]); omega)))))⟩
    · clear h0
      go_enter Tryz.func86, Tryz.ntmps86
      go_wp2_with (go_at_call 41; refine (hcall _).mono ?_; rintro e w1 ⟨rfl, hb1⟩)
      go_ret
      exact ⟨rfl, by (repeat' (first | exact Below.refl _ _ | assumption | (with_reducible refine Below.drew ?_) | (with_reducible refine Below.setCell ?_ (by (first | (simp; done) | (simp; omega))) _) | (with_reducible refine below_drewN' ?_ _) | (refine Below.alloc ?_ (by (try simp only [World.size_alloc, World.size_drew, World.size_setCell]); omega) _) | (refine Below.trans ?_ (Below.mono (by assumption) (by (try simp only [World.size_alloc, World.size_drew, World.size_setCell]); omega)))))⟩

/-- The board as data. -/
structure Brd where
  eye : Int
  bull : Int
  rings : List (Int × Int)
  lines : List (Int × Int)
  nums : List Int
  wire : Int

/-- v is the board b, as it lies in w. -/
def BrdAt (w : World) (v : Value) (b : Brd) : Prop :=
  ∃ vr vl vn, v = .agg #[.int .i64 b.eye, .int .i64 b.bull, vr, vl, vn, .int .i64 b.wire] ∧ Sl w 2 encP vr b.rings ∧ Sl w 2 encP vl b.lines ∧ Sl w 1 (fun x => [Value.int .i64 x]) vn b.nums

theorem BrdAt.below {w w' : World} {v : Value} {b : Brd} (h : BrdAt w v b) (hb : Below w.heap.size w w') : BrdAt w' v b := by
  obtain ⟨vr, vl, vn, rfl, h1, h2, h3⟩ := h
  exact ⟨vr, vl, vn, rfl, h1.below hb, h2.below hb, h3.below hb⟩

def long (b : Brd) : Bool := decide (8 < (b.rings.length : Int)) || decide (20 < (b.lines.length : Int)) || decide (20 < (b.nums.length : Int))

set_option maxHeartbeats 400000 in
theorem long_any (v : Value) (b : Brd) (w : World) (h : BrdAt w v b) :
    Calls Tryz.prog 39 #[v] w (Ret (.bool (long b)) w) := by
  obtain ⟨vr, vl, vn, rfl, ⟨ar, cr, rfl, lr, _⟩, ⟨al, cl, rfl, ll, _⟩, ⟨an, cn, rfl, ln, _⟩⟩ := h
  unfold long
  generalize b.rings.length = r at *
  generalize b.lines.length = l at *
  generalize b.nums.length = n at *
  go_enter Tryz.func39, Tryz.ntmps39
  go_wp2
  all_goals
    go_ret
    exact ⟨rfl, by (repeat' (first | exact Below.refl _ _ | assumption | (with_reducible refine Below.drew ?_) | (with_reducible refine Below.setCell ?_ (by (first | (simp; done) | (simp; omega))) _) | (with_reducible refine below_drewN' ?_ _) | (refine Below.alloc ?_ (by (try simp only [World.size_alloc, World.size_drew, World.size_setCell]); omega) _) | (refine Below.trans ?_ (Below.mono (by assumption) (by (try simp only [World.size_alloc, World.size_drew, World.size_setCell]); omega)))))⟩

set_option maxHeartbeats 400000 in
theorem line_any (v : Value) (b : Brd) (i : Nat) (p : Int × Int) (w : World) (h : BrdAt w v b) (hp : b.lines[i]? = some p) :
    Calls Tryz.prog 88 #[v, .int .i64 i] w (Ret (pt p) w) := by
  obtain ⟨vr, vl, vn, rfl, ⟨ar, cr, rfl, lr, _⟩, ⟨al, cl, rfl, ll, hc⟩, ⟨an, cn, rfl, ln, _⟩⟩ := h
  obtain ⟨hi, e⟩ := List.getElem?_eq_some_iff.1 hp
  obtain ⟨B, off, rfl, hB, hc⟩ := hc (by intro e0; rw [e0] at hi; simp at hi)
  have hc0 : w.cell? ⟨B, off + i * 2, none⟩ = some (.int .i64 p.1) := by have := hc i p hp 0 (.int .i64 p.1) rfl; simpa using this
  have hc1 : w.cell? ⟨B, off + i * 2 + 1, none⟩ = some (.int .i64 p.2) := by have := hc i p hp 1 (.int .i64 p.2) rfl; simpa using this
  clear hc e hp
  generalize b.rings.length = r at *
  generalize b.lines.length = l at *
  generalize b.nums.length = n at *
  unfold pt
  obtain ⟨x, y⟩ := p
  simp only [] at hc0 hc1 ⊢
  have hz : (i : Int) < (l : Int) := by omega
  go_enter Tryz.func88, Tryz.ntmps88
  go_wp2
  exact bodyPost_ret (v := .agg #[.int .i64 x, .int .i64 y]) (by simp [results, Tryz.results88, go_sem]) rfl ⟨rfl, by (repeat' (first | exact Below.refl _ _ | assumption | (with_reducible refine Below.drew ?_) | (with_reducible refine Below.setCell ?_ (by (first | (simp; done) | (simp; omega))) _) | (with_reducible refine below_drewN' ?_ _) | (refine Below.alloc ?_ (by (try simp only [World.size_alloc, World.size_drew, World.size_setCell]); omega) _) | (refine Below.trans ?_ (Below.mono (by assumption) (by (try simp only [World.size_alloc, World.size_drew, World.size_setCell]); omega)))))⟩
end Go.Proofs.YtgceffpkhmjmkaaGreat
