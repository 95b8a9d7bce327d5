/- Board, part Wc: plans that are refused. -/
import Derived.Test.YtgceffpkhmjmkaaGreatWa
set_option linter.unusedVariables false
set_option linter.unusedSimpArgs false
namespace Go.Proofs.YtgceffpkhmjmkaaGreat
open Go.RowKit Go.Shelf

/-- The error of a plan. -/
def planE (b : Brd) (worn : List Int) (ws : List (List Int)) : Int :=
  if chk b = 0 then (if 3 < ws.length then 5 else if frm b.nums.length worn ws = 0 then (if planM worn ws ≤ 1000000000 then 0 else 8) else frm b.nums.length worn ws) else chk b

set_option maxRecDepth 100000 in
set_option maxHeartbeats 4000000 in
theorem Plan_chk (vb v vs : Value) (b : Brd) (worn : List Int) (ws : List (Value × List Int)) (w : World) (h : BrdAt w vb b) (hw : Sl w 1 eI v worn) (hs : Sl w 1 eR vs ws) (hx : ∀ x ∈ ws, Sl w 1 eI x.1 x.2) (hc : ¬ chk b = 0) :
    Calls Tryz.prog 35 #[vb, v, vs] w (Ret (.tuple #[.slice none 0 0, .int .i64 0, .int .i64 (chk b)]) w) := by
  have x1 := fun W (hW : Below w.heap.size w W) => check_any vb b W (h.below hW)
  obtain ⟨vr, vl, vn, rfl, hr, hl, hn⟩ := h
  obtain ⟨ar, cr, rfl, lr, _⟩ := hr
  obtain ⟨al, cl, rfl, ll, _⟩ := hl
  obtain ⟨an, cn, rfl, ln, _⟩ := hn
  obtain ⟨a, c, rfl, l1, _⟩ := hw
  obtain ⟨a2, c2, rfl, l2, _⟩ := hs
  generalize chk b = ck at *
  generalize b.rings.length = lenr at *
  generalize b.lines.length = lenl at *
  generalize b.nums.length = lenn at *
  generalize worn.length = lw at *
  generalize ws.length = lk at *
  go_enter Tryz.func35, Tryz.ntmps35
  go_wp2_with (go_at_call 10; (with_reducible refine (x1 _ ?hh).mono ?_); (case hh => (repeat' (first | exact Below.refl _ _ | assumption | (with_reducible refine Below.drew ?_) | (with_reducible refine Below.setCell ?_ (by (first | (simp; done) | (simp; omega))) _) | (with_reducible refine below_drewN' ?_ _) | (refine Below.alloc ?_ (by (try simp only [World.size_alloc, World.size_drew, World.size_setCell]); omega) _) | (refine Below.trans ?_ (Below.mono (by assumption) (by (try simp only [World.size_alloc, World.size_drew, World.size_setCell]); omega)))))); rintro e w1 ⟨rfl, hb1⟩; (obtain ⟨hc1, hf1⟩ := bcell hb1; have z1 := hb1.size; (try simp only [World.size_alloc, World.size_drew, World.size_setCell] at z1); (try have q1a : w.heap.size < w1.heap.size := by omega); (try have q1b : w.heap.size + 1 < w1.heap.size := by omega); (try have q1c : w.heap.size + 1 + 1 < w1.heap.size := by omega); (try have q1d : w.heap.size + 1 + 1 + 1 < w1.heap.size := by omega); (try have q1e : wr.heap.size < w1.heap.size := by omega); (try have q1f : wr.heap.size + 1 < w1.heap.size := by omega)))
  go_ret3
  exact ⟨rfl, by (repeat' (first | exact Below.refl _ _ | assumption | (with_reducible refine Below.drew ?_) | (with_reducible refine Below.setCell ?_ (by (first | (simp; done) | (simp; omega))) _) | (with_reducible refine below_drewN' ?_ _) | (refine Below.alloc ?_ (by (try simp only [World.size_alloc, World.size_drew, World.size_setCell]); omega) _) | (refine Below.trans ?_ (Below.mono (by assumption) (by (try simp only [World.size_alloc, World.size_drew, World.size_setCell]); omega)))))⟩

set_option maxRecDepth 100000 in
set_option maxHeartbeats 4000000 in
theorem Plan_long (vb v vs : Value) (b : Brd) (worn : List Int) (ws : List (Value × List Int)) (w : World) (h : BrdAt w vb b) (hw : Sl w 1 eI v worn) (hs : Sl w 1 eR vs ws) (hx : ∀ x ∈ ws, Sl w 1 eI x.1 x.2) (hc : chk b = 0) (hm : 3 < ws.length) :
    Calls Tryz.prog 35 #[vb, v, vs] w (Ret (.tuple #[.slice none 0 0, .int .i64 0, .int .i64 (5)]) w) := by
  have x1 := fun W (hW : Below w.heap.size w W) => check_any vb b W (h.below hW)
  rw [hc] at x1
  obtain ⟨vr, vl, vn, rfl, hr, hl, hn⟩ := h
  obtain ⟨ar, cr, rfl, lr, _⟩ := hr
  obtain ⟨al, cl, rfl, ll, _⟩ := hl
  obtain ⟨an, cn, rfl, ln, _⟩ := hn
  obtain ⟨a, c, rfl, l1, _⟩ := hw
  obtain ⟨a2, c2, rfl, l2, _⟩ := hs
  generalize b.rings.length = lenr at *
  generalize b.lines.length = lenl at *
  generalize b.nums.length = lenn at *
  generalize worn.length = lw at *
  clear hx hc
  generalize ws.length = lk at *
  have hm3 : (3 : Int) < (lk : Int) := by omega
  go_enter Tryz.func35, Tryz.ntmps35
  go_wp2_with (go_at_call 10; (with_reducible refine (x1 _ ?hh).mono ?_); (case hh => (repeat' (first | exact Below.refl _ _ | assumption | (with_reducible refine Below.drew ?_) | (with_reducible refine Below.setCell ?_ (by (first | (simp; done) | (simp; omega))) _) | (with_reducible refine below_drewN' ?_ _) | (refine Below.alloc ?_ (by (try simp only [World.size_alloc, World.size_drew, World.size_setCell]); omega) _) | (refine Below.trans ?_ (Below.mono (by assumption) (by (try simp only [World.size_alloc, World.size_drew, World.size_setCell]); omega)))))); rintro e w1 ⟨rfl, hb1⟩; (obtain ⟨hc1, hf1⟩ := bcell hb1; have z1 := hb1.size; (try simp only [World.size_alloc, World.size_drew, World.size_setCell] at z1); (try have q1a : w.heap.size < w1.heap.size := by omega); (try have q1b : w.heap.size + 1 < w1.heap.size := by omega); (try have q1c : w.heap.size + 1 + 1 < w1.heap.size := by omega); (try have q1d : w.heap.size + 1 + 1 + 1 < w1.heap.size := by omega); (try have q1e : wr.heap.size < w1.heap.size := by omega); (try have q1f : wr.heap.size + 1 < w1.heap.size := by omega)))
  go_ret3
  exact ⟨rfl, by (repeat' (first | exact Below.refl _ _ | assumption | (with_reducible refine Below.drew ?_) | (with_reducible refine Below.setCell ?_ (by (first | (simp; done) | (simp; omega))) _) | (with_reducible refine below_drewN' ?_ _) | (refine Below.alloc ?_ (by (try simp only [World.size_alloc, World.size_drew, World.size_setCell]); omega) _) | (refine Below.trans ?_ (Below.mono (by assumption) (by (try simp only [World.size_alloc, World.size_drew, World.size_setCell]); omega)))))⟩

set_option maxRecDepth 100000 in
set_option maxHeartbeats 4000000 in
theorem Plan_form (vb v vs : Value) (b : Brd) (worn : List Int) (ws : List (Value × List Int)) (w : World) (h : BrdAt w vb b) (hw : Sl w 1 eI v worn) (hs : Sl w 1 eR vs ws) (hx : ∀ x ∈ ws, Sl w 1 eI x.1 x.2) (hc : chk b = 0) (hm : ws.length ≤ 3) (E : Int) (he : frm b.nums.length worn (ws.map (·.2)) = E) (hE : ¬ E = 0) :
    Calls Tryz.prog 35 #[vb, v, vs] w (Ret (.tuple #[.slice none 0 0, .int .i64 0, .int .i64 (E)]) w) := by
  have g := good_of_chk hc
  have gl := g.len
  have x1 := fun W (hW : Below w.heap.size w W) => check_any vb b W (h.below hW)
  have x2 := fun W (hW : Below w.heap.size w W) => wearError_any (b.nums.length : Int) v worn vs ws W (hw.below hW) (hs.below hW) (fun x hm => (hx x hm).below hW)
  rw [hc] at x1
  rw [wErr_frm, he] at x2
  obtain ⟨vr, vl, vn, rfl, hr, hl, hn⟩ := h
  obtain ⟨ar, cr, rfl, lr, _⟩ := hr
  obtain ⟨al, cl, rfl, ll, _⟩ := hl
  obtain ⟨an, cn, rfl, ln, _⟩ := hn
  obtain ⟨a, c, rfl, l1, _⟩ := hw
  obtain ⟨a2, c2, rfl, l2, _⟩ := hs
  generalize b.rings.length = lenr at *
  generalize b.lines.length = lenl at *
  generalize b.nums.length = lenn at *
  generalize worn.length = lw at *
  clear hx hc he g gl
  generalize ws.length = lk at *
  have hm3 : ¬ (3 : Int) < (lk : Int) := by omega
  go_enter Tryz.func35, Tryz.ntmps35
  go_wp2_with (first | (go_at_call 10; (with_reducible refine (x1 _ ?hh).mono ?_); (case hh => (repeat' (first | exact Below.refl _ _ | assumption | (with_reducible refine Below.drew ?_) | (with_reducible refine Below.setCell ?_ (by (first | (simp; done) | (simp; omega))) _) | (with_reducible refine below_drewN' ?_ _) | (refine Below.alloc ?_ (by (try simp only [World.size_alloc, World.size_drew, World.size_setCell]); omega) _) | (refine Below.trans ?_ (Below.mono (by assumption) (by (try simp only [World.size_alloc, World.size_drew, World.size_setCell]); omega)))))); rintro e w1 ⟨rfl, hb1⟩; (obtain ⟨hc1, hf1⟩ := bcell hb1; have z1 := hb1.size; (try simp only [World.size_alloc, World.size_drew, World.size_setCell] at z1); (try have q1a : w.heap.size < w1.heap.size := by omega); (try have q1b : w.heap.size + 1 < w1.heap.size := by omega); (try have q1c : w.heap.size + 1 + 1 < w1.heap.size := by omega); (try have q1d : w.heap.size + 1 + 1 + 1 < w1.heap.size := by omega); (try have q1e : wr.heap.size < w1.heap.size := by omega); (try have q1f : wr.heap.size + 1 < w1.heap.size := by omega))) | (go_at_call 59; (with_reducible refine (x2 _ ?hh).mono ?_); (case hh => (repeat' (first | exact Below.refl _ _ | assumption | (with_reducible refine Below.drew ?_) | (with_reducible refine Below.setCell ?_ (by (first | (simp; done) | (simp; omega))) _) | (with_reducible refine below_drewN' ?_ _) | (refine Below.alloc ?_ (by (try simp only [World.size_alloc, World.size_drew, World.size_setCell]); omega) _) | (refine Below.trans ?_ (Below.mono (by assumption) (by (try simp only [World.size_alloc, World.size_drew, World.size_setCell]); omega)))))); rintro e w2 ⟨rfl, hb2⟩; (obtain ⟨hc2, hf2⟩ := bcell hb2; have z2 := hb2.size; (try simp only [World.size_alloc, World.size_drew, World.size_setCell] at z2); (try have q2a : w.heap.size < w2.heap.size := by omega); (try have q2b : w.heap.size + 1 < w2.heap.size := by omega); (try have q2c : w.heap.size + 1 + 1 < w2.heap.size := by omega); (try have q2d : w.heap.size + 1 + 1 + 1 < w2.heap.size := by omega); (try have q2e : wr.heap.size < w2.heap.size := by omega); (try have q2f : wr.heap.size + 1 < w2.heap.size := by omega); (try have q2g : w1.heap.size < w2.heap.size := by omega); (try have q2h : w1.heap.size + 1 < w2.heap.size := by omega))))
  go_ret3
  exact ⟨rfl, by (repeat' (first | exact Below.refl _ _ | assumption | (with_reducible refine Below.drew ?_) | (with_reducible refine Below.setCell ?_ (by (first | (simp; done) | (simp; omega))) _) | (with_reducible refine below_drewN' ?_ _) | (refine Below.alloc ?_ (by (try simp only [World.size_alloc, World.size_drew, World.size_setCell]); omega) _) | (refine Below.trans ?_ (Below.mono (by assumption) (by (try simp only [World.size_alloc, World.size_drew, World.size_setCell]); omega)))))⟩

set_option maxRecDepth 100000 in
set_option maxHeartbeats 4000000 in
theorem Plan_full (vb v vs : Value) (b : Brd) (worn : List Int) (ws : List (Value × List Int)) (w : World) (h : BrdAt w vb b) (hw : Sl w 1 eI v worn) (hs : Sl w 1 eR vs ws) (hx : ∀ x ∈ ws, Sl w 1 eI x.1 x.2)
    (hc : chk b = 0) (hm1 : ws ≠ []) (hm2 : ws.length ≤ 3) (he : wErr b.nums.length worn ws = 0) (hM : ¬ planM worn (ws.map (·.2)) ≤ 1000000000) :
    Calls Tryz.prog 35 #[vb, v, vs] w (Ret (.tuple #[.slice none 0 0, .int .i64 0, .int .i64 8]) w) := by
  have g := good_of_chk hc
  obtain ⟨e1, e2, e3, e4⟩ := wErr_ok he
  have hn1 : worn ≠ [] := by
    intro e; rw [e] at e1
    have := List.length_pos_iff.2 g.lines
    have := g.same
    simp at e1; omega
  have gl := g.len
  have x1 := fun W (hW : Below w.heap.size w W) => check_any vb b W (h.below hW)
  have x2 := fun W (hW : Below w.heap.size w W) => wearError_any (b.nums.length : Int) v worn vs ws W (hw.below hW) (hs.below hW) (fun x hm => (hx x hm).below hW)
  have x3 := fun W (hW : Below w.heap.size w W) => evenest_any v vs worn ws W (hw.below hW) (hs.below hW) (fun x hm => (hx x hm).below hW) hn1 (by omega) hm1 (by omega) (fun x hx => (e2 x hx).trans e1.symm) (fun x hx => by have := e3 x hx; omega) (fun x hx y hy => by have := e4 x hx y hy; omega)
  have x4 : ∀ (W : World) (u : Value), Sl W 1 eI u (endw worn (ws.map (·.2)) (dig worn.length (ws.map (·.2)).length (bestP worn (ws.map (·.2))))) → Calls Tryz.prog 61 #[u] W (Ret (.int .i64 (planM worn (ws.map (·.2)))) W) := by
    intro W u hu
    refine max_any u _ W hu ?_
    intro e
    have h := endw_length worn.length (ws.map (·.2)) worn (dig worn.length (ws.map (·.2)).length (bestP worn (ws.map (·.2)))) rfl (fun wk hwk => by
      obtain ⟨z, hz, rfl⟩ := List.mem_map.1 hwk
      exact (e2 z hz).trans e1.symm)
    rw [e] at h
    have := List.length_pos_iff.2 hn1
    simp at h; omega
  unfold RetEven at x3
  rw [hc] at x1
  rw [he] at x2
  obtain ⟨vr, vl, vn, rfl, hr, hl, hn⟩ := h
  obtain ⟨ar, cr, rfl, lr, _⟩ := hr
  obtain ⟨al, cl, rfl, ll, _⟩ := hl
  obtain ⟨an, cn, rfl, ln, _⟩ := hn
  obtain ⟨a, c, rfl, l1, _⟩ := hw
  obtain ⟨a2, c2, rfl, l2, _⟩ := hs
  obtain ⟨M, hMM⟩ : ∃ M, planM worn (ws.map (·.2)) = M := ⟨_, rfl⟩
  rw [hMM] at x4 hM
  have HL : Aside ((ws.map (·.2)).length = ws.length) := List.length_map _
  generalize endw worn (ws.map (·.2)) (dig worn.length (ws.map (·.2)).length (bestP worn (ws.map (·.2)))) = ew at *
  generalize digI worn.length (ws.map (·.2)).length (bestP worn (ws.map (·.2))) = dg at *
  rw [HL.out] at x3
  clear hMM e1 e2 e3 e4 g he hc hm1 hx hn1 HL
  generalize worn.length = lw at *
  generalize ws.length = m at *
  generalize b.rings.length = lenr at *
  generalize b.lines.length = lenl at *
  generalize b.nums.length = lenn at *
  have hm3 : (m : Int) ≤ 3 := by omega
  go_enter Tryz.func35, Tryz.ntmps35
  go_wp2_with (first | (go_at_call 10; (with_reducible refine (x1 _ ?hh).mono ?_); (case hh => (repeat' (first | exact Below.refl _ _ | assumption | (with_reducible refine Below.drew ?_) | (with_reducible refine Below.setCell ?_ (by (first | (simp; done) | (simp; omega))) _) | (with_reducible refine below_drewN' ?_ _) | (refine Below.alloc ?_ (by (try simp only [World.size_alloc, World.size_drew, World.size_setCell]); omega) _) | (refine Below.trans ?_ (Below.mono (by assumption) (by (try simp only [World.size_alloc, World.size_drew, World.size_setCell]); omega)))))); rintro e w1 ⟨rfl, hb1⟩; (obtain ⟨hc1, hf1⟩ := bcell hb1; have z1 := hb1.size; (try simp only [World.size_alloc, World.size_drew, World.size_setCell] at z1); (try have q1a : w.heap.size < w1.heap.size := by omega); (try have q1b : w.heap.size + 1 < w1.heap.size := by omega); (try have q1c : w.heap.size + 1 + 1 < w1.heap.size := by omega); (try have q1d : w.heap.size + 1 + 1 + 1 < w1.heap.size := by omega); (try have q1e : wr.heap.size < w1.heap.size := by omega); (try have q1f : wr.heap.size + 1 < w1.heap.size := by omega))) | (go_at_call 59; (with_reducible refine (x2 _ ?hh).mono ?_); (case hh => (repeat' (first | exact Below.refl _ _ | assumption | (with_reducible refine Below.drew ?_) | (with_reducible refine Below.setCell ?_ (by (first | (simp; done) | (simp; omega))) _) | (with_reducible refine below_drewN' ?_ _) | (refine Below.alloc ?_ (by (try simp only [World.size_alloc, World.size_drew, World.size_setCell]); omega) _) | (refine Below.trans ?_ (Below.mono (by assumption) (by (try simp only [World.size_alloc, World.size_drew, World.size_setCell]); omega)))))); rintro e w2 ⟨rfl, hb2⟩; (obtain ⟨hc2, hf2⟩ := bcell hb2; have z2 := hb2.size; (try simp only [World.size_alloc, World.size_drew, World.size_setCell] at z2); (try have q2a : w.heap.size < w2.heap.size := by omega); (try have q2b : w.heap.size + 1 < w2.heap.size := by omega); (try have q2c : w.heap.size + 1 + 1 < w2.heap.size := by omega); (try have q2d : w.heap.size + 1 + 1 + 1 < w2.heap.size := by omega); (try have q2e : wr.heap.size < w2.heap.size := by omega); (try have q2f : wr.heap.size + 1 < w2.heap.size := by omega); (try have q2g : w1.heap.size < w2.heap.size := by omega); (try have q2h : w1.heap.size + 1 < w2.heap.size := by omega))) | (go_at_call 62; (with_reducible refine (x3 _ ?hh).mono ?_); (case hh => (repeat' (first | exact Below.refl _ _ | assumption | (with_reducible refine Below.drew ?_) | (with_reducible refine Below.setCell ?_ (by (first | (simp; done) | (simp; omega))) _) | (with_reducible refine below_drewN' ?_ _) | (refine Below.alloc ?_ (by (try simp only [World.size_alloc, World.size_drew, World.size_setCell]); omega) _) | (refine Below.trans ?_ (Below.mono (by assumption) (by (try simp only [World.size_alloc, World.size_drew, World.size_setCell]); omega)))))); rintro e w3 ⟨g1, c1, g2, c2, rfl, s1, s2, hb3⟩; have S1 : Aside (Sl w3 1 eI (.slice (some ⟨g1, 0, none⟩) m c1) dg) := s1; have S2 : Aside (Sl w3 1 eI (.slice (some ⟨g2, 0, none⟩) lw c2) ew) := s2; clear s1 s2; (obtain ⟨hc3, hf3⟩ := bcell hb3; have z3 := hb3.size; (try simp only [World.size_alloc, World.size_drew, World.size_setCell] at z3); (try have q3a : w.heap.size < w3.heap.size := by omega); (try have q3b : w.heap.size + 1 < w3.heap.size := by omega); (try have q3c : w.heap.size + 1 + 1 < w3.heap.size := by omega); (try have q3d : w.heap.size + 1 + 1 + 1 < w3.heap.size := by omega); (try have q3e : wr.heap.size < w3.heap.size := by omega); (try have q3f : wr.heap.size + 1 < w3.heap.size := by omega); (try have q3g : w2.heap.size < w3.heap.size := by omega); (try have q3h : w2.heap.size + 1 < w3.heap.size := by omega))) | (go_at_call 61; (with_reducible refine (x4 _ _ ?hh).mono ?_); (case hh => exact S2.out); rintro e w4 ⟨rfl, hb4⟩; (obtain ⟨hc4, hf4⟩ := bcell hb4; have z4 := hb4.size; (try simp only [World.size_alloc, World.size_drew, World.size_setCell] at z4); (try have q4a : w.heap.size < w4.heap.size := by omega); (try have q4b : w.heap.size + 1 < w4.heap.size := by omega); (try have q4c : w.heap.size + 1 + 1 < w4.heap.size := by omega); (try have q4d : w.heap.size + 1 + 1 + 1 < w4.heap.size := by omega); (try have q4e : wr.heap.size < w4.heap.size := by omega); (try have q4f : wr.heap.size + 1 < w4.heap.size := by omega); (try have q4g : w3.heap.size < w4.heap.size := by omega); (try have q4h : w3.heap.size + 1 < w4.heap.size := by omega))) | fail)
  go_ret3
  exact ⟨rfl, by (repeat' (first | exact Below.refl _ _ | assumption | (with_reducible refine Below.drew ?_) | (with_reducible refine Below.setCell ?_ (by (first | (simp; done) | (simp; omega))) _) | (with_reducible refine below_drewN' ?_ _) | (refine Below.alloc ?_ (by (try simp only [World.size_alloc, World.size_drew, World.size_setCell]); omega) _) | (refine Below.trans ?_ (Below.mono (by assumption) (by (try simp only [World.size_alloc, World.size_drew, World.size_setCell]); omega)))))⟩

set_option maxRecDepth 100000 in
set_option maxHeartbeats 4000000 in
theorem Plan_err (vb v vs : Value) (b : Brd) (worn : List Int) (ws : List (Value × List Int)) (w : World) (h : BrdAt w vb b) (hw : Sl w 1 eI v worn) (hs : Sl w 1 eR vs ws) (hx : ∀ x ∈ ws, Sl w 1 eI x.1 x.2) (E : Int) (he : planE b worn (ws.map (·.2)) = E) (hE : ¬ E = 0) (h1 : ws ≠ []) :
    Calls Tryz.prog 35 #[vb, v, vs] w (Ret (.tuple #[.slice none 0 0, .int .i64 0, .int .i64 (E)]) w) := by
  unfold planE at he
  by_cases hc : chk b = 0
  · rw [if_pos hc, List.length_map] at he
    by_cases hm : 3 < ws.length
    · rw [if_pos hm] at he
      subst he
      exact Plan_long vb v vs b worn ws w h hw hs hx hc hm
    · rw [if_neg hm] at he
      by_cases hf : frm b.nums.length worn (ws.map (·.2)) = 0
      · rw [if_pos hf] at he
        by_cases hM : planM worn (ws.map (·.2)) ≤ 1000000000
        · rw [if_pos hM] at he; exact absurd he.symm hE
        · rw [if_neg hM] at he
          subst he
          exact Plan_full vb v vs b worn ws w h hw hs hx hc h1 (by omega) ((wErr_frm _ _ _).trans hf) hM
      · rw [if_neg hf] at he
        exact Plan_form vb v vs b worn ws w h hw hs hx hc (by omega) E he hE
  · rw [if_neg hc] at he
    subst he
    exact Plan_chk vb v vs b worn ws w h hw hs hx hc

set_option maxRecDepth 100000 in
set_option maxHeartbeats 4000000 in
theorem Best_err (vb v vk : Value) (b : Brd) (worn week : List Int) (w : World) (h : BrdAt w vb b) (hw : Sl w 1 eI v worn) (hk : Sl w 1 eI vk week)
    (E : Int) (he : planE b worn [week] = E) (hE : ¬ E = 0) :
    Calls Tryz.prog 28 #[vb, v, vk] w (Ret (.tuple #[.int .i64 0, .int .i64 0, .int .i64 E]) w) := by
  have x1 := fun W (hW : Below w.heap.size w W) (hv : Sl W 1 eR (.slice (some ⟨w.heap.size + 1, 0, none⟩) 1 1) [(vk, week)]) => Plan_err vb v (.slice (some ⟨w.heap.size + 1, 0, none⟩) 1 1) b worn [(vk, week)] W (h.below hW) (hw.below hW) hv (fun x hm => by
    simp at hm; subst hm; exact hk.below hW) E he hE (by simp)
  obtain ⟨vr, vl, vn, rfl, hr, hl, hn⟩ := h
  obtain ⟨ar, cr, rfl, lr, _⟩ := hr
  obtain ⟨al, cl, rfl, ll, _⟩ := hl
  obtain ⟨an, cn, rfl, ln, _⟩ := hn
  obtain ⟨a, c, rfl, l1, _⟩ := hw
  obtain ⟨a2, c2, rfl, l2, _⟩ := hk
  have hsv : ∀ (W : World) (t1 : TypeId), W.heap.size = w.heap.size + 1 → Sl (W.alloc (.cells #[.slice a2 week.length c2] t1)) 1 eR (.slice (some ⟨w.heap.size + 1, 0, none⟩) 1 1) [((.slice a2 week.length c2 : Value), week)] := by
    intro W t1 hsz
    refine ⟨_, _, rfl, by simp, fun _ => ⟨w.heap.size + 1, 0, rfl, by simp; omega, ?_⟩⟩
    intro j x hx i y hy
    match j, hx with
    | 0, hx =>
      simp at hx; subst hx
      match i, hy with
      | 0, hy => simp at hy; subst hy; rw [← hsz]; go_simp
      | i + 1, hy => simp at hy
    | j + 1, hx => simp at hx
  have HSV : Aside _ := hsv
  clear he hsv
  generalize worn.length = lw at *
  generalize b.rings.length = lenr at *
  generalize b.lines.length = lenl at *
  generalize b.nums.length = lenn at *
  go_enter Tryz.func28, Tryz.ntmps28
  go_wp2_with (go_at_call 35; (with_reducible refine (x1 _ ?hh ?hv).mono ?_); (case hh => (repeat' (first | exact Below.refl _ _ | assumption | (with_reducible refine Below.drew ?_) | (with_reducible refine Below.setCell ?_ (by (first | (simp; done) | (simp; omega))) _) | (with_reducible refine below_drewN' ?_ _) | (refine Below.alloc ?_ (by (try simp only [World.size_alloc, World.size_drew, World.size_setCell]); omega) _) | (refine Below.trans ?_ (Below.mono (by assumption) (by (try simp only [World.size_alloc, World.size_drew, World.size_setCell]); omega)))))); (case hv => exact HSV.out _ _ (by simp)); rintro e w1 ⟨rfl, hb1⟩; (obtain ⟨hc1, hf1⟩ := bcell hb1; have z1 := hb1.size; (try simp only [World.size_alloc, World.size_drew, World.size_setCell] at z1); (try have q1a : w.heap.size < w1.heap.size := by omega); (try have q1b : w.heap.size + 1 < w1.heap.size := by omega); (try have q1c : w.heap.size + 1 + 1 < w1.heap.size := by omega); (try have q1d : w.heap.size + 1 + 1 + 1 < w1.heap.size := by omega); (try have q1e : wr.heap.size < w1.heap.size := by omega); (try have q1f : wr.heap.size + 1 < w1.heap.size := by omega)))
  go_ret3
  exact ⟨rfl, by (repeat' (first | exact Below.refl _ _ | assumption | (with_reducible refine Below.drew ?_) | (with_reducible refine Below.setCell ?_ (by (first | (simp; done) | (simp; omega))) _) | (with_reducible refine below_drewN' ?_ _) | (refine Below.alloc ?_ (by (try simp only [World.size_alloc, World.size_drew, World.size_setCell]); omega) _) | (refine Below.trans ?_ (Below.mono (by assumption) (by (try simp only [World.size_alloc, World.size_drew, World.size_setCell]); omega)))))⟩
end Go.Proofs.YtgceffpkhmjmkaaGreat
