/- Board, part Uc: Plan and Best where they succeed. -/
import Derived.Test.YtgceffpkhmjmkaaGreatUb
set_option linter.unusedVariables false
set_option linter.unusedSimpArgs false
namespace Go.Proofs.YtgceffpkhmjmkaaGreat
open Go.RowKit Go.Shelf

theorem inb_iff {lo hi n : Int} : inb lo hi n = true ↔ lo ≤ n ∧ n ≤ hi := by unfold inb; simp
theorem wErr_ok {n : Nat} {worn : List Int} {ws : List (Value × List Int)} (h : wErr (n : Int) worn ws = 0) :
    worn.length = n ∧ (∀ x ∈ ws, x.2.length = n) ∧ (∀ x ∈ worn, 0 ≤ x ∧ x ≤ 1000000000) ∧ (∀ x ∈ ws, ∀ y ∈ x.2, 0 ≤ y ∧ y ≤ 1000000) := by
  unfold wErr at h
  split at h
  · omega
  · rename_i h1
    split at h
    · omega
    · rename_i h2
      simp only [Bool.or_eq_true, not_or, bne_iff_ne, ne_eq, Decidable.not_not, List.any_eq_true, not_exists, not_and, Bool.not_eq_true', Bool.not_eq_false, List.all_eq_true, inb_iff] at h1 h2
      refine ⟨by have := h1.1; omega, fun x hx => by have := h1.2 x hx; omega, h2.1, fun x hx y hy => ?_⟩
      have := h2.2 x hx
      exact this y hy

/-- The least greatest wear. -/
def planM (worn : List Int) (ws : List (List Int)) : Int := Mw worn ws (bestP worn ws)

/-- What Plan leaves. -/
def PlanOk (worn : List Int) (ws : List (List Int)) (w : World) (e : Ending) (w' : World) : Prop :=
  ∃ g c, e = .returned (.tuple #[.slice (some ⟨g, 0, none⟩) ws.length c, .int .i64 (planM worn ws), .int .i64 0]) ∧ Sl w' 1 eI (.slice (some ⟨g, 0, none⟩) ws.length c) (digI worn.length ws.length (bestP worn ws)) ∧ Below w.heap.size w w'

set_option maxRecDepth 100000 in
set_option maxHeartbeats 4000000 in
theorem Plan_ok (vb v vs : Value) (b : Brd) (worn : List Int) (ws : List (Value × List Int)) (w : World) (h : BrdAt w vb b) (hw : Sl w 1 eI v worn) (hs : Sl w 1 eR vs ws) (hx : ∀ x ∈ ws, Sl w 1 eI x.1 x.2)
    (hc : chk b = 0) (hm1 : ws ≠ []) (hm2 : ws.length ≤ 3) (he : wErr b.nums.length worn ws = 0) (hM : planM worn (ws.map (·.2)) ≤ 1000000000) :
    Calls Tryz.prog 35 #[vb, v, vs] w (PlanOk worn (ws.map (·.2)) w) := by
  have g := good_of_chk hc
  obtain ⟨e1, e2, e3, e4⟩ := wErr_ok he
  have hn1 : worn ≠ [] := by
    intro e; rw [e] at e1
    have := List.length_pos_iff.2 g.lines
    have := g.same
    simp at e1; omega
  have gl := g.len
  have x1 := fun W (hW : Below w.heap.size w W) => check_any vb b W (h.below hW)
  have x2 := fun W (hW : Below w.heap.size w W) => wearError_any (b.nums.length : Int) v worn vs ws W (hw.below hW) (hs.below hW) (fun x hm => (hx x hm).below hW)
  have x3 := fun W (hW : Below w.heap.size w W) => evenest_any v vs worn ws W (hw.below hW) (hs.below hW) (fun x hm => (hx x hm).below hW) hn1 (by omega) hm1 (by omega) (fun x hx => (e2 x hx).trans e1.symm) (fun x hx => by have := e3 x hx; omega) (fun x hx y hy => by have := e4 x hx y hy; omega)
  have x4 : ∀ (W : World) (u : Value), Sl W 1 eI u (endw worn (ws.map (·.2)) (dig worn.length (ws.map (·.2)).length (bestP worn (ws.map (·.2))))) → Calls Tryz.prog 61 #[u] W (Ret (.int .i64 (planM worn (ws.map (·.2)))) W) := by
    intro W u hu
    refine max_any u _ W hu ?_
    intro e
    have h := endw_length worn.length (ws.map (·.2)) worn (dig worn.length (ws.map (·.2)).length (bestP worn (ws.map (·.2)))) rfl (fun wk hwk => by
      obtain ⟨z, hz, rfl⟩ := List.mem_map.1 hwk
      exact (e2 z hz).trans e1.symm)
    rw [e] at h
    have := List.length_pos_iff.2 hn1
    simp at h; omega
  unfold RetEven at x3
  unfold PlanOk
  rw [hc] at x1
  rw [he] at x2
  obtain ⟨vr, vl, vn, rfl, hr, hl, hn⟩ := h
  obtain ⟨ar, cr, rfl, lr, _⟩ := hr
  obtain ⟨al, cl, rfl, ll, _⟩ := hl
  obtain ⟨an, cn, rfl, ln, _⟩ := hn
  obtain ⟨a, c, rfl, l1, _⟩ := hw
  obtain ⟨a2, c2, rfl, l2, _⟩ := hs
  obtain ⟨M, hMM⟩ : ∃ M, planM worn (ws.map (·.2)) = M := ⟨_, rfl⟩
  rw [hMM] at x4 hM ⊢
  have HL : Aside ((ws.map (·.2)).length = ws.length) := List.length_map _
  generalize endw worn (ws.map (·.2)) (dig worn.length (ws.map (·.2)).length (bestP worn (ws.map (·.2)))) = ew at *
  generalize digI worn.length (ws.map (·.2)).length (bestP worn (ws.map (·.2))) = dg at *
  rw [HL.out] at x3 ⊢
  clear hMM e1 e2 e3 e4 g he hc hm1 hx hn1 HL
  generalize worn.length = lw at *
  generalize ws.length = m at *
  generalize b.rings.length = lenr at *
  generalize b.lines.length = lenl at *
  generalize b.nums.length = lenn at *
  have hm3 : (m : Int) ≤ 3 := by omega
  go_enter Tryz.func35, Tryz.ntmps35
  go_wp2_with (first | (go_at_call 10; (with_reducible refine (x1 _ ?hh).mono ?_); (case hh => (repeat' (first | exact Below.refl _ _ | assumption | (with_reducible refine Below.drew ?_) | (with_reducible refine Below.setCell ?_ (by (first | (simp; done) | (simp; omega))) _) | (with_reducible refine below_drewN' ?_ _) | (refine Below.alloc ?_ (by (try simp only [World.size_alloc, World.size_drew, World.size_setCell]); omega) _) | (refine Below.trans ?_ (Below.mono (by assumption) (by (try simp only [World.size_alloc, World.size_drew, World.size_setCell]); omega)))))); rintro e w1 ⟨rfl, hb1⟩; (obtain ⟨hc1, hf1⟩ := bcell hb1; have z1 := hb1.size; (try simp only [World.size_alloc, World.size_drew, World.size_setCell] at z1); (try have q1a : w.heap.size < w1.heap.size := by omega); (try have q1b : w.heap.size + 1 < w1.heap.size := by omega); (try have q1c : w.heap.size + 1 + 1 < w1.heap.size := by omega); (try have q1d : w.heap.size + 1 + 1 + 1 < w1.heap.size := by omega); (try have q1e : wr.heap.size < w1.heap.size := by omega); (try have q1f : wr.heap.size + 1 < w1.heap.size := by omega))) | (go_at_call 59; (with_reducible refine (x2 _ ?hh).mono ?_); (case hh => (repeat' (first | exact Below.refl _ _ | assumption | (with_reducible refine Below.drew ?_) | (with_reducible refine Below.setCell ?_ (by (first | (simp; done) | (simp; omega))) _) | (with_reducible refine below_drewN' ?_ _) | (refine Below.alloc ?_ (by (try simp only [World.size_alloc, World.size_drew, World.size_setCell]); omega) _) | (refine Below.trans ?_ (Below.mono (by assumption) (by (try simp only [World.size_alloc, World.size_drew, World.size_setCell]); omega)))))); rintro e w2 ⟨rfl, hb2⟩; (obtain ⟨hc2, hf2⟩ := bcell hb2; have z2 := hb2.size; (try simp only [World.size_alloc, World.size_drew, World.size_setCell] at z2); (try have q2a : w.heap.size < w2.heap.size := by omega); (try have q2b : w.heap.size + 1 < w2.heap.size := by omega); (try have q2c : w.heap.size + 1 + 1 < w2.heap.size := by omega); (try have q2d : w.heap.size + 1 + 1 + 1 < w2.heap.size := by omega); (try have q2e : wr.heap.size < w2.heap.size := by omega); (try have q2f : wr.heap.size + 1 < w2.heap.size := by omega); (try have q2g : w1.heap.size < w2.heap.size := by omega); (try have q2h : w1.heap.size + 1 < w2.heap.size := by omega))) | (go_at_call 62; (with_reducible refine (x3 _ ?hh).mono ?_); (case hh => (repeat' (first | exact Below.refl _ _ | assumption | (with_reducible refine Below.drew ?_) | (with_reducible refine Below.setCell ?_ (by (first | (simp; done) | (simp; omega))) _) | (with_reducible refine below_drewN' ?_ _) | (refine Below.alloc ?_ (by (try simp only [World.size_alloc, World.size_drew, World.size_setCell]); omega) _) | (refine Below.trans ?_ (Below.mono (by assumption) (by (try simp only [World.size_alloc, World.size_drew, World.size_setCell]); omega)))))); rintro e w3 ⟨g1, c1, g2, c2, rfl, s1, s2, hb3⟩; have S1 : Aside (Sl w3 1 eI (.slice (some ⟨g1, 0, none⟩) m c1) dg) := s1; have S2 : Aside (Sl w3 1 eI (.slice (some ⟨g2, 0, none⟩) lw c2) ew) := s2; clear s1 s2; (obtain ⟨hc3, hf3⟩ := bcell hb3; have z3 := hb3.size; (try simp only [World.size_alloc, World.size_drew, World.size_setCell] at z3); (try have q3a : w.heap.size < w3.heap.size := by omega); (try have q3b : w.heap.size + 1 < w3.heap.size := by omega); (try have q3c : w.heap.size + 1 + 1 < w3.heap.size := by omega); (try have q3d : w.heap.size + 1 + 1 + 1 < w3.heap.size := by omega); (try have q3e : wr.heap.size < w3.heap.size := by omega); (try have q3f : wr.heap.size + 1 < w3.heap.size := by omega); (try have q3g : w2.heap.size < w3.heap.size := by omega); (try have q3h : w2.heap.size + 1 < w3.heap.size := by omega))) | (go_at_call 61; (with_reducible refine (x4 _ _ ?hh).mono ?_); (case hh => exact S2.out); rintro e w4 ⟨rfl, hb4⟩; (obtain ⟨hc4, hf4⟩ := bcell hb4; have z4 := hb4.size; (try simp only [World.size_alloc, World.size_drew, World.size_setCell] at z4); (try have q4a : w.heap.size < w4.heap.size := by omega); (try have q4b : w.heap.size + 1 < w4.heap.size := by omega); (try have q4c : w.heap.size + 1 + 1 < w4.heap.size := by omega); (try have q4d : w.heap.size + 1 + 1 + 1 < w4.heap.size := by omega); (try have q4e : wr.heap.size < w4.heap.size := by omega); (try have q4f : wr.heap.size + 1 < w4.heap.size := by omega); (try have q4g : w3.heap.size < w4.heap.size := by omega); (try have q4h : w3.heap.size + 1 < w4.heap.size := by omega))) | (go_at_call 61; (with_reducible refine (x4 _ _ (Sl.below S2.out hb4)).mono ?_); rintro e w5 ⟨rfl, hb5⟩; (obtain ⟨hc5, hf5⟩ := bcell hb5; have z5 := hb5.size; (try simp only [World.size_alloc, World.size_drew, World.size_setCell] at z5); (try have q5a : w.heap.size < w5.heap.size := by omega); (try have q5b : w.heap.size + 1 < w5.heap.size := by omega); (try have q5c : w.heap.size + 1 + 1 < w5.heap.size := by omega); (try have q5d : w.heap.size + 1 + 1 + 1 < w5.heap.size := by omega); (try have q5e : wr.heap.size < w5.heap.size := by omega); (try have q5f : wr.heap.size + 1 < w5.heap.size := by omega); (try have q5g : w4.heap.size < w5.heap.size := by omega); (try have q5h : w4.heap.size + 1 < w5.heap.size := by omega))))
  go_ret3
  exact ⟨g1, c1, rfl, Sl.below (Sl.below S1.out hb4) hb5, by (repeat' (first | exact Below.refl _ _ | assumption | (with_reducible refine Below.drew ?_) | (with_reducible refine Below.setCell ?_ (by (first | (simp; done) | (simp; omega))) _) | (with_reducible refine below_drewN' ?_ _) | (refine Below.alloc ?_ (by (try simp only [World.size_alloc, World.size_drew, World.size_setCell]); omega) _) | (refine Below.trans ?_ (Below.mono (by assumption) (by (try simp only [World.size_alloc, World.size_drew, World.size_setCell]); omega)))))⟩

/-- What Best leaves: the first turn of the plan for one week. -/
def bestK (worn week : List Int) : Int := (digI worn.length 1 (bestP worn [week]))[0]?.getD 0

set_option maxRecDepth 100000 in
set_option maxHeartbeats 4000000 in
theorem Best_ok (vb v vk : Value) (b : Brd) (worn week : List Int) (w : World) (h : BrdAt w vb b) (hw : Sl w 1 eI v worn) (hk : Sl w 1 eI vk week)
    (hc : chk b = 0) (he : wErr b.nums.length worn [(vk, week)] = 0) (hM : planM worn [week] ≤ 1000000000) :
    Calls Tryz.prog 28 #[vb, v, vk] w (Ret (.tuple #[.int .i64 (bestK worn week), .int .i64 (planM worn [week]), .int .i64 0]) w) := by
  have x1 := fun W (hW : Below w.heap.size w W) (hv : Sl W 1 eR (.slice (some ⟨w.heap.size + 1, 0, none⟩) 1 1) [(vk, week)]) => Plan_ok vb v (.slice (some ⟨w.heap.size + 1, 0, none⟩) 1 1) b worn [(vk, week)] W (h.below hW) (hw.below hW) hv (fun x hm => by
    simp at hm; subst hm; exact hk.below hW) hc (by simp) (by simp) he hM
  unfold PlanOk at x1
  simp only [List.map_cons, List.map_nil, List.length_cons, List.length_nil, Nat.reduceAdd] at x1
  have hg : ∀ (W : World) (gg cc : Nat), Sl W 1 eI (.slice (some ⟨gg, 0, none⟩) 1 cc) (digI worn.length 1 (bestP worn [week])) → W.cell? ⟨gg, 0, none⟩ = some (.int .i64 (bestK worn week)) := by
    intro W gg cc ⟨a', c', e', hl', hs'⟩
    have hln := digI_length worn.length 1 (bestP worn [week])
    obtain ⟨bb, oo, ha', hbb, hcc⟩ := hs' (by intro e; rw [e] at hln; simp at hln)
    have he : bb = gg ∧ oo = 0 := by rw [ha'] at e'; simp at e'; omega
    obtain ⟨rfl, rfl⟩ := he
    obtain ⟨x, hx⟩ : ∃ x, (digI worn.length 1 (bestP worn [week]))[0]? = some x := ⟨_, List.getElem?_eq_getElem (by omega)⟩
    have := hcc 0 x hx 0 (.int .i64 x) rfl
    unfold bestK; rw [hx]; simpa using this
  have HG : Aside _ := hg
  clear hg
  obtain ⟨vr, vl, vn, rfl, hr, hl, hn⟩ := h
  obtain ⟨ar, cr, rfl, lr, _⟩ := hr
  obtain ⟨al, cl, rfl, ll, _⟩ := hl
  obtain ⟨an, cn, rfl, ln, _⟩ := hn
  obtain ⟨a, c, rfl, l1, _⟩ := hw
  obtain ⟨a2, c2, rfl, l2, _⟩ := hk
  have hsv : ∀ (W : World) (t1 : TypeId), W.heap.size = w.heap.size + 1 → Sl (W.alloc (.cells #[.slice a2 week.length c2] t1)) 1 eR (.slice (some ⟨w.heap.size + 1, 0, none⟩) 1 1) [((.slice a2 week.length c2 : Value), week)] := by
    intro W t1 hsz
    refine ⟨_, _, rfl, by simp, fun _ => ⟨w.heap.size + 1, 0, rfl, by simp; omega, ?_⟩⟩
    intro j x hx i y hy
    match j, hx with
    | 0, hx =>
      simp at hx; subst hx
      match i, hy with
      | 0, hy => simp at hy; subst hy; rw [← hsz]; go_simp
      | i + 1, hy => simp at hy
    | j + 1, hx => simp at hx
  have HSV : Aside _ := hsv
  clear hc he hsv
  obtain ⟨M, hMM⟩ : ∃ M, planM worn [week] = M := ⟨_, rfl⟩
  rw [hMM] at x1 hM ⊢
  obtain ⟨K, hKK⟩ : ∃ K, bestK worn week = K := ⟨_, rfl⟩
  rw [hKK] at HG ⊢
  clear hMM hKK
  generalize digI worn.length 1 (bestP worn [week]) = dg at *
  generalize worn.length = lw at *
  generalize b.rings.length = lenr at *
  generalize b.lines.length = lenl at *
  generalize b.nums.length = lenn at *
  go_enter Tryz.func28, Tryz.ntmps28
  go_wp2_with (go_at_call 35; (with_reducible refine (x1 _ ?hh ?hv).mono ?_); (case hh => (repeat' (first | exact Below.refl _ _ | assumption | (with_reducible refine Below.drew ?_) | (with_reducible refine Below.setCell ?_ (by (first | (simp; done) | (simp; omega))) _) | (with_reducible refine below_drewN' ?_ _) | (refine Below.alloc ?_ (by (try simp only [World.size_alloc, World.size_drew, World.size_setCell]); omega) _) | (refine Below.trans ?_ (Below.mono (by assumption) (by (try simp only [World.size_alloc, World.size_drew, World.size_setCell]); omega)))))); (case hv => exact HSV.out _ _ (by simp)); rintro e w1 ⟨gg, cc, rfl, s1, hb1⟩; have k1 := HG.out _ _ _ s1; clear s1)
  go_ret3
  exact ⟨rfl, by (repeat' (first | exact Below.refl _ _ | assumption | (with_reducible refine Below.drew ?_) | (with_reducible refine Below.setCell ?_ (by (first | (simp; done) | (simp; omega))) _) | (with_reducible refine below_drewN' ?_ _) | (refine Below.alloc ?_ (by (try simp only [World.size_alloc, World.size_drew, World.size_setCell]); omega) _) | (refine Below.trans ?_ (Below.mono (by assumption) (by (try simp only [World.size_alloc, World.size_drew, World.size_setCell]); omega)))))⟩
end Go.Proofs.YtgceffpkhmjmkaaGreat
