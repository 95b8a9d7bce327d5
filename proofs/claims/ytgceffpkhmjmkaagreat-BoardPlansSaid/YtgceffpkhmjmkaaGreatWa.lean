/- Board, part Wa: turns and wear that are refused. -/
import Derived.Test.YtgceffpkhmjmkaaGreatUc
import Derived.Test.YtgceffpkhmjmkaaGreatS
set_option linter.unusedVariables false
set_option linter.unusedSimpArgs false
namespace Go.Proofs.YtgceffpkhmjmkaaGreat
open Go.RowKit Go.Shelf

theorem sl_week (W : World) (g : Nat) (hg : g = W.heap.size) (t : TypeId) (v : Value) (xs : List Int) : Sl (W.alloc (.cells #[v] t)) 1 eR (.slice (some ⟨g, 0, none⟩) 1 1) [(v, xs)] := by
  subst hg
  refine ⟨_, _, rfl, by simp, fun _ => ⟨W.heap.size, 0, rfl, by simp, ?_⟩⟩
  intro j x hx i y hy
  match j, hx with
  | 0, hx =>
    simp at hx; subst hx
    match i, hy with
    | 0, hy => simp at hy; subst hy; go_simp
    | i + 1, hy => simp at hy
  | j + 1, hx => simp at hx

/-- What Wear leaves. -/
def WearOk (xs : List Int) (w : World) (e : Ending) (w' : World) : Prop := ∃ v, e = .returned (.tuple #[v, .int .i64 0]) ∧ Sl w' 1 eI v xs ∧ Below w.heap.size w w'
set_option maxRecDepth 100000 in
set_option maxHeartbeats 4000000 in
theorem Wear_ok (vb v vk : Value) (b : Brd) (worn week : List Int) (k : Nat) (w : World) (h : BrdAt w vb b) (hw : Sl w 1 eI v worn) (hk : Sl w 1 eI vk week)
    (hc : chk b = 0) (he : wErr b.nums.length worn [(vk, week)] = 0) (hkn : k < worn.length) (hM : mx (aft worn week k) ≤ 1000000000) :
    Calls Tryz.prog 27 #[vb, v, vk, .int .i64 k] w (WearOk (aft worn week k) w) := by
  have g := good_of_chk hc
  obtain ⟨e1, e2, e3, e4⟩ := wErr_ok he
  have e5 := e2 _ (List.mem_cons_self ..)
  have e6 := e4 _ (List.mem_cons_self ..)
  simp only [] at e5 e6
  have gl := g.len
  have x1 := fun W (hW : Below w.heap.size w W) => check_any vb b W (h.below hW)
  have x2 := fun W (hW : Below w.heap.size w W) (vs : Value) (hv : Sl W 1 eR vs [(vk, week)]) => wearError_any (b.nums.length : Int) v worn vs [(vk, week)] W (hw.below hW) hv (fun x hm => by simp at hm; subst hm; exact hk.below hW)
  have x3 := fun W (hW : Below w.heap.size w W) (vs : Value) (hv : Sl W 1 eI vs [(k : Int)]) => within_any 0 ((worn.length : Int) - 1) vs [(k : Int)] W hv
  have x4 := fun W (hW : Below w.heap.size w W) => after_any v vk worn week k W (hw.below hW) (hk.below hW) (by omega) (by omega) (by omega) (fun x hx => by have := e3 x hx; omega) (fun x hx => by have := e6 x hx; omega)
  have x5 := fun W (vs : Value) (hv : Sl W 1 eI vs (aft worn week k)) => max_any vs _ W hv (by intro e; have := congrArg List.length e; rw [aft_length, List.length_nil] at this; omega)
  rw [hc] at x1
  rw [he] at x2
  have hin : ([(k : Int)].all (inb 0 ((worn.length : Int) - 1))) = true := by unfold inb; simp; omega
  rw [hin] at x3
  unfold RetRow at x4
  unfold WearOk
  rw [aft_length] at x4
  obtain ⟨M, hMM⟩ : ∃ M, mx (aft worn week k) = M := ⟨_, rfl⟩
  rw [hMM] at x5 hM
  obtain ⟨vr, vl, vn, rfl, hr, hl, hn⟩ := h
  obtain ⟨ar, cr, rfl, lr, _⟩ := hr
  obtain ⟨al, cl, rfl, ll, _⟩ := hl
  obtain ⟨an, cn, rfl, ln, _⟩ := hn
  obtain ⟨a, c, rfl, l1, _⟩ := hw
  obtain ⟨a2, c2, rfl, l2, _⟩ := hk
  have HAL : Aside ((aft worn week k).length = week.length) := aft_length _ _ _
  generalize aft worn week k = A at *
  generalize worn.length = lw at *
  generalize week.length = lk at *
  generalize b.rings.length = lenr at *
  generalize b.lines.length = lenl at *
  generalize b.nums.length = lenn at *
  clear hMM e2 e3 e4 e6 hin g he hc
  subst e1
  subst e5
  have hk1 : 1 ≤ (lk : Int) := by omega
  go_enter Tryz.func27, Tryz.ntmps27
  go_wp2_with (first | (go_at_call 10; (with_reducible refine (x1 _ ?hh).mono ?_); (case hh => (repeat' (first | exact Below.refl _ _ | assumption | (with_reducible refine Below.drew ?_) | (with_reducible refine Below.setCell ?_ (by (first | (simp; done) | (simp; omega))) _) | (with_reducible refine below_drewN' ?_ _) | (refine Below.alloc ?_ (by (try simp only [World.size_alloc, World.size_drew, World.size_setCell]); omega) _) | (refine Below.trans ?_ (Below.mono (by assumption) (by (try simp only [World.size_alloc, World.size_drew, World.size_setCell]); omega)))))); rintro e w1 ⟨rfl, hb1⟩; (obtain ⟨hc1, hf1⟩ := bcell hb1; have z1 := hb1.size; (try simp only [World.size_alloc, World.size_drew, World.size_setCell] at z1); (try have q1a : w.heap.size < w1.heap.size := by omega); (try have q1b : w.heap.size + 1 < w1.heap.size := by omega); (try have q1c : w.heap.size + 1 + 1 < w1.heap.size := by omega); (try have q1d : w.heap.size + 1 + 1 + 1 < w1.heap.size := by omega); (try have q1e : wr.heap.size < w1.heap.size := by omega); (try have q1f : wr.heap.size + 1 < w1.heap.size := by omega))) | (go_at_call 59; (with_reducible refine (x2 _ ?hh _ (sl_week _ _ rfl _ _ _)).mono ?_); (case hh => (repeat' (first | exact Below.refl _ _ | assumption | (with_reducible refine Below.drew ?_) | (with_reducible refine Below.setCell ?_ (by (first | (simp; done) | (simp; omega))) _) | (with_reducible refine below_drewN' ?_ _) | (refine Below.alloc ?_ (by (try simp only [World.size_alloc, World.size_drew, World.size_setCell]); omega) _) | (refine Below.trans ?_ (Below.mono (by assumption) (by (try simp only [World.size_alloc, World.size_drew, World.size_setCell]); omega)))))); rintro e w2 ⟨rfl, hb2⟩; (obtain ⟨hc2, hf2⟩ := bcell hb2; have z2 := hb2.size; (try simp only [World.size_alloc, World.size_drew, World.size_setCell] at z2); (try have q2a : w.heap.size < w2.heap.size := by omega); (try have q2b : w.heap.size + 1 < w2.heap.size := by omega); (try have q2c : w.heap.size + 1 + 1 < w2.heap.size := by omega); (try have q2d : w.heap.size + 1 + 1 + 1 < w2.heap.size := by omega); (try have q2e : wr.heap.size < w2.heap.size := by omega); (try have q2f : wr.heap.size + 1 < w2.heap.size := by omega); (try have q2g : w1.heap.size < w2.heap.size := by omega); (try have q2h : w1.heap.size + 1 < w2.heap.size := by omega))) | (go_at_call 55; (with_reducible refine (x3 _ ?hh _ (sl_one _ _ rfl _ _)).mono ?_); (case hh => (repeat' (first | exact Below.refl _ _ | assumption | (with_reducible refine Below.drew ?_) | (with_reducible refine Below.setCell ?_ (by (first | (simp; done) | (simp; omega))) _) | (with_reducible refine below_drewN' ?_ _) | (refine Below.alloc ?_ (by (try simp only [World.size_alloc, World.size_drew, World.size_setCell]); omega) _) | (refine Below.trans ?_ (Below.mono (by assumption) (by (try simp only [World.size_alloc, World.size_drew, World.size_setCell]); omega)))))); rintro e w3 ⟨rfl, hb3⟩; (obtain ⟨hc3, hf3⟩ := bcell hb3; have z3 := hb3.size; (try simp only [World.size_alloc, World.size_drew, World.size_setCell] at z3); (try have q3a : w.heap.size < w3.heap.size := by omega); (try have q3b : w.heap.size + 1 < w3.heap.size := by omega); (try have q3c : w.heap.size + 1 + 1 < w3.heap.size := by omega); (try have q3d : w.heap.size + 1 + 1 + 1 < w3.heap.size := by omega); (try have q3e : wr.heap.size < w3.heap.size := by omega); (try have q3f : wr.heap.size + 1 < w3.heap.size := by omega); (try have q3g : w2.heap.size < w3.heap.size := by omega); (try have q3h : w2.heap.size + 1 < w3.heap.size := by omega))) | (go_at_call 60; (with_reducible refine (x4 _ ?hh).mono ?_); (case hh => (repeat' (first | exact Below.refl _ _ | assumption | (with_reducible refine Below.drew ?_) | (with_reducible refine Below.setCell ?_ (by (first | (simp; done) | (simp; omega))) _) | (with_reducible refine below_drewN' ?_ _) | (refine Below.alloc ?_ (by (try simp only [World.size_alloc, World.size_drew, World.size_setCell]); omega) _) | (refine Below.trans ?_ (Below.mono (by assumption) (by (try simp only [World.size_alloc, World.size_drew, World.size_setCell]); omega)))))); rintro e w4 ⟨g4, rfl, hg4, hown, hb4⟩; have S4 : Aside (Sl w4 1 eI (.slice (some ⟨g4, 0, none⟩) lk lk) A) := sl_of_ints' (by rw [HAL.out]; omega) hown HAL.out.symm; clear hown; (obtain ⟨hc4, hf4⟩ := bcell hb4; have z4 := hb4.size; (try simp only [World.size_alloc, World.size_drew, World.size_setCell] at z4); (try have q4a : w.heap.size < w4.heap.size := by omega); (try have q4b : w.heap.size + 1 < w4.heap.size := by omega); (try have q4c : w.heap.size + 1 + 1 < w4.heap.size := by omega); (try have q4d : w.heap.size + 1 + 1 + 1 < w4.heap.size := by omega); (try have q4e : wr.heap.size < w4.heap.size := by omega); (try have q4f : wr.heap.size + 1 < w4.heap.size := by omega); (try have q4g : w3.heap.size < w4.heap.size := by omega); (try have q4h : w3.heap.size + 1 < w4.heap.size := by omega))) | (go_at_call 61; (with_reducible refine (x5 _ _ S4.out).mono ?_); rintro e w5 ⟨rfl, hb5⟩; (obtain ⟨hc5, hf5⟩ := bcell hb5; have z5 := hb5.size; (try simp only [World.size_alloc, World.size_drew, World.size_setCell] at z5); (try have q5a : w.heap.size < w5.heap.size := by omega); (try have q5b : w.heap.size + 1 < w5.heap.size := by omega); (try have q5c : w.heap.size + 1 + 1 < w5.heap.size := by omega); (try have q5d : w.heap.size + 1 + 1 + 1 < w5.heap.size := by omega); (try have q5e : wr.heap.size < w5.heap.size := by omega); (try have q5f : wr.heap.size + 1 < w5.heap.size := by omega); (try have q5g : w4.heap.size < w5.heap.size := by omega); (try have q5h : w4.heap.size + 1 < w5.heap.size := by omega))))
  go_ret2
  exact ⟨_, rfl, Sl.below S4.out hb5, by (repeat' (first | exact Below.refl _ _ | assumption | (with_reducible refine Below.drew ?_) | (with_reducible refine Below.setCell ?_ (by (first | (simp; done) | (simp; omega))) _) | (with_reducible refine below_drewN' ?_ _) | (refine Below.alloc ?_ (by (try simp only [World.size_alloc, World.size_drew, World.size_setCell]); omega) _) | (refine Below.trans ?_ (Below.mono (by assumption) (by (try simp only [World.size_alloc, World.size_drew, World.size_setCell]); omega)))))⟩

/-- The errors of wear, for so many sectors; the weeks' values apart. -/
def frm (n : Int) (worn : List Int) (ws : List (List Int)) : Int :=
  if ((worn.length : Int) != n) || ws.any (fun x => (x.length : Int) != n) then 4
  else if !(worn.all (inb 0 1000000000)) || ws.any (fun x => !(x.all (inb 0 1000000))) then 2 else 0
theorem wErr_frm (n : Int) (worn : List Int) (ws : List (Value × List Int)) : wErr n worn ws = frm n worn (ws.map (·.2)) := by
  unfold wErr frm
  rw [List.any_map, List.any_map]
  rfl

set_option maxRecDepth 100000 in
set_option maxHeartbeats 4000000 in
theorem Turn_chk (v : Value) (b : Brd) (k : Int) (w : World) (h : BrdAt w v b) (hc : ¬ chk b = 0) :
    Calls Tryz.prog 26 #[v, .int .i64 k] w (Ret (.tuple #[.agg #[.int .i64 0, .int .i64 0, .slice none 0 0, .slice none 0 0, .slice none 0 0, .int .i64 0], .int .i64 (chk b)]) w) := by
  have x1 := fun W (hW : Below w.heap.size w W) => check_any v b W (h.below hW)
  obtain ⟨vr, vl, vn, rfl, hr, hl, hn⟩ := h
  obtain ⟨ar, cr, rfl, lr, _⟩ := hr
  obtain ⟨al, cl, rfl, ll, _⟩ := hl
  obtain ⟨an, cn, rfl, ln, _⟩ := hn
  generalize chk b = c at *
  generalize b.rings.length = lenr at *
  generalize b.lines.length = lenl at *
  generalize b.nums.length = lenn at *
  go_enter Tryz.func26, Tryz.ntmps26
  go_wp2_with (go_at_call 10; (with_reducible refine (x1 _ ?hh).mono ?_); (case hh => (repeat' (first | exact Below.refl _ _ | assumption | (with_reducible refine Below.drew ?_) | (with_reducible refine Below.setCell ?_ (by (first | (simp; done) | (simp; omega))) _) | (with_reducible refine below_drewN' ?_ _) | (refine Below.alloc ?_ (by (try simp only [World.size_alloc, World.size_drew, World.size_setCell]); omega) _) | (refine Below.trans ?_ (Below.mono (by assumption) (by (try simp only [World.size_alloc, World.size_drew, World.size_setCell]); omega)))))); rintro e w1 ⟨rfl, hb1⟩; (obtain ⟨hc1, hf1⟩ := bcell hb1; have z1 := hb1.size; (try simp only [World.size_alloc, World.size_drew, World.size_setCell] at z1); (try have q1a : w.heap.size < w1.heap.size := by omega); (try have q1b : w.heap.size + 1 < w1.heap.size := by omega); (try have q1c : w.heap.size + 1 + 1 < w1.heap.size := by omega); (try have q1d : w.heap.size + 1 + 1 + 1 < w1.heap.size := by omega); (try have q1e : wr.heap.size < w1.heap.size := by omega); (try have q1f : wr.heap.size + 1 < w1.heap.size := by omega)))
  obtain ⟨V, hV⟩ : ∃ V, V = ((((((w1.setCell ⟨w.heap.size + 1, 0, none⟩ (.int .i64 0)).setCell ⟨w.heap.size + 1, 1, none⟩ (.int .i64 0)).setCell ⟨w.heap.size + 1, 2, none⟩ (.slice none 0 0)).setCell ⟨w.heap.size + 1, 3, none⟩ (.slice none 0 0)).setCell ⟨w.heap.size + 1, 4, none⟩ (.slice none 0 0)).setCell ⟨w.heap.size + 1, 5, none⟩ (.int .i64 0)) := ⟨_, rfl⟩
  have p0 : V.cell? ⟨w.heap.size + 1, 0, none⟩ = some (.int .i64 0) := by rw [hV]; clear hV; (first | (go_simp; done) | (go_simp; refine World.cell?_setCell_same' _ _ _ ?_; (repeat (with_reducible refine some_set ?_)); go_simp))
  have p1 : V.cell? ⟨w.heap.size + 1, 1, none⟩ = some (.int .i64 0) := by rw [hV]; clear hV; (first | (go_simp; done) | (go_simp; refine World.cell?_setCell_same' _ _ _ ?_; (repeat (with_reducible refine some_set ?_)); go_simp))
  have p2 : V.cell? ⟨w.heap.size + 1, 2, none⟩ = some (.slice none 0 0) := by rw [hV]; clear hV; (first | (go_simp; done) | (go_simp; refine World.cell?_setCell_same' _ _ _ ?_; (repeat (with_reducible refine some_set ?_)); go_simp))
  have p3 : V.cell? ⟨w.heap.size + 1, 3, none⟩ = some (.slice none 0 0) := by rw [hV]; clear hV; (first | (go_simp; done) | (go_simp; refine World.cell?_setCell_same' _ _ _ ?_; (repeat (with_reducible refine some_set ?_)); go_simp))
  have p4 : V.cell? ⟨w.heap.size + 1, 4, none⟩ = some (.slice none 0 0) := by rw [hV]; clear hV; (first | (go_simp; done) | (go_simp; refine World.cell?_setCell_same' _ _ _ ?_; (repeat (with_reducible refine some_set ?_)); go_simp))
  have p5 : V.cell? ⟨w.heap.size + 1, 5, none⟩ = some (.int .i64 0) := by rw [hV]; clear hV; (first | (go_simp; done) | (go_simp; refine World.cell?_setCell_same' _ _ _ ?_; (repeat (with_reducible refine some_set ?_)); go_simp))
  have hbV : Below w.heap.size w V := by rw [hV]; clear hV; (repeat' (first | exact Below.refl _ _ | assumption | (with_reducible refine Below.drew ?_) | (with_reducible refine Below.setCell ?_ (by (first | (simp; done) | (simp; omega))) _) | (with_reducible refine below_drewN' ?_ _) | (refine Below.alloc ?_ (by (try simp only [World.size_alloc, World.size_drew, World.size_setCell]); omega) _) | (refine Below.trans ?_ (Below.mono (by assumption) (by (try simp only [World.size_alloc, World.size_drew, World.size_setCell]); omega)))))
  rw [← hV]
  clear hV
  exact bodyPost_ret (v := .tuple #[.agg #[.int .i64 0, .int .i64 0, .slice none 0 0, .slice none 0 0, .slice none 0 0, .int .i64 0], .int .i64 c]) (by simp [results, Tryz.results26, go_sem, p0, p1, p2, p3, p4, p5]) rfl ⟨rfl, hbV⟩

set_option maxRecDepth 100000 in
set_option maxHeartbeats 4000000 in
theorem Turn_range (v : Value) (b : Brd) (k : Int) (w : World) (h : BrdAt w v b) (hc : chk b = 0) (hk : ¬ (0 ≤ k ∧ k < b.nums.length)) :
    Calls Tryz.prog 26 #[v, .int .i64 k] w (Ret (.tuple #[.agg #[.int .i64 0, .int .i64 0, .slice none 0 0, .slice none 0 0, .slice none 0 0, .int .i64 0], .int .i64 3]) w) := by
  have g := good_of_chk hc
  have gl := g.len
  have x1 := fun W (hW : Below w.heap.size w W) => check_any v b W (h.below hW)
  rw [hc] at x1
  have x2 := fun W kk hkk t => within_any 0 ((b.nums.length : Int) - 1) _ [k] _ (sl_one W kk hkk t k)
  have e2 : ([k].all (inb 0 ((b.nums.length : Int) - 1))) = false := by
    unfold inb; simp; omega
  rw [e2] at x2
  have u1 : IntKind.i64.wrap ((b.nums.length : Int) - 1) = (b.nums.length : Int) - 1 := IntWalk.i64_in _ (by omega)
  obtain ⟨vr, vl, vn, rfl, hr, hl, hn⟩ := h
  obtain ⟨ar, cr, rfl, lr, _⟩ := hr
  obtain ⟨al, cl, rfl, ll, _⟩ := hl
  obtain ⟨an, cn, rfl, ln, _⟩ := hn
  generalize b.rings.length = lenr at *
  generalize b.lines.length = lenl at *
  generalize b.nums.length = lenn at *
  clear g gl hc hk e2
  go_enter Tryz.func26, Tryz.ntmps26
  go_wp2_with (first | (go_at_call 10; (with_reducible refine (x1 _ ?hh).mono ?_); (case hh => (repeat' (first | exact Below.refl _ _ | assumption | (with_reducible refine Below.drew ?_) | (with_reducible refine Below.setCell ?_ (by (first | (simp; done) | (simp; omega))) _) | (with_reducible refine below_drewN' ?_ _) | (refine Below.alloc ?_ (by (try simp only [World.size_alloc, World.size_drew, World.size_setCell]); omega) _) | (refine Below.trans ?_ (Below.mono (by assumption) (by (try simp only [World.size_alloc, World.size_drew, World.size_setCell]); omega)))))); rintro e w1 ⟨rfl, hb1⟩; (obtain ⟨hc1, hf1⟩ := bcell hb1; have z1 := hb1.size; (try simp only [World.size_alloc, World.size_drew, World.size_setCell] at z1); (try have q1a : w.heap.size < w1.heap.size := by omega); (try have q1b : w.heap.size + 1 < w1.heap.size := by omega); (try have q1c : w.heap.size + 1 + 1 < w1.heap.size := by omega); (try have q1d : w.heap.size + 1 + 1 + 1 < w1.heap.size := by omega); (try have q1e : wr.heap.size < w1.heap.size := by omega); (try have q1f : wr.heap.size + 1 < w1.heap.size := by omega))) | (go_at_call 55; (with_reducible refine (x2 _ _ (by simp) _).mono ?_); rintro e w2 ⟨rfl, hb2⟩; (obtain ⟨hc2, hf2⟩ := bcell hb2; have z2 := hb2.size; (try simp only [World.size_alloc, World.size_drew, World.size_setCell] at z2); (try have q2a : w.heap.size < w2.heap.size := by omega); (try have q2b : w.heap.size + 1 < w2.heap.size := by omega); (try have q2c : w.heap.size + 1 + 1 < w2.heap.size := by omega); (try have q2d : w.heap.size + 1 + 1 + 1 < w2.heap.size := by omega); (try have q2e : wr.heap.size < w2.heap.size := by omega); (try have q2f : wr.heap.size + 1 < w2.heap.size := by omega); (try have q2g : w1.heap.size < w2.heap.size := by omega); (try have q2h : w1.heap.size + 1 < w2.heap.size := by omega))))
  obtain ⟨V, hV⟩ : ∃ V, V = ((((((w2.setCell ⟨w.heap.size + 1, 0, none⟩ (.int .i64 0)).setCell ⟨w.heap.size + 1, 1, none⟩ (.int .i64 0)).setCell ⟨w.heap.size + 1, 2, none⟩ (.slice none 0 0)).setCell ⟨w.heap.size + 1, 3, none⟩ (.slice none 0 0)).setCell ⟨w.heap.size + 1, 4, none⟩ (.slice none 0 0)).setCell ⟨w.heap.size + 1, 5, none⟩ (.int .i64 0)) := ⟨_, rfl⟩
  have p0 : V.cell? ⟨w.heap.size + 1, 0, none⟩ = some (.int .i64 0) := by rw [hV]; clear hV; (first | (go_simp; done) | (go_simp; refine World.cell?_setCell_same' _ _ _ ?_; (repeat (with_reducible refine some_set ?_)); go_simp))
  have p1 : V.cell? ⟨w.heap.size + 1, 1, none⟩ = some (.int .i64 0) := by rw [hV]; clear hV; (first | (go_simp; done) | (go_simp; refine World.cell?_setCell_same' _ _ _ ?_; (repeat (with_reducible refine some_set ?_)); go_simp))
  have p2 : V.cell? ⟨w.heap.size + 1, 2, none⟩ = some (.slice none 0 0) := by rw [hV]; clear hV; (first | (go_simp; done) | (go_simp; refine World.cell?_setCell_same' _ _ _ ?_; (repeat (with_reducible refine some_set ?_)); go_simp))
  have p3 : V.cell? ⟨w.heap.size + 1, 3, none⟩ = some (.slice none 0 0) := by rw [hV]; clear hV; (first | (go_simp; done) | (go_simp; refine World.cell?_setCell_same' _ _ _ ?_; (repeat (with_reducible refine some_set ?_)); go_simp))
  have p4 : V.cell? ⟨w.heap.size + 1, 4, none⟩ = some (.slice none 0 0) := by rw [hV]; clear hV; (first | (go_simp; done) | (go_simp; refine World.cell?_setCell_same' _ _ _ ?_; (repeat (with_reducible refine some_set ?_)); go_simp))
  have p5 : V.cell? ⟨w.heap.size + 1, 5, none⟩ = some (.int .i64 0) := by rw [hV]; clear hV; (first | (go_simp; done) | (go_simp; refine World.cell?_setCell_same' _ _ _ ?_; (repeat (with_reducible refine some_set ?_)); go_simp))
  have hbV : Below w.heap.size w V := by rw [hV]; clear hV; (repeat' (first | exact Below.refl _ _ | assumption | (with_reducible refine Below.drew ?_) | (with_reducible refine Below.setCell ?_ (by (first | (simp; done) | (simp; omega))) _) | (with_reducible refine below_drewN' ?_ _) | (refine Below.alloc ?_ (by (try simp only [World.size_alloc, World.size_drew, World.size_setCell]); omega) _) | (refine Below.trans ?_ (Below.mono (by assumption) (by (try simp only [World.size_alloc, World.size_drew, World.size_setCell]); omega)))))
  rw [← hV]
  clear hV
  exact bodyPost_ret (v := .tuple #[.agg #[.int .i64 0, .int .i64 0, .slice none 0 0, .slice none 0 0, .slice none 0 0, .int .i64 0], .int .i64 3]) (by simp [results, Tryz.results26, go_sem, p0, p1, p2, p3, p4, p5]) rfl ⟨rfl, hbV⟩

set_option maxRecDepth 100000 in
set_option maxHeartbeats 4000000 in
theorem Wear_chk (vb v vk : Value) (b : Brd) (worn week : List Int) (k : Int) (w : World) (h : BrdAt w vb b) (hw : Sl w 1 eI v worn) (hk : Sl w 1 eI vk week) (hc : ¬ chk b = 0) :
    Calls Tryz.prog 27 #[vb, v, vk, .int .i64 k] w (Ret (.tuple #[.slice none 0 0, .int .i64 (chk b)]) w) := by
  have x1 := fun W (hW : Below w.heap.size w W) => check_any vb b W (h.below hW)
  obtain ⟨vr, vl, vn, rfl, hr, hl, hn⟩ := h
  obtain ⟨ar, cr, rfl, lr, _⟩ := hr
  obtain ⟨al, cl, rfl, ll, _⟩ := hl
  obtain ⟨an, cn, rfl, ln, _⟩ := hn
  obtain ⟨a, c, rfl, l1, _⟩ := hw
  obtain ⟨a2, c2, rfl, l2, _⟩ := hk
  generalize chk b = c at *
  generalize b.rings.length = lenr at *
  generalize b.lines.length = lenl at *
  generalize b.nums.length = lenn at *
  generalize worn.length = lw at *
  generalize week.length = lk at *
  go_enter Tryz.func27, Tryz.ntmps27
  go_wp2_with (go_at_call 10; (with_reducible refine (x1 _ ?hh).mono ?_); (case hh => (repeat' (first | exact Below.refl _ _ | assumption | (with_reducible refine Below.drew ?_) | (with_reducible refine Below.setCell ?_ (by (first | (simp; done) | (simp; omega))) _) | (with_reducible refine below_drewN' ?_ _) | (refine Below.alloc ?_ (by (try simp only [World.size_alloc, World.size_drew, World.size_setCell]); omega) _) | (refine Below.trans ?_ (Below.mono (by assumption) (by (try simp only [World.size_alloc, World.size_drew, World.size_setCell]); omega)))))); rintro e w1 ⟨rfl, hb1⟩; (obtain ⟨hc1, hf1⟩ := bcell hb1; have z1 := hb1.size; (try simp only [World.size_alloc, World.size_drew, World.size_setCell] at z1); (try have q1a : w.heap.size < w1.heap.size := by omega); (try have q1b : w.heap.size + 1 < w1.heap.size := by omega); (try have q1c : w.heap.size + 1 + 1 < w1.heap.size := by omega); (try have q1d : w.heap.size + 1 + 1 + 1 < w1.heap.size := by omega); (try have q1e : wr.heap.size < w1.heap.size := by omega); (try have q1f : wr.heap.size + 1 < w1.heap.size := by omega)))
  go_ret2
  exact ⟨rfl, by (repeat' (first | exact Below.refl _ _ | assumption | (with_reducible refine Below.drew ?_) | (with_reducible refine Below.setCell ?_ (by (first | (simp; done) | (simp; omega))) _) | (with_reducible refine below_drewN' ?_ _) | (refine Below.alloc ?_ (by (try simp only [World.size_alloc, World.size_drew, World.size_setCell]); omega) _) | (refine Below.trans ?_ (Below.mono (by assumption) (by (try simp only [World.size_alloc, World.size_drew, World.size_setCell]); omega)))))⟩

set_option maxRecDepth 100000 in
set_option maxHeartbeats 4000000 in
theorem Wear_form (vb v vk : Value) (b : Brd) (worn week : List Int) (k : Int) (w : World) (h : BrdAt w vb b) (hw : Sl w 1 eI v worn) (hk : Sl w 1 eI vk week) (hc : chk b = 0) (E : Int) (he : frm b.nums.length worn [week] = E) (hE : ¬ E = 0) :
    Calls Tryz.prog 27 #[vb, v, vk, .int .i64 k] w (Ret (.tuple #[.slice none 0 0, .int .i64 (E)]) w) := by
  have g := good_of_chk hc
  have gl := g.len
  have x1 := fun W (hW : Below w.heap.size w W) => check_any vb b W (h.below hW)
  have x2 := fun W (hW : Below w.heap.size w W) (vs : Value) (hv : Sl W 1 eR vs [(vk, week)]) => wearError_any (b.nums.length : Int) v worn vs [(vk, week)] W (hw.below hW) hv (fun x hm => by simp at hm; subst hm; exact hk.below hW)
  simp only [wErr_frm, List.map_cons, List.map_nil] at x2
  rw [hc] at x1
  rw [he] at x2
  obtain ⟨vr, vl, vn, rfl, hr, hl, hn⟩ := h
  obtain ⟨ar, cr, rfl, lr, _⟩ := hr
  obtain ⟨al, cl, rfl, ll, _⟩ := hl
  obtain ⟨an, cn, rfl, ln, _⟩ := hn
  obtain ⟨a, c, rfl, l1, _⟩ := hw
  obtain ⟨a2, c2, rfl, l2, _⟩ := hk
  generalize b.rings.length = lenr at *
  generalize b.lines.length = lenl at *
  generalize b.nums.length = lenn at *
  generalize worn.length = lw at *
  generalize week.length = lk at *
  clear he g gl hc
  go_enter Tryz.func27, Tryz.ntmps27
  go_wp2_with (first | (go_at_call 10; (with_reducible refine (x1 _ ?hh).mono ?_); (case hh => (repeat' (first | exact Below.refl _ _ | assumption | (with_reducible refine Below.drew ?_) | (with_reducible refine Below.setCell ?_ (by (first | (simp; done) | (simp; omega))) _) | (with_reducible refine below_drewN' ?_ _) | (refine Below.alloc ?_ (by (try simp only [World.size_alloc, World.size_drew, World.size_setCell]); omega) _) | (refine Below.trans ?_ (Below.mono (by assumption) (by (try simp only [World.size_alloc, World.size_drew, World.size_setCell]); omega)))))); rintro e w1 ⟨rfl, hb1⟩; (obtain ⟨hc1, hf1⟩ := bcell hb1; have z1 := hb1.size; (try simp only [World.size_alloc, World.size_drew, World.size_setCell] at z1); (try have q1a : w.heap.size < w1.heap.size := by omega); (try have q1b : w.heap.size + 1 < w1.heap.size := by omega); (try have q1c : w.heap.size + 1 + 1 < w1.heap.size := by omega); (try have q1d : w.heap.size + 1 + 1 + 1 < w1.heap.size := by omega); (try have q1e : wr.heap.size < w1.heap.size := by omega); (try have q1f : wr.heap.size + 1 < w1.heap.size := by omega))) | (go_at_call 59; (with_reducible refine (x2 _ ?hh _ (sl_week _ _ rfl _ _ _)).mono ?_); (case hh => (repeat' (first | exact Below.refl _ _ | assumption | (with_reducible refine Below.drew ?_) | (with_reducible refine Below.setCell ?_ (by (first | (simp; done) | (simp; omega))) _) | (with_reducible refine below_drewN' ?_ _) | (refine Below.alloc ?_ (by (try simp only [World.size_alloc, World.size_drew, World.size_setCell]); omega) _) | (refine Below.trans ?_ (Below.mono (by assumption) (by (try simp only [World.size_alloc, World.size_drew, World.size_setCell]); omega)))))); rintro e w2 ⟨rfl, hb2⟩; (obtain ⟨hc2, hf2⟩ := bcell hb2; have z2 := hb2.size; (try simp only [World.size_alloc, World.size_drew, World.size_setCell] at z2); (try have q2a : w.heap.size < w2.heap.size := by omega); (try have q2b : w.heap.size + 1 < w2.heap.size := by omega); (try have q2c : w.heap.size + 1 + 1 < w2.heap.size := by omega); (try have q2d : w.heap.size + 1 + 1 + 1 < w2.heap.size := by omega); (try have q2e : wr.heap.size < w2.heap.size := by omega); (try have q2f : wr.heap.size + 1 < w2.heap.size := by omega); (try have q2g : w1.heap.size < w2.heap.size := by omega); (try have q2h : w1.heap.size + 1 < w2.heap.size := by omega))))
  go_ret2
  exact ⟨rfl, by (repeat' (first | exact Below.refl _ _ | assumption | (with_reducible refine Below.drew ?_) | (with_reducible refine Below.setCell ?_ (by (first | (simp; done) | (simp; omega))) _) | (with_reducible refine below_drewN' ?_ _) | (refine Below.alloc ?_ (by (try simp only [World.size_alloc, World.size_drew, World.size_setCell]); omega) _) | (refine Below.trans ?_ (Below.mono (by assumption) (by (try simp only [World.size_alloc, World.size_drew, World.size_setCell]); omega)))))⟩

set_option maxRecDepth 100000 in
set_option maxHeartbeats 4000000 in
theorem Wear_range (vb v vk : Value) (b : Brd) (worn week : List Int) (k : Int) (w : World) (h : BrdAt w vb b) (hw : Sl w 1 eI v worn) (hk : Sl w 1 eI vk week) (hc : chk b = 0) (he : frm b.nums.length worn [week] = 0) (hkn : ¬ (0 ≤ k ∧ k < worn.length)) :
    Calls Tryz.prog 27 #[vb, v, vk, .int .i64 k] w (Ret (.tuple #[.slice none 0 0, .int .i64 (3)]) w) := by
  have g := good_of_chk hc
  have gl := g.len
  have he' : wErr b.nums.length worn [(vk, week)] = 0 := (wErr_frm _ _ _).trans he
  obtain ⟨e1, e2, e3, e4⟩ := wErr_ok he'
  have x1 := fun W (hW : Below w.heap.size w W) => check_any vb b W (h.below hW)
  have x2 := fun W (hW : Below w.heap.size w W) (vs : Value) (hv : Sl W 1 eR vs [(vk, week)]) => wearError_any (b.nums.length : Int) v worn vs [(vk, week)] W (hw.below hW) hv (fun x hm => by simp at hm; subst hm; exact hk.below hW)
  have x3 := fun W (hW : Below w.heap.size w W) (vs : Value) (hv : Sl W 1 eI vs [k]) => within_any 0 ((worn.length : Int) - 1) vs [k] W hv
  have hin : ([k].all (inb 0 ((worn.length : Int) - 1))) = false := by unfold inb; simp; omega
  rw [hin] at x3
  rw [hc] at x1
  rw [he'] at x2
  have u1 : IntKind.i64.wrap ((worn.length : Int) - 1) = (worn.length : Int) - 1 := IntWalk.i64_in _ (by omega)
  obtain ⟨vr, vl, vn, rfl, hr, hl, hn⟩ := h
  obtain ⟨ar, cr, rfl, lr, _⟩ := hr
  obtain ⟨al, cl, rfl, ll, _⟩ := hl
  obtain ⟨an, cn, rfl, ln, _⟩ := hn
  obtain ⟨a, c, rfl, l1, _⟩ := hw
  obtain ⟨a2, c2, rfl, l2, _⟩ := hk
  generalize b.rings.length = lenr at *
  generalize b.lines.length = lenl at *
  generalize b.nums.length = lenn at *
  generalize worn.length = lw at *
  generalize week.length = lk at *
  clear he he' e1 e2 e3 e4 g gl hc hin hkn
  go_enter Tryz.func27, Tryz.ntmps27
  go_wp2_with (first | (go_at_call 10; (with_reducible refine (x1 _ ?hh).mono ?_); (case hh => (repeat' (first | exact Below.refl _ _ | assumption | (with_reducible refine Below.drew ?_) | (with_reducible refine Below.setCell ?_ (by (first | (simp; done) | (simp; omega))) _) | (with_reducible refine below_drewN' ?_ _) | (refine Below.alloc ?_ (by (try simp only [World.size_alloc, World.size_drew, World.size_setCell]); omega) _) | (refine Below.trans ?_ (Below.mono (by assumption) (by (try simp only [World.size_alloc, World.size_drew, World.size_setCell]); omega)))))); rintro e w1 ⟨rfl, hb1⟩; (obtain ⟨hc1, hf1⟩ := bcell hb1; have z1 := hb1.size; (try simp only [World.size_alloc, World.size_drew, World.size_setCell] at z1); (try have q1a : w.heap.size < w1.heap.size := by omega); (try have q1b : w.heap.size + 1 < w1.heap.size := by omega); (try have q1c : w.heap.size + 1 + 1 < w1.heap.size := by omega); (try have q1d : w.heap.size + 1 + 1 + 1 < w1.heap.size := by omega); (try have q1e : wr.heap.size < w1.heap.size := by omega); (try have q1f : wr.heap.size + 1 < w1.heap.size := by omega))) | (go_at_call 59; (with_reducible refine (x2 _ ?hh _ (sl_week _ _ rfl _ _ _)).mono ?_); (case hh => (repeat' (first | exact Below.refl _ _ | assumption | (with_reducible refine Below.drew ?_) | (with_reducible refine Below.setCell ?_ (by (first | (simp; done) | (simp; omega))) _) | (with_reducible refine below_drewN' ?_ _) | (refine Below.alloc ?_ (by (try simp only [World.size_alloc, World.size_drew, World.size_setCell]); omega) _) | (refine Below.trans ?_ (Below.mono (by assumption) (by (try simp only [World.size_alloc, World.size_drew, World.size_setCell]); omega)))))); rintro e w2 ⟨rfl, hb2⟩; (obtain ⟨hc2, hf2⟩ := bcell hb2; have z2 := hb2.size; (try simp only [World.size_alloc, World.size_drew, World.size_setCell] at z2); (try have q2a : w.heap.size < w2.heap.size := by omega); (try have q2b : w.heap.size + 1 < w2.heap.size := by omega); (try have q2c : w.heap.size + 1 + 1 < w2.heap.size := by omega); (try have q2d : w.heap.size + 1 + 1 + 1 < w2.heap.size := by omega); (try have q2e : wr.heap.size < w2.heap.size := by omega); (try have q2f : wr.heap.size + 1 < w2.heap.size := by omega); (try have q2g : w1.heap.size < w2.heap.size := by omega); (try have q2h : w1.heap.size + 1 < w2.heap.size := by omega))) | (go_at_call 55; (with_reducible refine (x3 _ ?hh _ (sl_one _ _ rfl _ _)).mono ?_); (case hh => (repeat' (first | exact Below.refl _ _ | assumption | (with_reducible refine Below.drew ?_) | (with_reducible refine Below.setCell ?_ (by (first | (simp; done) | (simp; omega))) _) | (with_reducible refine below_drewN' ?_ _) | (refine Below.alloc ?_ (by (try simp only [World.size_alloc, World.size_drew, World.size_setCell]); omega) _) | (refine Below.trans ?_ (Below.mono (by assumption) (by (try simp only [World.size_alloc, World.size_drew, World.size_setCell]); omega)))))); rintro e w3 ⟨rfl, hb3⟩; (obtain ⟨hc3, hf3⟩ := bcell hb3; have z3 := hb3.size; (try simp only [World.size_alloc, World.size_drew, World.size_setCell] at z3); (try have q3a : w.heap.size < w3.heap.size := by omega); (try have q3b : w.heap.size + 1 < w3.heap.size := by omega); (try have q3c : w.heap.size + 1 + 1 < w3.heap.size := by omega); (try have q3d : w.heap.size + 1 + 1 + 1 < w3.heap.size := by omega); (try have q3e : wr.heap.size < w3.heap.size := by omega); (try have q3f : wr.heap.size + 1 < w3.heap.size := by omega); (try have q3g : w2.heap.size < w3.heap.size := by omega); (try have q3h : w2.heap.size + 1 < w3.heap.size := by omega))))
  go_ret2
  exact ⟨rfl, by (repeat' (first | exact Below.refl _ _ | assumption | (with_reducible refine Below.drew ?_) | (with_reducible refine Below.setCell ?_ (by (first | (simp; done) | (simp; omega))) _) | (with_reducible refine below_drewN' ?_ _) | (refine Below.alloc ?_ (by (try simp only [World.size_alloc, World.size_drew, World.size_setCell]); omega) _) | (refine Below.trans ?_ (Below.mono (by assumption) (by (try simp only [World.size_alloc, World.size_drew, World.size_setCell]); omega)))))⟩

set_option maxRecDepth 100000 in
set_option maxHeartbeats 4000000 in
theorem Wear_full (vb v vk : Value) (b : Brd) (worn week : List Int) (k : Nat) (w : World) (h : BrdAt w vb b) (hw : Sl w 1 eI v worn) (hk : Sl w 1 eI vk week)
    (hc : chk b = 0) (he : wErr b.nums.length worn [(vk, week)] = 0) (hkn : k < worn.length) (hM : ¬ mx (aft worn week k) ≤ 1000000000) :
    Calls Tryz.prog 27 #[vb, v, vk, .int .i64 k] w (Ret (.tuple #[.slice none 0 0, .int .i64 8]) w) := by
  have g := good_of_chk hc
  obtain ⟨e1, e2, e3, e4⟩ := wErr_ok he
  have e5 := e2 _ (List.mem_cons_self ..)
  have e6 := e4 _ (List.mem_cons_self ..)
  simp only [] at e5 e6
  have gl := g.len
  have x1 := fun W (hW : Below w.heap.size w W) => check_any vb b W (h.below hW)
  have x2 := fun W (hW : Below w.heap.size w W) (vs : Value) (hv : Sl W 1 eR vs [(vk, week)]) => wearError_any (b.nums.length : Int) v worn vs [(vk, week)] W (hw.below hW) hv (fun x hm => by simp at hm; subst hm; exact hk.below hW)
  have x3 := fun W (hW : Below w.heap.size w W) (vs : Value) (hv : Sl W 1 eI vs [(k : Int)]) => within_any 0 ((worn.length : Int) - 1) vs [(k : Int)] W hv
  have x4 := fun W (hW : Below w.heap.size w W) => after_any v vk worn week k W (hw.below hW) (hk.below hW) (by omega) (by omega) (by omega) (fun x hx => by have := e3 x hx; omega) (fun x hx => by have := e6 x hx; omega)
  have x5 := fun W (vs : Value) (hv : Sl W 1 eI vs (aft worn week k)) => max_any vs _ W hv (by intro e; have := congrArg List.length e; rw [aft_length, List.length_nil] at this; omega)
  rw [hc] at x1
  rw [he] at x2
  have hin : ([(k : Int)].all (inb 0 ((worn.length : Int) - 1))) = true := by unfold inb; simp; omega
  rw [hin] at x3
  unfold RetRow at x4
  rw [aft_length] at x4
  obtain ⟨M, hMM⟩ : ∃ M, mx (aft worn week k) = M := ⟨_, rfl⟩
  rw [hMM] at x5 hM
  obtain ⟨vr, vl, vn, rfl, hr, hl, hn⟩ := h
  obtain ⟨ar, cr, rfl, lr, _⟩ := hr
  obtain ⟨al, cl, rfl, ll, _⟩ := hl
  obtain ⟨an, cn, rfl, ln, _⟩ := hn
  obtain ⟨a, c, rfl, l1, _⟩ := hw
  obtain ⟨a2, c2, rfl, l2, _⟩ := hk
  have HAL : Aside ((aft worn week k).length = week.length) := aft_length _ _ _
  generalize aft worn week k = A at *
  generalize worn.length = lw at *
  generalize week.length = lk at *
  generalize b.rings.length = lenr at *
  generalize b.lines.length = lenl at *
  generalize b.nums.length = lenn at *
  clear hMM e2 e3 e4 e6 hin g he hc
  subst e1
  subst e5
  have hk1 : 1 ≤ (lk : Int) := by omega
  go_enter Tryz.func27, Tryz.ntmps27
  go_wp2_with (first | (go_at_call 10; (with_reducible refine (x1 _ ?hh).mono ?_); (case hh => (repeat' (first | exact Below.refl _ _ | assumption | (with_reducible refine Below.drew ?_) | (with_reducible refine Below.setCell ?_ (by (first | (simp; done) | (simp; omega))) _) | (with_reducible refine below_drewN' ?_ _) | (refine Below.alloc ?_ (by (try simp only [World.size_alloc, World.size_drew, World.size_setCell]); omega) _) | (refine Below.trans ?_ (Below.mono (by assumption) (by (try simp only [World.size_alloc, World.size_drew, World.size_setCell]); omega)))))); rintro e w1 ⟨rfl, hb1⟩; (obtain ⟨hc1, hf1⟩ := bcell hb1; have z1 := hb1.size; (try simp only [World.size_alloc, World.size_drew, World.size_setCell] at z1); (try have q1a : w.heap.size < w1.heap.size := by omega); (try have q1b : w.heap.size + 1 < w1.heap.size := by omega); (try have q1c : w.heap.size + 1 + 1 < w1.heap.size := by omega); (try have q1d : w.heap.size + 1 + 1 + 1 < w1.heap.size := by omega); (try have q1e : wr.heap.size < w1.heap.size := by omega); (try have q1f : wr.heap.size + 1 < w1.heap.size := by omega))) | (go_at_call 59; (with_reducible refine (x2 _ ?hh _ (sl_week _ _ rfl _ _ _)).mono ?_); (case hh => (repeat' (first | exact Below.refl _ _ | assumption | (with_reducible refine Below.drew ?_) | (with_reducible refine Below.setCell ?_ (by (first | (simp; done) | (simp; omega))) _) | (with_reducible refine below_drewN' ?_ _) | (refine Below.alloc ?_ (by (try simp only [World.size_alloc, World.size_drew, World.size_setCell]); omega) _) | (refine Below.trans ?_ (Below.mono (by assumption) (by (try simp only [World.size_alloc, World.size_drew, World.size_setCell]); omega)))))); rintro e w2 ⟨rfl, hb2⟩; (obtain ⟨hc2, hf2⟩ := bcell hb2; have z2 := hb2.size; (try simp only [World.size_alloc, World.size_drew, World.size_setCell] at z2); (try have q2a : w.heap.size < w2.heap.size := by omega); (try have q2b : w.heap.size + 1 < w2.heap.size := by omega); (try have q2c : w.heap.size + 1 + 1 < w2.heap.size := by omega); (try have q2d : w.heap.size + 1 + 1 + 1 < w2.heap.size := by omega); (try have q2e : wr.heap.size < w2.heap.size := by omega); (try have q2f : wr.heap.size + 1 < w2.heap.size := by omega); (try have q2g : w1.heap.size < w2.heap.size := by omega); (try have q2h : w1.heap.size + 1 < w2.heap.size := by omega))) | (go_at_call 55; (with_reducible refine (x3 _ ?hh _ (sl_one _ _ rfl _ _)).mono ?_); (case hh => (repeat' (first | exact Below.refl _ _ | assumption | (with_reducible refine Below.drew ?_) | (with_reducible refine Below.setCell ?_ (by (first | (simp; done) | (simp; omega))) _) | (with_reducible refine below_drewN' ?_ _) | (refine Below.alloc ?_ (by (try simp only [World.size_alloc, World.size_drew, World.size_setCell]); omega) _) | (refine Below.trans ?_ (Below.mono (by assumption) (by (try simp only [World.size_alloc, World.size_drew, World.size_setCell]); omega)))))); rintro e w3 ⟨rfl, hb3⟩; (obtain ⟨hc3, hf3⟩ := bcell hb3; have z3 := hb3.size; (try simp only [World.size_alloc, World.size_drew, World.size_setCell] at z3); (try have q3a : w.heap.size < w3.heap.size := by omega); (try have q3b : w.heap.size + 1 < w3.heap.size := by omega); (try have q3c : w.heap.size + 1 + 1 < w3.heap.size := by omega); (try have q3d : w.heap.size + 1 + 1 + 1 < w3.heap.size := by omega); (try have q3e : wr.heap.size < w3.heap.size := by omega); (try have q3f : wr.heap.size + 1 < w3.heap.size := by omega); (try have q3g : w2.heap.size < w3.heap.size := by omega); (try have q3h : w2.heap.size + 1 < w3.heap.size := by omega))) | (go_at_call 60; (with_reducible refine (x4 _ ?hh).mono ?_); (case hh => (repeat' (first | exact Below.refl _ _ | assumption | (with_reducible refine Below.drew ?_) | (with_reducible refine Below.setCell ?_ (by (first | (simp; done) | (simp; omega))) _) | (with_reducible refine below_drewN' ?_ _) | (refine Below.alloc ?_ (by (try simp only [World.size_alloc, World.size_drew, World.size_setCell]); omega) _) | (refine Below.trans ?_ (Below.mono (by assumption) (by (try simp only [World.size_alloc, World.size_drew, World.size_setCell]); omega)))))); rintro e w4 ⟨g4, rfl, hg4, hown, hb4⟩; have S4 : Aside (Sl w4 1 eI (.slice (some ⟨g4, 0, none⟩) lk lk) A) := sl_of_ints' (by rw [HAL.out]; omega) hown HAL.out.symm; clear hown; (obtain ⟨hc4, hf4⟩ := bcell hb4; have z4 := hb4.size; (try simp only [World.size_alloc, World.size_drew, World.size_setCell] at z4); (try have q4a : w.heap.size < w4.heap.size := by omega); (try have q4b : w.heap.size + 1 < w4.heap.size := by omega); (try have q4c : w.heap.size + 1 + 1 < w4.heap.size := by omega); (try have q4d : w.heap.size + 1 + 1 + 1 < w4.heap.size := by omega); (try have q4e : wr.heap.size < w4.heap.size := by omega); (try have q4f : wr.heap.size + 1 < w4.heap.size := by omega); (try have q4g : w3.heap.size < w4.heap.size := by omega); (try have q4h : w3.heap.size + 1 < w4.heap.size := by omega))) | (go_at_call 61; (with_reducible refine (x5 _ _ S4.out).mono ?_); rintro e w5 ⟨rfl, hb5⟩; (obtain ⟨hc5, hf5⟩ := bcell hb5; have z5 := hb5.size; (try simp only [World.size_alloc, World.size_drew, World.size_setCell] at z5); (try have q5a : w.heap.size < w5.heap.size := by omega); (try have q5b : w.heap.size + 1 < w5.heap.size := by omega); (try have q5c : w.heap.size + 1 + 1 < w5.heap.size := by omega); (try have q5d : w.heap.size + 1 + 1 + 1 < w5.heap.size := by omega); (try have q5e : wr.heap.size < w5.heap.size := by omega); (try have q5f : wr.heap.size + 1 < w5.heap.size := by omega); (try have q5g : w4.heap.size < w5.heap.size := by omega); (try have q5h : w4.heap.size + 1 < w5.heap.size := by omega))))
  go_ret2
  exact ⟨rfl, by (repeat' (first | exact Below.refl _ _ | assumption | (with_reducible refine Below.drew ?_) | (with_reducible refine Below.setCell ?_ (by (first | (simp; done) | (simp; omega))) _) | (with_reducible refine below_drewN' ?_ _) | (refine Below.alloc ?_ (by (try simp only [World.size_alloc, World.size_drew, World.size_setCell]); omega) _) | (refine Below.trans ?_ (Below.mono (by assumption) (by (try simp only [World.size_alloc, World.size_drew, World.size_setCell]); omega)))))⟩
end Go.Proofs.YtgceffpkhmjmkaaGreat
