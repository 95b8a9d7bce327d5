/- Board, part Vi: boards that are more than the statements look at. -/
import Derived.Test.YtgceffpkhmjmkaaGreatVf
import Derived.Test.YtgceffpkhmjmkaaGreatVe
set_option linter.unusedVariables false
set_option linter.unusedSimpArgs false
namespace Go.Proofs.YtgceffpkhmjmkaaGreat
open Go.RowKit Go.Shelf

def far (n : Int) : Bool := decide (1000000 < n) || decide (n < -1000000)
def farP (p : Int × Int) : Bool := far p.1 || far p.2
def farR (p : Int × Int) : Bool := far p.1
def greatB (b : Brd) : Bool :=
  decide (10 < b.rings.length) || decide (25 < b.lines.length) || decide (25 < b.nums.length) || far b.eye || far b.bull || far b.wire || b.rings.any farR || b.lines.any farP
theorem far_false {n : Int} (h : far n = false) : -1000000 ≤ n ∧ n ≤ 1000000 := by
  unfold far at h
  simp only [Bool.or_eq_false_iff, decide_eq_false_iff_not] at h
  omega
theorem small_of {b : Brd} (h : greatB b = false) : Small b := by
  unfold greatB at h
  simp only [Bool.or_eq_false_iff, decide_eq_false_iff_not, List.any_eq_false] at h
  obtain ⟨⟨⟨⟨⟨⟨⟨h1, h2⟩, h3⟩, h4⟩, h5⟩, h6⟩, h7⟩, h8⟩ := h
  refine ⟨by omega, by omega, by omega, far_false h4, far_false h5, far_false h6, fun r hr => ?_, fun l hl => ?_⟩
  · have := h7 r hr
    exact far_false (by unfold farR at this; simpa using this)
  · have := h8 l hl
    unfold farP at this
    simp only [Bool.or_eq_true, not_or, Bool.not_eq_true] at this
    have a := far_false this.1
    have c := far_false this.2
    exact ⟨a.1, a.2, c.1, c.2⟩

set_option maxHeartbeats 400000 in
theorem far_any (n : Int) (w : World) : Calls Tryz.prog 37 #[.int .i64 n] w (Ret (.bool (far n)) w) := by
  unfold far
  by_cases h : 1000000 < n
  · rw [decide_eq_true h]
    go_enter Tryz.func37, Tryz.ntmps37
    go_wp2_with fail
    go_ret
    exact ⟨rfl, Below.refl _ _⟩
  · rw [decide_eq_false h]
    go_enter Tryz.func37, Tryz.ntmps37
    go_wp2_with fail
    go_ret
    exact ⟨rfl, Below.refl _ _⟩

set_option maxRecDepth 100000 in
set_option maxHeartbeats 8000000 in
theorem great_any (v : Value) (b : Brd) (w : World) (h : BrdAt w v b) :
    Calls Tryz.prog 7 #[v] w (Ret (.bool (greatB b)) w) := by
  obtain ⟨vr, vl, vn, rfl, sr, sl, ⟨an, cn, rfl, ln, _⟩⟩ := h
  have hCR := sr
  have hCL := sl
  obtain ⟨ar, cr, rfl, lr, _⟩ := sr
  obtain ⟨al, cl, rfl, ll, _⟩ := sl
  have HCR : Aside (∀ j p, b.rings[j]? = some p → ∃ g off, ar = some ⟨g, off, none⟩ ∧ w.cell? ⟨g, off + j * 2, none⟩ = some (.int .i64 p.1) ∧ w.cell? ⟨g, off + j * 2 + 1, none⟩ = some (.int .i64 p.2)) := cells_of hCR
  have HCL : Aside (∀ j p, b.lines[j]? = some p → ∃ g off, al = some ⟨g, off, none⟩ ∧ w.cell? ⟨g, off + j * 2, none⟩ = some (.int .i64 p.1) ∧ w.cell? ⟨g, off + j * 2 + 1, none⟩ = some (.int .i64 p.2)) := cells_of hCL
  clear hCR hCL
  obtain ⟨gb, hgb⟩ : ∃ x, greatB b = x := ⟨_, rfl⟩
  rw [hgb]
  obtain ⟨f0, hf0⟩ : ∃ x, far b.eye = x := ⟨_, rfl⟩
  obtain ⟨f1, hf1⟩ : ∃ x, far b.bull = x := ⟨_, rfl⟩
  obtain ⟨f2, hf2⟩ : ∃ x, far b.wire = x := ⟨_, rfl⟩
  have HG : Aside (gb = (decide (10 < b.rings.length) || decide (25 < b.lines.length) || decide (25 < b.nums.length) || f0 || f1 || f2 || b.rings.any farR || b.lines.any farP)) := by
    show _ = _
    rw [← hgb, ← hf0, ← hf1, ← hf2]; rfl
  have y0 := fun W => far_any b.eye W
  have y1 := fun W => far_any b.bull W
  have y2 := fun W => far_any b.wire W
  rw [hf0] at y0
  rw [hf1] at y1
  rw [hf2] at y2
  clear hgb hf0 hf1 hf2
  obtain ⟨nr, hnr⟩ : ∃ n, b.rings.length = n := ⟨_, rfl⟩
  obtain ⟨nl, hnl⟩ : ∃ n, b.lines.length = n := ⟨_, rfl⟩
  obtain ⟨nn, hnn⟩ : ∃ n, b.nums.length = n := ⟨_, rfl⟩
  have HN : Aside (b.rings.length = nr ∧ b.lines.length = nl ∧ b.nums.length = nn) := ⟨hnr, hnl, hnn⟩
  rw [hnr] at HG lr ⊢
  rw [hnl] at HG ll ⊢
  rw [hnn] at HG ln ⊢
  clear hnr hnl hnn
  obtain ⟨ey, hey⟩ : ∃ x, b.eye = x := ⟨_, rfl⟩
  obtain ⟨bu, hbu⟩ : ∃ x, b.bull = x := ⟨_, rfl⟩
  obtain ⟨wi, hwi⟩ : ∃ x, b.wire = x := ⟨_, rfl⟩
  rw [hey] at y0 ⊢
  rw [hbu] at y1 ⊢
  rw [hwi] at y2 ⊢
  clear hey hbu hwi
  go_enter Tryz.func7, Tryz.ntmps7
  go_upto_region 2 with (fail)
  obtain ⟨W0, hW0⟩ : ∃ W0, W0 = w.alloc (.cells #[.int .i64 ey, .int .i64 bu, .slice ar nr cr, .slice al nl cl, .slice an nn cn, .int .i64 wi] 26) := ⟨_, rfl⟩
  have B0 : Aside (Below w.heap.size w W0) := by rw [hW0]; clear hW0; show Below _ _ _; (repeat' (first | exact Below.refl _ _ | assumption | (with_reducible refine Below.drew ?_) | (with_reducible refine Below.setCell ?_ (by (first | (simp; done) | (simp; omega))) _) | (with_reducible refine below_drewN' ?_ _) | (refine Below.alloc ?_ (by (try simp only [World.size_alloc, World.size_drew, World.size_setCell]); omega) _) | (refine Below.trans ?_ (Below.mono (by assumption) (by (try simp only [World.size_alloc, World.size_drew, World.size_setCell]); omega)))))
  have x0 : W0.cell? ⟨w.heap.size, 0, none⟩ = some (.int .i64 ey) := by rw [hW0]; clear hW0; go_simp
  have x1 : W0.cell? ⟨w.heap.size, 1, none⟩ = some (.int .i64 bu) := by rw [hW0]; clear hW0; go_simp
  have x2 : W0.cell? ⟨w.heap.size, 2, none⟩ = some (.slice ar nr cr) := by rw [hW0]; clear hW0; go_simp
  have x3 : W0.cell? ⟨w.heap.size, 3, none⟩ = some (.slice al nl cl) := by rw [hW0]; clear hW0; go_simp
  have x4 : W0.cell? ⟨w.heap.size, 4, none⟩ = some (.slice an nn cn) := by rw [hW0]; clear hW0; go_simp
  have x5 : W0.cell? ⟨w.heap.size, 5, none⟩ = some (.int .i64 wi) := by rw [hW0]; clear hW0; go_simp
  rw [← hW0]
  clear hW0
  obtain ⟨hd, hhd⟩ : ∃ x, (decide (10 < nr) || decide (25 < nl) || decide (25 < nn) || f0 || f1 || f2) = x := ⟨_, rfl⟩
  have HH : Aside ((decide (10 < nr) || decide (25 < nl) || decide (25 < nn) || f0 || f1 || f2) = hd) := hhd
  rw [hhd] at HG
  clear hhd
  go_cut [39] (fun s39 wc => s39 = .bool hd ∧ Aside (Below W0.heap.size W0 wc))
  case first =>
    have hh := HH.out
    by_cases a1 : 10 < nr
    · have e : hd = true := by rw [← hh, decide_eq_true a1]; rfl
      have a1z : (10 : Int) < (nr : Int) := by omega
      clear hh y0 y1 y2
      subst e
      go_wp2_with fail
      go_meet
      exact ⟨rfl, Below.refl _ _⟩
    · have a1z : ¬ (10 : Int) < (nr : Int) := by omega
      by_cases a2 : 25 < nl
      · have e : hd = true := by rw [← hh, decide_eq_true a2]; simp
        have a2z : (25 : Int) < (nl : Int) := by omega
        clear hh y0 y1 y2
        subst e
        go_wp2_with fail
        go_meet
        exact ⟨rfl, Below.refl _ _⟩
      · have a2z : ¬ (25 : Int) < (nl : Int) := by omega
        by_cases a3 : 25 < nn
        · have e : hd = true := by rw [← hh, decide_eq_true a3]; simp
          have a3z : (25 : Int) < (nn : Int) := by omega
          clear hh y0 y1 y2
          subst e
          go_wp2_with fail
          go_meet
          exact ⟨rfl, Below.refl _ _⟩
        · have a3z : ¬ (25 : Int) < (nn : Int) := by omega
          have d1 : decide ((10 : Int) < (nr : Int)) = false := decide_eq_false a1z
          have d2 : decide ((25 : Int) < (nl : Int)) = false := decide_eq_false a2z
          have d3 : decide ((25 : Int) < (nn : Int)) = false := decide_eq_false a3z
          rw [decide_eq_false a1, decide_eq_false a2, decide_eq_false a3] at hh
          simp only [Bool.false_or] at hh
          cases f0 with
          | true =>
            replace hh : true = hd := hh
            subst hh
            go_wp2_with (go_at_call 37; (with_reducible refine (y0 _).mono ?_); clear y0; rintro e w1 ⟨rfl, hb1⟩)
            go_meet
            exact ⟨by first | rfl | (rw [d1, d2, d3]; rfl), hb1⟩
          | false =>
            cases f1 with
            | true =>
              replace hh : true = hd := hh
              subst hh
              go_wp2_with (first | (go_at_call 37; (with_reducible refine (y0 _).mono ?_); clear y0; rintro e w1 ⟨rfl, hb1⟩; have x1' := keepc hb1 x1; have x5' := keepc hb1 x5) | (go_at_call 37; (with_reducible refine (y1 _).mono ?_); clear y1; rintro e w2 ⟨rfl, hb2⟩))
              go_meet
              exact ⟨by first | rfl | (rw [d1, d2, d3]; rfl), hb1.trans (hb2.mono hb1.size)⟩
            | false =>
              replace hh : f2 = hd := hh
              subst hh
              go_wp2_with (first | (go_at_call 37; (with_reducible refine (y0 _).mono ?_); clear y0; rintro e w1 ⟨rfl, hb1⟩; have x1' := keepc hb1 x1; have x5' := keepc hb1 x5) | (go_at_call 37; (with_reducible refine (y1 _).mono ?_); clear y1; rintro e w2 ⟨rfl, hb2⟩; have x5'' := keepc hb2 x5') | (go_at_call 37; (with_reducible refine (y2 _).mono ?_); clear y2; rintro e w3 ⟨rfl, hb3⟩))
              go_meet
              exact ⟨by first | rfl | (rw [d1, d2, d3]; rfl) | (simp [d1, d2, d3]), (hb1.trans (hb2.mono hb1.size)).trans (hb3.mono (hb1.trans (hb2.mono hb1.size)).size)⟩
  case rest =>
    obtain ⟨U, rfl⟩ : ∃ U : World, U = wc := ⟨_, rfl⟩
    obtain ⟨rfl, hBN⟩ := hcut
    have BU : Aside (Below w.heap.size w U) := B0.out.trans (hBN.out.mono B0.out.size)
    replace x2 := keepc hBN.out x2
    replace x3 := keepc hBN.out x3
    clear hBN B0 x0 x1 x4 x5 y0 y1 y2 HH
    cases hd with
    | true =>
      have e : gb = true := HG.out
      subst e
      go_wp2_with fail
      go_ret
      exact ⟨rfl, BU.out⟩
    | false =>
      have HG2 : Aside (gb = (b.rings.any farR || b.lines.any farP)) := HG.out
      clear HG
      go_wp2_with fail
      go_loopg [4] nr (fun gg i wr => ∃ k : Nat, k ≤ nr ∧ nr - k ≤ gg ∧ i = .int .i64 k ∧ Aside (∀ j p, j < k → b.rings[j]? = some p → farR p = false) ∧ Aside (Below U.heap.size U wr))
      case atStart => exact ⟨0, Nat.zero_le _, by omega, rfl, fun j p hj => absurd hj (Nat.not_lt_zero _), Below.refl _ _⟩
      case round =>
        obtain ⟨k, hk, hg, rfl, HA, BW⟩ := hrel
        have z2 := keepc BW.out x2
        have z3 := keepc BW.out x3
        by_cases hlt : k < nr
        · have hltz : (k : Int) < (nr : Int) := by omega
          obtain ⟨p, hp⟩ : ∃ p, b.rings[k]? = some p := ⟨_, List.getElem?_eq_getElem (by rw [HN.out.1]; exact hlt)⟩
          obtain ⟨g', off, rfl, c0, _⟩ := HCR.out k p hp
          have c0 := keepc BW.out (keepc BU.out c0)
          have HF : Aside (farR p = true → gb = true) := by
            intro h
            rw [HG2.out]
            have : b.rings.any farR = true := List.any_eq_true.2 ⟨p, List.mem_of_getElem? hp, h⟩
            rw [this]; rfl
          have HT : Aside (farR p = false → ∀ j q, j < k + 1 → b.rings[j]? = some q → farR q = false) := by
            intro h j q hj hq
            by_cases e : j = k
            · subst e; rw [hp] at hq; cases hq; exact h
            · exact HA.out j q (by omega) hq
          clear HA hp
          obtain ⟨x, y⟩ := p
          have y0 := fun W => far_any x W
          simp only [] at c0
          have HX : Aside (farR (x, y) = far x) := rfl
          obtain ⟨fx, hfx⟩ : ∃ f, far x = f := ⟨_, rfl⟩
          rw [hfx] at y0 HX
          clear hfx
          cases fx with
          | true =>
            have e : gb = true := HF.out HX.out
            subst e
            go_wp2_with (go_at_call 37; (with_reducible refine (y0 _).mono ?_); rintro e w1 ⟨rfl, hb1⟩)
            go_ret
            exact ⟨rfl, BU.out.trans ((BW.out.trans (hb1.mono BW.out.size)).mono BU.out.size)⟩
          | false =>
            have HT2 : Aside (∀ j q, j < k + 1 → b.rings[j]? = some q → farR q = false) := HT.out HX.out
            go_wp2_with (go_at_call 37; (with_reducible refine (y0 _).mono ?_); rintro e w1 ⟨rfl, hb1⟩)
            go_roundg (nr - (k + 1))
            case measure => omega
            case rel => exact ⟨k + 1, by omega, by omega, by go_num, HT2, BW.out.trans (hb1.mono BW.out.size)⟩
        · have hke : nr = k := by omega
          subst hke
          have hltz : ¬ (nr : Int) < (nr : Int) := by omega
          have HG3 : Aside (gb = b.lines.any farP) := by
            show _ = _
            rw [HG2.out]
            have : b.rings.any farR = false := by
              rw [List.any_eq_false]
              intro p hp
              obtain ⟨j, hj, rfl⟩ := List.getElem_of_mem hp
              rw [HA.out j _ (by rw [← HN.out.1]; exact hj) (List.getElem?_eq_getElem hj)]; simp
            rw [this]; rfl
          clear HA HG2
          obtain ⟨U3, rfl⟩ : ∃ U3 : World, U3 = wr := ⟨_, rfl⟩
          have BU3 : Aside (Below w.heap.size w U3) := BU.out.trans (BW.out.mono BU.out.size)
          clear BW x2 x3
          go_wp2_with fail
          go_loopg [5] nl (fun gg i wr => ∃ k : Nat, k ≤ nl ∧ nl - k ≤ gg ∧ i = .int .i64 k ∧ Aside (∀ j p, j < k → b.lines[j]? = some p → farP p = false) ∧ Aside (Below U3.heap.size U3 wr))
          case atStart => exact ⟨0, Nat.zero_le _, by omega, rfl, fun j p hj => absurd hj (Nat.not_lt_zero _), Below.refl _ _⟩
          case round =>
            obtain ⟨k, hk, hg, rfl, HA, BW⟩ := hrel
            have z3 := keepc BW.out z3
            by_cases hlt : k < nl
            · have hltz2 : (k : Int) < (nl : Int) := by omega
              obtain ⟨p, hp⟩ : ∃ p, b.lines[k]? = some p := ⟨_, List.getElem?_eq_getElem (by rw [HN.out.2.1]; exact hlt)⟩
              obtain ⟨g', off, rfl, c0, c1⟩ := HCL.out k p hp
              have c0 := keepc BW.out (keepc BU3.out c0)
              have c1 := keepc BW.out (keepc BU3.out c1)
              have HF : Aside (farP p = true → gb = true) := by
                intro h
                rw [HG3.out]
                exact List.any_eq_true.2 ⟨p, List.mem_of_getElem? hp, h⟩
              have HT : Aside (farP p = false → ∀ j q, j < k + 1 → b.lines[j]? = some q → farP q = false) := by
                intro h j q hj hq
                by_cases e : j = k
                · subst e; rw [hp] at hq; cases hq; exact h
                · exact HA.out j q (by omega) hq
              clear HA hp
              obtain ⟨x, y⟩ := p
              have y0 := fun W => far_any x W
              have y1 := fun W => far_any y W
              simp only [] at c0 c1
              have HX : Aside (farP (x, y) = (far x || far y)) := rfl
              obtain ⟨fx, hfx⟩ : ∃ f, far x = f := ⟨_, rfl⟩
              obtain ⟨fy, hfy⟩ : ∃ f, far y = f := ⟨_, rfl⟩
              rw [hfx] at y0 HX
              rw [hfy] at y1 HX
              clear hfx hfy
              cases fx with
              | true =>
                have e : gb = true := HF.out (by rw [HX.out]; rfl)
                subst e
                go_wp2_with (go_at_call 37; (with_reducible refine (y0 _).mono ?_); clear y0; rintro e w1 ⟨rfl, hb1⟩)
                go_ret
                exact ⟨rfl, BU3.out.trans ((BW.out.trans (hb1.mono BW.out.size)).mono BU3.out.size)⟩
              | false =>
                cases fy with
                | true =>
                  have e : gb = true := HF.out (by rw [HX.out]; rfl)
                  subst e
                  go_wp2_with (first | (go_at_call 37; (with_reducible refine (y0 _).mono ?_); clear y0; rintro e w1 ⟨rfl, hb1⟩; have z3' := keepc hb1 z3; have c1' := keepc hb1 c1) | (go_at_call 37; (with_reducible refine (y1 _).mono ?_); clear y1; rintro e w2 ⟨rfl, hb2⟩))
                  go_ret
                  exact ⟨rfl, BU3.out.trans ((BW.out.trans ((hb1.trans (hb2.mono hb1.size)).mono BW.out.size)).mono BU3.out.size)⟩
                | false =>
                  have HT2 : Aside (∀ j q, j < k + 1 → b.lines[j]? = some q → farP q = false) := HT.out (by rw [HX.out]; rfl)
                  go_wp2_with (first | (go_at_call 37; (with_reducible refine (y0 _).mono ?_); clear y0; rintro e w1 ⟨rfl, hb1⟩; have z3' := keepc hb1 z3; have c1' := keepc hb1 c1) | (go_at_call 37; (with_reducible refine (y1 _).mono ?_); clear y1; rintro e w2 ⟨rfl, hb2⟩))
                  go_roundg (nl - (k + 1))
                  case measure => omega
                  case rel => exact ⟨k + 1, by omega, by omega, by go_num, HT2, BW.out.trans ((hb1.trans (hb2.mono hb1.size)).mono BW.out.size)⟩
            · have hke : nl = k := by omega
              subst hke
              have hltz2 : ¬ (nl : Int) < (nl : Int) := by omega
              have e : gb = false := by
                rw [HG3.out, List.any_eq_false]
                intro p hp
                obtain ⟨j, hj, rfl⟩ := List.getElem_of_mem hp
                rw [HA.out j _ (by rw [← HN.out.2.1]; exact hj) (List.getElem?_eq_getElem hj)]; simp
              subst e
              go_wp2_with fail
              go_ret
              exact ⟨rfl, BU3.out.trans (BW.out.mono BU3.out.size)⟩
end Go.Proofs.YtgceffpkhmjmkaaGreat
