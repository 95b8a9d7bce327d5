/- Board, part Vg: the reference's error of a board. -/
import Derived.Test.YtgceffpkhmjmkaaGreatVf
import Derived.Test.YtgceffpkhmjmkaaGreatVe
set_option linter.unusedVariables false
set_option linter.unusedSimpArgs false
namespace Go.Proofs.YtgceffpkhmjmkaaGreat
open Go.RowKit Go.Shelf

theorem cells_one {w : World} {a : Option Addr} {n c : Nat} {xs : List Int} (h : Sl w 1 eI (.slice a n c) xs) : ∀ j, j < xs.length → ∃ b off, a = some ⟨b, off, none⟩ ∧ w.cell? ⟨b, off + j, none⟩ = some (.int .i64 (gi xs j)) := by
  intro j hj
  obtain ⟨a', c', e, _, hs⟩ := h
  cases e
  obtain ⟨b, off, ha, _, hc⟩ := hs (by intro e; rw [e] at hj; simp at hj)
  exact ⟨b, off, ha, by have := hc j _ (gi_get hj) 0 _ rfl; simpa using this⟩

set_option maxRecDepth 100000 in
set_option maxHeartbeats 8000000 in
theorem rCheck_any (v : Value) (b : Brd) (w : World) (h : BrdAt w v b) (hs : Small b) :
    Calls Tryz.prog 13 #[v] w (Ret (.int .i64 (chk b)) w) := by
  have HB : Aside (BrdAt w v b) := h
  obtain ⟨vr, vl, vn, rfl, sr, sl, sn⟩ := h
  have HS : Aside (Small b) := hs
  have HSL : Aside (Sl w 2 encP vl b.lines) := sl
  have hCR := sr
  have hCN := sn
  obtain ⟨ar, cr, rfl, lr, _⟩ := sr
  obtain ⟨al, cl, rfl, ll, _⟩ := sl
  obtain ⟨an, cn, rfl, ln, _⟩ := sn
  have HCR : Aside (∀ j p, b.rings[j]? = some p → ∃ g off, ar = some ⟨g, off, none⟩ ∧ w.cell? ⟨g, off + j * 2, none⟩ = some (.int .i64 p.1) ∧ w.cell? ⟨g, off + j * 2 + 1, none⟩ = some (.int .i64 p.2)) := cells_of hCR
  have HCN : Aside (∀ j, j < b.nums.length → ∃ g off, an = some ⟨g, off, none⟩ ∧ w.cell? ⟨g, off + j, none⟩ = some (.int .i64 (gi b.nums j))) := cells_one hCN
  have HX1 : Aside (∀ W, Below w.heap.size w W → Calls Tryz.prog 46 #[.slice al b.lines.length cl] W (Ret (.bool (linesR b.lines)) W)) := fun W hW => rLines_any _ b.lines W (HSL.out.below hW) HS.out.ll HS.out.lines
  have HX2 : Aside (∀ W, Below w.heap.size w W → Calls Tryz.prog 47 #[.agg #[.int .i64 b.eye, .int .i64 b.bull, .slice ar b.rings.length cr, .slice al b.lines.length cl, .slice an b.nums.length cn, .int .i64 b.wire]] W (SlOk (radii b) W)) := fun W hW => rRadii_any _ b W (HB.out.below hW) HS.out.rl
  obtain ⟨cv, hcv⟩ : ∃ cv, chk b = cv := ⟨_, rfl⟩
  have HCV : Aside (chk b = cv) := hcv
  rw [hcv]
  obtain ⟨lb, hlb⟩ : ∃ lb, long b = lb := ⟨_, rfl⟩
  have HLB : Aside (long b = lb) := hlb
  have HLD : Aside (lb = (decide (8 < (b.rings.length : Int)) || decide (20 < (b.lines.length : Int)) || decide (20 < (b.nums.length : Int)))) := by show _ = _; rw [← hlb]; rfl
  obtain ⟨lR, hlR⟩ : ∃ x, linesR b.lines = x := ⟨_, rfl⟩
  obtain ⟨hb, hhb⟩ : ∃ x, headOk b = x := ⟨_, rfl⟩
  have HHB : Aside (headOk b = hb) := hhb
  have HHD : Aside (hb = (decide (b.rings.length ≠ 0) && decide (0 ≤ b.wire) && decide (b.wire ≤ 20) && decide (b.nums.length = b.lines.length) && lR && decide (b.wire < b.eye))) := by show _ = _; rw [← hhb, ← hlR]; rfl
  rw [hlR] at HX1
  have HBAD : Aside (lb = false → (headOk b && (List.range (radii b).length).all (radAt b) && b.rings.all facAt && (List.range b.nums.length).all (numAt b.nums)) = false → cv = 2) := by
    intro h1 h2
    have := chk_ref b (HLB.out.trans h1)
    rw [h2] at this
    rw [← HCV.out, this]; rfl
  have HGOOD : Aside (lb = false → headOk b = true → (List.range (radii b).length).all (radAt b) = true → b.rings.all facAt = true → (List.range b.nums.length).all (numAt b.nums) = true → cv = 0) := by
    intro h1 h2 h3 h4 h5
    have := chk_ref b (HLB.out.trans h1)
    rw [h2, h3, h4, h5] at this
    rw [← HCV.out, this]; rfl
  clear hs HSL hCR hCN hcv hlb hhb hlR HB
  obtain ⟨nr, hnr⟩ : ∃ n, b.rings.length = n := ⟨_, rfl⟩
  obtain ⟨nl, hnl⟩ : ∃ n, b.lines.length = n := ⟨_, rfl⟩
  obtain ⟨nn, hnn⟩ : ∃ n, b.nums.length = n := ⟨_, rfl⟩
  have HN : Aside (b.rings.length = nr ∧ b.lines.length = nl ∧ b.nums.length = nn) := ⟨hnr, hnl, hnn⟩
  rw [hnr] at HX2 HLD HHD lr ⊢
  rw [hnl] at HX1 HX2 HLD HHD ll ⊢
  rw [hnn] at HX2 HLD HHD ln HCN ⊢
  clear hnr hnl hnn
  go_enter Tryz.func13, Tryz.ntmps13
  go_upto_region 1 with (fail)
  obtain ⟨W0, hW0⟩ : ∃ W0, W0 = w.alloc (.cells #[.int .i64 b.eye, .int .i64 b.bull, .slice ar nr cr, .slice al nl cl, .slice an nn cn, .int .i64 b.wire] 26) := ⟨_, rfl⟩
  have B0 : Aside (Below w.heap.size w W0) := by rw [hW0]; clear hW0; show Below _ _ _; (repeat' (first | exact Below.refl _ _ | assumption | (with_reducible refine Below.drew ?_) | (with_reducible refine Below.setCell ?_ (by (first | (simp; done) | (simp; omega))) _) | (with_reducible refine below_drewN' ?_ _) | (refine Below.alloc ?_ (by (try simp only [World.size_alloc, World.size_drew, World.size_setCell]); omega) _) | (refine Below.trans ?_ (Below.mono (by assumption) (by (try simp only [World.size_alloc, World.size_drew, World.size_setCell]); omega)))))
  have x0 : W0.cell? ⟨w.heap.size, 0, none⟩ = some (.int .i64 b.eye) := by rw [hW0]; clear hW0; go_simp
  have x1 : W0.cell? ⟨w.heap.size, 1, none⟩ = some (.int .i64 b.bull) := by rw [hW0]; clear hW0; go_simp
  have x2 : W0.cell? ⟨w.heap.size, 2, none⟩ = some (.slice ar nr cr) := by rw [hW0]; clear hW0; go_simp
  have x3 : W0.cell? ⟨w.heap.size, 3, none⟩ = some (.slice al nl cl) := by rw [hW0]; clear hW0; go_simp
  have x4 : W0.cell? ⟨w.heap.size, 4, none⟩ = some (.slice an nn cn) := by rw [hW0]; clear hW0; go_simp
  have x5 : W0.cell? ⟨w.heap.size, 5, none⟩ = some (.int .i64 b.wire) := by rw [hW0]; clear hW0; go_simp
  rw [← hW0]
  clear hW0
  go_cut [23] (fun s23 wc => s23 = .bool lb ∧ W0 = wc)
  case first =>
    have hld := HLD.out
    by_cases a1 : (8 : Int) < (nr : Int)
    · have e : lb = true := by rw [hld, decide_eq_true a1]; rfl
      clear hld
      subst e
      go_wp2_with fail
      go_meet
      exact ⟨rfl, rfl⟩
    · by_cases a2 : (20 : Int) < (nl : Int)
      · have e : lb = true := by rw [hld, decide_eq_false a1, decide_eq_true a2]; rfl
        clear hld
        subst e
        go_wp2_with fail
        go_meet
        exact ⟨rfl, rfl⟩
      · have e : lb = decide (20 < (nn : Int)) := by rw [hld, decide_eq_false a1, decide_eq_false a2]; rfl
        clear hld
        subst e
        go_wp2_with fail
        go_meet
        exact ⟨rfl, rfl⟩
  case rest =>
    obtain ⟨rfl, rfl⟩ := hcut
    clear HLD
    cases lb with
    | true =>
      have e : cv = 5 := by rw [← HCV.out]; unfold chk; rw [HLB.out]; rfl
      subst e
      go_wp2_with fail
      go_ret
      exact ⟨rfl, B0.out⟩
    | false =>
      have HBAD3 : Aside ((headOk b && (List.range (radii b).length).all (radAt b) && b.rings.all facAt && (List.range b.nums.length).all (numAt b.nums)) = false → cv = 2) := HBAD.out rfl
      have HGOOD3 : Aside (headOk b = true → (List.range (radii b).length).all (radAt b) = true → b.rings.all facAt = true → (List.range b.nums.length).all (numAt b.nums) = true → cv = 0) := HGOOD.out rfl
      clear HBAD HGOOD
      go_upto_region 3 with (fail)
      go_cut [59] (fun s59 wc => s59 = .bool (!hb) ∧ Aside (Below W0.heap.size W0 wc))
      case first =>
        have hhd := HHD.out
        have hx := HX1.out W0 B0.out
        by_cases a1 : nr = 0
        · have e : hb = false := by rw [hhd, a1]; rfl
          have a1z : (nr : Int) = 0 := by omega
          clear hhd hx
          subst e
          subst a1
          go_wp2_with fail
          go_meet
          exact ⟨rfl, Below.refl _ _⟩
        · have a1z : ¬ (nr : Int) = 0 := by omega
          by_cases a2 : 0 ≤ b.wire
          · by_cases a3 : b.wire ≤ 20
            · by_cases a4 : nn = nl
              · have e : hb = (lR && decide (b.wire < b.eye)) := by rw [hhd, decide_eq_true a1, decide_eq_true a2, decide_eq_true a3, decide_eq_true a4]; rfl
                clear hhd
                subst a4
                cases lR with
                | false =>
                  replace e : hb = false := e
                  subst e
                  go_wp2_with (go_at_call 46; (with_reducible refine hx.mono ?_); rintro e w1 ⟨rfl, hb1⟩)
                  go_meet
                  exact ⟨rfl, hb1⟩
                | true =>
                  replace e : hb = decide (b.wire < b.eye) := e
                  by_cases a5 : b.wire < b.eye
                  · rw [decide_eq_true a5] at e
                    subst e
                    have a5n : ¬ b.eye ≤ b.wire := by omega
                    go_wp2_with (go_at_call 46; (with_reducible refine hx.mono ?_); rintro e w1 ⟨rfl, hb1⟩; have y0 := keepc hb1 x0; have y5 := keepc hb1 x5)
                    go_meet
                    have f1 : ((nr : Int) == 0) = false := by rw [beq_eq_false_iff_ne]; exact a1z
                    have f2 : decide (b.wire < 0) = false := decide_eq_false (by omega)
                    have f3 : decide (20 < b.wire) = false := decide_eq_false (by omega)
                    have f5 : decide (b.eye ≤ b.wire) = false := decide_eq_false (by omega)
                    exact ⟨by rw [f1, f2, f3, f5]; rfl, hb1⟩
                  · rw [decide_eq_false a5] at e
                    subst e
                    have a5n : b.eye ≤ b.wire := by omega
                    go_wp2_with (go_at_call 46; (with_reducible refine hx.mono ?_); rintro e w1 ⟨rfl, hb1⟩; have y0 := keepc hb1 x0; have y5 := keepc hb1 x5)
                    go_meet
                    exact ⟨rfl, hb1⟩
              · have e : hb = false := by rw [hhd, decide_eq_false a4]; simp
                have a4z : ¬ (nn : Int) = (nl : Int) := by omega
                clear hhd hx
                subst e
                go_wp2_with fail
                go_meet
                exact ⟨rfl, Below.refl _ _⟩
            · have e : hb = false := by rw [hhd, decide_eq_false a3]; simp
              have a3z : 20 < b.wire := by omega
              clear hhd hx
              subst e
              go_wp2_with fail
              go_meet
              exact ⟨rfl, Below.refl _ _⟩
          · have e : hb = false := by rw [hhd, decide_eq_false a2]; simp
            have a2z : b.wire < 0 := by omega
            clear hhd hx
            subst e
            go_wp2_with fail
            go_meet
            exact ⟨rfl, Below.refl _ _⟩
      case rest =>
        obtain ⟨U, rfl⟩ : ∃ U : World, U = wc := ⟨_, rfl⟩
        obtain ⟨rfl, hBN⟩ := hcut
        have BU : Aside (Below w.heap.size w U) := B0.out.trans (hBN.out.mono B0.out.size)
        replace x0 := keepc hBN.out x0
        replace x1 := keepc hBN.out x1
        replace x2 := keepc hBN.out x2
        replace x3 := keepc hBN.out x3
        replace x4 := keepc hBN.out x4
        replace x5 := keepc hBN.out x5
        clear hBN B0 HX1
        cases hb with
        | false =>
          have e : cv = 2 := HBAD3.out (by rw [HHB.out]; rfl)
          subst e
          go_wp2_with fail
          go_ret
          exact ⟨rfl, BU.out⟩
        | true =>
          have hw : 0 ≤ b.wire ∧ b.wire ≤ 20 := by
            have := HHD.out
            simp only [eq_comm (a := true), Bool.and_eq_true, decide_eq_true_eq] at this
            omega
          clear HHD
          obtain ⟨hw0, hw1⟩ := hw
          have hx := HX2.out U BU.out
          clear HX2
          go_upto_region 5 with (fail)
          go_cut [3] (fun s3 wc => ∃ g c, s3 = .slice (some ⟨g, 0, none⟩) (radii b).length c ∧ Aside (Sl wc 1 eI (.slice (some ⟨g, 0, none⟩) (radii b).length c) (radii b)) ∧ Aside (Below U.heap.size U wc))
          case first =>
            unfold SlOk at hx
            go_wp2_with (go_at_call 47; (with_reducible refine hx.mono ?_); rintro e w1 ⟨g, c, rfl, hsl, hb1⟩)
            go_meet
            exact ⟨_, _, rfl, hsl, hb1⟩
          case rest =>
            obtain ⟨U2, rfl⟩ : ∃ U2 : World, U2 = wc := ⟨_, rfl⟩
            obtain ⟨g, c, rfl, HSR, hBN⟩ := hcut
            have BU2 : Aside (Below w.heap.size w U2) := BU.out.trans (hBN.out.mono BU.out.size)
            replace x2 := keepc hBN.out x2
            replace x3 := keepc hBN.out x3
            replace x4 := keepc hBN.out x4
            replace x5 := keepc hBN.out x5
            clear hBN BU hx x0 x1
            have HCD : Aside (∀ j, j < (radii b).length → U2.cell? ⟨g, j, none⟩ = some (.int .i64 (gi (radii b) j))) := by
              intro j hj
              obtain ⟨b', off, e, h⟩ := cells_one HSR.out j hj
              obtain ⟨_, _, e2, _, hs2⟩ := HSR.out
              cases e2
              obtain ⟨b2, off2, ha, _, hc⟩ := hs2 (by intro e; rw [e] at hj; simp at hj)
              cases e
              simpa using h
            obtain ⟨nd, hnd⟩ : ∃ n, (radii b).length = n := ⟨_, rfl⟩
            have HND : Aside ((radii b).length = nd) := hnd
            have hnd2 : nd ≤ 12 := by rw [← hnd, radii_len]; have := HS.out.rl; omega
            have HRB : Aside (∀ j, j < nd → -1000000 ≤ gi (radii b) j ∧ gi (radii b) j ≤ 1000000) := by
              intro j hj
              exact HS.out.rad _ (gi_mem (by rw [hnd]; exact hj))
            rw [hnd]
            rw [hnd] at HCD
            clear hnd HSR
            go_wp2_with fail
            go_loopg [4] nd (fun gg i wr => ∃ k : Nat, k ≤ nd ∧ nd - k ≤ gg ∧ i = .int .i64 k ∧ Aside (∀ j, j < k → radAt b j = true) ∧ Aside (Below U2.heap.size U2 wr))
            case atStart => exact ⟨0, Nat.zero_le _, by omega, rfl, fun j hj => absurd hj (Nat.not_lt_zero _), Below.refl _ _⟩
            case round =>
              obtain ⟨k, hk, hg, rfl, HA, BW⟩ := hrel
              by_cases hlt : k < nd
              ·
                have hltz : (k : Int) < (nd : Int) := by omega
                have r0 := keepc BW.out (HCD.out k hlt)
                obtain ⟨q1, q2⟩ := HRB.out k hlt
                have y5 := keepc BW.out x5
                have HP : Aside (radAt b k = (decide (gi (radii b) k ≤ 5000) && (decide (k = 0) || decide (2 * b.wire < gi (radii b) k - gi (radii b) (k - 1))))) := rfl
                have HBAD2 : Aside (radAt b k = false → cv = 2) := by
                  intro h
                  refine HBAD3.out ?_
                  have : (List.range (radii b).length).all (radAt b) = false := by
                    rw [List.all_eq_false]
                    exact ⟨k, List.mem_range.2 (by rw [HND.out]; exact hlt), by rw [h]; simp⟩
                  rw [this]; simp
                have HT : Aside (radAt b k = true → ∀ j, j < k + 1 → radAt b j = true) := by
                  intro h j hj
                  by_cases e : j = k
                  · subst e; exact h
                  · exact HA.out j (by omega)
                clear HA
                by_cases hk0 : k = 0
                · subst hk0
                  obtain ⟨rv, hrv⟩ : ∃ rv, gi (radii b) 0 = rv := ⟨_, rfl⟩
                  rw [hrv] at r0 HP q1 q2
                  clear hrv
                  have r0 : wr.cell? ⟨g, 0, none⟩ = some (.int .i64 rv) := r0
                  have MK : Aside (∀ w', Below wr.heap.size wr w' → (Below wr.heap.size wr w' ∧ w'.cell? ⟨g, 0, none⟩ = some (.int .i64 rv) ∧ w'.cell? ⟨w.heap.size, 5, none⟩ = some (.int .i64 b.wire))) := fun w' hB => ⟨hB, keepc hB r0, keepc hB y5⟩
                  have h00 : decide ((0 : Int) < (0 : Int)) = false := rfl
                  by_cases hb5 : rv ≤ 5000
                  · have h5 : decide (5000 < rv) = false := decide_eq_false (by omega)
                    have HT2 : Aside (∀ j, j < 0 + 1 → radAt b j = true) := HT.out (by rw [HP.out, decide_eq_true hb5]; rfl)
                    go_upto_region 9 with (fail)
                    refine region_class (fun w' => Below wr.heap.size wr w' ∧ w'.cell? ⟨g, 0, none⟩ = some (.int .i64 rv) ∧ w'.cell? ⟨w.heap.size, 5, none⟩ = some (.int .i64 b.wire)) (by kernel_rfl) (by kernel_rfl) (MK.out _ ((Below.refl _ _).drew)) ?_
                    iterate 25 (first | go_big_quiet_skip | (go_big_quiet_want; unfold Oper.quiet; apply Exists.intro; refine ⟨fun W hW => ?_, ?_⟩; (go_split_ands; unfold Oper.quietAt; go_simp; first | rfl | exact ⟨rfl, rfl⟩ | skip); go_big_quiet_on; (try simp only [Act.put, List.setIfInBounds_toArray, List.set_cons_zero, List.set_cons_succ])))
                    refine wpQuiet_nil ?_
                    intro W hW
                    obtain ⟨hBW, _⟩ := hW
                    go_wp2_with fail
                    go_roundg (nd - (0 + 1))
                    case measure => omega
                    case rel => exact ⟨0 + 1, by omega, by omega, by go_num, HT2, BW.out.trans (hBW.mono BW.out.size)⟩
                  · have h5 : decide (5000 < rv) = true := decide_eq_true (by omega)
                    have e : cv = 2 := HBAD2.out (by rw [HP.out, decide_eq_false hb5]; rfl)
                    subst e
                    go_upto_region 9 with (fail)
                    refine region_class (fun w' => Below wr.heap.size wr w' ∧ w'.cell? ⟨g, 0, none⟩ = some (.int .i64 rv) ∧ w'.cell? ⟨w.heap.size, 5, none⟩ = some (.int .i64 b.wire)) (by kernel_rfl) (by kernel_rfl) (MK.out _ ((Below.refl _ _).drew)) ?_
                    iterate 25 (first | go_big_quiet_skip | (go_big_quiet_want; unfold Oper.quiet; apply Exists.intro; refine ⟨fun W hW => ?_, ?_⟩; (go_split_ands; unfold Oper.quietAt; go_simp; first | rfl | exact ⟨rfl, rfl⟩ | skip); go_big_quiet_on; (try simp only [Act.put, List.setIfInBounds_toArray, List.set_cons_zero, List.set_cons_succ])))
                    refine wpQuiet_nil ?_
                    intro W hW
                    obtain ⟨hBW, _⟩ := hW
                    go_wp2_with fail
                    go_ret
                    exact ⟨rfl, BU2.out.trans ((BW.out.trans (hBW.mono BW.out.size)).mono BU2.out.size)⟩
                · obtain ⟨m, rfl⟩ : ∃ m, k = m + 1 := ⟨k - 1, by omega⟩
                  have s0 := keepc BW.out (HCD.out m (by omega))
                  obtain ⟨q3, q4⟩ := HRB.out m (by omega)
                  rw [show m + 1 - 1 = m from rfl] at HP
                  obtain ⟨rv, hrv⟩ : ∃ rv, gi (radii b) (m + 1) = rv := ⟨_, rfl⟩
                  obtain ⟨sv, hsv⟩ : ∃ sv, gi (radii b) m = sv := ⟨_, rfl⟩
                  rw [hrv] at r0 HP q1 q2
                  rw [hsv] at s0 HP q3 q4
                  rw [decide_eq_false hk0] at HP
                  clear hrv hsv hk0
                  have MK : Aside (∀ w', Below wr.heap.size wr w' → (Below wr.heap.size wr w' ∧ w'.cell? ⟨g, m + 1, none⟩ = some (.int .i64 rv) ∧ w'.cell? ⟨g, m, none⟩ = some (.int .i64 sv) ∧ w'.cell? ⟨w.heap.size, 5, none⟩ = some (.int .i64 b.wire))) := fun w' hB => ⟨hB, keepc hB r0, keepc hB s0, keepc hB y5⟩
                  have hd0 : decide ((0 : Int) < ((m + 1 : Nat) : Int)) = true := decide_eq_true (by omega)
                  have hd1 : decide ((0 : Int) < (m : Int) + 1) = true := decide_eq_true (by omega)
                  have hj1 : (m : Int) + 1 < (nd : Int) := by omega
                  have hj0 : (m : Int) < (nd : Int) := by omega
                  have hw3 : ((m : Int) + 1).toNat = m + 1 := by omega
                  have hw4 : IntKind.i64.wrap ((m : Int) + 1 - 1) = (m : Int) := by rw [IntWalk.i64_in _ (by omega)]; omega
                  have hw5 : IntKind.i64.wrap (m : Int) = (m : Int) := IntWalk.i64_in _ (by omega)
                  have hw6 : IntKind.i64.wrap (rv - sv) = rv - sv := IntWalk.i64_in _ (by omega)
                  have hw7 : IntKind.i64.wrap (2 * b.wire) = 2 * b.wire := IntWalk.i64_in _ (by omega)
                  by_cases hb5 : rv ≤ 5000
                  · have h5 : decide (5000 < rv) = false := decide_eq_false (by omega)
                    by_cases hb6 : 2 * b.wire < rv - sv
                    · have h6 : decide (rv - sv ≤ 2 * b.wire) = false := decide_eq_false (by omega)
                      have HT2 : Aside (∀ j, j < m + 1 + 1 → radAt b j = true) := HT.out (by rw [HP.out, decide_eq_true hb5, decide_eq_true hb6]; rfl)
                      go_upto_region 9 with (fail)
                      refine region_class (fun w' => Below wr.heap.size wr w' ∧ w'.cell? ⟨g, m + 1, none⟩ = some (.int .i64 rv) ∧ w'.cell? ⟨g, m, none⟩ = some (.int .i64 sv) ∧ w'.cell? ⟨w.heap.size, 5, none⟩ = some (.int .i64 b.wire)) (by kernel_rfl) (by kernel_rfl) (MK.out _ ((Below.refl _ _).drew)) ?_
                      iterate 25 (first | go_big_quiet_skip | (go_big_quiet_want; unfold Oper.quiet; apply Exists.intro; refine ⟨fun W hW => ?_, ?_⟩; (go_split_ands; unfold Oper.quietAt; go_simp; first | rfl | exact ⟨rfl, rfl⟩ | skip); go_big_quiet_on; (try simp only [Act.put, List.setIfInBounds_toArray, List.set_cons_zero, List.set_cons_succ])))
                      refine wpQuiet_nil ?_
                      intro W hW
                      obtain ⟨hBW, _⟩ := hW
                      go_wp2_with fail
                      go_roundg (nd - (m + 1 + 1))
                      case measure => omega
                      case rel => exact ⟨m + 1 + 1, by omega, by omega, by go_num, HT2, BW.out.trans (hBW.mono BW.out.size)⟩
                    · have h6 : decide (rv - sv ≤ 2 * b.wire) = true := decide_eq_true (by omega)
                      have e : cv = 2 := HBAD2.out (by rw [HP.out, decide_eq_true hb5, decide_eq_false hb6]; rfl)
                      subst e
                      go_upto_region 9 with (fail)
                      refine region_class (fun w' => Below wr.heap.size wr w' ∧ w'.cell? ⟨g, m + 1, none⟩ = some (.int .i64 rv) ∧ w'.cell? ⟨g, m, none⟩ = some (.int .i64 sv) ∧ w'.cell? ⟨w.heap.size, 5, none⟩ = some (.int .i64 b.wire)) (by kernel_rfl) (by kernel_rfl) (MK.out _ ((Below.refl _ _).drew)) ?_
                      iterate 25 (first | go_big_quiet_skip | (go_big_quiet_want; unfold Oper.quiet; apply Exists.intro; refine ⟨fun W hW => ?_, ?_⟩; (go_split_ands; unfold Oper.quietAt; go_simp; first | rfl | exact ⟨rfl, rfl⟩ | skip); go_big_quiet_on; (try simp only [Act.put, List.setIfInBounds_toArray, List.set_cons_zero, List.set_cons_succ])))
                      refine wpQuiet_nil ?_
                      intro W hW
                      obtain ⟨hBW, _⟩ := hW
                      go_wp2_with fail
                      go_ret
                      exact ⟨rfl, BU2.out.trans ((BW.out.trans (hBW.mono BW.out.size)).mono BU2.out.size)⟩
                  · have h5 : decide (5000 < rv) = true := decide_eq_true (by omega)
                    have e : cv = 2 := HBAD2.out (by rw [HP.out, decide_eq_false hb5]; rfl)
                    subst e
                    go_upto_region 9 with (fail)
                    refine region_class (fun w' => Below wr.heap.size wr w' ∧ w'.cell? ⟨g, m + 1, none⟩ = some (.int .i64 rv) ∧ w'.cell? ⟨g, m, none⟩ = some (.int .i64 sv) ∧ w'.cell? ⟨w.heap.size, 5, none⟩ = some (.int .i64 b.wire)) (by kernel_rfl) (by kernel_rfl) (MK.out _ ((Below.refl _ _).drew)) ?_
                    iterate 25 (first | go_big_quiet_skip | (go_big_quiet_want; unfold Oper.quiet; apply Exists.intro; refine ⟨fun W hW => ?_, ?_⟩; (go_split_ands; unfold Oper.quietAt; go_simp; first | rfl | exact ⟨rfl, rfl⟩ | skip); go_big_quiet_on; (try simp only [Act.put, List.setIfInBounds_toArray, List.set_cons_zero, List.set_cons_succ])))
                    refine wpQuiet_nil ?_
                    intro W hW
                    obtain ⟨hBW, _⟩ := hW
                    go_wp2_with fail
                    go_ret
                    exact ⟨rfl, BU2.out.trans ((BW.out.trans (hBW.mono BW.out.size)).mono BU2.out.size)⟩
              · have hke : nd = k := by omega
                subst hke
                have hltz : ¬ (nd : Int) < (nd : Int) := by omega
                have HRO : Aside ((List.range (radii b).length).all (radAt b) = true) := by
                  show _ = _
                  rw [List.all_eq_true]
                  intro j hj
                  exact HA.out j (by rw [← HND.out]; exact List.mem_range.1 hj)
                clear HA HRB HND HCD
                obtain ⟨U3, rfl⟩ : ∃ U3 : World, U3 = wr := ⟨_, rfl⟩
                have BU3 : Aside (Below w.heap.size w U3) := BU2.out.trans (BW.out.mono BU2.out.size)
                replace x2 := keepc BW.out x2
                replace x4 := keepc BW.out x4
                clear BW BU2 x3 x5
                -- the factors
                go_wp2_with fail
                go_loopg [5] nr (fun gg i wr => ∃ k : Nat, k ≤ nr ∧ nr - k ≤ gg ∧ i = .int .i64 k ∧ Aside (∀ j p, j < k → b.rings[j]? = some p → facAt p = true) ∧ Aside (U3 = wr))
                case atStart => exact ⟨0, Nat.zero_le _, by omega, rfl, fun j p hj => absurd hj (Nat.not_lt_zero _), rfl⟩
                case round =>
                  obtain ⟨k, hk, hg, rfl, HA, EW⟩ := hrel
                  obtain rfl := EW.out
                  by_cases hlt : k < nr
                  · have hltz2 : (k : Int) < (nr : Int) := by omega
                    obtain ⟨p, hp⟩ : ∃ p, b.rings[k]? = some p := ⟨_, List.getElem?_eq_getElem (by rw [HN.out.1]; exact hlt)⟩
                    obtain ⟨g', off, rfl, _, c1⟩ := HCR.out k p hp
                    have c1 := keepc BU3.out c1
                    have HBAD2 : Aside (facAt p = false → cv = 2) := by
                      intro h
                      refine HBAD3.out ?_
                      have : b.rings.all facAt = false := by
                        rw [List.all_eq_false]
                        exact ⟨p, List.mem_of_getElem? hp, by rw [h]; simp⟩
                      rw [this]; simp
                    have HT : Aside (facAt p = true → ∀ j q, j < k + 1 → b.rings[j]? = some q → facAt q = true) := by
                      intro h j q hj hq
                      by_cases e : j = k
                      · subst e; rw [hp] at hq; cases hq; exact h
                      · exact HA.out j q (by omega) hq
                    have HP : Aside (facAt p = decide (0 ≤ p.2 ∧ p.2 ≤ 4)) := rfl
                    clear HA hp
                    obtain ⟨y0, y⟩ := p
                    simp only [] at c1 HP
                    by_cases a1 : 0 ≤ y
                    · by_cases a2 : y ≤ 4
                      · have HT2 : Aside (∀ j q, j < k + 1 → b.rings[j]? = some q → facAt q = true) := HT.out (by rw [HP.out]; exact decide_eq_true ⟨a1, a2⟩)
                        go_wp2_with fail
                        go_roundg (nr - (k + 1))
                        case measure => omega
                        case rel => exact ⟨k + 1, by omega, by omega, by go_num, HT2, rfl⟩
                      · have e : cv = 2 := HBAD2.out (by rw [HP.out]; exact decide_eq_false (by omega))
                        subst e
                        go_wp2_with fail
                        go_ret
                        exact ⟨rfl, BU3.out⟩
                    · have e : cv = 2 := HBAD2.out (by rw [HP.out]; exact decide_eq_false (by omega))
                      subst e
                      go_wp2_with fail
                      go_ret
                      exact ⟨rfl, BU3.out⟩
                  · have hke : nr = k := by omega
                    subst hke
                    have hltz2 : ¬ (nr : Int) < (nr : Int) := by omega
                    have HFO : Aside (b.rings.all facAt = true) := by
                      show _ = _
                      rw [List.all_eq_true]
                      intro p hp
                      obtain ⟨j, hj, rfl⟩ := List.getElem_of_mem hp
                      exact HA.out j _ (by rw [← HN.out.1]; exact hj) (List.getElem?_eq_getElem hj)
                    clear HA EW
                    -- the numbers
                    go_wp2_with fail
                    go_loopg [6] nn (fun gg i wr => ∃ k : Nat, k ≤ nn ∧ nn - k ≤ gg ∧ i = .int .i64 k ∧ Aside (∀ j, j < k → numAt b.nums j = true) ∧ Aside (Below U3.heap.size U3 wr))
                    case atStart => exact ⟨0, Nat.zero_le _, by omega, rfl, fun j hj => absurd hj (Nat.not_lt_zero _), Below.refl _ _⟩
                    case round =>
                      obtain ⟨k, hk, hg, rfl, HA, BW⟩ := hrel
                      by_cases hlt : k < nn
                      · have hltz3 : (k : Int) < (nn : Int) := by omega
                        obtain ⟨g', off, rfl, c0⟩ := HCN.out k hlt
                        have HCQ : Aside (∀ j, j < k → w.cell? ⟨g', off + j, none⟩ = some (.int .i64 (gi b.nums j))) := by
                          intro j hj
                          obtain ⟨_, _, e, h⟩ := HCN.out j (by omega)
                          cases e; exact h
                        have c0 := keepc BW.out (keepc BU3.out c0)
                        have y4 := keepc BW.out x4
                        have HBAD2 : Aside (numAt b.nums k = false → cv = 2) := by
                          intro h
                          refine HBAD3.out ?_
                          have : (List.range b.nums.length).all (numAt b.nums) = false := by
                            rw [List.all_eq_false]
                            exact ⟨k, List.mem_range.2 (by rw [HN.out.2.2]; exact hlt), by rw [h]; simp⟩
                          rw [this]; simp
                        have HT : Aside (numAt b.nums k = true → ∀ j, j < k + 1 → numAt b.nums j = true) := by
                          intro h j hj
                          by_cases e : j = k
                          · subst e; exact h
                          · exact HA.out j (by omega)
                        have HP : Aside (numAt b.nums k = (decide (1 ≤ gi b.nums k ∧ gi b.nums k ≤ 20) && !(b.nums.take k).contains (gi b.nums k))) := rfl
                        have HX : Aside (gi b.nums k = gi b.nums k) := rfl
                        clear HA HX
                        obtain ⟨y, hy⟩ : ∃ y, gi b.nums k = y := ⟨_, rfl⟩
                        rw [hy] at c0 HP
                        clear hy
                        have BW2 : Aside (Below w.heap.size w wr) := BU3.out.trans (BW.out.mono BU3.out.size)
                        by_cases a1 : 1 ≤ y
                        · by_cases a2 : y ≤ 20
                          · have HP2 : Aside (numAt b.nums k = !(b.nums.take k).contains y) := by show _ = _; rw [HP.out, decide_eq_true (show 1 ≤ y ∧ y ≤ 20 from ⟨a1, a2⟩)]; rfl
                            have HDUP : Aside (∀ j, j < k → gi b.nums j = y → cv = 2) := by
                              intro j hj e
                              refine HBAD2.out ?_
                              rw [HP2.out]
                              have hjl : j < b.nums.length := by rw [HN.out.2.2]; omega
                              have : (b.nums.take k).contains y = true := by
                                rw [List.contains_eq_mem, decide_eq_true_eq, ← e]
                                exact List.mem_of_getElem? (i := j) (by rw [List.getElem?_take, if_pos hj]; exact gi_get hjl)
                              rw [this]; rfl
                            have HFIN : Aside ((∀ j, j < k → gi b.nums j ≠ y) → ∀ j, j < k + 1 → numAt b.nums j = true) := by
                              intro h
                              refine HT.out ?_
                              rw [HP2.out]
                              have : (b.nums.take k).contains y = false := by
                                rw [List.contains_eq_mem, decide_eq_false_iff_not]
                                intro hm
                                obtain ⟨i, hi, e⟩ := List.getElem_of_mem hm
                                rw [List.length_take] at hi
                                rw [List.getElem_take] at e
                                refine h i (by omega) ?_
                                unfold gi
                                rw [List.getElem?_eq_getElem (by omega)]
                                exact e
                              rw [this]; rfl
                            clear HP HP2 HT HBAD2
                            obtain ⟨Wk, rfl⟩ : ∃ Wk : World, Wk = wr := ⟨_, rfl⟩
                            have h1d : decide (y < 1) = false := decide_eq_false (by omega)
                            have h2d : decide (20 < y) = false := decide_eq_false (by omega)
                            go_wp2_with fail
                            go_loopg [7] k (fun gg i wr => ∃ q : Nat, q ≤ k ∧ k - q ≤ gg ∧ i = .int .i64 q ∧ Aside (∀ j, j < q → gi b.nums j ≠ y) ∧ Aside (Below Wk.heap.size Wk wr))
                            case atStart => exact ⟨0, Nat.zero_le _, by omega, rfl, fun j hj => absurd hj (Nat.not_lt_zero _), Below.refl _ _⟩
                            case round =>
                              obtain ⟨q, hq, hg2, rfl, HQ, BQ⟩ := hrel
                              by_cases hlq : q < k
                              · have hlqz : (q : Int) < (k : Int) := by omega
                                have hlqn : (q : Int) < (nn : Int) := by omega
                                have d0 := keepc BQ.out (keepc BW2.out (HCQ.out q hlq))
                                have c0 := keepc BQ.out c0
                                have y4 := keepc BQ.out y4
                                have HD : Aside (gi b.nums q = y → cv = 2) := HDUP.out q hlq
                                have HQ2 : Aside (gi b.nums q ≠ y → ∀ j, j < q + 1 → gi b.nums j ≠ y) := by
                                  intro h j hj
                                  by_cases e : j = q
                                  · subst e; exact h
                                  · exact HQ.out j (by omega)
                                clear HQ
                                obtain ⟨x, hx⟩ : ∃ x, gi b.nums q = x := ⟨_, rfl⟩
                                rw [hx] at d0 HD HQ2
                                clear hx
                                have MK : Aside (∀ w', Below wr.heap.size wr w' → (Below wr.heap.size wr w' ∧ w'.cell? ⟨g', off + q, none⟩ = some (.int .i64 x) ∧ w'.cell? ⟨g', off + k, none⟩ = some (.int .i64 y) ∧ w'.cell? ⟨w.heap.size, 4, none⟩ = some (.slice (some ⟨g', off, none⟩) nn cn))) := fun w' hB => ⟨hB, keepc hB d0, keepc hB c0, keepc hB y4⟩
                                go_upto_region 24 with (fail)
                                refine region_class (fun w' => Below wr.heap.size wr w' ∧ w'.cell? ⟨g', off + q, none⟩ = some (.int .i64 x) ∧ w'.cell? ⟨g', off + k, none⟩ = some (.int .i64 y) ∧ w'.cell? ⟨w.heap.size, 4, none⟩ = some (.slice (some ⟨g', off, none⟩) nn cn)) (by kernel_rfl) (by kernel_rfl) (MK.out _ ((Below.refl _ _).drew)) ?_
                                iterate 11 (first | go_big_quiet_skip | (go_big_quiet_want; unfold Oper.quiet; apply Exists.intro; refine ⟨fun W hW => ?_, ?_⟩; (go_split_ands; unfold Oper.quietAt; go_simp; first | rfl | exact ⟨rfl, rfl⟩ | skip); go_big_quiet_on; (try simp only [Act.put, List.setIfInBounds_toArray, List.set_cons_zero, List.set_cons_succ])))
                                refine wpQuiet_nil ?_
                                intro W hW
                                obtain ⟨hBW, _⟩ := hW
                                by_cases e : x = y
                                · have e2 : cv = 2 := HD.out e
                                  subst e2
                                  have exy : (x == y) = true := by simp [e]
                                  clear e
                                  go_wp2_with fail
                                  go_ret
                                  exact ⟨rfl, BW2.out.trans ((BQ.out.trans (hBW.mono BQ.out.size)).mono BW2.out.size)⟩
                                · have HQ3 : Aside (∀ j, j < q + 1 → gi b.nums j ≠ y) := HQ2.out e
                                  have exy : (x == y) = false := by simp [e]
                                  clear e
                                  go_wp2_with fail
                                  go_roundg (k - (q + 1))
                                  case measure => omega
                                  case rel => exact ⟨q + 1, by omega, by omega, by go_num, HQ3, BQ.out.trans (hBW.mono BQ.out.size)⟩
                              · have hqe : q = k := by omega
                                subst hqe
                                have hlqz : ¬ (q : Int) < (q : Int) := by omega
                                have HT2 : Aside (∀ j, j < q + 1 → numAt b.nums j = true) := HFIN.out HQ.out
                                go_wp2_with fail
                                go_roundg (nn - (q + 1))
                                case measure => omega
                                case rel => exact ⟨q + 1, by omega, by omega, by go_num, HT2, BW.out.trans (BQ.out.mono BW.out.size)⟩
                          · have e : cv = 2 := HBAD2.out (by rw [HP.out, decide_eq_false (by omega)]; rfl)
                            subst e
                            go_wp2_with fail
                            go_ret
                            exact ⟨rfl, BW2.out⟩
                        · have e : cv = 2 := HBAD2.out (by rw [HP.out, decide_eq_false (by omega)]; rfl)
                          subst e
                          go_wp2_with fail
                          go_ret
                          exact ⟨rfl, BW2.out⟩
                      · have hke : nn = k := by omega
                        subst hke
                        have hltz3 : ¬ (nn : Int) < (nn : Int) := by omega
                        have y4 := keepc BW.out x4
                        have e : cv = 0 := HGOOD3.out HHB.out HRO.out HFO.out (by
                          rw [List.all_eq_true]
                          intro j hj
                          exact HA.out j (by rw [← HN.out.2.2]; exact List.mem_range.1 hj))
                        subst e
                        go_wp2_with fail
                        go_ret
                        exact ⟨rfl, BU3.out.trans (BW.out.mono BU3.out.size)⟩
end Go.Proofs.YtgceffpkhmjmkaaGreat
