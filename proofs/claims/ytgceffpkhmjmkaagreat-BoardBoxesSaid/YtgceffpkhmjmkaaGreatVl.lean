/- Board, part Vl: the bed of a dart, by the reference. -/
import Derived.Test.YtgceffpkhmjmkaaGreatVj
import Derived.Test.YtgceffpkhmjmkaaGreatVk
set_option linter.unusedVariables false
set_option linter.unusedSimpArgs false
namespace Go.Proofs.YtgceffpkhmjmkaaGreat
open Go.RowKit Go.Shelf

set_option maxRecDepth 100000 in
set_option maxHeartbeats 16000000 in
theorem rBed_any (v : Value) (b : Brd) (p : Int × Int) (w : World) (h : BrdAt w v b) (hc : chk b = 0) (hp : Pt5 p) :
    Calls Tryz.prog 18 #[v, pt p] w (Ret (.int .i64 (bedW b p)) w) := by
  have HB : Aside (BrdAt w v b) := h
  obtain ⟨vr, vl, vn, rfl, sr, ⟨al, cl, rfl, ll, _⟩, sn⟩ := h
  have hCR := sr
  have hCN := sn
  obtain ⟨ar, cr, rfl, lr, _⟩ := sr
  obtain ⟨an, cn, rfl, ln, _⟩ := sn
  have HCR : Aside (∀ j p, b.rings[j]? = some p → ∃ g off, ar = some ⟨g, off, none⟩ ∧ w.cell? ⟨g, off + j * 2, none⟩ = some (.int .i64 p.1) ∧ w.cell? ⟨g, off + j * 2 + 1, none⟩ = some (.int .i64 p.2)) := cells_of hCR
  have HCN : Aside (∀ j, j < b.nums.length → ∃ g off, an = some ⟨g, off, none⟩ ∧ w.cell? ⟨g, off + j, none⟩ = some (.int .i64 (gi b.nums j))) := cells_one hCN
  have gd := good_of_chk hc
  have HG : Aside (Good b) := gd
  have HX1 : Aside (∀ W, Calls Tryz.prog 49 #[pt p, pt p] W (Ret (.int .i64 (dt p p)) W)) := fun W => rDot_any p p W hp.near hp.near
  have HX2 : Aside (∀ W, Below w.heap.size w W → Calls Tryz.prog 19 #[.agg #[.int .i64 b.eye, .int .i64 b.bull, .slice ar b.rings.length cr, .slice al b.lines.length cl, .slice an b.nums.length cn, .int .i64 b.wire], pt p] W (Ret (.bool (onWire b p)) W)) := fun W hW => rWire_any _ b p W (HB.out.below hW) gd hp
  have HX3 : Aside (0 < dt p p → ∀ W, Below w.heap.size w W → Calls Tryz.prog 50 #[.agg #[.int .i64 b.eye, .int .i64 b.bull, .slice ar b.rings.length cr, .slice al b.lines.length cl, .slice an b.nums.length cn, .int .i64 b.wire], pt p] W (Ret (.int .i64 (sector b p)) W)) := fun h0 W hW => rSector_any _ b p W (HB.out.below hW) hc hp.near h0
  have HSL : Aside (0 < dt p p → sector b p < b.lines.length) := fun h0 => (sector_btw hc h0).1
  have hq5 := dt_bd5 hp hp
  have hey := gd.eyeMem
  have hbu := gd.bullMem
  have hr10 := gd.len.1
  obtain ⟨q, hq⟩ : ∃ x, dt p p = x := ⟨_, rfl⟩
  obtain ⟨ow, how⟩ : ∃ x, onWire b p = x := ⟨_, rfl⟩
  obtain ⟨s, hs⟩ : ∃ x, sector b p = x := ⟨_, rfl⟩
  obtain ⟨res, hres⟩ : ∃ x, bedW b p = x := ⟨_, rfl⟩
  have HR : Aside (res = if ow then 0 else if q < b.eye * b.eye then 225 else if q < b.bull * b.bull then 125 else
    match b.rings.findIdx? (fun r => decide (q < r.1 * r.1)) with
    | some i => bedOf ((b.rings[i]?.getD (0, 0)).2) (gi b.nums s)
    | none => 0) := by
    show _ = _
    rw [← hres, ← how, ← hs, ← hq]; rfl
  rw [hq] at HX1 HX3 HSL hq5
  rw [how] at HX2
  rw [hs] at HX3 HSL
  rw [hres]
  clear hCR hCN gd hp hc hq how hs hres HB
  obtain ⟨nr, hnr⟩ : ∃ n, b.rings.length = n := ⟨_, rfl⟩
  obtain ⟨nl, hnl⟩ : ∃ n, b.lines.length = n := ⟨_, rfl⟩
  have hnn : b.nums.length = nl := HG.out.same.trans hnl
  have HN : Aside (b.rings.length = nr ∧ b.nums.length = nl) := ⟨hnr, hnn⟩
  obtain ⟨ey, hey'⟩ : ∃ x, b.eye = x := ⟨_, rfl⟩
  obtain ⟨bu, hbu'⟩ : ∃ x, b.bull = x := ⟨_, rfl⟩
  obtain ⟨wi, hwi⟩ : ∃ x, b.wire = x := ⟨_, rfl⟩
  rw [hnr, hnl, hnn, hey', hbu', hwi] at HX2 HX3
  rw [hey', hbu'] at HR
  rw [hey'] at hey
  rw [hbu'] at hbu
  rw [hnl] at HSL ll
  rw [hnr] at lr hr10
  rw [hnn] at HCN ln
  rw [hnr, hnl, hnn, hey', hbu', hwi]
  clear hnr hnl hnn hey' hbu' hwi
  have me := mul_bd ey ey 5000 5000 (by omega) (by omega) (by omega) (by omega)
  have mb := mul_bd bu bu 5000 5000 (by omega) (by omega) (by omega) (by omega)
  have mp : 0 < bu * bu := Int.mul_pos hbu.1 hbu.1
  obtain ⟨ee, hee⟩ : ∃ x, ey * ey = x := ⟨_, rfl⟩
  obtain ⟨bb, hbb⟩ : ∃ x, bu * bu = x := ⟨_, rfl⟩
  have w1 : IntKind.i64.wrap (ey * ey) = ee := by rw [IntWalk.i64_in _ (by omega)]; exact hee
  have w2 : IntKind.i64.wrap (bu * bu) = bb := by rw [IntWalk.i64_in _ (by omega)]; exact hbb
  rw [hee, hbb] at HR
  rw [hbb] at mp
  clear hee hbb me mb
  obtain ⟨px, py⟩ := p
  unfold pt at HX1 HX2 HX3 ⊢
  simp only [] at HX1 HX2 HX3 ⊢
  go_enter Tryz.func18, Tryz.ntmps18
  go_upto_region 1 with (fail)
  obtain ⟨W0, hW0⟩ : ∃ W0, W0 = (w.alloc (.cells #[.int .i64 ey, .int .i64 bu, .slice ar nr cr, .slice al nl cl, .slice an nl cn, .int .i64 wi] 26)).alloc (.cells #[.int .i64 px, .int .i64 py] 28) := ⟨_, rfl⟩
  have B0 : Aside (Below w.heap.size w W0) := by rw [hW0]; clear hW0; show Below _ _ _; (repeat' (first | exact Below.refl _ _ | assumption | (with_reducible refine Below.drew ?_) | (with_reducible refine Below.setCell ?_ (by (first | (simp; done) | (simp; omega))) _) | (with_reducible refine below_drewN' ?_ _) | (refine Below.alloc ?_ (by (try simp only [World.size_alloc, World.size_drew, World.size_setCell]); omega) _) | (refine Below.trans ?_ (Below.mono (by assumption) (by (try simp only [World.size_alloc, World.size_drew, World.size_setCell]); omega)))))
  have x0 : W0.cell? ⟨w.heap.size, 0, none⟩ = some (.int .i64 ey) := by rw [hW0]; clear hW0; go_simp
  have x1 : W0.cell? ⟨w.heap.size, 1, none⟩ = some (.int .i64 bu) := by rw [hW0]; clear hW0; go_simp
  have x2 : W0.cell? ⟨w.heap.size, 2, none⟩ = some (.slice ar nr cr) := by rw [hW0]; clear hW0; go_simp
  have x3 : W0.cell? ⟨w.heap.size, 3, none⟩ = some (.slice al nl cl) := by rw [hW0]; clear hW0; go_simp
  have x4 : W0.cell? ⟨w.heap.size, 4, none⟩ = some (.slice an nl cn) := by rw [hW0]; clear hW0; go_simp
  have x5 : W0.cell? ⟨w.heap.size, 5, none⟩ = some (.int .i64 wi) := by rw [hW0]; clear hW0; go_simp
  have p0 : W0.cell? ⟨w.heap.size + 1, 0, none⟩ = some (.int .i64 px) := by rw [hW0]; clear hW0; go_simp
  have p1 : W0.cell? ⟨w.heap.size + 1, 1, none⟩ = some (.int .i64 py) := by rw [hW0]; clear hW0; go_simp
  rw [← hW0]
  clear hW0
  go_cut [5] (fun s5 wc => s5 = .int .i64 q ∧ Aside (Below W0.heap.size W0 wc))
  case first =>
    have hx := HX1.out W0
    go_wp2_with (go_at_call 49; (with_reducible refine hx.mono ?_); rintro e w1 ⟨rfl, hb1⟩)
    go_meet
    exact ⟨rfl, hb1⟩
  case rest =>
    obtain ⟨U0, rfl⟩ : ∃ U0 : World, U0 = wc := ⟨_, rfl⟩
    obtain ⟨rfl, hBN⟩ := hcut
    have BU0 : Aside (Below w.heap.size w U0) := B0.out.trans (hBN.out.mono B0.out.size)
    replace x0 := keepc hBN.out x0
    replace x1 := keepc hBN.out x1
    replace x2 := keepc hBN.out x2
    replace x3 := keepc hBN.out x3
    replace x4 := keepc hBN.out x4
    replace x5 := keepc hBN.out x5
    replace p0 := keepc hBN.out p0
    replace p1 := keepc hBN.out p1
    clear hBN B0 HX1
    go_upto_region 2 with (fail)
    go_cut [12] (fun s12 wc => s12 = .bool ow ∧ Aside (Below U0.heap.size U0 wc))
    case first =>
      have hx := HX2.out U0 BU0.out
      go_wp2_with (go_at_call 19; (with_reducible refine hx.mono ?_); rintro e w1 ⟨rfl, hb1⟩)
      go_meet
      exact ⟨rfl, hb1⟩
    case rest =>
      obtain ⟨U, rfl⟩ : ∃ U : World, U = wc := ⟨_, rfl⟩
      obtain ⟨rfl, hBN⟩ := hcut
      have BU : Aside (Below w.heap.size w U) := BU0.out.trans (hBN.out.mono BU0.out.size)
      replace x0 := keepc hBN.out x0
      replace x1 := keepc hBN.out x1
      replace x2 := keepc hBN.out x2
      replace x3 := keepc hBN.out x3
      replace x4 := keepc hBN.out x4
      replace x5 := keepc hBN.out x5
      replace p0 := keepc hBN.out p0
      replace p1 := keepc hBN.out p1
      clear hBN BU0 HX2
      cases ow with
      | true =>
        have e : res = 0 := HR.out
        subst e
        go_wp2_with fail
        go_ret
        exact ⟨rfl, BU.out⟩
      | false =>
        by_cases h1 : q < ee
        · have e : res = 225 := by rw [HR.out]; simp only [Bool.false_eq_true, if_false]; rw [if_pos h1]
          subst e
          go_wp2_with fail
          go_ret
          exact ⟨rfl, BU.out⟩
        · by_cases h2 : q < bb
          · have e : res = 125 := by rw [HR.out]; simp only [Bool.false_eq_true, if_false]; rw [if_neg h1, if_pos h2]
            subst e
            go_wp2_with fail
            go_ret
            exact ⟨rfl, BU.out⟩
          · have HR2 : Aside (res = match b.rings.findIdx? (fun r => decide (q < r.1 * r.1)) with
              | some i => bedOf ((b.rings[i]?.getD (0, 0)).2) (gi b.nums s)
              | none => 0) := by
              show _ = _
              rw [HR.out]; simp only [Bool.false_eq_true, if_false]; rw [if_neg h1, if_neg h2]
            have hq0 : 0 < q := by omega
            have hsl := HSL.out hq0
            obtain ⟨gn, on, rfl, n0⟩ := HCN.out s hsl
            have n0 := keepc BU.out n0
            have hnb := HG.out.num _ (gi_mem (xs := b.nums) (i := s) (by rw [HN.out.2]; exact hsl))
            have HX4 := HX3.out hq0
            obtain ⟨nu, hnu⟩ : ∃ x, gi b.nums s = x := ⟨_, rfl⟩
            rw [hnu] at n0 hnb HR2
            clear hnu HCN HSL HR HX3
            go_wp2_with fail
            go_loopg [6] nr (fun gg i wr => ∃ k : Nat, k ≤ nr ∧ nr - k ≤ gg ∧ i = .int .i64 k ∧ Aside (∀ j r, j < k → b.rings[j]? = some r → ¬ q < r.1 * r.1) ∧ Aside (Below U.heap.size U wr))
            case atStart => exact ⟨0, Nat.zero_le _, by omega, rfl, fun j l hj => absurd hj (Nat.not_lt_zero _), Below.refl _ _⟩
            case round =>
              obtain ⟨k, hk, hg, rfl, HA, BW⟩ := hrel
              have y2 := keepc BW.out x2
              by_cases hlt : k < nr
              · have hltz : (k : Int) < (nr : Int) := by omega
                obtain ⟨r, hr⟩ : ∃ r, b.rings[k]? = some r := ⟨_, List.getElem?_eq_getElem (by rw [HN.out.1]; exact hlt)⟩
                obtain ⟨g', off, rfl, c0, c1⟩ := HCR.out k r hr
                have c0 := keepc BW.out (keepc BU.out c0)
                have c1 := keepc BW.out (keepc BU.out c1)
                have hrb := HG.out.rad r.1 (by unfold radii; exact List.mem_cons_of_mem _ (List.mem_cons_of_mem _ (List.mem_map.2 ⟨r, List.mem_of_getElem? hr, rfl⟩)))
                have hfb := HG.out.fac r (List.mem_of_getElem? hr)
                have HF : Aside (q < r.1 * r.1 → res = bedOf r.2 nu) := by
                  intro h
                  rw [HR2.out]
                  have hk2 : k < b.rings.length := by rw [HN.out.1]; exact hlt
                  have : b.rings.findIdx? (fun r => decide (q < r.1 * r.1)) = some k := by
                    rw [List.findIdx?_eq_some_iff_getElem]
                    have e : b.rings[k] = r := by rw [List.getElem?_eq_getElem hk2] at hr; simpa using hr
                    refine ⟨hk2, by rw [e]; exact decide_eq_true h, fun j hj => ?_⟩
                    have := HA.out j _ hj (List.getElem?_eq_getElem (by omega))
                    simpa using this
                  rw [this]
                  simp only []
                  rw [hr]; rfl
                have HT : Aside (¬ q < r.1 * r.1 → ∀ j m, j < k + 1 → b.rings[j]? = some m → ¬ q < m.1 * m.1) := by
                  intro h j m hj hm
                  by_cases e : j = k
                  · subst e; rw [hr] at hm; cases hm; exact h
                  · exact HA.out j m (by omega) hm
                clear HA hr
                obtain ⟨rx, f⟩ := r
                simp only [] at c0 c1 hrb hfb HF HT
                have mr := mul_bd rx rx 5000 5000 (by omega) (by omega) (by omega) (by omega)
                obtain ⟨rr, hrr⟩ : ∃ x, rx * rx = x := ⟨_, rfl⟩
                have w3 : IntKind.i64.wrap (rx * rx) = rr := by rw [IntWalk.i64_in _ (by omega)]; exact hrr
                rw [hrr] at HF HT
                clear hrr mr
                have MK : Aside (∀ w', Below wr.heap.size wr w' → (Below wr.heap.size wr w' ∧ w'.cell? ⟨g', off + k * 2, none⟩ = some (.int .i64 rx) ∧ w'.cell? ⟨g', off + k * 2 + 1, none⟩ = some (.int .i64 f) ∧ w'.cell? ⟨w.heap.size, 2, none⟩ = some (.slice (some ⟨g', off, none⟩) nr cr))) := fun w' hB => ⟨hB, keepc hB c0, keepc hB c1, keepc hB y2⟩
                by_cases h3 : q < rr
                · have e : res = bedOf f nu := HF.out h3
                  go_upto_region 11 with (fail)
                  refine region_class (fun w' => Below wr.heap.size wr w' ∧ w'.cell? ⟨g', off + k * 2, none⟩ = some (.int .i64 rx) ∧ w'.cell? ⟨g', off + k * 2 + 1, none⟩ = some (.int .i64 f) ∧ w'.cell? ⟨w.heap.size, 2, none⟩ = some (.slice (some ⟨g', off, none⟩) nr cr)) (by kernel_rfl) (by kernel_rfl) (MK.out _ ((Below.refl _ _).drew)) ?_
                  iterate 15 (first | go_big_quiet_skip | (go_big_quiet_want; unfold Oper.quiet; apply Exists.intro; refine ⟨fun W hW => ?_, ?_⟩; (go_split_ands; unfold Oper.quietAt; go_simp; first | rfl | exact ⟨rfl, rfl⟩ | skip); go_big_quiet_on; (try simp only [Act.put, List.setIfInBounds_toArray, List.set_cons_zero, List.set_cons_succ])))
                  refine wpQuiet_nil ?_
                  intro W hW
                  obtain ⟨hBW, d0, d1, z2⟩ := hW
                  have BW2 : Aside (Below U.heap.size U W) := BW.out.trans (hBW.mono BW.out.size)
                  by_cases hf : f = 0
                  · have e2 : res = 0 := by rw [e, hf]; rfl
                    clear e
                    subst e2
                    subst hf
                    go_wp2_with fail
                    go_ret
                    exact ⟨rfl, BU.out.trans (BW2.out.mono BU.out.size)⟩
                  · have e2 : res = 100 * f + nu := by rw [e]; unfold bedOf; rw [if_neg hf]
                    clear e
                    subst e2
                    have hfz : (f == 0) = false := by simp [hf]
                    have w4 : IntKind.i64.wrap (100 * f) = 100 * f := IntWalk.i64_in _ (by omega)
                    have w5 : IntKind.i64.wrap (100 * f + nu) = 100 * f + nu := IntWalk.i64_in _ (by omega)
                    have hslz : (s : Int) < (nl : Int) := by omega
                    have z_x0 := keepc BW2.out x0
                    have z_x1 := keepc BW2.out x1
                    have z_x2 := keepc BW2.out x2
                    have z_x3 := keepc BW2.out x3
                    have z_x4 := keepc BW2.out x4
                    have z_x5 := keepc BW2.out x5
                    have z_p0 := keepc BW2.out p0
                    have z_p1 := keepc BW2.out p1
                    have z_n0 := keepc BW2.out n0
                    have hx := fun W' (hW' : Below W.heap.size W W') => HX4 W' ((BU.out.trans (BW2.out.mono BU.out.size)).trans (hW'.mono (BU.out.trans (BW2.out.mono BU.out.size)).size))
                    have MK2 : Aside (∀ w', Below W.heap.size W w' → (Below W.heap.size W w' ∧ w'.cell? ⟨g', off + k * 2 + 1, none⟩ = some (.int .i64 f) ∧ w'.cell? ⟨gn, on + s, none⟩ = some (.int .i64 nu) ∧ w'.cell? ⟨w.heap.size, 0, none⟩ = some (.int .i64 ey) ∧ w'.cell? ⟨w.heap.size, 1, none⟩ = some (.int .i64 bu) ∧ w'.cell? ⟨w.heap.size, 2, none⟩ = some (.slice (some ⟨g', off, none⟩) nr cr) ∧ w'.cell? ⟨w.heap.size, 3, none⟩ = some (.slice al nl cl) ∧ w'.cell? ⟨w.heap.size, 4, none⟩ = some (.slice (some ⟨gn, on, none⟩) nl cn) ∧ w'.cell? ⟨w.heap.size, 5, none⟩ = some (.int .i64 wi) ∧ w'.cell? ⟨w.heap.size + 1, 0, none⟩ = some (.int .i64 px) ∧ w'.cell? ⟨w.heap.size + 1, 1, none⟩ = some (.int .i64 py))) := fun w' hB => ⟨hB, keepc hB d1, keepc hB z_n0, keepc hB z_x0, keepc hB z_x1, keepc hB z_x2, keepc hB z_x3, keepc hB z_x4, keepc hB z_x5, keepc hB z_p0, keepc hB z_p1⟩
                    clear MK d0 z2 hBW
                    go_upto_region 14 with (fail)
                    refine region_class (fun w' => Below W.heap.size W w' ∧ w'.cell? ⟨g', off + k * 2 + 1, none⟩ = some (.int .i64 f) ∧ w'.cell? ⟨gn, on + s, none⟩ = some (.int .i64 nu) ∧ w'.cell? ⟨w.heap.size, 0, none⟩ = some (.int .i64 ey) ∧ w'.cell? ⟨w.heap.size, 1, none⟩ = some (.int .i64 bu) ∧ w'.cell? ⟨w.heap.size, 2, none⟩ = some (.slice (some ⟨g', off, none⟩) nr cr) ∧ w'.cell? ⟨w.heap.size, 3, none⟩ = some (.slice al nl cl) ∧ w'.cell? ⟨w.heap.size, 4, none⟩ = some (.slice (some ⟨gn, on, none⟩) nl cn) ∧ w'.cell? ⟨w.heap.size, 5, none⟩ = some (.int .i64 wi) ∧ w'.cell? ⟨w.heap.size + 1, 0, none⟩ = some (.int .i64 px) ∧ w'.cell? ⟨w.heap.size + 1, 1, none⟩ = some (.int .i64 py)) (by kernel_rfl) (by kernel_rfl) (MK2.out _ ((Below.refl _ _).drew)) ?_
                    iterate 16 (first | go_big_quiet_skip | (go_big_quiet_want; unfold Oper.quiet; apply Exists.intro; refine ⟨fun W hW => ?_, ?_⟩; (go_split_ands; unfold Oper.quietAt; go_simp; first | rfl | exact ⟨rfl, rfl⟩ | ((with_reducible refine (hx _ (by assumption)).mono ?_); rintro e w2 ⟨rfl, hb2⟩; exact ⟨rfl, MK2.out _ (Below.trans (by assumption) (Below.mono (by assumption) (Below.size (by assumption))))⟩)); go_big_quiet_on; (try simp only [Act.put, List.setIfInBounds_toArray, List.set_cons_zero, List.set_cons_succ])))
                    refine wpQuiet_nil ?_
                    intro W2 hW2
                    obtain ⟨hBW2, _⟩ := hW2
                    go_wp2_with fail
                    go_ret
                    exact ⟨rfl, BU.out.trans ((BW2.out.trans (hBW2.mono BW2.out.size)).mono BU.out.size)⟩
                · have HT2 : Aside (∀ j m, j < k + 1 → b.rings[j]? = some m → ¬ q < m.1 * m.1) := HT.out h3
                  go_upto_region 11 with (fail)
                  refine region_class (fun w' => Below wr.heap.size wr w' ∧ w'.cell? ⟨g', off + k * 2, none⟩ = some (.int .i64 rx) ∧ w'.cell? ⟨g', off + k * 2 + 1, none⟩ = some (.int .i64 f) ∧ w'.cell? ⟨w.heap.size, 2, none⟩ = some (.slice (some ⟨g', off, none⟩) nr cr)) (by kernel_rfl) (by kernel_rfl) (MK.out _ ((Below.refl _ _).drew)) ?_
                  iterate 15 (first | go_big_quiet_skip | (go_big_quiet_want; unfold Oper.quiet; apply Exists.intro; refine ⟨fun W hW => ?_, ?_⟩; (go_split_ands; unfold Oper.quietAt; go_simp; first | rfl | exact ⟨rfl, rfl⟩ | skip); go_big_quiet_on; (try simp only [Act.put, List.setIfInBounds_toArray, List.set_cons_zero, List.set_cons_succ])))
                  refine wpQuiet_nil ?_
                  intro W hW
                  obtain ⟨hBW, _⟩ := hW
                  go_wp2_with fail
                  go_roundg (nr - (k + 1))
                  case measure => omega
                  case rel => exact ⟨k + 1, by omega, by omega, by go_num, HT2, BW.out.trans (hBW.mono BW.out.size)⟩
              · have hke : nr = k := by omega
                subst hke
                have hltz : ¬ (nr : Int) < (nr : Int) := by omega
                have e : res = 0 := by
                  rw [HR2.out]
                  have : b.rings.findIdx? (fun r => decide (q < r.1 * r.1)) = none := by
                    rw [List.findIdx?_eq_none_iff]
                    intro r hr
                    obtain ⟨j, hj, rfl⟩ := List.getElem_of_mem hr
                    have := HA.out j _ (by rw [← HN.out.1]; exact hj) (List.getElem?_eq_getElem hj)
                    exact decide_eq_false this
                  rw [this]
                subst e
                clear HR2
                go_wp2_with fail
                go_ret
                exact ⟨rfl, BU.out.trans (BW.out.mono BU.out.size)⟩
end Go.Proofs.YtgceffpkhmjmkaaGreat
