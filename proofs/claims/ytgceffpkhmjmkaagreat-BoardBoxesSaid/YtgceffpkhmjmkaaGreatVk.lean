/- Board, part Vk: whether a dart is on a wire, by the reference. -/
import Derived.Test.YtgceffpkhmjmkaaGreatVg
import Derived.Test.YtgceffpkhmjmkaaGreatN
import Derived.Test.YtgceffpkhmjmkaaGreatRg
set_option linter.unusedVariables false
set_option linter.unusedSimpArgs false
namespace Go.Proofs.YtgceffpkhmjmkaaGreat
open Go.RowKit Go.Shelf

theorem rim_gi {b : Brd} (h : b.rings ≠ []) : gi (radii b) ((radii b).length - 1) = rim b := by
  rw [radii_len]
  have hl := List.length_pos_iff.2 h
  unfold gi radii rim
  rw [show 2 + b.rings.length - 1 = (b.rings.length - 1) + 1 + 1 by omega, List.getElem?_cons_succ, List.getElem?_cons_succ, List.getElem?_map, List.getLast?_eq_getElem?]
  rw [List.getElem?_eq_getElem (show b.rings.length - 1 < b.rings.length by omega)]
  rfl

set_option maxRecDepth 100000 in
set_option maxHeartbeats 16000000 in
theorem rWire_any (v : Value) (b : Brd) (p : Int × Int) (w : World) (h : BrdAt w v b) (g : Good b) (hp : Pt5 p) :
    Calls Tryz.prog 19 #[v, pt p] w (Ret (.bool (onWire b p)) w) := by
  have HB : Aside (BrdAt w v b) := h
  obtain ⟨vr, vl, vn, rfl, ⟨ar, cr, rfl, lr, _⟩, sl, ⟨an, cn, rfl, ln, _⟩⟩ := h
  have hCL := sl
  obtain ⟨al, cl, rfl, ll, _⟩ := sl
  have HCL : Aside (∀ j p, b.lines[j]? = some p → ∃ g off, al = some ⟨g, off, none⟩ ∧ w.cell? ⟨g, off + j * 2, none⟩ = some (.int .i64 p.1) ∧ w.cell? ⟨g, off + j * 2 + 1, none⟩ = some (.int .i64 p.2)) := cells_of hCL
  have HX2 : Aside (∀ W, Below w.heap.size w W → Calls Tryz.prog 47 #[.agg #[.int .i64 b.eye, .int .i64 b.bull, .slice ar b.rings.length cr, .slice al b.lines.length cl, .slice an b.nums.length cn, .int .i64 b.wire]] W (SlOk (radii b) W)) := fun W hW => rRadii_any _ b W (HB.out.below hW) (by have := g.len.1; omega)
  have HX3 : Aside (∀ W, Calls Tryz.prog 49 #[pt p, pt p] W (Ret (.int .i64 (dt p p)) W)) := fun W => rDot_any p p W hp.near hp.near
  have HG : Aside (Good b) := g
  have HP5 : Aside (Pt5 p) := hp
  have hq5 := dt_bd5 hp hp
  have hw0 := g.wire0
  have hw1 := g.wire1
  have hbu := g.bullMem
  have hri := g.rimMem
  obtain ⟨rm, hrm⟩ : ∃ x, rim b = x := ⟨_, rfl⟩
  rw [hrm] at hri
  obtain ⟨q, hq⟩ : ∃ x, dt p p = x := ⟨_, rfl⟩
  rw [hq] at HX3 hq5
  obtain ⟨res, hres⟩ : ∃ x, onWire b p = x := ⟨_, rfl⟩
  rw [hres]
  have HR : Aside (res = (decide (0 < b.wire) && ((radii b).any (onRad b.wire q) || (if q < b.bull * b.bull ∨ rm * rm < q then false else b.lines.any (nearLine b.wire p))))) := by
    show _ = _
    rw [← hres]
    unfold onWire onCircle onLine anyR
    rw [hq, hrm]
  have HRD : Aside (∀ j, j < (radii b).length → 0 < gi (radii b) j ∧ gi (radii b) j ≤ 5000) := fun j hj => HG.out.rad _ (gi_mem hj)
  have HRM : Aside (gi (radii b) ((radii b).length - 1) = rm) := by show _ = _; rw [rim_gi HG.out.rings, hrm]
  have hnd2 : 2 ≤ (radii b).length ∧ (radii b).length ≤ 10 := by rw [radii_len]; have := g.len.1; omega
  have hl20 : b.lines.length ≤ 20 := g.len.2.1
  have hl0 : 0 < b.lines.length := List.length_pos_iff.2 g.lines
  clear hCL g hp hrm hq hres HB
  obtain ⟨nr, hnr⟩ : ∃ n, b.rings.length = n := ⟨_, rfl⟩
  obtain ⟨nl, hnl⟩ : ∃ n, b.lines.length = n := ⟨_, rfl⟩
  obtain ⟨nn, hnn⟩ : ∃ n, b.nums.length = n := ⟨_, rfl⟩
  obtain ⟨nd, hnd⟩ : ∃ n, (radii b).length = n := ⟨_, rfl⟩
  have HN : Aside (b.lines.length = nl ∧ (radii b).length = nd) := ⟨hnl, hnd⟩
  obtain ⟨ey, hey⟩ : ∃ x, b.eye = x := ⟨_, rfl⟩
  obtain ⟨bu, hbu'⟩ : ∃ x, b.bull = x := ⟨_, rfl⟩
  obtain ⟨wi, hwi⟩ : ∃ x, b.wire = x := ⟨_, rfl⟩
  rw [hnr, hnl, hnn, hey, hbu', hwi] at HX2
  rw [hbu', hwi] at HR
  rw [hbu'] at hbu
  rw [hwi] at hw0 hw1
  rw [hnd] at HRD HRM hnd2
  rw [hnl] at hl20 hl0
  rw [hnr, hnl, hnn, hey, hbu', hwi]
  rw [hnr] at lr
  rw [hnl] at ll
  rw [hnn] at ln
  unfold SlOk at HX2
  rw [hnd] at HX2
  clear hnr hnl hnn hnd hey hbu' hwi
  obtain ⟨px, py⟩ := p
  unfold pt at HX3 ⊢
  simp only [] at HX3 ⊢
  go_enter Tryz.func19, Tryz.ntmps19
  go_upto_region 1 with (fail)
  obtain ⟨W0, hW0⟩ : ∃ W0, W0 = (w.alloc (.cells #[.int .i64 ey, .int .i64 bu, .slice ar nr cr, .slice al nl cl, .slice an nn cn, .int .i64 wi] 26)).alloc (.cells #[.int .i64 px, .int .i64 py] 28) := ⟨_, rfl⟩
  have B0 : Aside (Below w.heap.size w W0) := by rw [hW0]; clear hW0; show Below _ _ _; (repeat' (first | exact Below.refl _ _ | assumption | (with_reducible refine Below.drew ?_) | (with_reducible refine Below.setCell ?_ (by (first | (simp; done) | (simp; omega))) _) | (with_reducible refine below_drewN' ?_ _) | (refine Below.alloc ?_ (by (try simp only [World.size_alloc, World.size_drew, World.size_setCell]); omega) _) | (refine Below.trans ?_ (Below.mono (by assumption) (by (try simp only [World.size_alloc, World.size_drew, World.size_setCell]); omega)))))
  have x0 : W0.cell? ⟨w.heap.size, 0, none⟩ = some (.int .i64 ey) := by rw [hW0]; clear hW0; go_simp
  have x1 : W0.cell? ⟨w.heap.size, 1, none⟩ = some (.int .i64 bu) := by rw [hW0]; clear hW0; go_simp
  have x2 : W0.cell? ⟨w.heap.size, 2, none⟩ = some (.slice ar nr cr) := by rw [hW0]; clear hW0; go_simp
  have x3 : W0.cell? ⟨w.heap.size, 3, none⟩ = some (.slice al nl cl) := by rw [hW0]; clear hW0; go_simp
  have x4 : W0.cell? ⟨w.heap.size, 4, none⟩ = some (.slice an nn cn) := by rw [hW0]; clear hW0; go_simp
  have x5 : W0.cell? ⟨w.heap.size, 5, none⟩ = some (.int .i64 wi) := by rw [hW0]; clear hW0; go_simp
  have p0 : W0.cell? ⟨w.heap.size + 1, 0, none⟩ = some (.int .i64 px) := by rw [hW0]; clear hW0; go_simp
  have p1 : W0.cell? ⟨w.heap.size + 1, 1, none⟩ = some (.int .i64 py) := by rw [hW0]; clear hW0; go_simp
  rw [← hW0]
  clear hW0
  refine region_laid (fl := 10) [true, true, true, true, true, true, true] 0 (fun (i : Nat) (x : Value) (ww : World) => (match i with | 0 => x = .agg #[.int .i64 ey, .int .i64 bu, .slice ar nr cr, .slice al nl cl, .slice an nn cn, .int .i64 wi] | 1 => ∃ g c, x = .slice (some ⟨g, 0, none⟩) nd c ∧ Sl ww 1 eI (.slice (some ⟨g, 0, none⟩) nd c) (radii b) | 2 => x = .agg #[.int .i64 px, .int .i64 py] | 3 => x = .agg #[.int .i64 px, .int .i64 py] | 4 => x = .int .i64 q | 5 => ∃ g c, x = .slice (some ⟨g, 0, none⟩) nd c ∧ Sl ww 1 eI (.slice (some ⟨g, 0, none⟩) nd c) (radii b) | 6 => x = .int .i64 q | _ => True : Prop)) (fun w' => Below W0.heap.size W0 w') (by kernel_rfl) rfl (by show layable _ 135 _ 10 = true; decide +kernel) rfl ((Below.refl _ _).drew) ?mono1 ?step1 ?rest1
  case mono1 =>
    intro i x ww ww' hB h
    match i, h with
    | 0, h => exact h
    | 1, h => exact (by obtain ⟨g, c, e, hs⟩ := h; exact ⟨g, c, e, hs.below hB⟩)
    | 2, h => exact h
    | 3, h => exact h
    | 4, h => exact h
    | 5, h => exact (by obtain ⟨g, c, e, hs⟩ := h; exact ⟨g, c, e, hs.below hB⟩)
    | 6, h => exact h
    | n + 7, h => exact h
  case step1 =>
    intro i o_ listed ac W hA ho hL he
    have hk2 : ac.tmps.getD 2 undef = .pointer (some ⟨w.heap.size, 0, none⟩) := hL.kept 2 (by decide +kernel)
    have hk3 : ac.tmps.getD 3 undef = .pointer (some ⟨w.heap.size + 1, 0, none⟩) := hL.kept 3 (by decide +kernel)
    have CL : ∀ W', Below W.heap.size W W' → Below W0.heap.size W0 W' := fun W' h => hL.cls.trans (h.mono hL.cls.size)
    have k_x0 := keepc hL.cls x0
    have k_x1 := keepc hL.cls x1
    have k_x2 := keepc hL.cls x2
    have k_x3 := keepc hL.cls x3
    have k_x4 := keepc hL.cls x4
    have k_x5 := keepc hL.cls x5
    have k_p0 := keepc hL.cls p0
    have k_p1 := keepc hL.cls p1
    match i, hA, ho with
    | 0, _, ho =>
      cases ho
      refine wpOp_plain rfl rfl ?_
      unfold Oper.wp
      go_simp
      exact ⟨_, rfl, Below.refl _ _, CL _ (Below.refl _ _), rfl⟩
    | 1, _, ho =>
      cases ho
      have d0 : ac.tmps.getD 11 undef = .agg #[.int .i64 ey, .int .i64 bu, .slice ar nr cr, .slice al nl cl, .slice an nn cn, .int .i64 wi] := hL.new 0 _ 11 rfl (he ⟨0, .data⟩ (by simp) rfl) rfl
      have x := HX2.out W (B0.out.trans (hL.cls.mono B0.out.size))
      refine wpOp_plain rfl rfl ?_
      unfold Oper.wp
      go_simp
      refine x.mono ?_
      rintro e w' ⟨g, c, rfl, hsl, hBn⟩
      exact ⟨_, rfl, hBn, CL _ hBn, ⟨g, c, rfl, hsl⟩⟩
    | 2, _, ho =>
      cases ho
      refine wpOp_plain rfl rfl ?_
      unfold Oper.wp
      go_simp
      exact ⟨_, rfl, Below.refl _ _, CL _ (Below.refl _ _), rfl⟩
    | 3, _, ho =>
      cases ho
      refine wpOp_plain rfl rfl ?_
      unfold Oper.wp
      go_simp
      exact ⟨_, rfl, Below.refl _ _, CL _ (Below.refl _ _), rfl⟩
    | 4, _, ho =>
      cases ho
      have d2 : ac.tmps.getD 13 undef = .agg #[.int .i64 px, .int .i64 py] := hL.new 2 _ 13 rfl (he ⟨2, .data⟩ (by simp) rfl) rfl
      have d3 : ac.tmps.getD 14 undef = .agg #[.int .i64 px, .int .i64 py] := hL.new 3 _ 14 rfl (he ⟨3, .data⟩ (by simp) rfl) rfl
      have x := HX3.out W
      refine wpOp_plain rfl rfl ?_
      unfold Oper.wp
      go_simp
      refine x.mono ?_
      rintro e w' ⟨rfl, hBn⟩
      exact ⟨_, rfl, hBn, CL _ hBn, rfl⟩
    | 5, _, ho =>
      cases ho
      obtain ⟨x1, hx1⟩ : ∃ x, ac.tmps.getD 12 undef = x := ⟨_, rfl⟩
      have d1 := hL.new 1 _ 12 rfl (he ⟨1, .data⟩ (by simp) rfl) rfl
      rw [hx1] at d1
      refine wpOp_plain rfl rfl ?_
      unfold Oper.wp
      go_simp
      exact ⟨_, rfl, Below.refl _ _, CL _ (Below.refl _ _), d1⟩
    | 6, _, ho =>
      cases ho
      have d4 : ac.tmps.getD 15 undef = .int .i64 q := hL.new 4 _ 15 rfl (he ⟨4, .data⟩ (by simp) rfl) rfl
      refine wpOp_plain rfl rfl ?_
      unfold Oper.wp
      go_simp
      exact ⟨_, rfl, Below.refl _ _, CL _ (Below.refl _ _), rfl⟩
    | n + 7, hA, _ => simp at hA
  case rest1 =>
    intro ac U hL
    have e11 : ac.tmps.getD 11 undef = .agg #[.int .i64 ey, .int .i64 bu, .slice ar nr cr, .slice al nl cl, .slice an nn cn, .int .i64 wi] := hL.new 0 _ 11 rfl rfl rfl
    obtain ⟨y12, e12⟩ : ∃ x, ac.tmps.getD 12 undef = x := ⟨_, rfl⟩
    have e13 : ac.tmps.getD 13 undef = .agg #[.int .i64 px, .int .i64 py] := hL.new 2 _ 13 rfl rfl rfl
    have e14 : ac.tmps.getD 14 undef = .agg #[.int .i64 px, .int .i64 py] := hL.new 3 _ 14 rfl rfl rfl
    have e15 : ac.tmps.getD 15 undef = .int .i64 q := hL.new 4 _ 15 rfl rfl rfl
    have hn5 := hL.new 5 _ 5 rfl rfl rfl
    obtain ⟨yr, e5⟩ : ∃ x, ac.tmps.getD 5 undef = x := ⟨_, rfl⟩
    rw [e5] at hn5
    have Hyr : Aside (∃ g c, yr = .slice (some ⟨g, 0, none⟩) nd c ∧ Sl U 1 eI (.slice (some ⟨g, 0, none⟩) nd c) (radii b)) := hn5
    clear hn5
    have e6 : ac.tmps.getD 6 undef = .int .i64 q := hL.new 6 _ 6 rfl rfl rfl
    have es := hL.sets [11, 12, 13, 14, 15, 5, 6] (by decide +kernel)
    rw [List.foldl_cons, List.foldl_cons, List.foldl_cons, List.foldl_cons, List.foldl_cons, List.foldl_cons, List.foldl_cons, List.foldl_nil, e11, e12, e13, e14, e15, e5, e6] at es
    have BN : Below W0.heap.size W0 U := hL.cls
    rw [es]
    clear es hL e11 e12 e13 e14 e15 e5 e6
    refine wpAny_done (by decide +kernel) ?_ _
    simp only [List.setIfInBounds_toArray, List.set_cons_zero, List.set_cons_succ]
    obtain ⟨g, c, rfl, HSR⟩ := Hyr.out
    have BU : Aside (Below w.heap.size w U) := B0.out.trans (BN.mono B0.out.size)
    replace x1 := keepc BN x1
    replace x3 := keepc BN x3
    replace x5 := keepc BN x5
    replace p0 := keepc BN p0
    replace p1 := keepc BN p1
    clear Hyr BN B0 HX2 HX3 x0 x2 x4
    have HCD : Aside (∀ j, j < nd → U.cell? ⟨g, j, none⟩ = some (.int .i64 (gi (radii b) j))) := by
      intro j hj
      obtain ⟨_, _, e2, _, hs2⟩ := HSR
      cases e2
      obtain ⟨b2, off2, ha, _, hc⟩ := hs2 (by intro e; rw [e] at hj; simp at hj)
      cases ha
      have := hc j _ (gi_get (by first | exact hj | (rw [HN.out.2]; exact hj))) 0 _ rfl
      simpa using this
    clear HSR
    by_cases hw : 0 < wi
    · have HR2 : Aside (res = ((radii b).any (onRad wi q) || (if q < bu * bu ∨ rm * rm < q then false else b.lines.any (nearLine wi (px, py))))) := by show _ = _; rw [HR.out, decide_eq_true hw]; rfl
      clear HR
      go_wp2_with fail
      go_loopg [7] nd (fun gg i wr => ∃ k : Nat, k ≤ nd ∧ nd - k ≤ gg ∧ i = .int .i64 k ∧ Aside (∀ j, j < k → onRad wi q (gi (radii b) j) = false) ∧ Aside (Below U.heap.size U wr))
      case atStart => exact ⟨0, Nat.zero_le _, by omega, rfl, fun j hj => absurd hj (Nat.not_lt_zero _), Below.refl _ _⟩
      case round =>
        obtain ⟨k, hk, hg, rfl, HA, BW⟩ := hrel
        have z5 := keepc BW.out x5
        by_cases hlt : k < nd
        ·
          as_aux_lemma =>
            have hltz : (k : Int) < (nd : Int) := by omega
            have r0 := keepc BW.out (HCD.out k hlt)
            obtain ⟨r1, r2⟩ := HRD.out k hlt
            have HF : Aside (onRad wi q (gi (radii b) k) = true → res = true) := by
              intro h
              rw [HR2.out]
              have : (radii b).any (onRad wi q) = true := List.any_eq_true.2 ⟨_, gi_mem (by rw [HN.out.2]; exact hlt), h⟩
              rw [this]; rfl
            have HT : Aside (onRad wi q (gi (radii b) k) = false → ∀ j, j < k + 1 → onRad wi q (gi (radii b) j) = false) := by
              intro h j hj
              by_cases e : j = k
              · subst e; exact h
              · exact HA.out j (by omega)
            clear HA
            obtain ⟨r, hr⟩ : ∃ r, gi (radii b) k = r := ⟨_, rfl⟩
            have HO : Aside (onRad wi q r = (decide ((r - wi) * (r - wi) ≤ q) && decide (q ≤ (r + wi) * (r + wi)))) := rfl
            rw [hr] at r0 r1 r2 HF HT
            clear hr
            have m1 := mul_bd (r - wi) (r - wi) 10000 10000 (by omega) (by omega) (by omega) (by omega)
            have m2 := mul_bd (r + wi) (r + wi) 10000 10000 (by omega) (by omega) (by omega) (by omega)
            obtain ⟨ra, hra⟩ : ∃ x, r - wi = x := ⟨_, rfl⟩
            obtain ⟨rb, hrb⟩ : ∃ x, r + wi = x := ⟨_, rfl⟩
            rw [hra] at m1 HO
            rw [hrb] at m2 HO
            obtain ⟨sa, hsa⟩ : ∃ x, ra * ra = x := ⟨_, rfl⟩
            obtain ⟨sb, hsb⟩ : ∃ x, rb * rb = x := ⟨_, rfl⟩
            rw [hsa] at m1 HO
            rw [hsb] at m2 HO
            have w1 : IntKind.i64.wrap (r - wi) = ra := by rw [IntWalk.i64_in _ (by omega)]; exact hra
            have w2 : IntKind.i64.wrap (ra * ra) = sa := by rw [IntWalk.i64_in _ (by omega)]; exact hsa
            have w3 : IntKind.i64.wrap (r + wi) = rb := by rw [IntWalk.i64_in _ (by omega)]; exact hrb
            have w4 : IntKind.i64.wrap (rb * rb) = sb := by rw [IntWalk.i64_in _ (by omega)]; exact hsb
            clear hra hrb hsa hsb m1 m2
            have MK : Aside (∀ w', Below wr.heap.size wr w' → (Below wr.heap.size wr w' ∧ w'.cell? ⟨g, k, none⟩ = some (.int .i64 r) ∧ w'.cell? ⟨w.heap.size, 5, none⟩ = some (.int .i64 wi))) := fun w' hB => ⟨hB, keepc hB r0, keepc hB z5⟩
            by_cases h1 : sa ≤ q
            · have d1 : decide (sa ≤ q) = true := decide_eq_true h1
              by_cases h2 : q ≤ sb
              · have d2 : decide (q ≤ sb) = true := decide_eq_true h2
                have e : res = true := HF.out (by rw [HO.out, d1, d2]; rfl)
                subst e
                go_upto_region 5 with (fail)
                refine region_class (fun w' => Below wr.heap.size wr w' ∧ w'.cell? ⟨g, k, none⟩ = some (.int .i64 r) ∧ w'.cell? ⟨w.heap.size, 5, none⟩ = some (.int .i64 wi)) (by kernel_rfl) (by kernel_rfl) (MK.out _ ((Below.refl _ _).drew)) ?_
                iterate 36 (first | go_big_quiet_skip | (go_big_quiet_want; unfold Oper.quiet; apply Exists.intro; refine ⟨fun W hW => ?_, ?_⟩; (go_split_ands; unfold Oper.quietAt; go_simp; first | rfl | exact ⟨rfl, rfl⟩ | skip); go_big_quiet_on; (try simp only [Act.put, List.setIfInBounds_toArray, List.set_cons_zero, List.set_cons_succ])))
                refine wpQuiet_nil ?_
                intro W hW
                obtain ⟨hBW, _⟩ := hW
                go_wp2_with fail
                go_ret
                exact ⟨rfl, BU.out.trans ((BW.out.trans (hBW.mono BW.out.size)).mono BU.out.size)⟩
              · have d2 : decide (q ≤ sb) = false := decide_eq_false h2
                have HT2 : Aside (∀ j, j < k + 1 → onRad wi q (gi (radii b) j) = false) := HT.out (by rw [HO.out, d1, d2]; rfl)
                go_upto_region 5 with (fail)
                refine region_class (fun w' => Below wr.heap.size wr w' ∧ w'.cell? ⟨g, k, none⟩ = some (.int .i64 r) ∧ w'.cell? ⟨w.heap.size, 5, none⟩ = some (.int .i64 wi)) (by kernel_rfl) (by kernel_rfl) (MK.out _ ((Below.refl _ _).drew)) ?_
                iterate 36 (first | go_big_quiet_skip | (go_big_quiet_want; unfold Oper.quiet; apply Exists.intro; refine ⟨fun W hW => ?_, ?_⟩; (go_split_ands; unfold Oper.quietAt; go_simp; first | rfl | exact ⟨rfl, rfl⟩ | skip); go_big_quiet_on; (try simp only [Act.put, List.setIfInBounds_toArray, List.set_cons_zero, List.set_cons_succ])))
                refine wpQuiet_nil ?_
                intro W hW
                obtain ⟨hBW, _⟩ := hW
                go_wp2_with fail
                go_roundg (nd - (k + 1))
                case measure => omega
                case rel => exact ⟨k + 1, by omega, by omega, by go_num, HT2, BW.out.trans (hBW.mono BW.out.size)⟩
            · have d1 : decide (sa ≤ q) = false := decide_eq_false h1
              have HT2 : Aside (∀ j, j < k + 1 → onRad wi q (gi (radii b) j) = false) := HT.out (by rw [HO.out, d1]; rfl)
              go_upto_region 5 with (fail)
              refine region_class (fun w' => Below wr.heap.size wr w' ∧ w'.cell? ⟨g, k, none⟩ = some (.int .i64 r) ∧ w'.cell? ⟨w.heap.size, 5, none⟩ = some (.int .i64 wi)) (by kernel_rfl) (by kernel_rfl) (MK.out _ ((Below.refl _ _).drew)) ?_
              iterate 36 (first | go_big_quiet_skip | (go_big_quiet_want; unfold Oper.quiet; apply Exists.intro; refine ⟨fun W hW => ?_, ?_⟩; (go_split_ands; unfold Oper.quietAt; go_simp; first | rfl | exact ⟨rfl, rfl⟩ | skip); go_big_quiet_on; (try simp only [Act.put, List.setIfInBounds_toArray, List.set_cons_zero, List.set_cons_succ])))
              refine wpQuiet_nil ?_
              intro W hW
              obtain ⟨hBW, _⟩ := hW
              go_wp2_with fail
              go_roundg (nd - (k + 1))
              case measure => omega
              case rel => exact ⟨k + 1, by omega, by omega, by go_num, HT2, BW.out.trans (hBW.mono BW.out.size)⟩
        ·
          as_aux_lemma =>
            have hke : nd = k := by omega
            subst hke
            have hltz : ¬ (nd : Int) < (nd : Int) := by omega
            have HR3 : Aside (res = (if q < bu * bu ∨ rm * rm < q then false else b.lines.any (nearLine wi (px, py)))) := by
              show _ = _
              rw [HR2.out]
              have : (radii b).any (onRad wi q) = false := by
                rw [List.any_eq_false]
                intro r hr
                obtain ⟨j, hj, rfl⟩ := List.getElem_of_mem hr
                have := HA.out j (by rw [← HN.out.2]; exact hj)
                unfold gi at this
                rw [List.getElem?_eq_getElem hj] at this
                simpa using this
              rw [this]; rfl
            have r0 : wr.cell? ⟨g, nd - 1, none⟩ = some (.int .i64 rm) := by
              have := keepc BW.out (HCD.out (nd - 1) (by omega))
              rw [HRM.out] at this; exact this
            clear HA HR2 HRD HRM HCD
            obtain ⟨U3, rfl⟩ : ∃ U3 : World, U3 = wr := ⟨_, rfl⟩
            have BU3 : Aside (Below w.heap.size w U3) := BU.out.trans (BW.out.mono BU.out.size)
            replace x1 := keepc BW.out x1
            replace x3 := keepc BW.out x3
            replace p0 := keepc BW.out p0
            replace p1 := keepc BW.out p1
            clear BW BU x5
            have w1 : IntKind.i64.wrap ((nd : Int) - 1) = (nd : Int) - 1 := IntWalk.i64_in _ (by omega)
            have w2 : ((nd : Int) - 1).toNat = nd - 1 := by omega
            have w3 : (0 : Int) ≤ (nd : Int) - 1 := by omega
            have w4 : (nd : Int) - 1 < (nd : Int) := by omega
            have mb := mul_bd bu bu 5000 5000 (by omega) (by omega) (by omega) (by omega)
            have ml := mul_bd rm rm 5000 5000 (by omega) (by omega) (by omega) (by omega)
            obtain ⟨bb, hbb⟩ : ∃ x, bu * bu = x := ⟨_, rfl⟩
            obtain ⟨rr, hrr⟩ : ∃ x, rm * rm = x := ⟨_, rfl⟩
            have w5 : IntKind.i64.wrap (bu * bu) = bb := by rw [IntWalk.i64_in _ (by omega)]; exact hbb
            have w6 : IntKind.i64.wrap (rm * rm) = rr := by rw [IntWalk.i64_in _ (by omega)]; exact hrr
            rw [hbb, hrr] at HR3
            clear hbb hrr mb ml
            have hl0z : (0 : Int) < (nl : Int) := by omega
            go_upto_region 7 with (fail)
            go_cut [8] (fun s8 wc => s8 = .int .i64 rm ∧ U3 = wc)
            case first =>
              go_wp2_with fail
              go_meet
              exact ⟨rfl, rfl⟩
            case rest =>
              obtain ⟨rfl, rfl⟩ := hcut
              clear w1 w2 w3 w4 r0
              by_cases hin : q < bb ∨ rr < q
              · have e : res = false := by rw [HR3.out, if_pos hin]
                subst e
                clear HR3
                by_cases h1 : q < bb
                · have h1n : ¬ bb ≤ q := by omega
                  clear hin
                  go_wp2_with fail
                  go_loopg [9] 1 (fun gg i wr => i = .int .i64 0 ∧ Aside (U3 = wr))
                  case atStart => exact ⟨rfl, rfl⟩
                  case round =>
                    obtain ⟨rfl, EW⟩ := hrel
                    obtain rfl := EW.out
                    go_wp2_with fail
                    go_ret
                    exact ⟨rfl, BU3.out⟩
                · have h1n : bb ≤ q := by omega
                  have h2n : ¬ q ≤ rr := by omega
                  clear hin
                  go_wp2_with fail
                  go_loopg [9] 1 (fun gg i wr => i = .int .i64 0 ∧ Aside (U3 = wr))
                  case atStart => exact ⟨rfl, rfl⟩
                  case round =>
                    obtain ⟨rfl, EW⟩ := hrel
                    obtain rfl := EW.out
                    go_wp2_with fail
                    go_ret
                    exact ⟨rfl, BU3.out⟩
              · have HR4 : Aside (res = b.lines.any (nearLine wi (px, py))) := by show _ = _; rw [HR3.out, if_neg hin]
                have h1n : bb ≤ q := by omega
                have h2n : q ≤ rr := by omega
                clear hin HR3
                go_wp2_with fail
                go_loopg [9] nl (fun gg i wr => ∃ k : Nat, k ≤ nl ∧ nl - k ≤ gg ∧ i = .int .i64 k ∧ Aside (∀ j l, j < k → b.lines[j]? = some l → nearLine wi (px, py) l = false) ∧ Aside (Below U3.heap.size U3 wr))
                case atStart => exact ⟨0, Nat.zero_le _, by omega, rfl, fun j l hj => absurd hj (Nat.not_lt_zero _), Below.refl _ _⟩
                case round =>
                  obtain ⟨k, hk, hg, rfl, HA, BW⟩ := hrel
                  have y1 := keepc BW.out x1
                  have y3 := keepc BW.out x3
                  have y5 := keepc BW.out z5
                  by_cases hlt : k < nl
                  ·
                    as_aux_lemma =>
                      have hltz2 : (k : Int) < (nl : Int) := by omega
                      obtain ⟨l, hl⟩ : ∃ l, b.lines[k]? = some l := ⟨_, List.getElem?_eq_getElem (by rw [HN.out.1]; exact hlt)⟩
                      obtain ⟨g', off, rfl, c0, c1⟩ := HCL.out k l hl
                      have c0 := keepc BW.out (keepc BU3.out c0)
                      have c1 := keepc BW.out (keepc BU3.out c1)
                      have f0 := keepc BW.out p0
                      have f1 := keepc BW.out p1
                      have HL5 : Aside (Pt5 l) := HG.out.pts l (List.mem_of_getElem? hl)
                      have HF : Aside (nearLine wi (px, py) l = true → res = true) := by
                        intro h
                        rw [HR4.out]
                        exact List.any_eq_true.2 ⟨_, List.mem_of_getElem? hl, h⟩
                      have HT : Aside (nearLine wi (px, py) l = false → ∀ j m, j < k + 1 → b.lines[j]? = some m → nearLine wi (px, py) m = false) := by
                        intro h j m hj hm
                        by_cases e : j = k
                        · subst e; rw [hl] at hm; cases hm; exact h
                        · exact HA.out j m (by omega) hm
                      clear HA hl
                      have v1 := fun W => rCross_any l (px, py) W HL5.out.near HP5.out.near
                      have v2 := fun W => rDot_any l (px, py) W HL5.out.near HP5.out.near
                      have v3 := fun W => rDot_any l l W HL5.out.near HL5.out.near
                      have b1 := crs_bd5 HL5.out HP5.out
                      have b3 := dt_bd5 HL5.out HL5.out
                      have b4 := mul_bd (crs l (px, py)) (crs l (px, py)) 50000000 50000000 b1.1 b1.2 b1.1 b1.2
                      have b5 := mul_bd wi wi 20 20 (by omega) hw1 (by omega) hw1
                      have b6 := mul_bd (wi * wi) (dt l l) 400 50000000 (by omega) (by omega) b3.1 b3.2
                      have HO : Aside (nearLine wi (px, py) l = (decide (0 < dt l (px, py)) && decide (crs l (px, py) * crs l (px, py) ≤ wi * wi * dt l l))) := rfl
                      obtain ⟨cv, hcv⟩ : ∃ x, crs l (px, py) = x := ⟨_, rfl⟩
                      obtain ⟨dv, hdv⟩ : ∃ x, dt l (px, py) = x := ⟨_, rfl⟩
                      obtain ⟨sv, hsv⟩ : ∃ x, dt l l = x := ⟨_, rfl⟩
                      rw [hcv] at v1 b4 HO
                      rw [hdv] at v2 HO
                      rw [hsv] at v3 b6 HO
                      clear hcv hdv hsv b1 b3 HL5
                      obtain ⟨cc, hcc⟩ : ∃ x, cv * cv = x := ⟨_, rfl⟩
                      obtain ⟨ww, hww⟩ : ∃ x, wi * wi = x := ⟨_, rfl⟩
                      rw [hcc] at b4 HO
                      rw [hww] at b5 b6 HO
                      obtain ⟨ws, hws⟩ : ∃ x, ww * sv = x := ⟨_, rfl⟩
                      rw [hws] at b6 HO
                      have w1 : IntKind.i64.wrap (cv * cv) = cc := by rw [IntWalk.i64_in _ (by omega)]; exact hcc
                      have w2 : IntKind.i64.wrap (wi * wi) = ww := by rw [IntWalk.i64_in _ (by omega)]; exact hww
                      have w3 : IntKind.i64.wrap (ww * sv) = ws := by rw [IntWalk.i64_in _ (by omega)]; exact hws
                      clear hcc hww hws b4 b5 b6
                      obtain ⟨lx, ly⟩ := l
                      unfold pt at v1 v2 v3
                      simp only [] at c0 c1 v1 v2 v3
                      have MK : Aside (∀ w', Below wr.heap.size wr w' → (Below wr.heap.size wr w' ∧ w'.cell? ⟨g', off + k * 2, none⟩ = some (.int .i64 lx) ∧ w'.cell? ⟨g', off + k * 2 + 1, none⟩ = some (.int .i64 ly) ∧ w'.cell? ⟨w.heap.size, 3, none⟩ = some (.slice (some ⟨g', off, none⟩) nl cl) ∧ w'.cell? ⟨w.heap.size + 1, 0, none⟩ = some (.int .i64 px) ∧ w'.cell? ⟨w.heap.size + 1, 1, none⟩ = some (.int .i64 py) ∧ w'.cell? ⟨w.heap.size, 5, none⟩ = some (.int .i64 wi))) := fun w' hB => ⟨hB, keepc hB c0, keepc hB c1, keepc hB y3, keepc hB f0, keepc hB f1, keepc hB y5⟩
                      go_upto_region 11 with (fail)
                      refine region_class (fun w' => Below wr.heap.size wr w' ∧ w'.cell? ⟨g', off + k * 2, none⟩ = some (.int .i64 lx) ∧ w'.cell? ⟨g', off + k * 2 + 1, none⟩ = some (.int .i64 ly) ∧ w'.cell? ⟨w.heap.size, 3, none⟩ = some (.slice (some ⟨g', off, none⟩) nl cl) ∧ w'.cell? ⟨w.heap.size + 1, 0, none⟩ = some (.int .i64 px) ∧ w'.cell? ⟨w.heap.size + 1, 1, none⟩ = some (.int .i64 py) ∧ w'.cell? ⟨w.heap.size, 5, none⟩ = some (.int .i64 wi)) (by kernel_rfl) (by kernel_rfl) (MK.out _ ((Below.refl _ _).drew)) ?_
                      iterate 8 (first | go_big_quiet_skip | (go_big_quiet_want; unfold Oper.quiet; apply Exists.intro; refine ⟨fun W hW => ?_, ?_⟩; (go_split_ands; unfold Oper.quietAt; go_simp; first | rfl | exact ⟨rfl, rfl⟩ | ((with_reducible refine (v1 _).mono ?_); rintro e w2 ⟨rfl, hb2⟩; exact ⟨rfl, MK.out _ (Below.trans (by assumption) (Below.mono (by assumption) (Below.size (by assumption))))⟩)); go_big_quiet_on; (try simp only [Act.put, List.setIfInBounds_toArray, List.set_cons_zero, List.set_cons_succ])))
                      refine wpQuiet_nil ?_
                      intro W hW
                      obtain ⟨hBW, c0, c1, y3, f0, f1, y5⟩ := hW
                      have BW2 : Aside (Below U3.heap.size U3 W) := BW.out.trans (hBW.mono BW.out.size)
                      clear v1 MK hBW
                      have MK : Aside (∀ w', Below W.heap.size W w' → (Below W.heap.size W w' ∧ w'.cell? ⟨g', off + k * 2, none⟩ = some (.int .i64 lx) ∧ w'.cell? ⟨g', off + k * 2 + 1, none⟩ = some (.int .i64 ly) ∧ w'.cell? ⟨w.heap.size, 3, none⟩ = some (.slice (some ⟨g', off, none⟩) nl cl) ∧ w'.cell? ⟨w.heap.size + 1, 0, none⟩ = some (.int .i64 px) ∧ w'.cell? ⟨w.heap.size + 1, 1, none⟩ = some (.int .i64 py) ∧ w'.cell? ⟨w.heap.size, 5, none⟩ = some (.int .i64 wi))) := fun w' hB => ⟨hB, keepc hB c0, keepc hB c1, keepc hB y3, keepc hB f0, keepc hB f1, keepc hB y5⟩
                      by_cases h1 : 0 < dv
                      · have d1 : decide (0 < dv) = true := decide_eq_true h1
                        by_cases h2 : cc ≤ ws
                        · have d2 : decide (cc ≤ ws) = true := decide_eq_true h2
                          have e : res = true := HF.out (by rw [HO.out, d1, d2]; rfl)
                          subst e
                          go_upto_region 12 with (fail)
                          refine region_class (fun w' => Below W.heap.size W w' ∧ w'.cell? ⟨g', off + k * 2, none⟩ = some (.int .i64 lx) ∧ w'.cell? ⟨g', off + k * 2 + 1, none⟩ = some (.int .i64 ly) ∧ w'.cell? ⟨w.heap.size, 3, none⟩ = some (.slice (some ⟨g', off, none⟩) nl cl) ∧ w'.cell? ⟨w.heap.size + 1, 0, none⟩ = some (.int .i64 px) ∧ w'.cell? ⟨w.heap.size + 1, 1, none⟩ = some (.int .i64 py) ∧ w'.cell? ⟨w.heap.size, 5, none⟩ = some (.int .i64 wi)) (by kernel_rfl) (by kernel_rfl) (MK.out _ ((Below.refl _ _).drew)) ?_
                          iterate 31 (first | go_big_quiet_skip | (go_big_quiet_want; unfold Oper.quiet; apply Exists.intro; refine ⟨fun W hW => ?_, ?_⟩; (go_split_ands; unfold Oper.quietAt; go_simp; first | rfl | exact ⟨rfl, rfl⟩ | ((first | (with_reducible refine (v2 _).mono ?_) | (with_reducible refine (v3 _).mono ?_)); rintro e w2 ⟨rfl, hb2⟩; exact ⟨rfl, MK.out _ (Below.trans (by assumption) (Below.mono (by assumption) (Below.size (by assumption))))⟩)); go_big_quiet_on; (try simp only [Act.put, List.setIfInBounds_toArray, List.set_cons_zero, List.set_cons_succ])))
                          refine wpQuiet_nil ?_
                          intro W2 hW2
                          obtain ⟨hBW2, _⟩ := hW2
                          go_wp2_with fail
                          go_ret
                          exact ⟨rfl, BU3.out.trans ((BW2.out.trans (hBW2.mono BW2.out.size)).mono BU3.out.size)⟩
                        · have d2 : decide (cc ≤ ws) = false := decide_eq_false h2
                          have HT2 : Aside (∀ j m, j < k + 1 → b.lines[j]? = some m → nearLine wi (px, py) m = false) := HT.out (by rw [HO.out, d1, d2]; rfl)
                          go_upto_region 12 with (fail)
                          refine region_class (fun w' => Below W.heap.size W w' ∧ w'.cell? ⟨g', off + k * 2, none⟩ = some (.int .i64 lx) ∧ w'.cell? ⟨g', off + k * 2 + 1, none⟩ = some (.int .i64 ly) ∧ w'.cell? ⟨w.heap.size, 3, none⟩ = some (.slice (some ⟨g', off, none⟩) nl cl) ∧ w'.cell? ⟨w.heap.size + 1, 0, none⟩ = some (.int .i64 px) ∧ w'.cell? ⟨w.heap.size + 1, 1, none⟩ = some (.int .i64 py) ∧ w'.cell? ⟨w.heap.size, 5, none⟩ = some (.int .i64 wi)) (by kernel_rfl) (by kernel_rfl) (MK.out _ ((Below.refl _ _).drew)) ?_
                          iterate 31 (first | go_big_quiet_skip | (go_big_quiet_want; unfold Oper.quiet; apply Exists.intro; refine ⟨fun W hW => ?_, ?_⟩; (go_split_ands; unfold Oper.quietAt; go_simp; first | rfl | exact ⟨rfl, rfl⟩ | ((first | (with_reducible refine (v2 _).mono ?_) | (with_reducible refine (v3 _).mono ?_)); rintro e w2 ⟨rfl, hb2⟩; exact ⟨rfl, MK.out _ (Below.trans (by assumption) (Below.mono (by assumption) (Below.size (by assumption))))⟩)); go_big_quiet_on; (try simp only [Act.put, List.setIfInBounds_toArray, List.set_cons_zero, List.set_cons_succ])))
                          refine wpQuiet_nil ?_
                          intro W2 hW2
                          obtain ⟨hBW2, _⟩ := hW2
                          go_wp2_with fail
                          go_roundg (nl - (k + 1))
                          case measure => omega
                          case rel => exact ⟨k + 1, by omega, by omega, by go_num, HT2, BW2.out.trans (hBW2.mono BW2.out.size)⟩
                      · have d1 : decide (0 < dv) = false := decide_eq_false h1
                        have HT2 : Aside (∀ j m, j < k + 1 → b.lines[j]? = some m → nearLine wi (px, py) m = false) := HT.out (by rw [HO.out, d1]; rfl)
                        go_upto_region 12 with (fail)
                        refine region_class (fun w' => Below W.heap.size W w' ∧ w'.cell? ⟨g', off + k * 2, none⟩ = some (.int .i64 lx) ∧ w'.cell? ⟨g', off + k * 2 + 1, none⟩ = some (.int .i64 ly) ∧ w'.cell? ⟨w.heap.size, 3, none⟩ = some (.slice (some ⟨g', off, none⟩) nl cl) ∧ w'.cell? ⟨w.heap.size + 1, 0, none⟩ = some (.int .i64 px) ∧ w'.cell? ⟨w.heap.size + 1, 1, none⟩ = some (.int .i64 py) ∧ w'.cell? ⟨w.heap.size, 5, none⟩ = some (.int .i64 wi)) (by kernel_rfl) (by kernel_rfl) (MK.out _ ((Below.refl _ _).drew)) ?_
                        iterate 31 (first | go_big_quiet_skip | (go_big_quiet_want; unfold Oper.quiet; apply Exists.intro; refine ⟨fun W hW => ?_, ?_⟩; (go_split_ands; unfold Oper.quietAt; go_simp; first | rfl | exact ⟨rfl, rfl⟩ | ((first | (with_reducible refine (v2 _).mono ?_) | (with_reducible refine (v3 _).mono ?_)); rintro e w2 ⟨rfl, hb2⟩; exact ⟨rfl, MK.out _ (Below.trans (by assumption) (Below.mono (by assumption) (Below.size (by assumption))))⟩)); go_big_quiet_on; (try simp only [Act.put, List.setIfInBounds_toArray, List.set_cons_zero, List.set_cons_succ])))
                        refine wpQuiet_nil ?_
                        intro W2 hW2
                        obtain ⟨hBW2, _⟩ := hW2
                        go_wp2_with fail
                        go_roundg (nl - (k + 1))
                        case measure => omega
                        case rel => exact ⟨k + 1, by omega, by omega, by go_num, HT2, BW2.out.trans (hBW2.mono BW2.out.size)⟩
                  · have hke : nl = k := by omega
                    subst hke
                    have hltz2 : ¬ (nl : Int) < (nl : Int) := by omega
                    have e : res = false := by
                      rw [HR4.out, List.any_eq_false]
                      intro l hl
                      obtain ⟨j, hj, rfl⟩ := List.getElem_of_mem hl
                      rw [HA.out j _ (by rw [← HN.out.1]; exact hj) (List.getElem?_eq_getElem hj)]; simp
                    subst e
                    go_wp2_with fail
                    go_ret
                    exact ⟨rfl, BU3.out.trans (BW.out.mono BU3.out.size)⟩
    · have e : res = false := by rw [HR.out, decide_eq_false hw]; rfl
      subst e
      have hwz : wi = 0 := by omega
      clear HR hw
      have r0 : U.cell? ⟨g, nd - 1, none⟩ = some (.int .i64 rm) := by
        have := HCD.out (nd - 1) (by omega)
        rw [HRM.out] at this; exact this
      have hnd0 : (0 : Int) < (nd : Int) := by omega
      have hl0z : (0 : Int) < (nl : Int) := by omega
      have w1 : IntKind.i64.wrap ((nd : Int) - 1) = (nd : Int) - 1 := IntWalk.i64_in _ (by omega)
      have w2 : ((nd : Int) - 1).toNat = nd - 1 := by omega
      have w3 : (0 : Int) ≤ (nd : Int) - 1 := by omega
      have w4 : (nd : Int) - 1 < (nd : Int) := by omega
      subst hwz
      clear HRD HRM HCD
      go_wp2_with fail
      go_loopg [7] 1 (fun gg i wr => i = .int .i64 0 ∧ Aside (U = wr))
      case atStart => exact ⟨rfl, rfl⟩
      case round =>
        obtain ⟨rfl, EW⟩ := hrel
        obtain rfl := EW.out
        go_upto_region 7 with (fail)
        go_cut [8] (fun s8 wc => s8 = .int .i64 rm ∧ U = wc)
        case first =>
          go_wp2_with fail
          go_meet
          exact ⟨rfl, rfl⟩
        case rest =>
          obtain ⟨rfl, rfl⟩ := hcut
          go_wp2_with fail
          go_loopg [9] 1 (fun gg i wr => i = .int .i64 0 ∧ Aside (U = wr))
          case atStart => exact ⟨rfl, rfl⟩
          case round =>
            obtain ⟨rfl, EW2⟩ := hrel
            obtain rfl := EW2.out
            go_wp2_with fail
            go_ret
            exact ⟨rfl, BU.out⟩
end Go.Proofs.YtgceffpkhmjmkaaGreat
