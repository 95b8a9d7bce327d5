/- Board, part Yg: the weeks until a board is worn out. -/
import Derived.Test.YtifabfbnjnjhlaaYe
import Derived.Test.YtifabfbnjnjhlaaYf
set_option linter.unusedVariables false
set_option linter.unusedSimpArgs false
namespace Go.Proofs.Ytifabfbnjnjhlaa
open Go.RowKit Go.Shelf

theorem lists_one {ws : List (Value × List Int)} {L : List Int} (h : ws.map (·.2) = [L]) : ∃ r, ws = [(r, L)] := by
  match ws, h with
  | [x], h => simp at h; exact ⟨x.1, by rw [← h]⟩
/-- What Last says, in one line each. -/
theorem last_says (worn week : List Int) (limit : Int) : (lastV worn week limit = -1 ∧ ∀ q, q < 501 → mx (wseq worn week q) ≤ limit) ∨ (∃ q : Nat, lastV worn week limit = (q : Int) ∧ q < 501 ∧ limit < mx (wseq worn week q) ∧ ∀ j, j < q → mx (wseq worn week j) ≤ limit) := by
  rcases lastF_spec (fun p => mx (wseq worn week p)) limit 501 0 with ⟨h1, h2⟩ | ⟨q, h1, _, h3, h4, h5⟩
  · exact .inl ⟨h1, fun q hq => h2 q (by omega) (by omega)⟩
  · exact .inr ⟨q, h1, by omega, h4, fun j hj => h5 j (by omega) hj⟩

set_option maxRecDepth 100000 in
set_option maxHeartbeats 16000000 in
theorem lasts_law (vr vl vb : Value) (rings lines by_ : List Int) (f wi lim : Int) (w : World) (sr : Sl w 1 eU vr rings) (sl : Sl w 1 eU vl lines) (sb : Sl w 1 eU vb by_) (hr : ∀ x ∈ rings, 0 ≤ x ∧ x ≤ 255) (hl : ∀ x ∈ lines, 0 ≤ x ∧ x ≤ 255) (hby : ∀ x ∈ by_, 0 ≤ x ∧ x ≤ 255) (f0 : 0 ≤ f) (f1 : f ≤ 255) (w0 : 0 ≤ wi) (w1 : wi ≤ 255)
    (a0 : 0 ≤ lim) (a1 : lim ≤ 65535) :
    Calls Try.prog 7 #[mdV vr vl f wi, vb, .int .u16 lim] w (Ret (.bool true) w) := by
  have HR : Aside (Sl w 1 eU vr rings) := sr
  have HL : Aside (Sl w 1 eU vl lines) := sl
  have HBY : Aside (Sl w 1 eU vb by_ ∧ ∀ x ∈ by_, 0 ≤ x ∧ x ≤ 255) := ⟨sb, hby⟩
  obtain ⟨ar, cr, rfl, lr0, _⟩ := sr
  obtain ⟨al, cl, rfl, ll0, _⟩ := sl
  obtain ⟨ab, cb, rfl, lb0, _⟩ := sb
  have HM : Aside (∀ W, Below w.heap.size w W → Calls Try.prog 8 #[mdV (.slice ar rings.length cr) (.slice al lines.length cl) f wi] W (MadeOk rings lines f wi W)) := fun W hW => made_any _ _ rings lines f wi W (HR.out.below hW) (HL.out.below hW) hr hl f0 f1 w0 w1
  clear HR HL
  have HCK : Aside (∀ k, EndL lines k → chk (madeB rings lines f wi k) = 0 ∧ 1 ≤ k ∧ k ≤ 20) := fun k hk => ⟨made_chk rings lines f wi k hr f0 f1 w0 hk, hk.1, hk.2.1⟩
  clear hr hl hby
  generalize rings.length = nr at *
  generalize lines.length = nl at *
  generalize by_.length = nb at *
  unfold mdV
  go_enter Try.func7, Try.ntmps7
  go_wp2_with fail
  have hBa : Below w.heap.size w (w.alloc (.cells #[.slice ar nr cr, .slice al nl cl, .int .u8 f, .int .u8 wi] 24)) := by (repeat' (first | exact Below.refl _ _ | assumption | (with_reducible refine Below.drew ?_) | (with_reducible refine Below.setCell ?_ (by (first | (simp; done) | (simp; omega))) _) | (with_reducible refine below_drewN' ?_ _) | (refine Below.alloc ?_ (by (try simp only [World.size_alloc, World.size_drew, World.size_setCell]); omega) _) | (refine Below.trans ?_ (Below.mono (by assumption) (by (try simp only [World.size_alloc, World.size_drew, World.size_setCell]); omega)))))
  have xm := HM.out _ hBa
  unfold mdV at xm
  refine xm.mono ?_
  rintro e wm ⟨k, v, hE, rfl, hbr, hbm⟩
  obtain ⟨hck, hk1, hk20⟩ := HCK.out k hE
  obtain ⟨B, hB⟩ : ∃ B, madeB rings lines f wi k = B := ⟨_, rfl⟩
  rw [hB] at hbr hck
  clear hE HCK HM hB xm
  obtain ⟨xr, xl, xn, rfl, hxr, hxl, hxn⟩ := hbr
  have XR : Aside (Sl wm 2 encP xr B.rings) := hxr
  have XL : Aside (Sl wm 2 encP xl B.lines) := hxl
  have XN : Aside (Sl wm 1 (fun x => [Value.int .i64 x]) xn B.nums) := hxn
  obtain ⟨p1, q1, rfl, _, _⟩ := hxr
  obtain ⟨p2, q2, rfl, _, _⟩ := hxl
  obtain ⟨p3, q3, rfl, _, _⟩ := hxn
  have G := good_of_chk hck
  have hnpos : 1 ≤ B.nums.length := by rw [G.same]; exact List.length_pos_iff.2 G.lines
  have hn20 : B.nums.length ≤ 20 := G.len.2.2
  have HG : Aside (chk B = 0 ∧ B.rings ≠ [] ∧ B.lines ≠ [] ∧ B.nums ≠ [] ∧ B.rings.length ≤ 1000 ∧ B.lines.length ≤ 1000 ∧ B.nums.length ≤ 1000) := ⟨hck, G.rings, G.lines, List.length_pos_iff.1 hnpos, by have := G.len.1; omega, by have := G.len.2.1; omega, by omega⟩
  clear G hck
  obtain ⟨n, hn⟩ : ∃ n, B.nums.length = n := ⟨_, rfl⟩
  have HN : Aside (B.nums.length = n) := hn
  have HB : Aside (BrdAt wm (.agg #[.int .i64 B.eye, .int .i64 B.bull, .slice p1 B.rings.length q1, .slice p2 B.lines.length q2, .slice p3 n q3, .int .i64 B.wire]) B) := by rw [← hn]; exact ⟨_, _, _, rfl, XR.out, XL.out, XN.out⟩
  rw [hn] at hnpos hn20 ⊢
  clear hn XR XL XN
  obtain ⟨lr, hlr⟩ : ∃ lr, B.rings.length = lr := ⟨_, rfl⟩
  obtain ⟨ll, hll⟩ : ∃ ll, B.lines.length = ll := ⟨_, rfl⟩
  rw [hlr, hll] at HB ⊢
  clear hlr hll
  go_wp2_with fail
  obtain ⟨wb, hwb⟩ : ∃ wb, wb = wm.alloc (.cells #[.int .i64 B.eye, .int .i64 B.bull, .slice p1 lr q1, .slice p2 ll q2, .slice p3 n q3, .int .i64 B.wire] 31) := ⟨_, rfl⟩
  obtain ⟨gB, hgB⟩ : ∃ gB, wm.heap.size = gB := ⟨_, rfl⟩
  have hBb : Below wm.heap.size wm wb := by rw [hwb]; exact (Below.refl _ _).alloc (Nat.le_refl _) _
  have c0 : wb.cell? ⟨gB, 0, none⟩ = some (.int .i64 B.eye) := by rw [hwb, ← hgB]; clear hwb; go_simp
  have c1 : wb.cell? ⟨gB, 1, none⟩ = some (.int .i64 B.bull) := by rw [hwb, ← hgB]; clear hwb; go_simp
  have c2 : wb.cell? ⟨gB, 2, none⟩ = some (.slice p1 lr q1) := by rw [hwb, ← hgB]; clear hwb; go_simp
  have c3 : wb.cell? ⟨gB, 3, none⟩ = some (.slice p2 ll q2) := by rw [hwb, ← hgB]; clear hwb; go_simp
  have c4 : wb.cell? ⟨gB, 4, none⟩ = some (.slice p3 n q3) := by rw [hwb, ← hgB]; clear hwb; go_simp
  have c5 : wb.cell? ⟨gB, 5, none⟩ = some (.int .i64 B.wire) := by rw [hwb, ← hgB]; clear hwb; go_simp
  have hBw : Below w.heap.size w wb := (hBa.trans (hbm.mono hBa.size)).trans (hBb.mono (by have := hbm.size; have := hBa.size; omega))
  replace HB : Aside (BrdAt wb (.agg #[.int .i64 B.eye, .int .i64 B.bull, .slice p1 lr q1, .slice p2 ll q2, .slice p3 n q3, .int .i64 B.wire]) B) := HB.out.below hBb
  rw [← hwb, hgB]
  clear hwb hBb hbm hBa hgB
  have xw := wear_any (.slice ab nb cb) by_ n 1 wb (HBY.out.1.below hBw) HBY.out.2 hnpos hn20 (by omega) (by omega)
  rw [show ((1 : Nat) : Int) = 1 from rfl] at xw
  go_wp2_with fail
  refine xw.mono ?_
  rintro e U ⟨v1, v2, ws, rfl, hs1, hs2, hcap2, hws, hrow, hbu⟩
  have BWU : Aside (Below w.heap.size w U) := hBw.trans (hbu.mono hBw.size)
  replace HB : Aside (BrdAt U (.agg #[.int .i64 B.eye, .int .i64 B.bull, .slice p1 lr q1, .slice p2 ll q2, .slice p3 n q3, .int .i64 B.wire]) B) := HB.out.below hbu
  replace c0 := keepc hbu c0
  replace c1 := keepc hbu c1
  replace c2 := keepc hbu c2
  replace c3 := keepc hbu c3
  replace c4 := keepc hbu c4
  replace c5 := keepc hbu c5
  have HL1 : Aside (Lst n 765 (wornB by_ n) ∧ Lst n 255 (weekB by_ n 0)) := ⟨⟨wornB_length _ _, wornB_bd HBY.out.2 n⟩, ⟨weekB_length _ _ _, weekB_bd HBY.out.2 n 0⟩⟩
  clear xw hbu hBw HBY hcap2
  have hws2 : ws.map (·.2) = [weekB by_ n 0] := hws
  clear hws
  generalize wornB by_ n = WN at *
  generalize weekB by_ n 0 = L0 at *
  obtain ⟨r0, rfl⟩ := lists_one hws2
  clear hws2
  have HV1 : Aside (Sl U 1 eI v1 WN) := hs1
  have HR0 : Aside (Sl U 1 eI r0 L0) := hrow (r0, L0) (by simp)
  clear hrow hs1
  obtain ⟨a2, cc2, rfl, _, hs2⟩ := hs2
  obtain ⟨b2, o2, rfl, _, hc2⟩ := hs2 (by simp)
  have c8 : U.cell? ⟨b2, o2, none⟩ = some r0 := by simpa using hc2 0 _ rfl 0 _ rfl
  clear hs2 hc2
  simp only [List.length_cons, List.length_nil, Nat.zero_add]
  obtain ⟨a_v1, c_v1, h_v1⟩ : ∃ a c, v1 = .slice a n c := by
    obtain ⟨a, c, e, _⟩ := HV1.out
    exact ⟨a, c, by rw [e, HL1.out.1.1]⟩
  subst h_v1
  obtain ⟨a_r0, c_r0, h_r0⟩ : ∃ a c, r0 = .slice a n c := by
    obtain ⟨a, c, e, _⟩ := HR0.out
    exact ⟨a, c, by rw [e, HL1.out.2.1]⟩
  subst h_r0
  have HOWN : Aside (∀ (W : World) (v : Value), BrdAt W v B → Calls Try.prog 11 #[v] W (fun e w' => ∃ v', e = .returned v' ∧ BrdAt w' v' B ∧ Below W.heap.size W w')) := by
    intro W v h
    obtain ⟨_, g1, g2, g3, g4, g5, g6⟩ := HG.out
    have x := own_any v B W h g1 g2 g3 g4 g5 g6
    unfold OwnOk at x
    refine x.mono ?_
    rintro e w' ⟨_, _, _, _, _, _, rfl, hbr, hBn⟩
    exact ⟨_, rfl, hbr, hBn⟩
  have HINT : Aside (∀ (W : World) (v : Value) (xs : List Int) (M : Int), Lst n M xs → Sl W 1 eI v xs → Calls Try.prog 20 #[v] W (fun e w' => ∃ v', e = .returned v' ∧ Sl w' 1 eI v' xs ∧ Below W.heap.size W w')) := by
    intro W v xs M hx h
    have x := ints_own v xs W h (hx.ne hnpos) (by rw [hx.1]; omega)
    unfold RetSl at x
    refine x.mono ?_
    rintro e w' ⟨_, _, rfl, _, _, hs, hBn⟩
    exact ⟨_, rfl, hs, hBn⟩
  have HWE : Aside (∀ (W : World) (vb v vk : Value) (xs ys : List Int) (M : Int) (K : Nat), 0 ≤ M → M ≤ 1000000 → Lst n M xs → Lst n 255 ys → K < n → BrdAt W vb B → Sl W 1 eI v xs → Sl W 1 eI vk ys → Calls Try.prog 19 #[vb, v, vk, .int .i64 K] W (WearOk (aft xs ys K) W)) := by
    intro W vb v vk xs ys M K hM0 hM hx hy hK hb h1 h2
    refine Wear_ok vb v vk B xs ys K W hb h1 h2 HG.out.1 ?_ (by rw [hx.1]; exact hK) ?_
    · exact wErr_zero (by rw [hx.1, HN.out]) (fun z hz => by simp at hz; subst hz; rw [HN.out]; exact hy.1) (fun z hz => by have := hx.2 z hz; omega) (fun z hz u hu => by simp at hz; subst hz; have := hy.2 u hu; omega)
    · have := mx_lst (Lst.aft (k := K) hM0 (by omega) hx hy) hnpos; omega
  have HMO : Aside (∀ (W : World) (v : Value) (xs : List Int) (M : Int), Lst n M xs → Sl W 1 eI v xs → Calls Try.prog 24 #[v] W (Ret (.int .i64 (mx xs)) W)) := by
    intro W v xs M hx h
    have x := most_any v xs W h
    rw [m0_mx xs (hx.ne hnpos) (fun y hy => (hx.2 y hy).1)] at x
    exact x
  have HSU : Aside (∀ (W : World) (v : Value) (xs : List Int) (M : Int), Lst n M xs → M ≤ 1000000 → Sl W 1 eI v xs → Calls Try.prog 25 #[v] W (Ret (.int .i64 xs.sum) W)) := by
    intro W v xs M hx hM h
    exact sum_any v xs W h (fun y hy => by have := hx.2 y hy; omega) (by rw [hx.1]; omega)
  have HSEQ : Aside (∀ p : Nat, p ≤ 501 → Lst n 200000 (wseq WN L0 p)) := by
    intro p hp
    obtain ⟨h1, h2⟩ := wseq_bd (show 0 < n by omega) HL1.out.1.1 HL1.out.2.1 HL1.out.1.2 HL1.out.2.2 p
    exact ⟨h1, fun x hx => by have := h2 x hx; omega⟩
  have HLA : Aside (∀ (W : World) (vb v vk : Value) (q : Int), 0 ≤ q → q ≤ 100000 → BrdAt W vb B → Sl W 1 eI v WN → Sl W 1 eI vk L0 → Calls Try.prog 26 #[vb, v, vk, .int .i64 q] W (Ret (.tuple #[.int .i64 (lastV WN L0 q), .int .i64 0]) W)) := by
    intro W vb v vk q q0 q1 hb h1 h2
    exact Last_ok vb v vk B WN L0 q W hb h1 h2 HG.out.1 (by rw [HN.out]; exact HL1.out.1.1) (by rw [HN.out]; exact HL1.out.2.1) HL1.out.1.2 HL1.out.2.2 q0 (by omega)
  have HBE : Aside (∀ (p : Nat), p ≤ 60 → ∃ (K : Nat) (PM : Int), K < n ∧ wseq WN L0 (p + 1) = aft (wseq WN L0 p) L0 K ∧ ∀ (W : World) (vb v vk : Value), BrdAt W vb B → Sl W 1 eI v (wseq WN L0 p) → Sl W 1 eI vk L0 → Calls Try.prog 21 #[vb, v, vk] W (Ret (.tuple #[.int .i64 K, .int .i64 PM, .int .i64 0]) W)) := by
    intro p hp
    have hl := HSEQ.out p (by omega)
    obtain ⟨K, hK, hbk, he⟩ := wseq_one WN L0 p n hl.1 (by omega)
    refine ⟨K, planM (wseq WN L0 p) [L0], hK, he, ?_⟩
    intro W vb v vk hb h1 h2
    have hpm : planM (wseq WN L0 p) [L0] ≤ 1000000000 := by
      obtain ⟨K', hK', _, _, hM', _⟩ := best_one (wseq WN L0 p) L0 (by rw [hl.1]; omega)
      rw [hM']
      have := mx_lst (Lst.aft (k := K') (by omega) (by omega) hl HL1.out.2) hnpos
      omega
    have x := Best_ok vb v vk B (wseq WN L0 p) L0 W hb h1 h2 HG.out.1 (wErr_zero (by rw [hl.1, HN.out]) (fun z hz => by simp at hz; subst hz; rw [HN.out]; exact HL1.out.2.1) (fun z hz => by have := hl.2 z hz; omega) (fun z hz y hy => by simp at hz; subst hz; have := HL1.out.2.2 y hy; omega)) hpm
    rw [hbk] at x
    exact x
  have HS0 : Aside (0 ≤ L0.sum ∧ L0.sum ≤ 100000) := by
    have s2 := sum_bd 255 (by omega) L0 HL1.out.2.2
    rw [HL1.out.2.1] at s2
    refine ⟨?_, ?_⟩ <;> omega
  have hwl : IntKind.i64.wrap lim = lim := IntWalk.i64_in _ (by omega)
  have hwl2 : IntKind.i64.wrap (lim + 100) = lim + 100 := IntWalk.i64_in _ (by omega)
  have HWL : Aside (IntKind.i64.wrap lim = lim ∧ IntKind.i64.wrap (lim + 100) = lim + 100) := ⟨hwl, hwl2⟩
  clear hwl hwl2
  have HSA : Aside _ := last_says WN L0 lim
  have HSB : Aside _ := last_says WN L0 (lim + 100)
  obtain ⟨LA, hLA⟩ : ∃ LA, lastV WN L0 lim = LA := ⟨_, rfl⟩
  obtain ⟨LB, hLB⟩ : ∃ LB, lastV WN L0 (lim + 100) = LB := ⟨_, rfl⟩
  have HLA1 : Aside (∀ (W : World) (vb v vk : Value), BrdAt W vb B → Sl W 1 eI v WN → Sl W 1 eI vk L0 → Calls Try.prog 26 #[vb, v, vk, .int .i64 lim] W (Ret (.tuple #[.int .i64 LA, .int .i64 0]) W)) := by
    intro W vb v vk hb h1 h2
    rw [← hLA]
    exact HLA.out W vb v vk lim a0 (by omega) hb h1 h2
  have HLA2 : Aside (∀ (W : World) (vb v vk : Value), BrdAt W vb B → Sl W 1 eI v WN → Sl W 1 eI vk L0 → Calls Try.prog 26 #[vb, v, vk, .int .i64 (lim + 100)] W (Ret (.tuple #[.int .i64 LB, .int .i64 0]) W)) := by
    intro W vb v vk hb h1 h2
    rw [← hLB]
    exact HLA.out W vb v vk (lim + 100) (by omega) (by omega) hb h1 h2
  rw [hLA] at HSA
  rw [hLB] at HSB
  clear hLA hLB HLA
  go_upto_region 3 with (fail)
  refine region_laid (fl := 12) [true, true, true, true, true, true, true, true, true, true, true, true, true, true, true, true] 0 (fun (i : Nat) (x : Value) (ww : World) => (match i with | 0 => x = .agg #[.int .i64 B.eye, .int .i64 B.bull, .slice p1 lr q1, .slice p2 ll q2, .slice p3 n q3, .int .i64 B.wire] | 1 => BrdAt ww x B | 2 => x = .slice a_v1 n c_v1 | 3 => Sl ww 1 eI x (WN) | 4 => x = .slice (some ⟨b2, o2, none⟩) 1 cc2 | 5 => x = .pointer (some ⟨b2, o2, none⟩) | 6 => x = .slice a_r0 n c_r0 | 7 => Sl ww 1 eI x (L0) | 8 => x = .int .u16 lim | 9 => x = .int .i64 lim | 10 => x = .tuple #[.int .i64 LA, .int .i64 0] | 11 => x = .tuple #[.int .i64 LA, .int .i64 0] | 12 => x = .int .i64 LA | 13 => x = .int .i64 0 | 14 => x = .int .i64 LA | 15 => x = .int .i64 0 | _ => True : Prop)) (fun w' => Below U.heap.size U w') (by kernel_rfl) rfl (by show layable _ 166 _ 12 = true; decide +kernel) rfl ((Below.refl _ _).drew) ?mono3 ?step3 ?rest3
  case mono3 =>
    intro i x ww ww' hB h
    match i, h with
    | 0, h => exact h
    | 1, h => exact BrdAt.below h hB
    | 2, h => exact h
    | 3, h => exact Sl.below h hB
    | 4, h => exact h
    | 5, h => exact h
    | 6, h => exact h
    | 7, h => exact Sl.below h hB
    | 8, h => exact h
    | 9, h => exact h
    | 10, h => exact h
    | 11, h => exact h
    | 12, h => exact h
    | 13, h => exact h
    | 14, h => exact h
    | 15, h => exact h
    | n + 16, h => exact h
  case step3 =>
    intro i o_ listed ac W hA ho hL he
    have hk7 : ac.tmps.getD 7 undef = .pointer (some ⟨gB, 0, none⟩) := hL.kept 7 (by decide +kernel)
    have hk8 : ac.tmps.getD 8 undef = .slice a_v1 n c_v1 := hL.kept 8 (by decide +kernel)
    have hk9 : ac.tmps.getD 9 undef = .slice (some ⟨b2, o2, none⟩) 1 cc2 := hL.kept 9 (by decide +kernel)
    have hk2 : ac.tmps.getD 2 undef = .int .u16 lim := hL.kept 2 (by decide +kernel)
    have CL : ∀ W', Below W.heap.size W W' → Below U.heap.size U W' := fun W' h => hL.cls.trans (h.mono hL.cls.size)
    have k_c0 := keepc hL.cls c0
    have k_c1 := keepc hL.cls c1
    have k_c2 := keepc hL.cls c2
    have k_c3 := keepc hL.cls c3
    have k_c4 := keepc hL.cls c4
    have k_c5 := keepc hL.cls c5
    have k_c8 := keepc hL.cls c8
    match i, hA, ho with
    | 0, _, ho =>
      cases ho
      refine wpOp_plain rfl rfl ?_
      unfold Oper.wp
      go_simp
      exact ⟨_, rfl, Below.refl _ _, CL _ (Below.refl _ _), rfl⟩
    | 1, _, ho =>
      cases ho
      have d0 : ac.tmps.getD 30 undef = .agg #[.int .i64 B.eye, .int .i64 B.bull, .slice p1 lr q1, .slice p2 ll q2, .slice p3 n q3, .int .i64 B.wire] := hL.new 0 _ 30 rfl (he ⟨0, .data⟩ (by simp) rfl) rfl
      have x := HOWN.out W _ (HB.out.below hL.cls)
      refine wpOp_plain rfl rfl ?_
      unfold Oper.wp
      go_simp
      refine x.mono ?_
      rintro e w' ⟨v', rfl, hbr, hBn⟩
      exact ⟨_, rfl, hBn, CL _ hBn, hbr⟩
    | 2, _, ho =>
      cases ho
      refine wpOp_plain rfl rfl ?_
      unfold Oper.wp
      go_simp
      exact ⟨_, rfl, Below.refl _ _, CL _ (Below.refl _ _), rfl⟩
    | 3, _, ho =>
      cases ho
      have d2 : ac.tmps.getD 32 undef = .slice a_v1 n c_v1 := hL.new 2 _ 32 rfl (he ⟨2, .data⟩ (by simp) rfl) rfl
      have x := HINT.out W _ _ _ HL1.out.1 (HV1.out.below hL.cls)
      refine wpOp_plain rfl rfl ?_
      unfold Oper.wp
      go_simp
      refine x.mono ?_
      rintro e w' ⟨v', rfl, hs, hBn⟩
      exact ⟨_, rfl, hBn, CL _ hBn, hs⟩
    | 4, _, ho =>
      cases ho
      refine wpOp_plain rfl rfl ?_
      unfold Oper.wp
      go_simp
      exact ⟨_, rfl, Below.refl _ _, CL _ (Below.refl _ _), rfl⟩
    | 5, _, ho =>
      cases ho
      have d4 : ac.tmps.getD 34 undef = .slice (some ⟨b2, o2, none⟩) 1 cc2 := hL.new 4 _ 34 rfl (he ⟨4, .data⟩ (by simp) rfl) rfl
      refine wpOp_plain rfl rfl ?_
      unfold Oper.wp
      go_simp
      exact ⟨_, rfl, Below.refl _ _, CL _ (Below.refl _ _), rfl⟩
    | 6, _, ho =>
      cases ho
      have d5 : ac.tmps.getD 35 undef = .pointer (some ⟨b2, o2, none⟩) := hL.new 5 _ 35 rfl (he ⟨5, .data⟩ (by simp) rfl) rfl
      refine wpOp_plain rfl rfl ?_
      unfold Oper.wp
      go_simp
      exact ⟨_, rfl, Below.refl _ _, CL _ (Below.refl _ _), rfl⟩
    | 7, _, ho =>
      cases ho
      have d6 : ac.tmps.getD 36 undef = .slice a_r0 n c_r0 := hL.new 6 _ 36 rfl (he ⟨6, .data⟩ (by simp) rfl) rfl
      have x := HINT.out W _ _ _ HL1.out.2 (HR0.out.below hL.cls)
      refine wpOp_plain rfl rfl ?_
      unfold Oper.wp
      go_simp
      refine x.mono ?_
      rintro e w' ⟨v', rfl, hs, hBn⟩
      exact ⟨_, rfl, hBn, CL _ hBn, hs⟩
    | 8, _, ho =>
      cases ho
      refine wpOp_plain rfl rfl ?_
      unfold Oper.wp
      go_simp
      exact ⟨_, rfl, Below.refl _ _, CL _ (Below.refl _ _), rfl⟩
    | 9, _, ho =>
      cases ho
      have d8 : ac.tmps.getD 38 undef = .int .u16 lim := hL.new 8 _ 38 rfl (he ⟨8, .data⟩ (by simp) rfl) rfl
      obtain ⟨hz, _⟩ := HWL.out
      refine wpOp_plain rfl rfl ?_
      unfold Oper.wp
      go_simp
      exact ⟨_, rfl, Below.refl _ _, CL _ (Below.refl _ _), rfl⟩
    | 10, _, ho =>
      cases ho
      obtain ⟨x1, hx1⟩ : ∃ x, ac.tmps.getD 31 undef = x := ⟨_, rfl⟩
      have d1 := hL.new 1 _ 31 rfl (he ⟨1, .data⟩ (by simp) rfl) rfl
      rw [hx1] at d1
      obtain ⟨x3, hx3⟩ : ∃ x, ac.tmps.getD 33 undef = x := ⟨_, rfl⟩
      have d3 := hL.new 3 _ 33 rfl (he ⟨3, .data⟩ (by simp) rfl) rfl
      rw [hx3] at d3
      obtain ⟨x7, hx7⟩ : ∃ x, ac.tmps.getD 37 undef = x := ⟨_, rfl⟩
      have d7 := hL.new 7 _ 37 rfl (he ⟨7, .data⟩ (by simp) rfl) rfl
      rw [hx7] at d7
      have d9 : ac.tmps.getD 39 undef = .int .i64 lim := hL.new 9 _ 39 rfl (he ⟨9, .data⟩ (by simp) rfl) rfl
      have x := HLA1.out W x1 x3 x7 d1 d3 d7
      refine wpOp_plain rfl rfl ?_
      unfold Oper.wp
      go_simp
      refine x.mono ?_
      rintro e w' ⟨rfl, hBn⟩
      exact ⟨_, rfl, hBn, CL _ hBn, rfl⟩
    | 11, _, ho =>
      cases ho
      have d10 : ac.tmps.getD 40 undef = .tuple #[.int .i64 LA, .int .i64 0] := hL.new 10 _ 40 rfl (he ⟨10, .data⟩ (by simp) rfl) rfl
      refine wpOp_plain rfl rfl ?_
      unfold Oper.wp
      go_simp
      exact ⟨_, rfl, Below.refl _ _, CL _ (Below.refl _ _), rfl⟩
    | 12, _, ho =>
      cases ho
      have d11 : ac.tmps.getD 29 undef = .tuple #[.int .i64 LA, .int .i64 0] := hL.new 11 _ 29 rfl (he ⟨11, .data⟩ (by simp) rfl) rfl
      refine wpOp_plain rfl rfl ?_
      unfold Oper.wp
      go_simp
      exact ⟨_, rfl, Below.refl _ _, CL _ (Below.refl _ _), rfl⟩
    | 13, _, ho =>
      cases ho
      have d11 : ac.tmps.getD 29 undef = .tuple #[.int .i64 LA, .int .i64 0] := hL.new 11 _ 29 rfl (he ⟨11, .data⟩ (by simp) rfl) rfl
      refine wpOp_plain rfl rfl ?_
      unfold Oper.wp
      go_simp
      exact ⟨_, rfl, Below.refl _ _, CL _ (Below.refl _ _), rfl⟩
    | 14, _, ho =>
      cases ho
      have d12 : ac.tmps.getD 41 undef = .int .i64 LA := hL.new 12 _ 41 rfl (he ⟨12, .data⟩ (by simp) rfl) rfl
      refine wpOp_plain rfl rfl ?_
      unfold Oper.wp
      go_simp
      exact ⟨_, rfl, Below.refl _ _, CL _ (Below.refl _ _), rfl⟩
    | 15, _, ho =>
      cases ho
      have d13 : ac.tmps.getD 42 undef = .int .i64 0 := hL.new 13 _ 42 rfl (he ⟨13, .data⟩ (by simp) rfl) rfl
      refine wpOp_plain rfl rfl ?_
      unfold Oper.wp
      go_simp
      exact ⟨_, rfl, Below.refl _ _, CL _ (Below.refl _ _), rfl⟩
    | n + 16, hA, _ => simp at hA
  case rest3 =>
    intro ac U3 hL
    have e30 : ac.tmps.getD 30 undef = .agg #[.int .i64 B.eye, .int .i64 B.bull, .slice p1 lr q1, .slice p2 ll q2, .slice p3 n q3, .int .i64 B.wire] := hL.new 0 _ 30 rfl rfl rfl
    obtain ⟨y31, e31⟩ : ∃ x, ac.tmps.getD 31 undef = x := ⟨_, rfl⟩
    have e32 : ac.tmps.getD 32 undef = .slice a_v1 n c_v1 := hL.new 2 _ 32 rfl rfl rfl
    obtain ⟨y33, e33⟩ : ∃ x, ac.tmps.getD 33 undef = x := ⟨_, rfl⟩
    have e34 : ac.tmps.getD 34 undef = .slice (some ⟨b2, o2, none⟩) 1 cc2 := hL.new 4 _ 34 rfl rfl rfl
    have e35 : ac.tmps.getD 35 undef = .pointer (some ⟨b2, o2, none⟩) := hL.new 5 _ 35 rfl rfl rfl
    have e36 : ac.tmps.getD 36 undef = .slice a_r0 n c_r0 := hL.new 6 _ 36 rfl rfl rfl
    obtain ⟨y37, e37⟩ : ∃ x, ac.tmps.getD 37 undef = x := ⟨_, rfl⟩
    have e38 : ac.tmps.getD 38 undef = .int .u16 lim := hL.new 8 _ 38 rfl rfl rfl
    have e39 : ac.tmps.getD 39 undef = .int .i64 lim := hL.new 9 _ 39 rfl rfl rfl
    have e40 : ac.tmps.getD 40 undef = .tuple #[.int .i64 LA, .int .i64 0] := hL.new 10 _ 40 rfl rfl rfl
    have e29 : ac.tmps.getD 29 undef = .tuple #[.int .i64 LA, .int .i64 0] := hL.new 11 _ 29 rfl rfl rfl
    have e41 : ac.tmps.getD 41 undef = .int .i64 LA := hL.new 12 _ 41 rfl rfl rfl
    have e42 : ac.tmps.getD 42 undef = .int .i64 0 := hL.new 13 _ 42 rfl rfl rfl
    have e10 : ac.tmps.getD 10 undef = .int .i64 LA := hL.new 14 _ 10 rfl rfl rfl
    have e11 : ac.tmps.getD 11 undef = .int .i64 0 := hL.new 15 _ 11 rfl rfl rfl
    have es := hL.sets [30, 31, 32, 33, 34, 35, 36, 37, 38, 39, 40, 29, 41, 42, 10, 11] (by decide +kernel)
    rw [List.foldl_cons, List.foldl_cons, List.foldl_cons, List.foldl_cons, List.foldl_cons, List.foldl_cons, List.foldl_cons, List.foldl_cons, List.foldl_cons, List.foldl_cons, List.foldl_cons, List.foldl_cons, List.foldl_cons, List.foldl_cons, List.foldl_cons, List.foldl_cons, List.foldl_nil, e30, e31, e32, e33, e34, e35, e36, e37, e38, e39, e40, e29, e41, e42, e10, e11] at es
    have BN : Below U.heap.size U U3 := hL.cls
    rw [es]
    clear es hL e30 e31 e32 e33 e34 e35 e36 e37 e38 e39 e40 e29 e41 e42 e10 e11
    refine wpAny_done (by decide +kernel) ?_ _
    simp only [List.setIfInBounds_toArray, List.set_cons_zero, List.set_cons_succ]
    replace HB : Aside (BrdAt U3 (.agg #[.int .i64 B.eye, .int .i64 B.bull, .slice p1 lr q1, .slice p2 ll q2, .slice p3 n q3, .int .i64 B.wire]) B) := HB.out.below BN
    replace HV1 : Aside (Sl U3 1 eI (.slice a_v1 n c_v1) WN) := HV1.out.below BN
    replace HR0 : Aside (Sl U3 1 eI (.slice a_r0 n c_r0) L0) := HR0.out.below BN
    replace c0 := keepc BN c0
    replace c1 := keepc BN c1
    replace c2 := keepc BN c2
    replace c3 := keepc BN c3
    replace c4 := keepc BN c4
    replace c5 := keepc BN c5
    replace c8 := keepc BN c8
    replace BWU : Aside (Below w.heap.size w U3) := BWU.out.trans (BN.mono BWU.out.size)
    clear BN
    go_upto_region 4 with (fail)
    refine region_laid (fl := 12) [true, true, true, true, true, true, true, true, true, true, true, true, true, true, true, true, true] 0 (fun (i : Nat) (x : Value) (ww : World) => (match i with | 0 => x = .agg #[.int .i64 B.eye, .int .i64 B.bull, .slice p1 lr q1, .slice p2 ll q2, .slice p3 n q3, .int .i64 B.wire] | 1 => BrdAt ww x B | 2 => x = .slice a_v1 n c_v1 | 3 => Sl ww 1 eI x (WN) | 4 => x = .slice (some ⟨b2, o2, none⟩) 1 cc2 | 5 => x = .pointer (some ⟨b2, o2, none⟩) | 6 => x = .slice a_r0 n c_r0 | 7 => Sl ww 1 eI x (L0) | 8 => x = .int .u16 lim | 9 => x = .int .i64 lim | 10 => x = .int .i64 (lim + 100) | 11 => x = .tuple #[.int .i64 LB, .int .i64 0] | 12 => x = .tuple #[.int .i64 LB, .int .i64 0] | 13 => x = .int .i64 LB | 14 => x = .int .i64 0 | 15 => x = .int .i64 LB | 16 => x = .int .i64 0 | _ => True : Prop)) (fun w' => Below U3.heap.size U3 w') (by kernel_rfl) rfl (by show layable _ 166 _ 12 = true; decide +kernel) rfl ((Below.refl _ _).drew) ?mono4 ?step4 ?rest4
    case mono4 =>
      intro i x ww ww' hB h
      match i, h with
      | 0, h => exact h
      | 1, h => exact BrdAt.below h hB
      | 2, h => exact h
      | 3, h => exact Sl.below h hB
      | 4, h => exact h
      | 5, h => exact h
      | 6, h => exact h
      | 7, h => exact Sl.below h hB
      | 8, h => exact h
      | 9, h => exact h
      | 10, h => exact h
      | 11, h => exact h
      | 12, h => exact h
      | 13, h => exact h
      | 14, h => exact h
      | 15, h => exact h
      | 16, h => exact h
      | n + 17, h => exact h
    case step4 =>
      intro i o_ listed ac W hA ho hL he
      have hk7 : ac.tmps.getD 7 undef = .pointer (some ⟨gB, 0, none⟩) := hL.kept 7 (by decide +kernel)
      have hk8 : ac.tmps.getD 8 undef = .slice a_v1 n c_v1 := hL.kept 8 (by decide +kernel)
      have hk9 : ac.tmps.getD 9 undef = .slice (some ⟨b2, o2, none⟩) 1 cc2 := hL.kept 9 (by decide +kernel)
      have hk2 : ac.tmps.getD 2 undef = .int .u16 lim := hL.kept 2 (by decide +kernel)
      have CL : ∀ W', Below W.heap.size W W' → Below U3.heap.size U3 W' := fun W' h => hL.cls.trans (h.mono hL.cls.size)
      have k_c0 := keepc hL.cls c0
      have k_c1 := keepc hL.cls c1
      have k_c2 := keepc hL.cls c2
      have k_c3 := keepc hL.cls c3
      have k_c4 := keepc hL.cls c4
      have k_c5 := keepc hL.cls c5
      have k_c8 := keepc hL.cls c8
      match i, hA, ho with
      | 0, _, ho =>
        cases ho
        refine wpOp_plain rfl rfl ?_
        unfold Oper.wp
        go_simp
        exact ⟨_, rfl, Below.refl _ _, CL _ (Below.refl _ _), rfl⟩
      | 1, _, ho =>
        cases ho
        have d0 : ac.tmps.getD 44 undef = .agg #[.int .i64 B.eye, .int .i64 B.bull, .slice p1 lr q1, .slice p2 ll q2, .slice p3 n q3, .int .i64 B.wire] := hL.new 0 _ 44 rfl (he ⟨0, .data⟩ (by simp) rfl) rfl
        have x := HOWN.out W _ (HB.out.below hL.cls)
        refine wpOp_plain rfl rfl ?_
        unfold Oper.wp
        go_simp
        refine x.mono ?_
        rintro e w' ⟨v', rfl, hbr, hBn⟩
        exact ⟨_, rfl, hBn, CL _ hBn, hbr⟩
      | 2, _, ho =>
        cases ho
        refine wpOp_plain rfl rfl ?_
        unfold Oper.wp
        go_simp
        exact ⟨_, rfl, Below.refl _ _, CL _ (Below.refl _ _), rfl⟩
      | 3, _, ho =>
        cases ho
        have d2 : ac.tmps.getD 46 undef = .slice a_v1 n c_v1 := hL.new 2 _ 46 rfl (he ⟨2, .data⟩ (by simp) rfl) rfl
        have x := HINT.out W _ _ _ HL1.out.1 (HV1.out.below hL.cls)
        refine wpOp_plain rfl rfl ?_
        unfold Oper.wp
        go_simp
        refine x.mono ?_
        rintro e w' ⟨v', rfl, hs, hBn⟩
        exact ⟨_, rfl, hBn, CL _ hBn, hs⟩
      | 4, _, ho =>
        cases ho
        refine wpOp_plain rfl rfl ?_
        unfold Oper.wp
        go_simp
        exact ⟨_, rfl, Below.refl _ _, CL _ (Below.refl _ _), rfl⟩
      | 5, _, ho =>
        cases ho
        have d4 : ac.tmps.getD 48 undef = .slice (some ⟨b2, o2, none⟩) 1 cc2 := hL.new 4 _ 48 rfl (he ⟨4, .data⟩ (by simp) rfl) rfl
        refine wpOp_plain rfl rfl ?_
        unfold Oper.wp
        go_simp
        exact ⟨_, rfl, Below.refl _ _, CL _ (Below.refl _ _), rfl⟩
      | 6, _, ho =>
        cases ho
        have d5 : ac.tmps.getD 49 undef = .pointer (some ⟨b2, o2, none⟩) := hL.new 5 _ 49 rfl (he ⟨5, .data⟩ (by simp) rfl) rfl
        refine wpOp_plain rfl rfl ?_
        unfold Oper.wp
        go_simp
        exact ⟨_, rfl, Below.refl _ _, CL _ (Below.refl _ _), rfl⟩
      | 7, _, ho =>
        cases ho
        have d6 : ac.tmps.getD 50 undef = .slice a_r0 n c_r0 := hL.new 6 _ 50 rfl (he ⟨6, .data⟩ (by simp) rfl) rfl
        have x := HINT.out W _ _ _ HL1.out.2 (HR0.out.below hL.cls)
        refine wpOp_plain rfl rfl ?_
        unfold Oper.wp
        go_simp
        refine x.mono ?_
        rintro e w' ⟨v', rfl, hs, hBn⟩
        exact ⟨_, rfl, hBn, CL _ hBn, hs⟩
      | 8, _, ho =>
        cases ho
        refine wpOp_plain rfl rfl ?_
        unfold Oper.wp
        go_simp
        exact ⟨_, rfl, Below.refl _ _, CL _ (Below.refl _ _), rfl⟩
      | 9, _, ho =>
        cases ho
        have d8 : ac.tmps.getD 52 undef = .int .u16 lim := hL.new 8 _ 52 rfl (he ⟨8, .data⟩ (by simp) rfl) rfl
        obtain ⟨hz, _⟩ := HWL.out
        refine wpOp_plain rfl rfl ?_
        unfold Oper.wp
        go_simp
        exact ⟨_, rfl, Below.refl _ _, CL _ (Below.refl _ _), rfl⟩
      | 10, _, ho =>
        cases ho
        have d9 : ac.tmps.getD 53 undef = .int .i64 lim := hL.new 9 _ 53 rfl (he ⟨9, .data⟩ (by simp) rfl) rfl
        obtain ⟨_, hz⟩ := HWL.out
        refine wpOp_plain rfl rfl ?_
        unfold Oper.wp
        go_simp
        exact ⟨_, rfl, Below.refl _ _, CL _ (Below.refl _ _), rfl⟩
      | 11, _, ho =>
        cases ho
        obtain ⟨x1, hx1⟩ : ∃ x, ac.tmps.getD 45 undef = x := ⟨_, rfl⟩
        have d1 := hL.new 1 _ 45 rfl (he ⟨1, .data⟩ (by simp) rfl) rfl
        rw [hx1] at d1
        obtain ⟨x3, hx3⟩ : ∃ x, ac.tmps.getD 47 undef = x := ⟨_, rfl⟩
        have d3 := hL.new 3 _ 47 rfl (he ⟨3, .data⟩ (by simp) rfl) rfl
        rw [hx3] at d3
        obtain ⟨x7, hx7⟩ : ∃ x, ac.tmps.getD 51 undef = x := ⟨_, rfl⟩
        have d7 := hL.new 7 _ 51 rfl (he ⟨7, .data⟩ (by simp) rfl) rfl
        rw [hx7] at d7
        have d10 : ac.tmps.getD 54 undef = .int .i64 (lim + 100) := hL.new 10 _ 54 rfl (he ⟨10, .data⟩ (by simp) rfl) rfl
        have x := HLA2.out W x1 x3 x7 d1 d3 d7
        refine wpOp_plain rfl rfl ?_
        unfold Oper.wp
        go_simp
        refine x.mono ?_
        rintro e w' ⟨rfl, hBn⟩
        exact ⟨_, rfl, hBn, CL _ hBn, rfl⟩
      | 12, _, ho =>
        cases ho
        have d11 : ac.tmps.getD 55 undef = .tuple #[.int .i64 LB, .int .i64 0] := hL.new 11 _ 55 rfl (he ⟨11, .data⟩ (by simp) rfl) rfl
        refine wpOp_plain rfl rfl ?_
        unfold Oper.wp
        go_simp
        exact ⟨_, rfl, Below.refl _ _, CL _ (Below.refl _ _), rfl⟩
      | 13, _, ho =>
        cases ho
        have d12 : ac.tmps.getD 43 undef = .tuple #[.int .i64 LB, .int .i64 0] := hL.new 12 _ 43 rfl (he ⟨12, .data⟩ (by simp) rfl) rfl
        refine wpOp_plain rfl rfl ?_
        unfold Oper.wp
        go_simp
        exact ⟨_, rfl, Below.refl _ _, CL _ (Below.refl _ _), rfl⟩
      | 14, _, ho =>
        cases ho
        have d12 : ac.tmps.getD 43 undef = .tuple #[.int .i64 LB, .int .i64 0] := hL.new 12 _ 43 rfl (he ⟨12, .data⟩ (by simp) rfl) rfl
        refine wpOp_plain rfl rfl ?_
        unfold Oper.wp
        go_simp
        exact ⟨_, rfl, Below.refl _ _, CL _ (Below.refl _ _), rfl⟩
      | 15, _, ho =>
        cases ho
        have d13 : ac.tmps.getD 56 undef = .int .i64 LB := hL.new 13 _ 56 rfl (he ⟨13, .data⟩ (by simp) rfl) rfl
        refine wpOp_plain rfl rfl ?_
        unfold Oper.wp
        go_simp
        exact ⟨_, rfl, Below.refl _ _, CL _ (Below.refl _ _), rfl⟩
      | 16, _, ho =>
        cases ho
        have d14 : ac.tmps.getD 57 undef = .int .i64 0 := hL.new 14 _ 57 rfl (he ⟨14, .data⟩ (by simp) rfl) rfl
        refine wpOp_plain rfl rfl ?_
        unfold Oper.wp
        go_simp
        exact ⟨_, rfl, Below.refl _ _, CL _ (Below.refl _ _), rfl⟩
      | n + 17, hA, _ => simp at hA
    case rest4 =>
      intro ac U4 hL
      have e44 : ac.tmps.getD 44 undef = .agg #[.int .i64 B.eye, .int .i64 B.bull, .slice p1 lr q1, .slice p2 ll q2, .slice p3 n q3, .int .i64 B.wire] := hL.new 0 _ 44 rfl rfl rfl
      obtain ⟨y45, e45⟩ : ∃ x, ac.tmps.getD 45 undef = x := ⟨_, rfl⟩
      have e46 : ac.tmps.getD 46 undef = .slice a_v1 n c_v1 := hL.new 2 _ 46 rfl rfl rfl
      obtain ⟨y47, e47⟩ : ∃ x, ac.tmps.getD 47 undef = x := ⟨_, rfl⟩
      have e48 : ac.tmps.getD 48 undef = .slice (some ⟨b2, o2, none⟩) 1 cc2 := hL.new 4 _ 48 rfl rfl rfl
      have e49 : ac.tmps.getD 49 undef = .pointer (some ⟨b2, o2, none⟩) := hL.new 5 _ 49 rfl rfl rfl
      have e50 : ac.tmps.getD 50 undef = .slice a_r0 n c_r0 := hL.new 6 _ 50 rfl rfl rfl
      obtain ⟨y51, e51⟩ : ∃ x, ac.tmps.getD 51 undef = x := ⟨_, rfl⟩
      have e52 : ac.tmps.getD 52 undef = .int .u16 lim := hL.new 8 _ 52 rfl rfl rfl
      have e53 : ac.tmps.getD 53 undef = .int .i64 lim := hL.new 9 _ 53 rfl rfl rfl
      have e54 : ac.tmps.getD 54 undef = .int .i64 (lim + 100) := hL.new 10 _ 54 rfl rfl rfl
      have e55 : ac.tmps.getD 55 undef = .tuple #[.int .i64 LB, .int .i64 0] := hL.new 11 _ 55 rfl rfl rfl
      have e43 : ac.tmps.getD 43 undef = .tuple #[.int .i64 LB, .int .i64 0] := hL.new 12 _ 43 rfl rfl rfl
      have e56 : ac.tmps.getD 56 undef = .int .i64 LB := hL.new 13 _ 56 rfl rfl rfl
      have e57 : ac.tmps.getD 57 undef = .int .i64 0 := hL.new 14 _ 57 rfl rfl rfl
      have e12 : ac.tmps.getD 12 undef = .int .i64 LB := hL.new 15 _ 12 rfl rfl rfl
      have e13 : ac.tmps.getD 13 undef = .int .i64 0 := hL.new 16 _ 13 rfl rfl rfl
      have es := hL.sets [44, 45, 46, 47, 48, 49, 50, 51, 52, 53, 54, 55, 43, 56, 57, 12, 13] (by decide +kernel)
      rw [List.foldl_cons, List.foldl_cons, List.foldl_cons, List.foldl_cons, List.foldl_cons, List.foldl_cons, List.foldl_cons, List.foldl_cons, List.foldl_cons, List.foldl_cons, List.foldl_cons, List.foldl_cons, List.foldl_cons, List.foldl_cons, List.foldl_cons, List.foldl_cons, List.foldl_cons, List.foldl_nil, e44, e45, e46, e47, e48, e49, e50, e51, e52, e53, e54, e55, e43, e56, e57, e12, e13] at es
      have BN : Below U3.heap.size U3 U4 := hL.cls
      rw [es]
      clear es hL e44 e45 e46 e47 e48 e49 e50 e51 e52 e53 e54 e55 e43 e56 e57 e12 e13
      refine wpAny_done (by decide +kernel) ?_ _
      simp only [List.setIfInBounds_toArray, List.set_cons_zero, List.set_cons_succ]
      replace HB : Aside (BrdAt U4 (.agg #[.int .i64 B.eye, .int .i64 B.bull, .slice p1 lr q1, .slice p2 ll q2, .slice p3 n q3, .int .i64 B.wire]) B) := HB.out.below BN
      replace HV1 : Aside (Sl U4 1 eI (.slice a_v1 n c_v1) WN) := HV1.out.below BN
      replace HR0 : Aside (Sl U4 1 eI (.slice a_r0 n c_r0) L0) := HR0.out.below BN
      replace c0 := keepc BN c0
      replace c1 := keepc BN c1
      replace c2 := keepc BN c2
      replace c3 := keepc BN c3
      replace c4 := keepc BN c4
      replace c5 := keepc BN c5
      replace c8 := keepc BN c8
      replace BWU : Aside (Below w.heap.size w U4) := BWU.out.trans (BN.mono BWU.out.size)
      clear BN
      go_upto_region 5 with (fail)
      go_cut [84] (fun s84 wc => s84 = .bool false ∧ U4 = wc)
      case first =>
        have hla : ¬ LA < -1 ∧ ¬ 500 < LA := by
          rcases HSA.out with ⟨ha1, ha2⟩ | ⟨qa, ha1, ha2, ha3, ha4⟩
          · omega
          · omega
        have hlb : LB = -1 ∨ (¬ LB = -1 ∧ ¬ LA = -1 ∧ ¬ LB < LA) := by
          rcases HSB.out with ⟨hb1, hb2⟩ | ⟨qb, hb1, hb2, hb3, hb4⟩
          · exact .inl hb1
          · right
            rcases HSA.out with ⟨ha1, ha2⟩ | ⟨qa, ha1, ha2, ha3, ha4⟩
            · exact absurd (ha2 qb hb2) (by omega)
            · refine ⟨by omega, by omega, fun h => ?_⟩
              have := ha4 qb (by omega)
              omega
        obtain ⟨z1, z2⟩ := hla
        rcases hlb with hb1 | ⟨hb1, hb2, z3⟩
        · have z6 : (LB != -1) = false := by rw [hb1]; rfl
          clear hb1
          go_wp2_with fail
          go_meet
          exact ⟨rfl, rfl⟩
        · have z6 : (LB != -1) = true := by rw [bne_iff_ne]; exact hb1
          have z5 : (LA == -1) = false := by rw [beq_eq_false_iff_ne]; exact hb2
          clear hb1 hb2
          go_wp2_with fail
          go_meet
          exact ⟨rfl, rfl⟩
      case rest =>
        obtain ⟨rfl, rfl⟩ := hcut
        go_upto_block 0 with (fail)
        have hwl := HWL.out.1
        go_cut [8, 14] (fun s8 s14 wc => ∃ (p : Nat) (u : Value), s14 = .int .i64 p ∧ u = s8 ∧ Aside (Sl wc 1 eI u (wseq WN L0 p)) ∧ Aside (p ≤ 61 ∧ (LA = (p : Int) ∨ (p = 61 ∧ (LA = -1 ∨ 61 ≤ LA)))) ∧ Aside (Below U4.heap.size U4 wc))
        case first =>
          go_wp2_with fail
          go_loopg [8, 14] 62 (fun gg s8 iv wr => ∃ (p : Nat) (u : Value), p ≤ 61 ∧ 62 - p ≤ gg ∧ iv = .int .i64 p ∧ u = s8 ∧ Aside (Sl wr 1 eI u (wseq WN L0 p)) ∧ Aside (LA = -1 ∨ (p : Int) ≤ LA) ∧ Aside (Below U4.heap.size U4 wr))
          case atStart => exact ⟨0, _, by omega, by omega, rfl, rfl, HV1, (by
            show _ ∨ _
            rcases HSA.out with ⟨h, _⟩ | ⟨q, h, _⟩
            · exact .inl h
            · exact .inr (by omega)), Below.refl _ _⟩
          case round =>
            obtain ⟨p, u, hp, hg, rfl, rfl, HU, HP, BKL⟩ := hrel
            have hsq := HSEQ.out p (by omega)
            obtain ⟨a_u, c_u, h_u⟩ : ∃ a c, u = .slice a n c := by
              obtain ⟨a, c, e, _⟩ := HU.out
              exact ⟨a, c, by rw [e, hsq.1]⟩
            subst h_u
            have HSQ : Aside (Lst n 200000 (wseq WN L0 p)) := hsq
            clear hsq
            by_cases hc : p ≤ 60 ∧ ¬ LA = (p : Int)
            · obtain ⟨hc1, hc2⟩ := hc
              have hp60 : (p : Int) ≤ 60 := by omega
              have hneb : ((p : Int) != LA) = true := by rw [bne_iff_ne]; omega
              have hM : mx (wseq WN L0 p) ≤ lim := by
                rcases HSA.out with ⟨_, h2⟩ | ⟨q, h1, h2, _, h4⟩
                · exact h2 p (by omega)
                · exact h4 p (by have := HP.out; omega)
              have HC2 : Aside (¬ LA = (p : Int)) := hc2
              clear hc2
              have xmo := HMO.out wr _ _ _ HSQ.out HU.out
              obtain ⟨mp, hmp⟩ : ∃ mp, mx (wseq WN L0 p) = mp := ⟨_, rfl⟩
              rw [hmp] at xmo hM
              have hMn : ¬ lim < mp := by omega
              clear hmp hM
              go_wp2_with fail
              refine xmo.mono ?_
              rintro e U10 ⟨rfl, BQ⟩
              have BN : Below U4.heap.size U4 U10 := BKL.out.trans (BQ.mono BKL.out.size)
              replace HU : Aside (Sl U10 1 eI (.slice a_u n c_u) (wseq WN L0 p)) := HU.out.below BQ
              replace BKL : Aside (Below U4.heap.size U4 U10) := BN
              clear xmo BQ
              replace HB : Aside (BrdAt U10 (.agg #[.int .i64 B.eye, .int .i64 B.bull, .slice p1 lr q1, .slice p2 ll q2, .slice p3 n q3, .int .i64 B.wire]) B) := HB.out.below BN
              replace HV1 : Aside (Sl U10 1 eI (.slice a_v1 n c_v1) WN) := HV1.out.below BN
              replace HR0 : Aside (Sl U10 1 eI (.slice a_r0 n c_r0) L0) := HR0.out.below BN
              replace c0 := keepc BN c0
              replace c1 := keepc BN c1
              replace c2 := keepc BN c2
              replace c3 := keepc BN c3
              replace c4 := keepc BN c4
              replace c5 := keepc BN c5
              replace c8 := keepc BN c8
              replace BWU : Aside (Below w.heap.size w U10) := BWU.out.trans (BN.mono BWU.out.size)
              clear BN
              obtain ⟨K, PM, hK, hseq, hbe⟩ := HBE.out p (by omega)
              have HBP : Aside (∀ (W : World) (vb v vk : Value), BrdAt W vb B → Sl W 1 eI v (wseq WN L0 p) → Sl W 1 eI vk L0 → Calls Try.prog 21 #[vb, v, vk] W (Ret (.tuple #[.int .i64 K, .int .i64 PM, .int .i64 0]) W)) := hbe
              have HSE : Aside (wseq WN L0 (p + 1) = aft (wseq WN L0 p) L0 K) := hseq
              clear hbe hseq
              go_upto_region 12 with (fail)
              refine region_laid (fl := 12) [true, true, true, true, true, true, true, true, true, true, true, true, true, true, true, true] 0 (fun (i : Nat) (x : Value) (ww : World) => (match i with | 0 => x = .agg #[.int .i64 B.eye, .int .i64 B.bull, .slice p1 lr q1, .slice p2 ll q2, .slice p3 n q3, .int .i64 B.wire] | 1 => BrdAt ww x B | 2 => x = .slice a_u n c_u | 3 => Sl ww 1 eI x (wseq WN L0 p) | 4 => x = .slice (some ⟨b2, o2, none⟩) 1 cc2 | 5 => x = .pointer (some ⟨b2, o2, none⟩) | 6 => x = .slice a_r0 n c_r0 | 7 => Sl ww 1 eI x (L0) | 8 => x = .tuple #[.int .i64 K, .int .i64 PM, .int .i64 0] | 9 => x = .tuple #[.int .i64 K, .int .i64 PM, .int .i64 0] | 10 => x = .int .i64 K | 11 => x = .int .i64 PM | 12 => x = .int .i64 0 | 13 => x = .int .i64 K | 14 => x = .int .i64 PM | 15 => x = .int .i64 0 | _ => True : Prop)) (fun w' => Below U10.heap.size U10 w') (by kernel_rfl) rfl (by show layable _ 166 _ 12 = true; decide +kernel) rfl ((Below.refl _ _).drew) ?mono12 ?step12 ?rest12
              case mono12 =>
                intro i x ww ww' hB h
                match i, h with
                | 0, h => exact h
                | 1, h => exact BrdAt.below h hB
                | 2, h => exact h
                | 3, h => exact Sl.below h hB
                | 4, h => exact h
                | 5, h => exact h
                | 6, h => exact h
                | 7, h => exact Sl.below h hB
                | 8, h => exact h
                | 9, h => exact h
                | 10, h => exact h
                | 11, h => exact h
                | 12, h => exact h
                | 13, h => exact h
                | 14, h => exact h
                | 15, h => exact h
                | n + 16, h => exact h
              case step12 =>
                intro i o_ listed ac W hA ho hL he
                have hk7 : ac.tmps.getD 7 undef = .pointer (some ⟨gB, 0, none⟩) := hL.kept 7 (by decide +kernel)
                have hk8 : ac.tmps.getD 8 undef = .slice a_u n c_u := hL.kept 8 (by decide +kernel)
                have hk9 : ac.tmps.getD 9 undef = .slice (some ⟨b2, o2, none⟩) 1 cc2 := hL.kept 9 (by decide +kernel)
                have CL : ∀ W', Below W.heap.size W W' → Below U10.heap.size U10 W' := fun W' h => hL.cls.trans (h.mono hL.cls.size)
                have k_c0 := keepc hL.cls c0
                have k_c1 := keepc hL.cls c1
                have k_c2 := keepc hL.cls c2
                have k_c3 := keepc hL.cls c3
                have k_c4 := keepc hL.cls c4
                have k_c5 := keepc hL.cls c5
                have k_c8 := keepc hL.cls c8
                match i, hA, ho with
                | 0, _, ho =>
                  cases ho
                  refine wpOp_plain rfl rfl ?_
                  unfold Oper.wp
                  go_simp
                  exact ⟨_, rfl, Below.refl _ _, CL _ (Below.refl _ _), rfl⟩
                | 1, _, ho =>
                  cases ho
                  have d0 : ac.tmps.getD 100 undef = .agg #[.int .i64 B.eye, .int .i64 B.bull, .slice p1 lr q1, .slice p2 ll q2, .slice p3 n q3, .int .i64 B.wire] := hL.new 0 _ 100 rfl (he ⟨0, .data⟩ (by simp) rfl) rfl
                  have x := HOWN.out W _ (HB.out.below hL.cls)
                  refine wpOp_plain rfl rfl ?_
                  unfold Oper.wp
                  go_simp
                  refine x.mono ?_
                  rintro e w' ⟨v', rfl, hbr, hBn⟩
                  exact ⟨_, rfl, hBn, CL _ hBn, hbr⟩
                | 2, _, ho =>
                  cases ho
                  refine wpOp_plain rfl rfl ?_
                  unfold Oper.wp
                  go_simp
                  exact ⟨_, rfl, Below.refl _ _, CL _ (Below.refl _ _), rfl⟩
                | 3, _, ho =>
                  cases ho
                  have d2 : ac.tmps.getD 102 undef = .slice a_u n c_u := hL.new 2 _ 102 rfl (he ⟨2, .data⟩ (by simp) rfl) rfl
                  have x := HINT.out W _ _ _ HSQ.out (HU.out.below hL.cls)
                  refine wpOp_plain rfl rfl ?_
                  unfold Oper.wp
                  go_simp
                  refine x.mono ?_
                  rintro e w' ⟨v', rfl, hs, hBn⟩
                  exact ⟨_, rfl, hBn, CL _ hBn, hs⟩
                | 4, _, ho =>
                  cases ho
                  refine wpOp_plain rfl rfl ?_
                  unfold Oper.wp
                  go_simp
                  exact ⟨_, rfl, Below.refl _ _, CL _ (Below.refl _ _), rfl⟩
                | 5, _, ho =>
                  cases ho
                  have d4 : ac.tmps.getD 104 undef = .slice (some ⟨b2, o2, none⟩) 1 cc2 := hL.new 4 _ 104 rfl (he ⟨4, .data⟩ (by simp) rfl) rfl
                  refine wpOp_plain rfl rfl ?_
                  unfold Oper.wp
                  go_simp
                  exact ⟨_, rfl, Below.refl _ _, CL _ (Below.refl _ _), rfl⟩
                | 6, _, ho =>
                  cases ho
                  have d5 : ac.tmps.getD 105 undef = .pointer (some ⟨b2, o2, none⟩) := hL.new 5 _ 105 rfl (he ⟨5, .data⟩ (by simp) rfl) rfl
                  refine wpOp_plain rfl rfl ?_
                  unfold Oper.wp
                  go_simp
                  exact ⟨_, rfl, Below.refl _ _, CL _ (Below.refl _ _), rfl⟩
                | 7, _, ho =>
                  cases ho
                  have d6 : ac.tmps.getD 106 undef = .slice a_r0 n c_r0 := hL.new 6 _ 106 rfl (he ⟨6, .data⟩ (by simp) rfl) rfl
                  have x := HINT.out W _ _ _ HL1.out.2 (HR0.out.below hL.cls)
                  refine wpOp_plain rfl rfl ?_
                  unfold Oper.wp
                  go_simp
                  refine x.mono ?_
                  rintro e w' ⟨v', rfl, hs, hBn⟩
                  exact ⟨_, rfl, hBn, CL _ hBn, hs⟩
                | 8, _, ho =>
                  cases ho
                  obtain ⟨x1, hx1⟩ : ∃ x, ac.tmps.getD 101 undef = x := ⟨_, rfl⟩
                  have d1 := hL.new 1 _ 101 rfl (he ⟨1, .data⟩ (by simp) rfl) rfl
                  rw [hx1] at d1
                  obtain ⟨x3, hx3⟩ : ∃ x, ac.tmps.getD 103 undef = x := ⟨_, rfl⟩
                  have d3 := hL.new 3 _ 103 rfl (he ⟨3, .data⟩ (by simp) rfl) rfl
                  rw [hx3] at d3
                  obtain ⟨x7, hx7⟩ : ∃ x, ac.tmps.getD 107 undef = x := ⟨_, rfl⟩
                  have d7 := hL.new 7 _ 107 rfl (he ⟨7, .data⟩ (by simp) rfl) rfl
                  rw [hx7] at d7
                  have x := HBP.out W x1 x3 x7 d1 d3 d7
                  refine wpOp_plain rfl rfl ?_
                  unfold Oper.wp
                  go_simp
                  refine x.mono ?_
                  rintro e w' ⟨rfl, hBn⟩
                  exact ⟨_, rfl, hBn, CL _ hBn, rfl⟩
                | 9, _, ho =>
                  cases ho
                  have d8 : ac.tmps.getD 108 undef = .tuple #[.int .i64 K, .int .i64 PM, .int .i64 0] := hL.new 8 _ 108 rfl (he ⟨8, .data⟩ (by simp) rfl) rfl
                  refine wpOp_plain rfl rfl ?_
                  unfold Oper.wp
                  go_simp
                  exact ⟨_, rfl, Below.refl _ _, CL _ (Below.refl _ _), rfl⟩
                | 10, _, ho =>
                  cases ho
                  have d9 : ac.tmps.getD 99 undef = .tuple #[.int .i64 K, .int .i64 PM, .int .i64 0] := hL.new 9 _ 99 rfl (he ⟨9, .data⟩ (by simp) rfl) rfl
                  refine wpOp_plain rfl rfl ?_
                  unfold Oper.wp
                  go_simp
                  exact ⟨_, rfl, Below.refl _ _, CL _ (Below.refl _ _), rfl⟩
                | 11, _, ho =>
                  cases ho
                  have d9 : ac.tmps.getD 99 undef = .tuple #[.int .i64 K, .int .i64 PM, .int .i64 0] := hL.new 9 _ 99 rfl (he ⟨9, .data⟩ (by simp) rfl) rfl
                  refine wpOp_plain rfl rfl ?_
                  unfold Oper.wp
                  go_simp
                  exact ⟨_, rfl, Below.refl _ _, CL _ (Below.refl _ _), rfl⟩
                | 12, _, ho =>
                  cases ho
                  have d9 : ac.tmps.getD 99 undef = .tuple #[.int .i64 K, .int .i64 PM, .int .i64 0] := hL.new 9 _ 99 rfl (he ⟨9, .data⟩ (by simp) rfl) rfl
                  refine wpOp_plain rfl rfl ?_
                  unfold Oper.wp
                  go_simp
                  exact ⟨_, rfl, Below.refl _ _, CL _ (Below.refl _ _), rfl⟩
                | 13, _, ho =>
                  cases ho
                  have d10 : ac.tmps.getD 109 undef = .int .i64 K := hL.new 10 _ 109 rfl (he ⟨10, .data⟩ (by simp) rfl) rfl
                  refine wpOp_plain rfl rfl ?_
                  unfold Oper.wp
                  go_simp
                  exact ⟨_, rfl, Below.refl _ _, CL _ (Below.refl _ _), rfl⟩
                | 14, _, ho =>
                  cases ho
                  have d11 : ac.tmps.getD 110 undef = .int .i64 PM := hL.new 11 _ 110 rfl (he ⟨11, .data⟩ (by simp) rfl) rfl
                  refine wpOp_plain rfl rfl ?_
                  unfold Oper.wp
                  go_simp
                  exact ⟨_, rfl, Below.refl _ _, CL _ (Below.refl _ _), rfl⟩
                | 15, _, ho =>
                  cases ho
                  have d12 : ac.tmps.getD 111 undef = .int .i64 0 := hL.new 12 _ 111 rfl (he ⟨12, .data⟩ (by simp) rfl) rfl
                  refine wpOp_plain rfl rfl ?_
                  unfold Oper.wp
                  go_simp
                  exact ⟨_, rfl, Below.refl _ _, CL _ (Below.refl _ _), rfl⟩
                | n + 16, hA, _ => simp at hA
              case rest12 =>
                intro ac U12 hL
                have e100 : ac.tmps.getD 100 undef = .agg #[.int .i64 B.eye, .int .i64 B.bull, .slice p1 lr q1, .slice p2 ll q2, .slice p3 n q3, .int .i64 B.wire] := hL.new 0 _ 100 rfl rfl rfl
                obtain ⟨y101, e101⟩ : ∃ x, ac.tmps.getD 101 undef = x := ⟨_, rfl⟩
                have e102 : ac.tmps.getD 102 undef = .slice a_u n c_u := hL.new 2 _ 102 rfl rfl rfl
                obtain ⟨y103, e103⟩ : ∃ x, ac.tmps.getD 103 undef = x := ⟨_, rfl⟩
                have e104 : ac.tmps.getD 104 undef = .slice (some ⟨b2, o2, none⟩) 1 cc2 := hL.new 4 _ 104 rfl rfl rfl
                have e105 : ac.tmps.getD 105 undef = .pointer (some ⟨b2, o2, none⟩) := hL.new 5 _ 105 rfl rfl rfl
                have e106 : ac.tmps.getD 106 undef = .slice a_r0 n c_r0 := hL.new 6 _ 106 rfl rfl rfl
                obtain ⟨y107, e107⟩ : ∃ x, ac.tmps.getD 107 undef = x := ⟨_, rfl⟩
                have e108 : ac.tmps.getD 108 undef = .tuple #[.int .i64 K, .int .i64 PM, .int .i64 0] := hL.new 8 _ 108 rfl rfl rfl
                have e99 : ac.tmps.getD 99 undef = .tuple #[.int .i64 K, .int .i64 PM, .int .i64 0] := hL.new 9 _ 99 rfl rfl rfl
                have e109 : ac.tmps.getD 109 undef = .int .i64 K := hL.new 10 _ 109 rfl rfl rfl
                have e110 : ac.tmps.getD 110 undef = .int .i64 PM := hL.new 11 _ 110 rfl rfl rfl
                have e111 : ac.tmps.getD 111 undef = .int .i64 0 := hL.new 12 _ 111 rfl rfl rfl
                have e15 : ac.tmps.getD 15 undef = .int .i64 K := hL.new 13 _ 15 rfl rfl rfl
                have e16 : ac.tmps.getD 16 undef = .int .i64 PM := hL.new 14 _ 16 rfl rfl rfl
                have e17 : ac.tmps.getD 17 undef = .int .i64 0 := hL.new 15 _ 17 rfl rfl rfl
                have es := hL.sets [100, 101, 102, 103, 104, 105, 106, 107, 108, 99, 109, 110, 111, 15, 16, 17] (by decide +kernel)
                rw [List.foldl_cons, List.foldl_cons, List.foldl_cons, List.foldl_cons, List.foldl_cons, List.foldl_cons, List.foldl_cons, List.foldl_cons, List.foldl_cons, List.foldl_cons, List.foldl_cons, List.foldl_cons, List.foldl_cons, List.foldl_cons, List.foldl_cons, List.foldl_cons, List.foldl_nil, e100, e101, e102, e103, e104, e105, e106, e107, e108, e99, e109, e110, e111, e15, e16, e17] at es
                have BN : Below U10.heap.size U10 U12 := hL.cls
                rw [es]
                clear es hL e100 e101 e102 e103 e104 e105 e106 e107 e108 e99 e109 e110 e111 e15 e16 e17
                refine wpAny_done (by decide +kernel) ?_ _
                simp only [List.setIfInBounds_toArray, List.set_cons_zero, List.set_cons_succ]
                replace HB : Aside (BrdAt U12 (.agg #[.int .i64 B.eye, .int .i64 B.bull, .slice p1 lr q1, .slice p2 ll q2, .slice p3 n q3, .int .i64 B.wire]) B) := HB.out.below BN
                replace HV1 : Aside (Sl U12 1 eI (.slice a_v1 n c_v1) WN) := HV1.out.below BN
                replace HR0 : Aside (Sl U12 1 eI (.slice a_r0 n c_r0) L0) := HR0.out.below BN
                replace HU : Aside (Sl U12 1 eI (.slice a_u n c_u) (wseq WN L0 p)) := HU.out.below BN
                replace c0 := keepc BN c0
                replace c1 := keepc BN c1
                replace c2 := keepc BN c2
                replace c3 := keepc BN c3
                replace c4 := keepc BN c4
                replace c5 := keepc BN c5
                replace c8 := keepc BN c8
                replace BWU : Aside (Below w.heap.size w U12) := BWU.out.trans (BN.mono BWU.out.size)
                replace BKL : Aside (Below U4.heap.size U4 U12) := BKL.out.trans (BN.mono BKL.out.size)
                clear BN
                go_upto_region 15 with (fail)
                refine region_laid (fl := 12) [true, true, true, true, true, true, true, true, true, true, true, true, true, true, true] 0 (fun (i : Nat) (x : Value) (ww : World) => (match i with | 0 => x = .agg #[.int .i64 B.eye, .int .i64 B.bull, .slice p1 lr q1, .slice p2 ll q2, .slice p3 n q3, .int .i64 B.wire] | 1 => BrdAt ww x B | 2 => x = .slice a_u n c_u | 3 => Sl ww 1 eI x (wseq WN L0 p) | 4 => x = .slice (some ⟨b2, o2, none⟩) 1 cc2 | 5 => x = .pointer (some ⟨b2, o2, none⟩) | 6 => x = .slice a_r0 n c_r0 | 7 => Sl ww 1 eI x (L0) | 8 => x = .int .i64 K | 9 => ∃ v, x = .tuple #[v, .int .i64 0] ∧ Sl ww 1 eI v (aft (wseq WN L0 p) L0 K) | 10 => ∃ v, x = .tuple #[v, .int .i64 0] ∧ Sl ww 1 eI v (aft (wseq WN L0 p) L0 K) | 11 => Sl ww 1 eI x (aft (wseq WN L0 p) L0 K) | 12 => x = .int .i64 0 | 13 => Sl ww 1 eI x (aft (wseq WN L0 p) L0 K) | 14 => x = .int .i64 0 | _ => True : Prop)) (fun w' => Below U12.heap.size U12 w') (by kernel_rfl) rfl (by show layable _ 166 _ 12 = true; decide +kernel) rfl ((Below.refl _ _).drew) ?mono15 ?step15 ?rest15
                case mono15 =>
                  intro i x ww ww' hB h
                  match i, h with
                  | 0, h => exact h
                  | 1, h => exact BrdAt.below h hB
                  | 2, h => exact h
                  | 3, h => exact Sl.below h hB
                  | 4, h => exact h
                  | 5, h => exact h
                  | 6, h => exact h
                  | 7, h => exact Sl.below h hB
                  | 8, h => exact h
                  | 9, h => exact (by obtain ⟨v, e, h⟩ := h; exact ⟨v, e, Sl.below h hB⟩)
                  | 10, h => exact (by obtain ⟨v, e, h⟩ := h; exact ⟨v, e, Sl.below h hB⟩)
                  | 11, h => exact Sl.below h hB
                  | 12, h => exact h
                  | 13, h => exact Sl.below h hB
                  | 14, h => exact h
                  | n + 15, h => exact h
                case step15 =>
                  intro i o_ listed ac W hA ho hL he
                  have hk7 : ac.tmps.getD 7 undef = .pointer (some ⟨gB, 0, none⟩) := hL.kept 7 (by decide +kernel)
                  have hk8 : ac.tmps.getD 8 undef = .slice a_u n c_u := hL.kept 8 (by decide +kernel)
                  have hk9 : ac.tmps.getD 9 undef = .slice (some ⟨b2, o2, none⟩) 1 cc2 := hL.kept 9 (by decide +kernel)
                  have hk15 : ac.tmps.getD 15 undef = .int .i64 K := hL.kept 15 (by decide +kernel)
                  have CL : ∀ W', Below W.heap.size W W' → Below U12.heap.size U12 W' := fun W' h => hL.cls.trans (h.mono hL.cls.size)
                  have k_c0 := keepc hL.cls c0
                  have k_c1 := keepc hL.cls c1
                  have k_c2 := keepc hL.cls c2
                  have k_c3 := keepc hL.cls c3
                  have k_c4 := keepc hL.cls c4
                  have k_c5 := keepc hL.cls c5
                  have k_c8 := keepc hL.cls c8
                  match i, hA, ho with
                  | 0, _, ho =>
                    cases ho
                    refine wpOp_plain rfl rfl ?_
                    unfold Oper.wp
                    go_simp
                    exact ⟨_, rfl, Below.refl _ _, CL _ (Below.refl _ _), rfl⟩
                  | 1, _, ho =>
                    cases ho
                    have d0 : ac.tmps.getD 115 undef = .agg #[.int .i64 B.eye, .int .i64 B.bull, .slice p1 lr q1, .slice p2 ll q2, .slice p3 n q3, .int .i64 B.wire] := hL.new 0 _ 115 rfl (he ⟨0, .data⟩ (by simp) rfl) rfl
                    have x := HOWN.out W _ (HB.out.below hL.cls)
                    refine wpOp_plain rfl rfl ?_
                    unfold Oper.wp
                    go_simp
                    refine x.mono ?_
                    rintro e w' ⟨v', rfl, hbr, hBn⟩
                    exact ⟨_, rfl, hBn, CL _ hBn, hbr⟩
                  | 2, _, ho =>
                    cases ho
                    refine wpOp_plain rfl rfl ?_
                    unfold Oper.wp
                    go_simp
                    exact ⟨_, rfl, Below.refl _ _, CL _ (Below.refl _ _), rfl⟩
                  | 3, _, ho =>
                    cases ho
                    have d2 : ac.tmps.getD 117 undef = .slice a_u n c_u := hL.new 2 _ 117 rfl (he ⟨2, .data⟩ (by simp) rfl) rfl
                    have x := HINT.out W _ _ _ HSQ.out (HU.out.below hL.cls)
                    refine wpOp_plain rfl rfl ?_
                    unfold Oper.wp
                    go_simp
                    refine x.mono ?_
                    rintro e w' ⟨v', rfl, hs, hBn⟩
                    exact ⟨_, rfl, hBn, CL _ hBn, hs⟩
                  | 4, _, ho =>
                    cases ho
                    refine wpOp_plain rfl rfl ?_
                    unfold Oper.wp
                    go_simp
                    exact ⟨_, rfl, Below.refl _ _, CL _ (Below.refl _ _), rfl⟩
                  | 5, _, ho =>
                    cases ho
                    have d4 : ac.tmps.getD 119 undef = .slice (some ⟨b2, o2, none⟩) 1 cc2 := hL.new 4 _ 119 rfl (he ⟨4, .data⟩ (by simp) rfl) rfl
                    refine wpOp_plain rfl rfl ?_
                    unfold Oper.wp
                    go_simp
                    exact ⟨_, rfl, Below.refl _ _, CL _ (Below.refl _ _), rfl⟩
                  | 6, _, ho =>
                    cases ho
                    have d5 : ac.tmps.getD 120 undef = .pointer (some ⟨b2, o2, none⟩) := hL.new 5 _ 120 rfl (he ⟨5, .data⟩ (by simp) rfl) rfl
                    refine wpOp_plain rfl rfl ?_
                    unfold Oper.wp
                    go_simp
                    exact ⟨_, rfl, Below.refl _ _, CL _ (Below.refl _ _), rfl⟩
                  | 7, _, ho =>
                    cases ho
                    have d6 : ac.tmps.getD 121 undef = .slice a_r0 n c_r0 := hL.new 6 _ 121 rfl (he ⟨6, .data⟩ (by simp) rfl) rfl
                    have x := HINT.out W _ _ _ HL1.out.2 (HR0.out.below hL.cls)
                    refine wpOp_plain rfl rfl ?_
                    unfold Oper.wp
                    go_simp
                    refine x.mono ?_
                    rintro e w' ⟨v', rfl, hs, hBn⟩
                    exact ⟨_, rfl, hBn, CL _ hBn, hs⟩
                  | 8, _, ho =>
                    cases ho
                    refine wpOp_plain rfl rfl ?_
                    unfold Oper.wp
                    go_simp
                    exact ⟨_, rfl, Below.refl _ _, CL _ (Below.refl _ _), rfl⟩
                  | 9, _, ho =>
                    cases ho
                    obtain ⟨x1, hx1⟩ : ∃ x, ac.tmps.getD 116 undef = x := ⟨_, rfl⟩
                    have d1 := hL.new 1 _ 116 rfl (he ⟨1, .data⟩ (by simp) rfl) rfl
                    rw [hx1] at d1
                    obtain ⟨x3, hx3⟩ : ∃ x, ac.tmps.getD 118 undef = x := ⟨_, rfl⟩
                    have d3 := hL.new 3 _ 118 rfl (he ⟨3, .data⟩ (by simp) rfl) rfl
                    rw [hx3] at d3
                    obtain ⟨x7, hx7⟩ : ∃ x, ac.tmps.getD 122 undef = x := ⟨_, rfl⟩
                    have d7 := hL.new 7 _ 122 rfl (he ⟨7, .data⟩ (by simp) rfl) rfl
                    rw [hx7] at d7
                    have d8 : ac.tmps.getD 123 undef = .int .i64 K := hL.new 8 _ 123 rfl (he ⟨8, .data⟩ (by simp) rfl) rfl
                    have x := HWE.out W x1 x3 x7 _ _ 200000 K (by omega) (by omega) HSQ.out HL1.out.2 hK d1 d3 d7
                    refine wpOp_plain rfl rfl ?_
                    unfold Oper.wp
                    go_simp
                    refine x.mono ?_
                    rintro e w' ⟨v', rfl, hs, hBn⟩
                    exact ⟨_, rfl, hBn, CL _ hBn, ⟨_, rfl, hs⟩⟩
                  | 10, _, ho =>
                    cases ho
                    obtain ⟨x9, hx9⟩ : ∃ x, ac.tmps.getD 124 undef = x := ⟨_, rfl⟩
                    have d9 := hL.new 9 _ 124 rfl (he ⟨9, .data⟩ (by simp) rfl) rfl
                    rw [hx9] at d9
                    obtain ⟨v', rfl, hs⟩ := d9
                    refine wpOp_plain rfl rfl ?_
                    unfold Oper.wp
                    go_simp
                    exact ⟨_, rfl, Below.refl _ _, CL _ (Below.refl _ _), ⟨_, rfl, hs⟩⟩
                  | 11, _, ho =>
                    cases ho
                    obtain ⟨x10, hx10⟩ : ∃ x, ac.tmps.getD 114 undef = x := ⟨_, rfl⟩
                    have d10 := hL.new 10 _ 114 rfl (he ⟨10, .data⟩ (by simp) rfl) rfl
                    rw [hx10] at d10
                    obtain ⟨v', rfl, hs⟩ := d10
                    refine wpOp_plain rfl rfl ?_
                    unfold Oper.wp
                    go_simp
                    exact ⟨_, rfl, Below.refl _ _, CL _ (Below.refl _ _), hs⟩
                  | 12, _, ho =>
                    cases ho
                    obtain ⟨x10, hx10⟩ : ∃ x, ac.tmps.getD 114 undef = x := ⟨_, rfl⟩
                    have d10 := hL.new 10 _ 114 rfl (he ⟨10, .data⟩ (by simp) rfl) rfl
                    rw [hx10] at d10
                    obtain ⟨v', rfl, hs⟩ := d10
                    refine wpOp_plain rfl rfl ?_
                    unfold Oper.wp
                    go_simp
                    exact ⟨_, rfl, Below.refl _ _, CL _ (Below.refl _ _), rfl⟩
                  | 13, _, ho =>
                    cases ho
                    obtain ⟨x11, hx11⟩ : ∃ x, ac.tmps.getD 125 undef = x := ⟨_, rfl⟩
                    have d11 := hL.new 11 _ 125 rfl (he ⟨11, .data⟩ (by simp) rfl) rfl
                    rw [hx11] at d11
                    refine wpOp_plain rfl rfl ?_
                    unfold Oper.wp
                    go_simp
                    exact ⟨_, rfl, Below.refl _ _, CL _ (Below.refl _ _), d11⟩
                  | 14, _, ho =>
                    cases ho
                    have d12 : ac.tmps.getD 126 undef = .int .i64 0 := hL.new 12 _ 126 rfl (he ⟨12, .data⟩ (by simp) rfl) rfl
                    refine wpOp_plain rfl rfl ?_
                    unfold Oper.wp
                    go_simp
                    exact ⟨_, rfl, Below.refl _ _, CL _ (Below.refl _ _), rfl⟩
                  | n + 15, hA, _ => simp at hA
                case rest15 =>
                  intro ac U15 hL
                  have e115 : ac.tmps.getD 115 undef = .agg #[.int .i64 B.eye, .int .i64 B.bull, .slice p1 lr q1, .slice p2 ll q2, .slice p3 n q3, .int .i64 B.wire] := hL.new 0 _ 115 rfl rfl rfl
                  obtain ⟨y116, e116⟩ : ∃ x, ac.tmps.getD 116 undef = x := ⟨_, rfl⟩
                  have e117 : ac.tmps.getD 117 undef = .slice a_u n c_u := hL.new 2 _ 117 rfl rfl rfl
                  obtain ⟨y118, e118⟩ : ∃ x, ac.tmps.getD 118 undef = x := ⟨_, rfl⟩
                  have e119 : ac.tmps.getD 119 undef = .slice (some ⟨b2, o2, none⟩) 1 cc2 := hL.new 4 _ 119 rfl rfl rfl
                  have e120 : ac.tmps.getD 120 undef = .pointer (some ⟨b2, o2, none⟩) := hL.new 5 _ 120 rfl rfl rfl
                  have e121 : ac.tmps.getD 121 undef = .slice a_r0 n c_r0 := hL.new 6 _ 121 rfl rfl rfl
                  obtain ⟨y122, e122⟩ : ∃ x, ac.tmps.getD 122 undef = x := ⟨_, rfl⟩
                  have e123 : ac.tmps.getD 123 undef = .int .i64 K := hL.new 8 _ 123 rfl rfl rfl
                  obtain ⟨y124, e124⟩ : ∃ x, ac.tmps.getD 124 undef = x := ⟨_, rfl⟩
                  obtain ⟨y114, e114⟩ : ∃ x, ac.tmps.getD 114 undef = x := ⟨_, rfl⟩
                  obtain ⟨y125, e125⟩ : ∃ x, ac.tmps.getD 125 undef = x := ⟨_, rfl⟩
                  have e126 : ac.tmps.getD 126 undef = .int .i64 0 := hL.new 12 _ 126 rfl rfl rfl
                  have hn18 := hL.new 13 _ 18 rfl rfl rfl
                  obtain ⟨vn, e18⟩ : ∃ x, ac.tmps.getD 18 undef = x := ⟨_, rfl⟩
                  rw [e18] at hn18
                  have Hvn : Aside (Sl U15 1 eI vn (aft (wseq WN L0 p) L0 K)) := hn18
                  clear hn18
                  have e17 : ac.tmps.getD 17 undef = .int .i64 0 := hL.new 14 _ 17 rfl rfl rfl
                  have es := hL.sets [115, 116, 117, 118, 119, 120, 121, 122, 123, 124, 114, 125, 126, 18, 17] (by decide +kernel)
                  rw [List.foldl_cons, List.foldl_cons, List.foldl_cons, List.foldl_cons, List.foldl_cons, List.foldl_cons, List.foldl_cons, List.foldl_cons, List.foldl_cons, List.foldl_cons, List.foldl_cons, List.foldl_cons, List.foldl_cons, List.foldl_cons, List.foldl_cons, List.foldl_nil, e115, e116, e117, e118, e119, e120, e121, e122, e123, e124, e114, e125, e126, e18, e17] at es
                  have BN : Below U12.heap.size U12 U15 := hL.cls
                  rw [es]
                  clear es hL e115 e116 e117 e118 e119 e120 e121 e122 e123 e124 e114 e125 e126 e18 e17
                  refine wpAny_done (by decide +kernel) ?_ _
                  simp only [List.setIfInBounds_toArray, List.set_cons_zero, List.set_cons_succ]
                  replace HB : Aside (BrdAt U15 (.agg #[.int .i64 B.eye, .int .i64 B.bull, .slice p1 lr q1, .slice p2 ll q2, .slice p3 n q3, .int .i64 B.wire]) B) := HB.out.below BN
                  replace HV1 : Aside (Sl U15 1 eI (.slice a_v1 n c_v1) WN) := HV1.out.below BN
                  replace HR0 : Aside (Sl U15 1 eI (.slice a_r0 n c_r0) L0) := HR0.out.below BN
                  replace HU : Aside (Sl U15 1 eI (.slice a_u n c_u) (wseq WN L0 p)) := HU.out.below BN
                  replace c0 := keepc BN c0
                  replace c1 := keepc BN c1
                  replace c2 := keepc BN c2
                  replace c3 := keepc BN c3
                  replace c4 := keepc BN c4
                  replace c5 := keepc BN c5
                  replace c8 := keepc BN c8
                  replace BWU : Aside (Below w.heap.size w U15) := BWU.out.trans (BN.mono BWU.out.size)
                  replace BKL : Aside (Below U4.heap.size U4 U15) := BKL.out.trans (BN.mono BKL.out.size)
                  clear BN
                  have HVN : Aside (Sl U15 1 eI vn (wseq WN L0 (p + 1))) := by rw [HSE.out]; exact Hvn.out
                  clear Hvn
                  have hsq2 := HSEQ.out (p + 1) (by omega)
                  obtain ⟨a_n, c_n, h_n⟩ : ∃ a c, vn = .slice a n c := by
                    obtain ⟨a, c, e, _⟩ := HVN.out
                    exact ⟨a, c, by rw [e, hsq2.1]⟩
                  subst h_n
                  clear hsq2
                  have BFIN : Aside (Below U4.heap.size U4 U15) := BKL.out
                  go_wp2_with fail
                  go_roundg (62 - (p + 1))
                  case measure => omega
                  case rel =>
                    refine ⟨p + 1, _, by omega, by omega, by go_num, rfl, HVN, ?_, BFIN⟩
                    show _ ∨ _
                    have h1 := HP.out
                    have h2 := HC2.out
                    omega
            · have hx : ¬ p ≤ 60 ∨ (p ≤ 60 ∧ LA = (p : Int)) := by omega
              rcases hx with hx | ⟨hx1, hx2⟩
              · have hp60 : ¬ (p : Int) ≤ 60 := by omega
                clear hc
                go_wp2_with fail
                go_meet
                refine ⟨p, _, rfl, rfl, HU, ?_, BKL⟩
                have := HP.out
                show _ ∧ _
                omega
              · have hp60 : (p : Int) ≤ 60 := by omega
                have hneb : ((p : Int) != LA) = false := by rw [hx2]; simp
                have HX2 : Aside (LA = (p : Int)) := hx2
                clear hx2 hc
                go_wp2_with fail
                go_meet
                refine ⟨p, _, rfl, rfl, HU, ?_, BKL⟩
                have := HX2.out
                show _ ∧ _
                omega
        case rest =>
          obtain ⟨wo, rfl⟩ : ∃ wo : World, wo = wc := ⟨_, rfl⟩
          obtain ⟨p, u, rfl, rfl, HU, HPE, BKL⟩ := hcut
          have HSQ := HSEQ.out p (by have := HPE.out; omega)
          go_upto_region 19 with (fail)
          go_cut [149] (fun s149 wd => s149 = .bool false ∧ Aside (Below wo.heap.size wo wd))
          case first =>
            by_cases h0 : 0 ≤ LA
            · by_cases h60 : LA ≤ 60
              · have hpl : LA = (p : Int) := by have := HPE.out; omega
                have hgt : lim < mx (wseq WN L0 p) := by
                  rcases HSA.out with ⟨h1, _⟩ | ⟨q, h1, _, h3, _⟩
                  · omega
                  · have : q = p := by omega
                    subst this
                    exact h3
                have xmo := HMO.out wo _ _ _ HSQ HU.out
                clear hpl
                obtain ⟨mp, hmp⟩ : ∃ mp, mx (wseq WN L0 p) = mp := ⟨_, rfl⟩
                rw [hmp] at xmo hgt
                have hgn : ¬ mp ≤ lim := by omega
                clear hmp HSQ
                go_wp2_with (go_at_call 24; (with_reducible refine xmo.mono ?_); rintro e w5 ⟨rfl, hb5⟩)
                go_meet
                exact ⟨by rw [decide_eq_false (by omega)], hb5⟩
              · clear HSQ
                go_wp2_with fail
                go_meet
                exact ⟨rfl, Below.refl _ _⟩
            · clear HSQ
              go_wp2_with fail
              go_meet
              exact ⟨rfl, Below.refl _ _⟩
          case rest =>
            obtain ⟨rfl, BD⟩ := hcut
            have BDD : Aside (Below U4.heap.size U4 wc) := BKL.out.trans (BD.out.mono BKL.out.size)
            have d8 := keepc BDD.out c8
            have xsu := HSU.out wc _ _ _ HL1.out.2 (by omega) (HR0.out.below BDD.out)
            have BEND : Aside (Below w.heap.size w wc) := BWU.out.trans (BDD.out.mono BWU.out.size)
            have HZ : Aside (0 < L0.sum ∨ (¬ 0 < L0.sum ∧ (LA = 0 ∨ LA = -1))) := by
              show _ ∨ _
              by_cases hS : 0 < L0.sum
              · exact .inl hS
              · right
                refine ⟨hS, ?_⟩
                have hz := sum_zero (fun x hx => (HL1.out.2.2 x hx).1) (by omega : L0.sum ≤ 0)
                have hw := wseq_zero WN L0 n (by omega) HL1.out.1.1 HL1.out.2.1 hz
                rcases HSA.out with ⟨h1, _⟩ | ⟨q, h1, _, h3, h4⟩
                · exact .inr h1
                · left
                  by_cases hq : q = 0
                  · subst hq; exact h1
                  · have h5 := h4 0 (by omega)
                    rw [hw] at h3 h5
                    omega
            have y7 := known_any
            clear HOWN HINT HWE HMO HSU HSEQ HBE HLA1 HLA2 HB HV1 HR0 HU HSQ HSA HSB
            generalize L0.sum = S at *
            rcases HZ.out with hS | ⟨hS, hz | hz⟩
            · go_wp2_with (first | (go_at_call 25; (with_reducible refine xsu.mono ?_); rintro e w5 ⟨rfl, hb5⟩) | (go_at_call 14; (with_reducible refine (y7 _).mono ?_); rintro e w6 ⟨rfl, hb6⟩))
              go_ret
              exact ⟨rfl, BEND.out.trans ((hb5.mono BEND.out.size).trans (hb6.mono (Nat.le_trans BEND.out.size hb5.size)))⟩
            · have hzb : (LA == 0) = true := by rw [hz]; rfl
              clear hz
              go_wp2_with (first | (go_at_call 25; (with_reducible refine xsu.mono ?_); rintro e w5 ⟨rfl, hb5⟩) | (go_at_call 14; (with_reducible refine (y7 _).mono ?_); rintro e w6 ⟨rfl, hb6⟩))
              go_ret
              exact ⟨rfl, BEND.out.trans ((hb5.mono BEND.out.size).trans (hb6.mono (Nat.le_trans BEND.out.size hb5.size)))⟩
            · have hzb : (LA == 0) = false := by rw [hz]; rfl
              have hzc : (LA == -1) = true := by rw [hz]; rfl
              clear hz
              go_wp2_with (first | (go_at_call 25; (with_reducible refine xsu.mono ?_); rintro e w5 ⟨rfl, hb5⟩) | (go_at_call 14; (with_reducible refine (y7 _).mono ?_); rintro e w6 ⟨rfl, hb6⟩))
              go_ret
              exact ⟨rfl, BEND.out.trans ((hb5.mono BEND.out.size).trans (hb6.mono (Nat.le_trans BEND.out.size hb5.size)))⟩
end Go.Proofs.Ytifabfbnjnjhlaa
