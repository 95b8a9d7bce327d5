/- Board, part Ye: the wear is even. -/
import Derived.Test.YtifabfbnjnjhlaaYd
import Derived.Test.YtifabfbnjnjhlaaUo
import Derived.Test.YtifabfbnjnjhlaaUh
import Derived.Test.YtifabfbnjnjhlaaUg
import Derived.Test.YtifabfbnjnjhlaaRi
set_option linter.unusedVariables false
set_option linter.unusedSimpArgs false
namespace Go.Proofs.Ytifabfbnjnjhlaa
open Go.RowKit Go.Shelf

/-- Some of them, each up to M. -/
def Lst (n : Nat) (M : Int) (xs : List Int) : Prop := xs.length = n ∧ ∀ x ∈ xs, 0 ≤ x ∧ x ≤ M
theorem Lst.aft {n k : Nat} {M N : Int} {xs ys : List Int} (hM : 0 ≤ M) (hN : 0 ≤ N) (h1 : Lst n M xs) (h2 : Lst n N ys) : Lst n (M + N) (aft xs ys k) := ⟨(aft_length _ _ _).trans h2.1, aft_bd M N hM hN xs ys k h1.2 h2.2⟩
theorem Lst.ne {n : Nat} {M : Int} {xs : List Int} (h : Lst n M xs) (hn : 1 ≤ n) : xs ≠ [] := by intro e; have := h.1; rw [e] at this; simp at this; omega
def RowsIs (us : List (Value × List Int)) (ls : List (List Int)) : Prop := us.map (·.2) = ls
def RowsAt (w : World) (us : List (Value × List Int)) : Prop := ∀ y ∈ us, Sl w 1 eI y.1 y.2
theorem sl_take_one {w : World} {b o c : Nat} {x y : Value × List Int} (h : Sl w 1 eR (.slice (some ⟨b, o, none⟩) 2 c) [x, y]) : Sl w 1 eR (.slice (some ⟨b, o, none⟩) 1 c) [x] := by
  obtain ⟨a', c', e, _, hs⟩ := h
  simp only [Value.slice.injEq] at e
  obtain ⟨rfl, _, rfl⟩ := e
  obtain ⟨b', o', e2, hb, hc⟩ := hs (by simp)
  simp only [Option.some.injEq, Addr.mk.injEq, and_true] at e2
  obtain ⟨rfl, rfl⟩ := e2
  refine ⟨_, _, rfl, by simp, fun _ => ⟨_, _, rfl, hb, fun j z hz i u hu => hc j z ?_ i u hu⟩⟩
  match j, hz with
  | 0, hz => simpa using hz
  | j + 1, hz => simp at hz
theorem mx_lst {n : Nat} {M : Int} {xs : List Int} (h : Lst n M xs) (hn : 1 ≤ n) : 0 ≤ mx xs ∧ mx xs ≤ M := mx_bd M xs (h.ne hn) h.2

set_option maxRecDepth 100000 in
set_option maxHeartbeats 16000000 in
theorem even_law (vr vl vb : Value) (rings lines by_ : List Int) (f wi i1 i2 : Int) (w : World) (sr : Sl w 1 eU vr rings) (sl : Sl w 1 eU vl lines) (sb : Sl w 1 eU vb by_) (hr : ∀ x ∈ rings, 0 ≤ x ∧ x ≤ 255) (hl : ∀ x ∈ lines, 0 ≤ x ∧ x ≤ 255) (hby : ∀ x ∈ by_, 0 ≤ x ∧ x ≤ 255) (f0 : 0 ≤ f) (f1 : f ≤ 255) (w0 : 0 ≤ wi) (w1 : wi ≤ 255)
    (a0 : 0 ≤ i1) (a1 : i1 ≤ 255) (b0 : 0 ≤ i2) (b1 : i2 ≤ 255) :
    Calls Try.prog 6 #[mdV vr vl f wi, vb, .agg #[.int .u8 i1, .int .u8 i2]] w (Ret (.bool true) w) := by
  have HR : Aside (Sl w 1 eU vr rings) := sr
  have HL : Aside (Sl w 1 eU vl lines) := sl
  have HBY : Aside (Sl w 1 eU vb by_ ∧ ∀ x ∈ by_, 0 ≤ x ∧ x ≤ 255) := ⟨sb, hby⟩
  obtain ⟨ar, cr, rfl, lr0, _⟩ := sr
  obtain ⟨al, cl, rfl, ll0, _⟩ := sl
  obtain ⟨ab, cb, rfl, lb0, _⟩ := sb
  have HM : Aside (∀ W, Below w.heap.size w W → Calls Try.prog 8 #[mdV (.slice ar rings.length cr) (.slice al lines.length cl) f wi] W (MadeOk rings lines f wi W)) := fun W hW => made_any _ _ rings lines f wi W (HR.out.below hW) (HL.out.below hW) hr hl f0 f1 w0 w1
  clear HR HL
  have HCK : Aside (∀ k, EndL lines k → chk (madeB rings lines f wi k) = 0 ∧ 1 ≤ k ∧ k ≤ 20) := fun k hk => ⟨made_chk rings lines f wi k hr f0 f1 w0 hk, hk.1, hk.2.1⟩
  clear hr hl hby
  generalize rings.length = nr at *
  generalize lines.length = nl at *
  generalize by_.length = nb at *
  unfold mdV
  go_enter Try.func6, Try.ntmps6
  go_wp2_with fail
  have hBa : Below w.heap.size w ((w.alloc (.cells #[.slice ar nr cr, .slice al nl cl, .int .u8 f, .int .u8 wi] 24)).alloc (.cells #[.int .u8 i1, .int .u8 i2] 47)) := by (repeat' (first | exact Below.refl _ _ | assumption | (with_reducible refine Below.drew ?_) | (with_reducible refine Below.setCell ?_ (by (first | (simp; done) | (simp; omega))) _) | (with_reducible refine below_drewN' ?_ _) | (refine Below.alloc ?_ (by (try simp only [World.size_alloc, World.size_drew, World.size_setCell]); omega) _) | (refine Below.trans ?_ (Below.mono (by assumption) (by (try simp only [World.size_alloc, World.size_drew, World.size_setCell]); omega)))))
  have xm := HM.out _ hBa
  unfold mdV at xm
  refine xm.mono ?_
  rintro e wm ⟨k, v, hE, rfl, hbr, hbm⟩
  obtain ⟨hck, hk1, hk20⟩ := HCK.out k hE
  obtain ⟨B, hB⟩ : ∃ B, madeB rings lines f wi k = B := ⟨_, rfl⟩
  rw [hB] at hbr hck
  clear hE HCK HM hB xm
  obtain ⟨xr, xl, xn, rfl, hxr, hxl, hxn⟩ := hbr
  have XR : Aside (Sl wm 2 encP xr B.rings) := hxr
  have XL : Aside (Sl wm 2 encP xl B.lines) := hxl
  have XN : Aside (Sl wm 1 (fun x => [Value.int .i64 x]) xn B.nums) := hxn
  obtain ⟨p1, q1, rfl, _, _⟩ := hxr
  obtain ⟨p2, q2, rfl, _, _⟩ := hxl
  obtain ⟨p3, q3, rfl, _, _⟩ := hxn
  have G := good_of_chk hck
  have hnpos : 1 ≤ B.nums.length := by rw [G.same]; exact List.length_pos_iff.2 G.lines
  have hn20 : B.nums.length ≤ 20 := G.len.2.2
  have HG : Aside (chk B = 0 ∧ B.rings ≠ [] ∧ B.lines ≠ [] ∧ B.nums ≠ [] ∧ B.rings.length ≤ 1000 ∧ B.lines.length ≤ 1000 ∧ B.nums.length ≤ 1000) := ⟨hck, G.rings, G.lines, List.length_pos_iff.1 hnpos, by have := G.len.1; omega, by have := G.len.2.1; omega, by omega⟩
  clear G hck
  obtain ⟨n, hn⟩ : ∃ n, B.nums.length = n := ⟨_, rfl⟩
  have HN : Aside (B.nums.length = n) := hn
  have HB : Aside (BrdAt wm (.agg #[.int .i64 B.eye, .int .i64 B.bull, .slice p1 B.rings.length q1, .slice p2 B.lines.length q2, .slice p3 n q3, .int .i64 B.wire]) B) := by rw [← hn]; exact ⟨_, _, _, rfl, XR.out, XL.out, XN.out⟩
  rw [hn] at hnpos hn20 ⊢
  clear hn XR XL XN
  obtain ⟨lr, hlr⟩ : ∃ lr, B.rings.length = lr := ⟨_, rfl⟩
  obtain ⟨ll, hll⟩ : ∃ ll, B.lines.length = ll := ⟨_, rfl⟩
  rw [hlr, hll] at HB ⊢
  clear hlr hll
  go_wp2_with fail
  obtain ⟨wb, hwb⟩ : ∃ wb, wb = wm.alloc (.cells #[.int .i64 B.eye, .int .i64 B.bull, .slice p1 lr q1, .slice p2 ll q2, .slice p3 n q3, .int .i64 B.wire] 31) := ⟨_, rfl⟩
  obtain ⟨gB, hgB⟩ : ∃ gB, wm.heap.size = gB := ⟨_, rfl⟩
  have hBb : Below wm.heap.size wm wb := by rw [hwb]; exact (Below.refl _ _).alloc (Nat.le_refl _) _
  have c0 : wb.cell? ⟨gB, 0, none⟩ = some (.int .i64 B.eye) := by rw [hwb, ← hgB]; clear hwb; go_simp
  have c1 : wb.cell? ⟨gB, 1, none⟩ = some (.int .i64 B.bull) := by rw [hwb, ← hgB]; clear hwb; go_simp
  have c2 : wb.cell? ⟨gB, 2, none⟩ = some (.slice p1 lr q1) := by rw [hwb, ← hgB]; clear hwb; go_simp
  have c3 : wb.cell? ⟨gB, 3, none⟩ = some (.slice p2 ll q2) := by rw [hwb, ← hgB]; clear hwb; go_simp
  have c4 : wb.cell? ⟨gB, 4, none⟩ = some (.slice p3 n q3) := by rw [hwb, ← hgB]; clear hwb; go_simp
  have c5 : wb.cell? ⟨gB, 5, none⟩ = some (.int .i64 B.wire) := by rw [hwb, ← hgB]; clear hwb; go_simp
  have zt : w.heap.size + 1 + 1 ≤ wm.heap.size := by have := hbm.size; simp at this; omega
  have c6 : wb.cell? ⟨w.heap.size + 1, 0, none⟩ = some (.int .u8 i1) := keepc hBb (keepc hbm (by go_simp))
  have c7 : wb.cell? ⟨w.heap.size + 1, 1, none⟩ = some (.int .u8 i2) := keepc hBb (keepc hbm (by go_simp))
  replace HB : Aside (BrdAt wb (.agg #[.int .i64 B.eye, .int .i64 B.bull, .slice p1 lr q1, .slice p2 ll q2, .slice p3 n q3, .int .i64 B.wire]) B) := HB.out.below hBb
  have hBw : Below w.heap.size w wb := (hBa.trans (hbm.mono hBa.size)).trans (hBb.mono (by omega))
  rw [← hwb, hgB]
  clear hwb hBb hbm hBa zt hgB
  have xw := wear_any (.slice ab nb cb) by_ n 2 wb (HBY.out.1.below hBw) HBY.out.2 hnpos hn20 (by omega) (by omega)
  rw [show ((2 : Nat) : Int) = 2 from rfl] at xw
  refine xw.mono ?_
  rintro e U ⟨v1, v2, ws, rfl, hs1, hs2, hcap2, hws, hrow, hbu⟩
  have BWU : Aside (Below w.heap.size w U) := hBw.trans (hbu.mono hBw.size)
  replace HB : Aside (BrdAt U (.agg #[.int .i64 B.eye, .int .i64 B.bull, .slice p1 lr q1, .slice p2 ll q2, .slice p3 n q3, .int .i64 B.wire]) B) := HB.out.below hbu
  replace c0 := keepc hbu c0
  replace c1 := keepc hbu c1
  replace c2 := keepc hbu c2
  replace c3 := keepc hbu c3
  replace c4 := keepc hbu c4
  replace c5 := keepc hbu c5
  replace c6 := keepc hbu c6
  replace c7 := keepc hbu c7
  have HL1 : Aside (Lst n 765 (wornB by_ n) ∧ Lst n 255 (weekB by_ n 0) ∧ Lst n 255 (weekB by_ n 1)) := ⟨⟨wornB_length _ _, wornB_bd HBY.out.2 n⟩, ⟨weekB_length _ _ _, weekB_bd HBY.out.2 n 0⟩, ⟨weekB_length _ _ _, weekB_bd HBY.out.2 n 1⟩⟩
  clear xw hbu hBw HBY
  have hws2 : ws.map (·.2) = [weekB by_ n 0, weekB by_ n 1] := hws
  clear hws
  generalize wornB by_ n = WN at *
  generalize weekB by_ n 0 = L0 at *
  generalize weekB by_ n 1 = L1 at *
  obtain ⟨r0, r1, rfl⟩ : ∃ r0 r1, ws = [(r0, L0), (r1, L1)] := by
    match ws, hws2 with
    | [x, y], h => simp at h; exact ⟨x.1, y.1, by rw [← h.1, ← h.2]⟩
  clear hws2
  have HV1 : Aside (Sl U 1 eI v1 WN) := hs1
  have HR0 : Aside (Sl U 1 eI r0 L0) := hrow (r0, L0) (by simp)
  have HR1 : Aside (Sl U 1 eI r1 L1) := hrow (r1, L1) (by simp)
  have HV2 : Aside (Sl U 1 eR v2 [(r0, L0), (r1, L1)]) := hs2
  clear hrow hs1
  obtain ⟨a2, cc2, rfl, _, hs2⟩ := hs2
  obtain ⟨b2, o2, rfl, _, hc2⟩ := hs2 (by simp)
  have hcap : 2 ≤ cc2 := by
    obtain ⟨g, c, e, h⟩ := hcap2
    simp only [Value.slice.injEq] at e
    omega
  have hcapz : (1 : Int) ≤ (cc2 : Int) := by omega
  clear hcap2
  have c8 : U.cell? ⟨b2, o2, none⟩ = some r0 := by simpa using hc2 0 _ rfl 0 _ rfl
  have c9 : U.cell? ⟨b2, o2 + 1, none⟩ = some r1 := by simpa using hc2 1 _ rfl 0 _ rfl
  clear hs2 hc2
  simp only [List.length_cons, List.length_nil, Nat.zero_add, Nat.reduceAdd] at HV2 ⊢
  obtain ⟨a_v1, c_v1, h_v1⟩ : ∃ a c, v1 = .slice a n c := by
    obtain ⟨a, c, e, _⟩ := HV1.out
    exact ⟨a, c, by rw [e, HL1.out.1.1]⟩
  subst h_v1
  obtain ⟨a_r0, c_r0, h_r0⟩ : ∃ a c, r0 = .slice a n c := by
    obtain ⟨a, c, e, _⟩ := HR0.out
    exact ⟨a, c, by rw [e, HL1.out.2.1.1]⟩
  subst h_r0
  obtain ⟨a_r1, c_r1, h_r1⟩ : ∃ a c, r1 = .slice a n c := by
    obtain ⟨a, c, e, _⟩ := HR1.out
    exact ⟨a, c, by rw [e, HL1.out.2.2.1]⟩
  subst h_r1
  have HOWN : Aside (∀ (W : World) (v : Value), BrdAt W v B → Calls Try.prog 11 #[v] W (fun e w' => ∃ v', e = .returned v' ∧ BrdAt w' v' B ∧ Below W.heap.size W w')) := by
    intro W v h
    obtain ⟨_, g1, g2, g3, g4, g5, g6⟩ := HG.out
    have x := own_any v B W h g1 g2 g3 g4 g5 g6
    unfold OwnOk at x
    refine x.mono ?_
    rintro e w' ⟨_, _, _, _, _, _, rfl, hbr, hBn⟩
    exact ⟨_, rfl, hbr, hBn⟩
  have HINT : Aside (∀ (W : World) (v : Value) (xs : List Int) (M : Int), Lst n M xs → Sl W 1 eI v xs → Calls Try.prog 20 #[v] W (fun e w' => ∃ v', e = .returned v' ∧ Sl w' 1 eI v' xs ∧ Below W.heap.size W w')) := by
    intro W v xs M hx h
    have x := ints_own v xs W h (hx.ne hnpos) (by rw [hx.1]; omega)
    unfold RetSl at x
    refine x.mono ?_
    rintro e w' ⟨_, _, rfl, _, _, hs, hBn⟩
    exact ⟨_, rfl, hs, hBn⟩
  have HWE : Aside (∀ (W : World) (vb v vk : Value) (xs ys : List Int) (M : Int) (K : Nat), 0 ≤ M → M ≤ 1000000 → Lst n M xs → Lst n 255 ys → K < n → BrdAt W vb B → Sl W 1 eI v xs → Sl W 1 eI vk ys → Calls Try.prog 19 #[vb, v, vk, .int .i64 K] W (WearOk (aft xs ys K) W)) := by
    intro W vb v vk xs ys M K hM0 hM hx hy hK hb h1 h2
    refine Wear_ok vb v vk B xs ys K W hb h1 h2 HG.out.1 ?_ (by rw [hx.1]; exact hK) ?_
    · exact wErr_zero (by rw [hx.1, HN.out]) (fun z hz => by simp at hz; subst hz; rw [HN.out]; exact hy.1) (fun z hz => by have := hx.2 z hz; omega) (fun z hz u hu => by simp at hz; subst hz; have := hy.2 u hu; omega)
    · have := mx_lst (Lst.aft (k := K) hM0 (by omega) hx hy) hnpos; omega
  have HWL : Aside (WN.length = n) := HL1.out.1.1
  have HMO : Aside (∀ (W : World) (v : Value) (xs : List Int) (M : Int), Lst n M xs → Sl W 1 eI v xs → Calls Try.prog 24 #[v] W (Ret (.int .i64 (mx xs)) W)) := by
    intro W v xs M hx h
    have x := most_any v xs W h
    rw [m0_mx xs (hx.ne hnpos) (fun y hy => (hx.2 y hy).1)] at x
    exact x
  have HSU : Aside (∀ (W : World) (v : Value) (xs : List Int) (M : Int), Lst n M xs → M ≤ 1000000 → Sl W 1 eI v xs → Calls Try.prog 25 #[v] W (Ret (.int .i64 xs.sum) W)) := by
    intro W v xs M hx hM h
    exact sum_any v xs W h (fun y hy => by have := hx.2 y hy; omega) (by rw [hx.1]; omega)
  have HSB : Aside ((0 ≤ WN.sum ∧ WN.sum ≤ 100000) ∧ (0 ≤ L0.sum ∧ L0.sum ≤ 100000) ∧ 0 ≤ L1.sum ∧ L1.sum ≤ 100000) := by
    obtain ⟨l1, l2, l3⟩ := HL1.out
    have s1 := sum_bd 765 (by omega) WN l1.2
    have s2 := sum_bd 255 (by omega) L0 l2.2
    have s3 := sum_bd 255 (by omega) L1 l3.2
    rw [l1.1] at s1
    rw [l2.1] at s2
    rw [l3.1] at s3
    refine ⟨⟨?_, ?_⟩, ⟨?_, ?_⟩, ?_, ?_⟩ <;> omega
  have HWR : Aside (IntKind.i64.wrap (WN.sum + L0.sum) = WN.sum + L0.sum) := IntWalk.i64_in _ (by have := HSB.out; omega)
  obtain ⟨K1, hK1, hbk, hdg1, hM1, hmin1⟩ := best_one WN L0 (by rw [HWL.out]; omega)
  obtain ⟨K0, J0, hK0, hJ0, hdg2, hM2, hmin2⟩ := best_two WN L0 L1 (by rw [HWL.out]; omega)
  rw [HWL.out] at hK1 hdg1 hK0 hJ0 hdg2
  have HMIN : Aside ((∀ k, k < n → planM WN [L0] ≤ mx (aft WN L0 k)) ∧ ∀ k j, k < n → j < n → planM WN [L0, L1] ≤ mx (aft (aft WN L0 k) L1 j)) := ⟨fun k hk => hmin1 k (by rw [HWL.out]; exact hk), fun k j hk hj => hmin2 k j (by rw [HWL.out]; exact hk) (by rw [HWL.out]; exact hj)⟩
  have HMB : Aside ((0 ≤ planM WN [L0] ∧ planM WN [L0] ≤ 1020) ∧ 0 ≤ planM WN [L0, L1] ∧ planM WN [L0, L1] ≤ 1275) := by
    obtain ⟨l1, l2, l3⟩ := HL1.out
    refine ⟨?_, ?_⟩
    · rw [hM1]; exact mx_lst (Lst.aft (k := K1) (by omega) (by omega) l1 l2) hnpos
    · rw [hM2]; exact mx_lst (Lst.aft (k := J0) (by omega) (by omega) (Lst.aft (k := K0) (by omega) (by omega) l1 l2) l3) hnpos
  have HER : Aside (∀ (ws : List (Value × List Int)), (ws.map (·.2) = [L0] ∨ ws.map (·.2) = [L0, L1]) → wErr (B.nums.length : Nat) WN ws = 0) := by
    intro ws h
    obtain ⟨l1, l2, l3⟩ := HL1.out
    have hm : ∀ x ∈ ws, Lst n 255 x.2 := by
      intro x hx
      have : x.2 ∈ ws.map (·.2) := List.mem_map.2 ⟨x, hx, rfl⟩
      rcases h with h | h
      · rw [h] at this; simp at this; rw [this]; exact l2
      · rw [h] at this; simp at this; rcases this with e | e <;> rw [e]
        · exact l2
        · exact l3
    exact wErr_zero (by rw [l1.1, HN.out]) (fun z hz => by rw [HN.out]; exact (hm z hz).1) (fun z hz => by have := l1.2 z hz; omega) (fun z hz u hu => by have := (hm z hz).2 u hu; omega)
  have HBE : Aside (∀ (W : World) (vb v vk : Value), BrdAt W vb B → Sl W 1 eI v WN → Sl W 1 eI vk L0 → Calls Try.prog 21 #[vb, v, vk] W (Ret (.tuple #[.int .i64 K1, .int .i64 (planM WN [L0]), .int .i64 0]) W)) := by
    intro W vb v vk hb h1 h2
    have x := Best_ok vb v vk B WN L0 W hb h1 h2 HG.out.1 (HER.out _ (.inl rfl)) (by have := HMB.out; omega)
    rw [hbk] at x
    exact x
  have HPL1 : Aside (∀ (W : World) (vb v vs : Value) (ws : List (Value × List Int)), BrdAt W vb B → Sl W 1 eI v WN → Sl W 1 eR vs ws → ws.map (·.2) = [L0] → (∀ x ∈ ws, Sl W 1 eI x.1 x.2) → Calls Try.prog 22 #[vb, v, vs] W (fun e w' => ∃ v', e = .returned (.tuple #[v', .int .i64 (planM WN [L0]), .int .i64 0]) ∧ Sl w' 1 eI v' [(K1 : Int)] ∧ Below W.heap.size W w')) := by
    intro W vb v vs ws hb h1 h2 h3 h4
    have hlen : ws.length = 1 := by have := congrArg List.length h3; simpa using this
    have x := Plan_ok vb v vs B WN ws W hb h1 h2 h4 HG.out.1 (by intro e; rw [e] at hlen; simp at hlen) (by omega) (HER.out _ (.inl h3)) (by rw [h3]; have := HMB.out; omega)
    rw [h3] at x
    unfold PlanOk at x
    simp only [List.length_cons, List.length_nil, Nat.zero_add, HWL.out] at x
    rw [hdg1] at x
    refine x.mono ?_
    rintro e w' ⟨_, _, rfl, hs, hBn⟩
    exact ⟨_, rfl, hs, hBn⟩
  have HPL2 : Aside (∀ (W : World) (vb v vs : Value) (ws : List (Value × List Int)), BrdAt W vb B → Sl W 1 eI v WN → Sl W 1 eR vs ws → ws.map (·.2) = [L0, L1] → (∀ x ∈ ws, Sl W 1 eI x.1 x.2) → Calls Try.prog 22 #[vb, v, vs] W (fun e w' => ∃ v', e = .returned (.tuple #[v', .int .i64 (planM WN [L0, L1]), .int .i64 0]) ∧ Sl w' 1 eI v' [(K0 : Int), (J0 : Int)] ∧ Below W.heap.size W w')) := by
    intro W vb v vs ws hb h1 h2 h3 h4
    have hlen : ws.length = 2 := by have := congrArg List.length h3; simpa using this
    have x := Plan_ok vb v vs B WN ws W hb h1 h2 h4 HG.out.1 (by intro e; rw [e] at hlen; simp at hlen) (by omega) (HER.out _ (.inr h3)) (by rw [h3]; have := HMB.out; omega)
    rw [h3] at x
    unfold PlanOk at x
    simp only [List.length_cons, List.length_nil, Nat.zero_add, Nat.reduceAdd, HWL.out] at x
    rw [hdg2] at x
    refine x.mono ?_
    rintro e w' ⟨_, _, rfl, hs, hBn⟩
    exact ⟨_, rfl, hs, hBn⟩
  have HWK : Aside (∀ (W : World) (v : Value) (ws : List (Value × List Int)), Sl W 1 eR v ws → (∀ x ∈ ws, Sl W 1 eI x.1 x.2 ∧ Lst n 255 x.2) → 1 ≤ ws.length → ws.length ≤ 3 → Calls Try.prog 23 #[v] W (WeeksOk (ws.map (·.2)) W)) := by
    intro W v ws h1 h2 h3 h4
    exact weeks_any v ws W h1 (fun x hx => (h2 x hx).1) (fun x hx => (h2 x hx).2.ne hnpos) (fun x hx => by rw [(h2 x hx).2.1]; omega) h3 h4
  have HWK1 : Aside (∀ (W : World) (v : Value), Sl W 1 eR v [(.slice a_r0 n c_r0, L0)] → Sl W 1 eI (.slice a_r0 n c_r0) L0 → Calls Try.prog 23 #[v] W (fun e w' => ∃ (v2 : Value) (us : List (Value × List Int)), e = .returned v2 ∧ Sl w' 1 eR v2 us ∧ us.map (·.2) = [L0] ∧ (∀ x ∈ us, Sl w' 1 eI x.1 x.2) ∧ Below W.heap.size W w')) := by
    intro W v h1 h2
    exact HWK.out W v _ h1 (fun x hx => by simp at hx; subst hx; exact ⟨h2, HL1.out.2.1⟩) (by simp) (by simp)
  have HWK2 : Aside (∀ (W : World) (v : Value), Sl W 1 eR v [(.slice a_r0 n c_r0, L0), (.slice a_r1 n c_r1, L1)] → Sl W 1 eI (.slice a_r0 n c_r0) L0 → Sl W 1 eI (.slice a_r1 n c_r1) L1 → Calls Try.prog 23 #[v] W (fun e w' => ∃ (v2 : Value) (us : List (Value × List Int)), e = .returned v2 ∧ Sl w' 1 eR v2 us ∧ us.map (·.2) = [L0, L1] ∧ (∀ x ∈ us, Sl w' 1 eI x.1 x.2) ∧ Below W.heap.size W w')) := by
    intro W v h1 h2 h3
    exact HWK.out W v _ h1 (fun x hx => by
      simp at hx
      rcases hx with rfl | rfl
      · exact ⟨h2, HL1.out.2.1⟩
      · exact ⟨h3, HL1.out.2.2⟩) (by simp) (by simp)
  have HM12 : Aside (planM WN [L0] = mx (aft WN L0 K1) ∧ planM WN [L0, L1] = mx (aft (aft WN L0 K0) L1 J0)) := ⟨hM1, hM2⟩
  obtain ⟨M1, hM1e⟩ : ∃ M1, planM WN [L0] = M1 := ⟨_, rfl⟩
  obtain ⟨M2, hM2e⟩ : ∃ M2, planM WN [L0, L1] = M2 := ⟨_, rfl⟩
  rw [hM1e] at HMIN HMB HBE HPL1 HM12
  rw [hM2e] at HMIN HMB HPL2 HM12
  clear hM1e hM2e hM1 hM2 hbk hdg1 hdg2 hmin1 hmin2 HER
  obtain ⟨I1, hI1⟩ : ∃ I : Nat, i1 % (n : Int) = I := ⟨(i1 % (n : Int)).toNat, by have := Int.emod_nonneg i1 (show (n : Int) ≠ 0 by omega); omega⟩
  have hI1n : I1 < n := by have := Int.emod_lt_of_pos i1 (show (0 : Int) < (n : Int) by omega); omega
  obtain ⟨I2, hI2⟩ : ∃ I : Nat, i2 % (n : Int) = I := ⟨(i2 % (n : Int)).toNat, by have := Int.emod_nonneg i2 (show (n : Int) ≠ 0 by omega); omega⟩
  have hI2n : I2 < n := by have := Int.emod_lt_of_pos i2 (show (0 : Int) < (n : Int) by omega); omega
  have HI : Aside (i1.tmod (n : Int) = I1 ∧ i2.tmod (n : Int) = I2 ∧ ¬ n = 0 ∧ IntKind.i64.wrap i1 = i1 ∧ IntKind.i64.wrap i2 = i2) := ⟨by rw [Int.tmod_eq_emod_of_nonneg a0]; exact hI1, by rw [Int.tmod_eq_emod_of_nonneg b0]; exact hI2, by omega, IntWalk.i64_in _ (by omega), IntWalk.i64_in _ (by omega)⟩
  clear hI1 hI2
  have HLA : Aside (Lst n 1020 (aft WN L0 I1)) := by have h := Lst.aft (k := I1) (by omega) (by omega) HL1.out.1 HL1.out.2.1; rw [show (765 : Int) + 255 = 1020 from rfl] at h; exact h
  have HLH : Aside (Lst n 1020 (aft WN L0 K0)) := by have h := Lst.aft (k := K0) (by omega) (by omega) HL1.out.1 HL1.out.2.1; rw [show (765 : Int) + 255 = 1020 from rfl] at h; exact h
  have HLD : Aside (Lst n 1020 (aft WN L0 K1)) := by have h := Lst.aft (k := K1) (by omega) (by omega) HL1.out.1 HL1.out.2.1; rw [show (765 : Int) + 255 = 1020 from rfl] at h; exact h
  have HLC : Aside (Lst n 1275 (aft (aft WN L0 I1) L1 I2)) := by have h := Lst.aft (k := I2) (by omega) (by omega) HLA.out HL1.out.2.2; rw [show (1020 : Int) + 255 = 1275 from rfl] at h; exact h
  have HL2 : Aside (Lst n 1275 (aft (aft WN L0 K0) L1 J0)) := by have h := Lst.aft (k := J0) (by omega) (by omega) HLH.out HL1.out.2.2; rw [show (1020 : Int) + 255 = 1275 from rfl] at h; exact h
  go_upto_region 4 with (fail)
  refine region_laid (fl := 10) [true, true, true, true, true, true, true, true, true, true, true, true] 0 (fun (i : Nat) (x : Value) (ww : World) => (match i with | 0 => x = .pointer (some ⟨w.heap.size + 1, 0, none⟩) | 1 => x = .int .u8 i1 | 2 => x = .int .i64 i1 | 3 => x = .int .i64 n | 4 => x = .int .i64 I1 | 5 => x = .pointer (some ⟨w.heap.size + 1, 1, none⟩) | 6 => x = .int .u8 i2 | 7 => x = .int .i64 i2 | 8 => x = .int .i64 n | 9 => x = .int .i64 I2 | 10 => x = .int .i64 I1 | 11 => x = .int .i64 I2 | _ => True : Prop)) (fun w' => Below U.heap.size U w') (by kernel_rfl) rfl (by show layable _ 316 _ 10 = true; decide +kernel) rfl ((Below.refl _ _).drew) ?mono4 ?step4 ?rest4
  case mono4 =>
    intro i x ww ww' hB h
    match i, h with
    | 0, h => exact h
    | 1, h => exact h
    | 2, h => exact h
    | 3, h => exact h
    | 4, h => exact h
    | 5, h => exact h
    | 6, h => exact h
    | 7, h => exact h
    | 8, h => exact h
    | 9, h => exact h
    | 10, h => exact h
    | 11, h => exact h
    | n + 12, h => exact h
  case step4 =>
    intro i o_ listed ac W hA ho hL he
    have hk5 : ac.tmps.getD 5 undef = .pointer (some ⟨w.heap.size + 1, 0, none⟩) := hL.kept 5 (by decide +kernel)
    have hk8 : ac.tmps.getD 8 undef = .int .i64 n := hL.kept 8 (by decide +kernel)
    have CL : ∀ W', Below W.heap.size W W' → Below U.heap.size U W' := fun W' h => hL.cls.trans (h.mono hL.cls.size)
    have k_c6 := keepc hL.cls c6
    have k_c7 := keepc hL.cls c7
    match i, hA, ho with
    | 0, _, ho =>
      cases ho
      refine wpOp_plain rfl rfl ?_
      unfold Oper.wp
      go_simp
      exact ⟨_, rfl, Below.refl _ _, CL _ (Below.refl _ _), rfl⟩
    | 1, _, ho =>
      cases ho
      have d0 : ac.tmps.getD 38 undef = .pointer (some ⟨w.heap.size + 1, 0, none⟩) := hL.new 0 _ 38 rfl (he ⟨0, .data⟩ (by simp) rfl) rfl
      refine wpOp_plain rfl rfl ?_
      unfold Oper.wp
      go_simp
      exact ⟨_, rfl, Below.refl _ _, CL _ (Below.refl _ _), rfl⟩
    | 2, _, ho =>
      cases ho
      have d1 : ac.tmps.getD 39 undef = .int .u8 i1 := hL.new 1 _ 39 rfl (he ⟨1, .data⟩ (by simp) rfl) rfl
      obtain ⟨_, _, _, hz, _⟩ := HI.out
      refine wpOp_plain rfl rfl ?_
      unfold Oper.wp
      go_simp
      exact ⟨_, rfl, Below.refl _ _, CL _ (Below.refl _ _), rfl⟩
    | 3, _, ho =>
      cases ho
      refine wpOp_plain rfl rfl ?_
      unfold Oper.wp
      go_simp
      exact ⟨_, rfl, Below.refl _ _, CL _ (Below.refl _ _), rfl⟩
    | 4, _, ho =>
      cases ho
      have d2 : ac.tmps.getD 40 undef = .int .i64 i1 := hL.new 2 _ 40 rfl (he ⟨2, .data⟩ (by simp) rfl) rfl
      have d3 : ac.tmps.getD 41 undef = .int .i64 n := hL.new 3 _ 41 rfl (he ⟨3, .data⟩ (by simp) rfl) rfl
      obtain ⟨hz1, _, hz3, _, _⟩ := HI.out
      refine wpOp_plain rfl rfl ?_
      unfold Oper.wp
      go_simp
      exact ⟨_, rfl, Below.refl _ _, CL _ (Below.refl _ _), rfl⟩
    | 5, _, ho =>
      cases ho
      refine wpOp_plain rfl rfl ?_
      unfold Oper.wp
      go_simp
      exact ⟨_, rfl, Below.refl _ _, CL _ (Below.refl _ _), rfl⟩
    | 6, _, ho =>
      cases ho
      have d5 : ac.tmps.getD 43 undef = .pointer (some ⟨w.heap.size + 1, 1, none⟩) := hL.new 5 _ 43 rfl (he ⟨5, .data⟩ (by simp) rfl) rfl
      refine wpOp_plain rfl rfl ?_
      unfold Oper.wp
      go_simp
      exact ⟨_, rfl, Below.refl _ _, CL _ (Below.refl _ _), rfl⟩
    | 7, _, ho =>
      cases ho
      have d6 : ac.tmps.getD 44 undef = .int .u8 i2 := hL.new 6 _ 44 rfl (he ⟨6, .data⟩ (by simp) rfl) rfl
      obtain ⟨_, _, _, _, hz⟩ := HI.out
      refine wpOp_plain rfl rfl ?_
      unfold Oper.wp
      go_simp
      exact ⟨_, rfl, Below.refl _ _, CL _ (Below.refl _ _), rfl⟩
    | 8, _, ho =>
      cases ho
      refine wpOp_plain rfl rfl ?_
      unfold Oper.wp
      go_simp
      exact ⟨_, rfl, Below.refl _ _, CL _ (Below.refl _ _), rfl⟩
    | 9, _, ho =>
      cases ho
      have d7 : ac.tmps.getD 45 undef = .int .i64 i2 := hL.new 7 _ 45 rfl (he ⟨7, .data⟩ (by simp) rfl) rfl
      have d8 : ac.tmps.getD 46 undef = .int .i64 n := hL.new 8 _ 46 rfl (he ⟨8, .data⟩ (by simp) rfl) rfl
      obtain ⟨_, hz1, hz3, _, _⟩ := HI.out
      refine wpOp_plain rfl rfl ?_
      unfold Oper.wp
      go_simp
      exact ⟨_, rfl, Below.refl _ _, CL _ (Below.refl _ _), rfl⟩
    | 10, _, ho =>
      cases ho
      have d4 : ac.tmps.getD 42 undef = .int .i64 I1 := hL.new 4 _ 42 rfl (he ⟨4, .data⟩ (by simp) rfl) rfl
      refine wpOp_plain rfl rfl ?_
      unfold Oper.wp
      go_simp
      exact ⟨_, rfl, Below.refl _ _, CL _ (Below.refl _ _), rfl⟩
    | 11, _, ho =>
      cases ho
      have d9 : ac.tmps.getD 47 undef = .int .i64 I2 := hL.new 9 _ 47 rfl (he ⟨9, .data⟩ (by simp) rfl) rfl
      refine wpOp_plain rfl rfl ?_
      unfold Oper.wp
      go_simp
      exact ⟨_, rfl, Below.refl _ _, CL _ (Below.refl _ _), rfl⟩
    | n + 12, hA, _ => simp at hA
  case rest4 =>
    intro ac U4 hL
    have e38 : ac.tmps.getD 38 undef = .pointer (some ⟨w.heap.size + 1, 0, none⟩) := hL.new 0 _ 38 rfl rfl rfl
    have e39 : ac.tmps.getD 39 undef = .int .u8 i1 := hL.new 1 _ 39 rfl rfl rfl
    have e40 : ac.tmps.getD 40 undef = .int .i64 i1 := hL.new 2 _ 40 rfl rfl rfl
    have e41 : ac.tmps.getD 41 undef = .int .i64 n := hL.new 3 _ 41 rfl rfl rfl
    have e42 : ac.tmps.getD 42 undef = .int .i64 I1 := hL.new 4 _ 42 rfl rfl rfl
    have e43 : ac.tmps.getD 43 undef = .pointer (some ⟨w.heap.size + 1, 1, none⟩) := hL.new 5 _ 43 rfl rfl rfl
    have e44 : ac.tmps.getD 44 undef = .int .u8 i2 := hL.new 6 _ 44 rfl rfl rfl
    have e45 : ac.tmps.getD 45 undef = .int .i64 i2 := hL.new 7 _ 45 rfl rfl rfl
    have e46 : ac.tmps.getD 46 undef = .int .i64 n := hL.new 8 _ 46 rfl rfl rfl
    have e47 : ac.tmps.getD 47 undef = .int .i64 I2 := hL.new 9 _ 47 rfl rfl rfl
    have e11 : ac.tmps.getD 11 undef = .int .i64 I1 := hL.new 10 _ 11 rfl rfl rfl
    have e12 : ac.tmps.getD 12 undef = .int .i64 I2 := hL.new 11 _ 12 rfl rfl rfl
    have es := hL.sets [38, 39, 40, 41, 42, 43, 44, 45, 46, 47, 11, 12] (by decide +kernel)
    rw [List.foldl_cons, List.foldl_cons, List.foldl_cons, List.foldl_cons, List.foldl_cons, List.foldl_cons, List.foldl_cons, List.foldl_cons, List.foldl_cons, List.foldl_cons, List.foldl_cons, List.foldl_cons, List.foldl_nil, e38, e39, e40, e41, e42, e43, e44, e45, e46, e47, e11, e12] at es
    have BN : Below U.heap.size U U4 := hL.cls
    rw [es]
    clear es hL e38 e39 e40 e41 e42 e43 e44 e45 e46 e47 e11 e12
    refine wpAny_done (by decide +kernel) ?_ _
    simp only [List.setIfInBounds_toArray, List.set_cons_zero, List.set_cons_succ]
    replace HB : Aside (BrdAt U4 (.agg #[.int .i64 B.eye, .int .i64 B.bull, .slice p1 lr q1, .slice p2 ll q2, .slice p3 n q3, .int .i64 B.wire]) B) := HB.out.below BN
    replace HV1 : Aside (Sl U4 1 eI (.slice a_v1 n c_v1) WN) := HV1.out.below BN
    replace HR0 : Aside (Sl U4 1 eI (.slice a_r0 n c_r0) L0) := HR0.out.below BN
    replace HR1 : Aside (Sl U4 1 eI (.slice a_r1 n c_r1) L1) := HR1.out.below BN
    replace HV2 : Aside (Sl U4 1 eR (.slice (some ⟨b2, o2, none⟩) 2 cc2) [(.slice a_r0 n c_r0, L0), (.slice a_r1 n c_r1, L1)]) := HV2.out.below BN
    replace c0 := keepc BN c0
    replace c1 := keepc BN c1
    replace c2 := keepc BN c2
    replace c3 := keepc BN c3
    replace c4 := keepc BN c4
    replace c5 := keepc BN c5
    replace c6 := keepc BN c6
    replace c7 := keepc BN c7
    replace c8 := keepc BN c8
    replace c9 := keepc BN c9
    replace BWU : Aside (Below w.heap.size w U4) := BWU.out.trans (BN.mono BWU.out.size)
    clear BN
    go_upto_region 5 with (fail)
    refine region_laid (fl := 12) [true, true, true, true, true, true, true, true, true, true, true, true, true, true, true] 0 (fun (i : Nat) (x : Value) (ww : World) => (match i with | 0 => x = .agg #[.int .i64 B.eye, .int .i64 B.bull, .slice p1 lr q1, .slice p2 ll q2, .slice p3 n q3, .int .i64 B.wire] | 1 => BrdAt ww x B | 2 => x = .slice a_v1 n c_v1 | 3 => Sl ww 1 eI x (WN) | 4 => x = .slice (some ⟨b2, o2, none⟩) 2 cc2 | 5 => x = .pointer (some ⟨b2, o2, none⟩) | 6 => x = .slice a_r0 n c_r0 | 7 => Sl ww 1 eI x (L0) | 8 => x = .int .i64 I1 | 9 => ∃ v, x = .tuple #[v, .int .i64 0] ∧ Sl ww 1 eI v (aft WN L0 I1) | 10 => ∃ v, x = .tuple #[v, .int .i64 0] ∧ Sl ww 1 eI v (aft WN L0 I1) | 11 => Sl ww 1 eI x (aft WN L0 I1) | 12 => x = .int .i64 0 | 13 => Sl ww 1 eI x (aft WN L0 I1) | 14 => x = .int .i64 0 | _ => True : Prop)) (fun w' => Below U4.heap.size U4 w') (by kernel_rfl) rfl (by show layable _ 316 _ 12 = true; decide +kernel) rfl ((Below.refl _ _).drew) ?mono5 ?step5 ?rest5
    case mono5 =>
      intro i x ww ww' hB h
      match i, h with
      | 0, h => exact h
      | 1, h => exact BrdAt.below h hB
      | 2, h => exact h
      | 3, h => exact Sl.below h hB
      | 4, h => exact h
      | 5, h => exact h
      | 6, h => exact h
      | 7, h => exact Sl.below h hB
      | 8, h => exact h
      | 9, h => exact (by obtain ⟨v, e, h⟩ := h; exact ⟨v, e, Sl.below h hB⟩)
      | 10, h => exact (by obtain ⟨v, e, h⟩ := h; exact ⟨v, e, Sl.below h hB⟩)
      | 11, h => exact Sl.below h hB
      | 12, h => exact h
      | 13, h => exact Sl.below h hB
      | 14, h => exact h
      | n + 15, h => exact h
    case step5 =>
      intro i o_ listed ac W hA ho hL he
      have hk7 : ac.tmps.getD 7 undef = .pointer (some ⟨gB, 0, none⟩) := hL.kept 7 (by decide +kernel)
      have hk9 : ac.tmps.getD 9 undef = .slice a_v1 n c_v1 := hL.kept 9 (by decide +kernel)
      have hk10 : ac.tmps.getD 10 undef = .slice (some ⟨b2, o2, none⟩) 2 cc2 := hL.kept 10 (by decide +kernel)
      have hk11 : ac.tmps.getD 11 undef = .int .i64 I1 := hL.kept 11 (by decide +kernel)
      have CL : ∀ W', Below W.heap.size W W' → Below U4.heap.size U4 W' := fun W' h => hL.cls.trans (h.mono hL.cls.size)
      have k_c0 := keepc hL.cls c0
      have k_c1 := keepc hL.cls c1
      have k_c2 := keepc hL.cls c2
      have k_c3 := keepc hL.cls c3
      have k_c4 := keepc hL.cls c4
      have k_c5 := keepc hL.cls c5
      have k_c8 := keepc hL.cls c8
      match i, hA, ho with
      | 0, _, ho =>
        cases ho
        refine wpOp_plain rfl rfl ?_
        unfold Oper.wp
        go_simp
        exact ⟨_, rfl, Below.refl _ _, CL _ (Below.refl _ _), rfl⟩
      | 1, _, ho =>
        cases ho
        have d0 : ac.tmps.getD 49 undef = .agg #[.int .i64 B.eye, .int .i64 B.bull, .slice p1 lr q1, .slice p2 ll q2, .slice p3 n q3, .int .i64 B.wire] := hL.new 0 _ 49 rfl (he ⟨0, .data⟩ (by simp) rfl) rfl
        have x := HOWN.out W _ (HB.out.below hL.cls)
        refine wpOp_plain rfl rfl ?_
        unfold Oper.wp
        go_simp
        refine x.mono ?_
        rintro e w' ⟨v', rfl, hbr, hBn⟩
        exact ⟨_, rfl, hBn, CL _ hBn, hbr⟩
      | 2, _, ho =>
        cases ho
        refine wpOp_plain rfl rfl ?_
        unfold Oper.wp
        go_simp
        exact ⟨_, rfl, Below.refl _ _, CL _ (Below.refl _ _), rfl⟩
      | 3, _, ho =>
        cases ho
        have d2 : ac.tmps.getD 51 undef = .slice a_v1 n c_v1 := hL.new 2 _ 51 rfl (he ⟨2, .data⟩ (by simp) rfl) rfl
        have x := HINT.out W _ _ _ HL1.out.1 (HV1.out.below hL.cls)
        refine wpOp_plain rfl rfl ?_
        unfold Oper.wp
        go_simp
        refine x.mono ?_
        rintro e w' ⟨v', rfl, hs, hBn⟩
        exact ⟨_, rfl, hBn, CL _ hBn, hs⟩
      | 4, _, ho =>
        cases ho
        refine wpOp_plain rfl rfl ?_
        unfold Oper.wp
        go_simp
        exact ⟨_, rfl, Below.refl _ _, CL _ (Below.refl _ _), rfl⟩
      | 5, _, ho =>
        cases ho
        have d4 : ac.tmps.getD 53 undef = .slice (some ⟨b2, o2, none⟩) 2 cc2 := hL.new 4 _ 53 rfl (he ⟨4, .data⟩ (by simp) rfl) rfl
        refine wpOp_plain rfl rfl ?_
        unfold Oper.wp
        go_simp
        exact ⟨_, rfl, Below.refl _ _, CL _ (Below.refl _ _), rfl⟩
      | 6, _, ho =>
        cases ho
        have d5 : ac.tmps.getD 54 undef = .pointer (some ⟨b2, o2, none⟩) := hL.new 5 _ 54 rfl (he ⟨5, .data⟩ (by simp) rfl) rfl
        refine wpOp_plain rfl rfl ?_
        unfold Oper.wp
        go_simp
        exact ⟨_, rfl, Below.refl _ _, CL _ (Below.refl _ _), rfl⟩
      | 7, _, ho =>
        cases ho
        have d6 : ac.tmps.getD 55 undef = .slice a_r0 n c_r0 := hL.new 6 _ 55 rfl (he ⟨6, .data⟩ (by simp) rfl) rfl
        have x := HINT.out W _ _ _ HL1.out.2.1 (HR0.out.below hL.cls)
        refine wpOp_plain rfl rfl ?_
        unfold Oper.wp
        go_simp
        refine x.mono ?_
        rintro e w' ⟨v', rfl, hs, hBn⟩
        exact ⟨_, rfl, hBn, CL _ hBn, hs⟩
      | 8, _, ho =>
        cases ho
        refine wpOp_plain rfl rfl ?_
        unfold Oper.wp
        go_simp
        exact ⟨_, rfl, Below.refl _ _, CL _ (Below.refl _ _), rfl⟩
      | 9, _, ho =>
        cases ho
        obtain ⟨x1, hx1⟩ : ∃ x, ac.tmps.getD 50 undef = x := ⟨_, rfl⟩
        have d1 := hL.new 1 _ 50 rfl (he ⟨1, .data⟩ (by simp) rfl) rfl
        rw [hx1] at d1
        obtain ⟨x3, hx3⟩ : ∃ x, ac.tmps.getD 52 undef = x := ⟨_, rfl⟩
        have d3 := hL.new 3 _ 52 rfl (he ⟨3, .data⟩ (by simp) rfl) rfl
        rw [hx3] at d3
        obtain ⟨x7, hx7⟩ : ∃ x, ac.tmps.getD 56 undef = x := ⟨_, rfl⟩
        have d7 := hL.new 7 _ 56 rfl (he ⟨7, .data⟩ (by simp) rfl) rfl
        rw [hx7] at d7
        have d8 : ac.tmps.getD 57 undef = .int .i64 I1 := hL.new 8 _ 57 rfl (he ⟨8, .data⟩ (by simp) rfl) rfl
        have x := HWE.out W x1 x3 x7 _ _ 765 I1 (by omega) (by omega) HL1.out.1 HL1.out.2.1 hI1n d1 d3 d7
        refine wpOp_plain rfl rfl ?_
        unfold Oper.wp
        go_simp
        refine x.mono ?_
        rintro e w' ⟨v', rfl, hs, hBn⟩
        exact ⟨_, rfl, hBn, CL _ hBn, ⟨_, rfl, hs⟩⟩
      | 10, _, ho =>
        cases ho
        obtain ⟨x9, hx9⟩ : ∃ x, ac.tmps.getD 58 undef = x := ⟨_, rfl⟩
        have d9 := hL.new 9 _ 58 rfl (he ⟨9, .data⟩ (by simp) rfl) rfl
        rw [hx9] at d9
        obtain ⟨v', rfl, hs⟩ := d9
        refine wpOp_plain rfl rfl ?_
        unfold Oper.wp
        go_simp
        exact ⟨_, rfl, Below.refl _ _, CL _ (Below.refl _ _), ⟨_, rfl, hs⟩⟩
      | 11, _, ho =>
        cases ho
        obtain ⟨x10, hx10⟩ : ∃ x, ac.tmps.getD 48 undef = x := ⟨_, rfl⟩
        have d10 := hL.new 10 _ 48 rfl (he ⟨10, .data⟩ (by simp) rfl) rfl
        rw [hx10] at d10
        obtain ⟨v', rfl, hs⟩ := d10
        refine wpOp_plain rfl rfl ?_
        unfold Oper.wp
        go_simp
        exact ⟨_, rfl, Below.refl _ _, CL _ (Below.refl _ _), hs⟩
      | 12, _, ho =>
        cases ho
        obtain ⟨x10, hx10⟩ : ∃ x, ac.tmps.getD 48 undef = x := ⟨_, rfl⟩
        have d10 := hL.new 10 _ 48 rfl (he ⟨10, .data⟩ (by simp) rfl) rfl
        rw [hx10] at d10
        obtain ⟨v', rfl, hs⟩ := d10
        refine wpOp_plain rfl rfl ?_
        unfold Oper.wp
        go_simp
        exact ⟨_, rfl, Below.refl _ _, CL _ (Below.refl _ _), rfl⟩
      | 13, _, ho =>
        cases ho
        obtain ⟨x11, hx11⟩ : ∃ x, ac.tmps.getD 59 undef = x := ⟨_, rfl⟩
        have d11 := hL.new 11 _ 59 rfl (he ⟨11, .data⟩ (by simp) rfl) rfl
        rw [hx11] at d11
        refine wpOp_plain rfl rfl ?_
        unfold Oper.wp
        go_simp
        exact ⟨_, rfl, Below.refl _ _, CL _ (Below.refl _ _), d11⟩
      | 14, _, ho =>
        cases ho
        have d12 : ac.tmps.getD 60 undef = .int .i64 0 := hL.new 12 _ 60 rfl (he ⟨12, .data⟩ (by simp) rfl) rfl
        refine wpOp_plain rfl rfl ?_
        unfold Oper.wp
        go_simp
        exact ⟨_, rfl, Below.refl _ _, CL _ (Below.refl _ _), rfl⟩
      | n + 15, hA, _ => simp at hA
    case rest5 =>
      intro ac U5 hL
      have e49 : ac.tmps.getD 49 undef = .agg #[.int .i64 B.eye, .int .i64 B.bull, .slice p1 lr q1, .slice p2 ll q2, .slice p3 n q3, .int .i64 B.wire] := hL.new 0 _ 49 rfl rfl rfl
      obtain ⟨y50, e50⟩ : ∃ x, ac.tmps.getD 50 undef = x := ⟨_, rfl⟩
      have e51 : ac.tmps.getD 51 undef = .slice a_v1 n c_v1 := hL.new 2 _ 51 rfl rfl rfl
      obtain ⟨y52, e52⟩ : ∃ x, ac.tmps.getD 52 undef = x := ⟨_, rfl⟩
      have e53 : ac.tmps.getD 53 undef = .slice (some ⟨b2, o2, none⟩) 2 cc2 := hL.new 4 _ 53 rfl rfl rfl
      have e54 : ac.tmps.getD 54 undef = .pointer (some ⟨b2, o2, none⟩) := hL.new 5 _ 54 rfl rfl rfl
      have e55 : ac.tmps.getD 55 undef = .slice a_r0 n c_r0 := hL.new 6 _ 55 rfl rfl rfl
      obtain ⟨y56, e56⟩ : ∃ x, ac.tmps.getD 56 undef = x := ⟨_, rfl⟩
      have e57 : ac.tmps.getD 57 undef = .int .i64 I1 := hL.new 8 _ 57 rfl rfl rfl
      obtain ⟨y58, e58⟩ : ∃ x, ac.tmps.getD 58 undef = x := ⟨_, rfl⟩
      obtain ⟨y48, e48⟩ : ∃ x, ac.tmps.getD 48 undef = x := ⟨_, rfl⟩
      obtain ⟨y59, e59⟩ : ∃ x, ac.tmps.getD 59 undef = x := ⟨_, rfl⟩
      have e60 : ac.tmps.getD 60 undef = .int .i64 0 := hL.new 12 _ 60 rfl rfl rfl
      have hn13 := hL.new 13 _ 13 rfl rfl rfl
      obtain ⟨va, e13⟩ : ∃ x, ac.tmps.getD 13 undef = x := ⟨_, rfl⟩
      rw [e13] at hn13
      have Hva : Aside (Sl U5 1 eI va (aft WN L0 I1)) := hn13
      clear hn13
      have e14 : ac.tmps.getD 14 undef = .int .i64 0 := hL.new 14 _ 14 rfl rfl rfl
      have es := hL.sets [49, 50, 51, 52, 53, 54, 55, 56, 57, 58, 48, 59, 60, 13, 14] (by decide +kernel)
      rw [List.foldl_cons, List.foldl_cons, List.foldl_cons, List.foldl_cons, List.foldl_cons, List.foldl_cons, List.foldl_cons, List.foldl_cons, List.foldl_cons, List.foldl_cons, List.foldl_cons, List.foldl_cons, List.foldl_cons, List.foldl_cons, List.foldl_cons, List.foldl_nil, e49, e50, e51, e52, e53, e54, e55, e56, e57, e58, e48, e59, e60, e13, e14] at es
      have BN : Below U4.heap.size U4 U5 := hL.cls
      rw [es]
      clear es hL e49 e50 e51 e52 e53 e54 e55 e56 e57 e58 e48 e59 e60 e13 e14
      refine wpAny_done (by decide +kernel) ?_ _
      simp only [List.setIfInBounds_toArray, List.set_cons_zero, List.set_cons_succ]
      replace HB : Aside (BrdAt U5 (.agg #[.int .i64 B.eye, .int .i64 B.bull, .slice p1 lr q1, .slice p2 ll q2, .slice p3 n q3, .int .i64 B.wire]) B) := HB.out.below BN
      replace HV1 : Aside (Sl U5 1 eI (.slice a_v1 n c_v1) WN) := HV1.out.below BN
      replace HR0 : Aside (Sl U5 1 eI (.slice a_r0 n c_r0) L0) := HR0.out.below BN
      replace HR1 : Aside (Sl U5 1 eI (.slice a_r1 n c_r1) L1) := HR1.out.below BN
      replace HV2 : Aside (Sl U5 1 eR (.slice (some ⟨b2, o2, none⟩) 2 cc2) [(.slice a_r0 n c_r0, L0), (.slice a_r1 n c_r1, L1)]) := HV2.out.below BN
      replace c0 := keepc BN c0
      replace c1 := keepc BN c1
      replace c2 := keepc BN c2
      replace c3 := keepc BN c3
      replace c4 := keepc BN c4
      replace c5 := keepc BN c5
      replace c6 := keepc BN c6
      replace c7 := keepc BN c7
      replace c8 := keepc BN c8
      replace c9 := keepc BN c9
      replace BWU : Aside (Below w.heap.size w U5) := BWU.out.trans (BN.mono BWU.out.size)
      clear BN
      go_upto_region 6 with (fail)
      refine region_laid (fl := 12) [true, true, true, true, true, true, true, true, true, true, true, true, true, true, true, true] 0 (fun (i : Nat) (x : Value) (ww : World) => (match i with | 0 => x = .agg #[.int .i64 B.eye, .int .i64 B.bull, .slice p1 lr q1, .slice p2 ll q2, .slice p3 n q3, .int .i64 B.wire] | 1 => BrdAt ww x B | 2 => x = .slice a_v1 n c_v1 | 3 => Sl ww 1 eI x (WN) | 4 => x = .slice (some ⟨b2, o2, none⟩) 2 cc2 | 5 => x = .pointer (some ⟨b2, o2, none⟩) | 6 => x = .slice a_r0 n c_r0 | 7 => Sl ww 1 eI x (L0) | 8 => x = .tuple #[.int .i64 K1, .int .i64 M1, .int .i64 0] | 9 => x = .tuple #[.int .i64 K1, .int .i64 M1, .int .i64 0] | 10 => x = .int .i64 K1 | 11 => x = .int .i64 M1 | 12 => x = .int .i64 0 | 13 => x = .int .i64 K1 | 14 => x = .int .i64 M1 | 15 => x = .int .i64 0 | _ => True : Prop)) (fun w' => Below U5.heap.size U5 w') (by kernel_rfl) rfl (by show layable _ 316 _ 12 = true; decide +kernel) rfl ((Below.refl _ _).drew) ?mono6 ?step6 ?rest6
      case mono6 =>
        intro i x ww ww' hB h
        match i, h with
        | 0, h => exact h
        | 1, h => exact BrdAt.below h hB
        | 2, h => exact h
        | 3, h => exact Sl.below h hB
        | 4, h => exact h
        | 5, h => exact h
        | 6, h => exact h
        | 7, h => exact Sl.below h hB
        | 8, h => exact h
        | 9, h => exact h
        | 10, h => exact h
        | 11, h => exact h
        | 12, h => exact h
        | 13, h => exact h
        | 14, h => exact h
        | 15, h => exact h
        | n + 16, h => exact h
      case step6 =>
        intro i o_ listed ac W hA ho hL he
        have hk7 : ac.tmps.getD 7 undef = .pointer (some ⟨gB, 0, none⟩) := hL.kept 7 (by decide +kernel)
        have hk9 : ac.tmps.getD 9 undef = .slice a_v1 n c_v1 := hL.kept 9 (by decide +kernel)
        have hk10 : ac.tmps.getD 10 undef = .slice (some ⟨b2, o2, none⟩) 2 cc2 := hL.kept 10 (by decide +kernel)
        have CL : ∀ W', Below W.heap.size W W' → Below U5.heap.size U5 W' := fun W' h => hL.cls.trans (h.mono hL.cls.size)
        have k_c0 := keepc hL.cls c0
        have k_c1 := keepc hL.cls c1
        have k_c2 := keepc hL.cls c2
        have k_c3 := keepc hL.cls c3
        have k_c4 := keepc hL.cls c4
        have k_c5 := keepc hL.cls c5
        have k_c8 := keepc hL.cls c8
        match i, hA, ho with
        | 0, _, ho =>
          cases ho
          refine wpOp_plain rfl rfl ?_
          unfold Oper.wp
          go_simp
          exact ⟨_, rfl, Below.refl _ _, CL _ (Below.refl _ _), rfl⟩
        | 1, _, ho =>
          cases ho
          have d0 : ac.tmps.getD 62 undef = .agg #[.int .i64 B.eye, .int .i64 B.bull, .slice p1 lr q1, .slice p2 ll q2, .slice p3 n q3, .int .i64 B.wire] := hL.new 0 _ 62 rfl (he ⟨0, .data⟩ (by simp) rfl) rfl
          have x := HOWN.out W _ (HB.out.below hL.cls)
          refine wpOp_plain rfl rfl ?_
          unfold Oper.wp
          go_simp
          refine x.mono ?_
          rintro e w' ⟨v', rfl, hbr, hBn⟩
          exact ⟨_, rfl, hBn, CL _ hBn, hbr⟩
        | 2, _, ho =>
          cases ho
          refine wpOp_plain rfl rfl ?_
          unfold Oper.wp
          go_simp
          exact ⟨_, rfl, Below.refl _ _, CL _ (Below.refl _ _), rfl⟩
        | 3, _, ho =>
          cases ho
          have d2 : ac.tmps.getD 64 undef = .slice a_v1 n c_v1 := hL.new 2 _ 64 rfl (he ⟨2, .data⟩ (by simp) rfl) rfl
          have x := HINT.out W _ _ _ HL1.out.1 (HV1.out.below hL.cls)
          refine wpOp_plain rfl rfl ?_
          unfold Oper.wp
          go_simp
          refine x.mono ?_
          rintro e w' ⟨v', rfl, hs, hBn⟩
          exact ⟨_, rfl, hBn, CL _ hBn, hs⟩
        | 4, _, ho =>
          cases ho
          refine wpOp_plain rfl rfl ?_
          unfold Oper.wp
          go_simp
          exact ⟨_, rfl, Below.refl _ _, CL _ (Below.refl _ _), rfl⟩
        | 5, _, ho =>
          cases ho
          have d4 : ac.tmps.getD 66 undef = .slice (some ⟨b2, o2, none⟩) 2 cc2 := hL.new 4 _ 66 rfl (he ⟨4, .data⟩ (by simp) rfl) rfl
          refine wpOp_plain rfl rfl ?_
          unfold Oper.wp
          go_simp
          exact ⟨_, rfl, Below.refl _ _, CL _ (Below.refl _ _), rfl⟩
        | 6, _, ho =>
          cases ho
          have d5 : ac.tmps.getD 67 undef = .pointer (some ⟨b2, o2, none⟩) := hL.new 5 _ 67 rfl (he ⟨5, .data⟩ (by simp) rfl) rfl
          refine wpOp_plain rfl rfl ?_
          unfold Oper.wp
          go_simp
          exact ⟨_, rfl, Below.refl _ _, CL _ (Below.refl _ _), rfl⟩
        | 7, _, ho =>
          cases ho
          have d6 : ac.tmps.getD 68 undef = .slice a_r0 n c_r0 := hL.new 6 _ 68 rfl (he ⟨6, .data⟩ (by simp) rfl) rfl
          have x := HINT.out W _ _ _ HL1.out.2.1 (HR0.out.below hL.cls)
          refine wpOp_plain rfl rfl ?_
          unfold Oper.wp
          go_simp
          refine x.mono ?_
          rintro e w' ⟨v', rfl, hs, hBn⟩
          exact ⟨_, rfl, hBn, CL _ hBn, hs⟩
        | 8, _, ho =>
          cases ho
          obtain ⟨x1, hx1⟩ : ∃ x, ac.tmps.getD 63 undef = x := ⟨_, rfl⟩
          have d1 := hL.new 1 _ 63 rfl (he ⟨1, .data⟩ (by simp) rfl) rfl
          rw [hx1] at d1
          obtain ⟨x3, hx3⟩ : ∃ x, ac.tmps.getD 65 undef = x := ⟨_, rfl⟩
          have d3 := hL.new 3 _ 65 rfl (he ⟨3, .data⟩ (by simp) rfl) rfl
          rw [hx3] at d3
          obtain ⟨x7, hx7⟩ : ∃ x, ac.tmps.getD 69 undef = x := ⟨_, rfl⟩
          have d7 := hL.new 7 _ 69 rfl (he ⟨7, .data⟩ (by simp) rfl) rfl
          rw [hx7] at d7
          have x := HBE.out W x1 x3 x7 d1 d3 d7
          refine wpOp_plain rfl rfl ?_
          unfold Oper.wp
          go_simp
          refine x.mono ?_
          rintro e w' ⟨rfl, hBn⟩
          exact ⟨_, rfl, hBn, CL _ hBn, rfl⟩
        | 9, _, ho =>
          cases ho
          have d8 : ac.tmps.getD 70 undef = .tuple #[.int .i64 K1, .int .i64 M1, .int .i64 0] := hL.new 8 _ 70 rfl (he ⟨8, .data⟩ (by simp) rfl) rfl
          refine wpOp_plain rfl rfl ?_
          unfold Oper.wp
          go_simp
          exact ⟨_, rfl, Below.refl _ _, CL _ (Below.refl _ _), rfl⟩
        | 10, _, ho =>
          cases ho
          have d9 : ac.tmps.getD 61 undef = .tuple #[.int .i64 K1, .int .i64 M1, .int .i64 0] := hL.new 9 _ 61 rfl (he ⟨9, .data⟩ (by simp) rfl) rfl
          refine wpOp_plain rfl rfl ?_
          unfold Oper.wp
          go_simp
          exact ⟨_, rfl, Below.refl _ _, CL _ (Below.refl _ _), rfl⟩
        | 11, _, ho =>
          cases ho
          have d9 : ac.tmps.getD 61 undef = .tuple #[.int .i64 K1, .int .i64 M1, .int .i64 0] := hL.new 9 _ 61 rfl (he ⟨9, .data⟩ (by simp) rfl) rfl
          refine wpOp_plain rfl rfl ?_
          unfold Oper.wp
          go_simp
          exact ⟨_, rfl, Below.refl _ _, CL _ (Below.refl _ _), rfl⟩
        | 12, _, ho =>
          cases ho
          have d9 : ac.tmps.getD 61 undef = .tuple #[.int .i64 K1, .int .i64 M1, .int .i64 0] := hL.new 9 _ 61 rfl (he ⟨9, .data⟩ (by simp) rfl) rfl
          refine wpOp_plain rfl rfl ?_
          unfold Oper.wp
          go_simp
          exact ⟨_, rfl, Below.refl _ _, CL _ (Below.refl _ _), rfl⟩
        | 13, _, ho =>
          cases ho
          have d10 : ac.tmps.getD 71 undef = .int .i64 K1 := hL.new 10 _ 71 rfl (he ⟨10, .data⟩ (by simp) rfl) rfl
          refine wpOp_plain rfl rfl ?_
          unfold Oper.wp
          go_simp
          exact ⟨_, rfl, Below.refl _ _, CL _ (Below.refl _ _), rfl⟩
        | 14, _, ho =>
          cases ho
          have d11 : ac.tmps.getD 72 undef = .int .i64 M1 := hL.new 11 _ 72 rfl (he ⟨11, .data⟩ (by simp) rfl) rfl
          refine wpOp_plain rfl rfl ?_
          unfold Oper.wp
          go_simp
          exact ⟨_, rfl, Below.refl _ _, CL _ (Below.refl _ _), rfl⟩
        | 15, _, ho =>
          cases ho
          have d12 : ac.tmps.getD 73 undef = .int .i64 0 := hL.new 12 _ 73 rfl (he ⟨12, .data⟩ (by simp) rfl) rfl
          refine wpOp_plain rfl rfl ?_
          unfold Oper.wp
          go_simp
          exact ⟨_, rfl, Below.refl _ _, CL _ (Below.refl _ _), rfl⟩
        | n + 16, hA, _ => simp at hA
      case rest6 =>
        intro ac U6 hL
        have e62 : ac.tmps.getD 62 undef = .agg #[.int .i64 B.eye, .int .i64 B.bull, .slice p1 lr q1, .slice p2 ll q2, .slice p3 n q3, .int .i64 B.wire] := hL.new 0 _ 62 rfl rfl rfl
        obtain ⟨y63, e63⟩ : ∃ x, ac.tmps.getD 63 undef = x := ⟨_, rfl⟩
        have e64 : ac.tmps.getD 64 undef = .slice a_v1 n c_v1 := hL.new 2 _ 64 rfl rfl rfl
        obtain ⟨y65, e65⟩ : ∃ x, ac.tmps.getD 65 undef = x := ⟨_, rfl⟩
        have e66 : ac.tmps.getD 66 undef = .slice (some ⟨b2, o2, none⟩) 2 cc2 := hL.new 4 _ 66 rfl rfl rfl
        have e67 : ac.tmps.getD 67 undef = .pointer (some ⟨b2, o2, none⟩) := hL.new 5 _ 67 rfl rfl rfl
        have e68 : ac.tmps.getD 68 undef = .slice a_r0 n c_r0 := hL.new 6 _ 68 rfl rfl rfl
        obtain ⟨y69, e69⟩ : ∃ x, ac.tmps.getD 69 undef = x := ⟨_, rfl⟩
        have e70 : ac.tmps.getD 70 undef = .tuple #[.int .i64 K1, .int .i64 M1, .int .i64 0] := hL.new 8 _ 70 rfl rfl rfl
        have e61 : ac.tmps.getD 61 undef = .tuple #[.int .i64 K1, .int .i64 M1, .int .i64 0] := hL.new 9 _ 61 rfl rfl rfl
        have e71 : ac.tmps.getD 71 undef = .int .i64 K1 := hL.new 10 _ 71 rfl rfl rfl
        have e72 : ac.tmps.getD 72 undef = .int .i64 M1 := hL.new 11 _ 72 rfl rfl rfl
        have e73 : ac.tmps.getD 73 undef = .int .i64 0 := hL.new 12 _ 73 rfl rfl rfl
        have e15 : ac.tmps.getD 15 undef = .int .i64 K1 := hL.new 13 _ 15 rfl rfl rfl
        have e16 : ac.tmps.getD 16 undef = .int .i64 M1 := hL.new 14 _ 16 rfl rfl rfl
        have e17 : ac.tmps.getD 17 undef = .int .i64 0 := hL.new 15 _ 17 rfl rfl rfl
        have es := hL.sets [62, 63, 64, 65, 66, 67, 68, 69, 70, 61, 71, 72, 73, 15, 16, 17] (by decide +kernel)
        rw [List.foldl_cons, List.foldl_cons, List.foldl_cons, List.foldl_cons, List.foldl_cons, List.foldl_cons, List.foldl_cons, List.foldl_cons, List.foldl_cons, List.foldl_cons, List.foldl_cons, List.foldl_cons, List.foldl_cons, List.foldl_cons, List.foldl_cons, List.foldl_cons, List.foldl_nil, e62, e63, e64, e65, e66, e67, e68, e69, e70, e61, e71, e72, e73, e15, e16, e17] at es
        have BN : Below U5.heap.size U5 U6 := hL.cls
        rw [es]
        clear es hL e62 e63 e64 e65 e66 e67 e68 e69 e70 e61 e71 e72 e73 e15 e16 e17
        refine wpAny_done (by decide +kernel) ?_ _
        simp only [List.setIfInBounds_toArray, List.set_cons_zero, List.set_cons_succ]
        replace HB : Aside (BrdAt U6 (.agg #[.int .i64 B.eye, .int .i64 B.bull, .slice p1 lr q1, .slice p2 ll q2, .slice p3 n q3, .int .i64 B.wire]) B) := HB.out.below BN
        replace HV1 : Aside (Sl U6 1 eI (.slice a_v1 n c_v1) WN) := HV1.out.below BN
        replace HR0 : Aside (Sl U6 1 eI (.slice a_r0 n c_r0) L0) := HR0.out.below BN
        replace HR1 : Aside (Sl U6 1 eI (.slice a_r1 n c_r1) L1) := HR1.out.below BN
        replace HV2 : Aside (Sl U6 1 eR (.slice (some ⟨b2, o2, none⟩) 2 cc2) [(.slice a_r0 n c_r0, L0), (.slice a_r1 n c_r1, L1)]) := HV2.out.below BN
        replace Hva : Aside (Sl U6 1 eI va (aft WN L0 I1)) := Hva.out.below BN
        replace c0 := keepc BN c0
        replace c1 := keepc BN c1
        replace c2 := keepc BN c2
        replace c3 := keepc BN c3
        replace c4 := keepc BN c4
        replace c5 := keepc BN c5
        replace c6 := keepc BN c6
        replace c7 := keepc BN c7
        replace c8 := keepc BN c8
        replace c9 := keepc BN c9
        replace BWU : Aside (Below w.heap.size w U6) := BWU.out.trans (BN.mono BWU.out.size)
        clear BN
        go_upto_region 7 with (fail)
        refine region_laid (fl := 12) [true, true, true, true, true, true, true, true, true, true, true, true, true, true, true] 0 (fun (i : Nat) (x : Value) (ww : World) => (match i with | 0 => x = .agg #[.int .i64 B.eye, .int .i64 B.bull, .slice p1 lr q1, .slice p2 ll q2, .slice p3 n q3, .int .i64 B.wire] | 1 => BrdAt ww x B | 2 => x = .slice a_v1 n c_v1 | 3 => Sl ww 1 eI x (WN) | 4 => x = .slice (some ⟨b2, o2, none⟩) 2 cc2 | 5 => x = .slice (some ⟨b2, o2, none⟩) 1 cc2 | 6 => ∃ us : List (Value × List Int), Sl ww 1 eR x us ∧ RowsIs us [L0] ∧ RowsAt ww us | 7 => ∃ v, x = .tuple #[v, .int .i64 M1, .int .i64 0] ∧ Sl ww 1 eI v [(K1 : Int)] | 8 => ∃ v, x = .tuple #[v, .int .i64 M1, .int .i64 0] ∧ Sl ww 1 eI v [(K1 : Int)] | 9 => Sl ww 1 eI x ([(K1 : Int)]) | 10 => x = .int .i64 M1 | 11 => x = .int .i64 0 | 12 => Sl ww 1 eI x ([(K1 : Int)]) | 13 => x = .int .i64 M1 | 14 => x = .int .i64 0 | _ => True : Prop)) (fun w' => Below U6.heap.size U6 w') (by kernel_rfl) rfl (by show layable _ 316 _ 12 = true; decide +kernel) rfl ((Below.refl _ _).drew) ?mono7 ?step7 ?rest7
        case mono7 =>
          intro i x ww ww' hB h
          match i, h with
          | 0, h => exact h
          | 1, h => exact BrdAt.below h hB
          | 2, h => exact h
          | 3, h => exact Sl.below h hB
          | 4, h => exact h
          | 5, h => exact h
          | 6, h => exact (by obtain ⟨us, h1, h2, h3⟩ := h; exact ⟨us, Sl.below h1 hB, h2, fun y hy => Sl.below (h3 y hy) hB⟩)
          | 7, h => exact (by obtain ⟨v, e, h⟩ := h; exact ⟨v, e, Sl.below h hB⟩)
          | 8, h => exact (by obtain ⟨v, e, h⟩ := h; exact ⟨v, e, Sl.below h hB⟩)
          | 9, h => exact Sl.below h hB
          | 10, h => exact h
          | 11, h => exact h
          | 12, h => exact Sl.below h hB
          | 13, h => exact h
          | 14, h => exact h
          | n + 15, h => exact h
        case step7 =>
          intro i o_ listed ac W hA ho hL he
          have hk7 : ac.tmps.getD 7 undef = .pointer (some ⟨gB, 0, none⟩) := hL.kept 7 (by decide +kernel)
          have hk9 : ac.tmps.getD 9 undef = .slice a_v1 n c_v1 := hL.kept 9 (by decide +kernel)
          have hk10 : ac.tmps.getD 10 undef = .slice (some ⟨b2, o2, none⟩) 2 cc2 := hL.kept 10 (by decide +kernel)
          have CL : ∀ W', Below W.heap.size W W' → Below U6.heap.size U6 W' := fun W' h => hL.cls.trans (h.mono hL.cls.size)
          have k_c0 := keepc hL.cls c0
          have k_c1 := keepc hL.cls c1
          have k_c2 := keepc hL.cls c2
          have k_c3 := keepc hL.cls c3
          have k_c4 := keepc hL.cls c4
          have k_c5 := keepc hL.cls c5
          match i, hA, ho with
          | 0, _, ho =>
            cases ho
            refine wpOp_plain rfl rfl ?_
            unfold Oper.wp
            go_simp
            exact ⟨_, rfl, Below.refl _ _, CL _ (Below.refl _ _), rfl⟩
          | 1, _, ho =>
            cases ho
            have d0 : ac.tmps.getD 75 undef = .agg #[.int .i64 B.eye, .int .i64 B.bull, .slice p1 lr q1, .slice p2 ll q2, .slice p3 n q3, .int .i64 B.wire] := hL.new 0 _ 75 rfl (he ⟨0, .data⟩ (by simp) rfl) rfl
            have x := HOWN.out W _ (HB.out.below hL.cls)
            refine wpOp_plain rfl rfl ?_
            unfold Oper.wp
            go_simp
            refine x.mono ?_
            rintro e w' ⟨v', rfl, hbr, hBn⟩
            exact ⟨_, rfl, hBn, CL _ hBn, hbr⟩
          | 2, _, ho =>
            cases ho
            refine wpOp_plain rfl rfl ?_
            unfold Oper.wp
            go_simp
            exact ⟨_, rfl, Below.refl _ _, CL _ (Below.refl _ _), rfl⟩
          | 3, _, ho =>
            cases ho
            have d2 : ac.tmps.getD 77 undef = .slice a_v1 n c_v1 := hL.new 2 _ 77 rfl (he ⟨2, .data⟩ (by simp) rfl) rfl
            have x := HINT.out W _ _ _ HL1.out.1 (HV1.out.below hL.cls)
            refine wpOp_plain rfl rfl ?_
            unfold Oper.wp
            go_simp
            refine x.mono ?_
            rintro e w' ⟨v', rfl, hs, hBn⟩
            exact ⟨_, rfl, hBn, CL _ hBn, hs⟩
          | 4, _, ho =>
            cases ho
            refine wpOp_plain rfl rfl ?_
            unfold Oper.wp
            go_simp
            exact ⟨_, rfl, Below.refl _ _, CL _ (Below.refl _ _), rfl⟩
          | 5, _, ho =>
            cases ho
            have d4 : ac.tmps.getD 79 undef = .slice (some ⟨b2, o2, none⟩) 2 cc2 := hL.new 4 _ 79 rfl (he ⟨4, .data⟩ (by simp) rfl) rfl
            refine wpOp_plain rfl rfl ?_
            unfold Oper.wp
            go_simp
            exact ⟨_, rfl, Below.refl _ _, CL _ (Below.refl _ _), rfl⟩
          | 6, _, ho =>
            cases ho
            have d5 : ac.tmps.getD 80 undef = .slice (some ⟨b2, o2, none⟩) 1 cc2 := hL.new 5 _ 80 rfl (he ⟨5, .data⟩ (by simp) rfl) rfl
            have x := HWK1.out W _ (sl_take_one (HV2.out.below hL.cls)) (HR0.out.below hL.cls)
            refine wpOp_plain rfl rfl ?_
            unfold Oper.wp
            go_simp
            refine x.mono ?_
            rintro e w' ⟨v', us, rfl, h1, h2, h3, hBn⟩
            exact ⟨_, rfl, hBn, CL _ hBn, ⟨us, h1, h2, h3⟩⟩
          | 7, _, ho =>
            cases ho
            obtain ⟨x1, hx1⟩ : ∃ x, ac.tmps.getD 76 undef = x := ⟨_, rfl⟩
            have d1 := hL.new 1 _ 76 rfl (he ⟨1, .data⟩ (by simp) rfl) rfl
            rw [hx1] at d1
            obtain ⟨x3, hx3⟩ : ∃ x, ac.tmps.getD 78 undef = x := ⟨_, rfl⟩
            have d3 := hL.new 3 _ 78 rfl (he ⟨3, .data⟩ (by simp) rfl) rfl
            rw [hx3] at d3
            obtain ⟨x6, hx6⟩ : ∃ x, ac.tmps.getD 81 undef = x := ⟨_, rfl⟩
            have d6 := hL.new 6 _ 81 rfl (he ⟨6, .data⟩ (by simp) rfl) rfl
            rw [hx6] at d6
            obtain ⟨us, h1, h2, h3⟩ := d6
            have x := HPL1.out W x1 x3 x6 us d1 d3 h1 h2 h3
            refine wpOp_plain rfl rfl ?_
            unfold Oper.wp
            go_simp
            refine x.mono ?_
            rintro e w' ⟨v', rfl, hs, hBn⟩
            exact ⟨_, rfl, hBn, CL _ hBn, ⟨_, rfl, hs⟩⟩
          | 8, _, ho =>
            cases ho
            obtain ⟨x7, hx7⟩ : ∃ x, ac.tmps.getD 82 undef = x := ⟨_, rfl⟩
            have d7 := hL.new 7 _ 82 rfl (he ⟨7, .data⟩ (by simp) rfl) rfl
            rw [hx7] at d7
            obtain ⟨v', rfl, hs⟩ := d7
            refine wpOp_plain rfl rfl ?_
            unfold Oper.wp
            go_simp
            exact ⟨_, rfl, Below.refl _ _, CL _ (Below.refl _ _), ⟨_, rfl, hs⟩⟩
          | 9, _, ho =>
            cases ho
            obtain ⟨x8, hx8⟩ : ∃ x, ac.tmps.getD 74 undef = x := ⟨_, rfl⟩
            have d8 := hL.new 8 _ 74 rfl (he ⟨8, .data⟩ (by simp) rfl) rfl
            rw [hx8] at d8
            obtain ⟨v', rfl, hs⟩ := d8
            refine wpOp_plain rfl rfl ?_
            unfold Oper.wp
            go_simp
            exact ⟨_, rfl, Below.refl _ _, CL _ (Below.refl _ _), hs⟩
          | 10, _, ho =>
            cases ho
            obtain ⟨x8, hx8⟩ : ∃ x, ac.tmps.getD 74 undef = x := ⟨_, rfl⟩
            have d8 := hL.new 8 _ 74 rfl (he ⟨8, .data⟩ (by simp) rfl) rfl
            rw [hx8] at d8
            obtain ⟨v', rfl, hs⟩ := d8
            refine wpOp_plain rfl rfl ?_
            unfold Oper.wp
            go_simp
            exact ⟨_, rfl, Below.refl _ _, CL _ (Below.refl _ _), rfl⟩
          | 11, _, ho =>
            cases ho
            obtain ⟨x8, hx8⟩ : ∃ x, ac.tmps.getD 74 undef = x := ⟨_, rfl⟩
            have d8 := hL.new 8 _ 74 rfl (he ⟨8, .data⟩ (by simp) rfl) rfl
            rw [hx8] at d8
            obtain ⟨v', rfl, hs⟩ := d8
            refine wpOp_plain rfl rfl ?_
            unfold Oper.wp
            go_simp
            exact ⟨_, rfl, Below.refl _ _, CL _ (Below.refl _ _), rfl⟩
          | 12, _, ho =>
            cases ho
            obtain ⟨x9, hx9⟩ : ∃ x, ac.tmps.getD 83 undef = x := ⟨_, rfl⟩
            have d9 := hL.new 9 _ 83 rfl (he ⟨9, .data⟩ (by simp) rfl) rfl
            rw [hx9] at d9
            refine wpOp_plain rfl rfl ?_
            unfold Oper.wp
            go_simp
            exact ⟨_, rfl, Below.refl _ _, CL _ (Below.refl _ _), d9⟩
          | 13, _, ho =>
            cases ho
            have d10 : ac.tmps.getD 84 undef = .int .i64 M1 := hL.new 10 _ 84 rfl (he ⟨10, .data⟩ (by simp) rfl) rfl
            refine wpOp_plain rfl rfl ?_
            unfold Oper.wp
            go_simp
            exact ⟨_, rfl, Below.refl _ _, CL _ (Below.refl _ _), rfl⟩
          | 14, _, ho =>
            cases ho
            have d11 : ac.tmps.getD 85 undef = .int .i64 0 := hL.new 11 _ 85 rfl (he ⟨11, .data⟩ (by simp) rfl) rfl
            refine wpOp_plain rfl rfl ?_
            unfold Oper.wp
            go_simp
            exact ⟨_, rfl, Below.refl _ _, CL _ (Below.refl _ _), rfl⟩
          | n + 15, hA, _ => simp at hA
        case rest7 =>
          intro ac U7 hL
          have e75 : ac.tmps.getD 75 undef = .agg #[.int .i64 B.eye, .int .i64 B.bull, .slice p1 lr q1, .slice p2 ll q2, .slice p3 n q3, .int .i64 B.wire] := hL.new 0 _ 75 rfl rfl rfl
          obtain ⟨y76, e76⟩ : ∃ x, ac.tmps.getD 76 undef = x := ⟨_, rfl⟩
          have e77 : ac.tmps.getD 77 undef = .slice a_v1 n c_v1 := hL.new 2 _ 77 rfl rfl rfl
          obtain ⟨y78, e78⟩ : ∃ x, ac.tmps.getD 78 undef = x := ⟨_, rfl⟩
          have e79 : ac.tmps.getD 79 undef = .slice (some ⟨b2, o2, none⟩) 2 cc2 := hL.new 4 _ 79 rfl rfl rfl
          have e80 : ac.tmps.getD 80 undef = .slice (some ⟨b2, o2, none⟩) 1 cc2 := hL.new 5 _ 80 rfl rfl rfl
          obtain ⟨y81, e81⟩ : ∃ x, ac.tmps.getD 81 undef = x := ⟨_, rfl⟩
          obtain ⟨y82, e82⟩ : ∃ x, ac.tmps.getD 82 undef = x := ⟨_, rfl⟩
          obtain ⟨y74, e74⟩ : ∃ x, ac.tmps.getD 74 undef = x := ⟨_, rfl⟩
          obtain ⟨y83, e83⟩ : ∃ x, ac.tmps.getD 83 undef = x := ⟨_, rfl⟩
          have e84 : ac.tmps.getD 84 undef = .int .i64 M1 := hL.new 10 _ 84 rfl rfl rfl
          have e85 : ac.tmps.getD 85 undef = .int .i64 0 := hL.new 11 _ 85 rfl rfl rfl
          have hn18 := hL.new 12 _ 18 rfl rfl rfl
          obtain ⟨vone, e18⟩ : ∃ x, ac.tmps.getD 18 undef = x := ⟨_, rfl⟩
          rw [e18] at hn18
          have Hvone : Aside (Sl U7 1 eI vone ([(K1 : Int)])) := hn18
          clear hn18
          have e19 : ac.tmps.getD 19 undef = .int .i64 M1 := hL.new 13 _ 19 rfl rfl rfl
          have e20 : ac.tmps.getD 20 undef = .int .i64 0 := hL.new 14 _ 20 rfl rfl rfl
          have es := hL.sets [75, 76, 77, 78, 79, 80, 81, 82, 74, 83, 84, 85, 18, 19, 20] (by decide +kernel)
          rw [List.foldl_cons, List.foldl_cons, List.foldl_cons, List.foldl_cons, List.foldl_cons, List.foldl_cons, List.foldl_cons, List.foldl_cons, List.foldl_cons, List.foldl_cons, List.foldl_cons, List.foldl_cons, List.foldl_cons, List.foldl_cons, List.foldl_cons, List.foldl_nil, e75, e76, e77, e78, e79, e80, e81, e82, e74, e83, e84, e85, e18, e19, e20] at es
          have BN : Below U6.heap.size U6 U7 := hL.cls
          rw [es]
          clear es hL e75 e76 e77 e78 e79 e80 e81 e82 e74 e83 e84 e85 e18 e19 e20
          refine wpAny_done (by decide +kernel) ?_ _
          simp only [List.setIfInBounds_toArray, List.set_cons_zero, List.set_cons_succ]
          replace HB : Aside (BrdAt U7 (.agg #[.int .i64 B.eye, .int .i64 B.bull, .slice p1 lr q1, .slice p2 ll q2, .slice p3 n q3, .int .i64 B.wire]) B) := HB.out.below BN
          replace HV1 : Aside (Sl U7 1 eI (.slice a_v1 n c_v1) WN) := HV1.out.below BN
          replace HR0 : Aside (Sl U7 1 eI (.slice a_r0 n c_r0) L0) := HR0.out.below BN
          replace HR1 : Aside (Sl U7 1 eI (.slice a_r1 n c_r1) L1) := HR1.out.below BN
          replace HV2 : Aside (Sl U7 1 eR (.slice (some ⟨b2, o2, none⟩) 2 cc2) [(.slice a_r0 n c_r0, L0), (.slice a_r1 n c_r1, L1)]) := HV2.out.below BN
          replace Hva : Aside (Sl U7 1 eI va (aft WN L0 I1)) := Hva.out.below BN
          replace c0 := keepc BN c0
          replace c1 := keepc BN c1
          replace c2 := keepc BN c2
          replace c3 := keepc BN c3
          replace c4 := keepc BN c4
          replace c5 := keepc BN c5
          replace c6 := keepc BN c6
          replace c7 := keepc BN c7
          replace c8 := keepc BN c8
          replace c9 := keepc BN c9
          replace BWU : Aside (Below w.heap.size w U7) := BWU.out.trans (BN.mono BWU.out.size)
          clear BN
          obtain ⟨a_va, c_va, h_va⟩ : ∃ a c, va = .slice a n c := by
            obtain ⟨a, c, e, _⟩ := Hva.out
            exact ⟨a, c, by rw [e, HLA.out.1]⟩
          subst h_va
          obtain ⟨b_vone, o_vone, c_vone, h_vone, g_vone0⟩ : ∃ (b o c : Nat), vone = .slice (some ⟨b, o, none⟩) 1 c ∧ U7.cell? ⟨b, o, none⟩ = some (.int .i64 K1) := by
            obtain ⟨a, c, e, _, hs⟩ := Hvone.out
            obtain ⟨b, o, rfl, _, hc⟩ := hs (by simp)
            exact ⟨b, o, c, e, by simpa using hc 0 _ rfl 0 _ rfl⟩
          subst h_vone
          have hK1z : ¬ (n : Int) ≤ (K1 : Int) := by omega
          have hK1n : ¬ (K1 : Int) < 0 := by omega
          go_upto_region 10 with (fail)
          refine region_laid (fl := 12) [true, true, true, true, true, true, true, true, true, true, true, true, true, true, true] 0 (fun (i : Nat) (x : Value) (ww : World) => (match i with | 0 => x = .agg #[.int .i64 B.eye, .int .i64 B.bull, .slice p1 lr q1, .slice p2 ll q2, .slice p3 n q3, .int .i64 B.wire] | 1 => BrdAt ww x B | 2 => x = .slice a_va n c_va | 3 => Sl ww 1 eI x (aft WN L0 I1) | 4 => x = .slice (some ⟨b2, o2, none⟩) 2 cc2 | 5 => x = .pointer (some ⟨b2, o2 + 1, none⟩) | 6 => x = .slice a_r1 n c_r1 | 7 => Sl ww 1 eI x (L1) | 8 => x = .int .i64 I2 | 9 => ∃ v, x = .tuple #[v, .int .i64 0] ∧ Sl ww 1 eI v (aft (aft WN L0 I1) L1 I2) | 10 => ∃ v, x = .tuple #[v, .int .i64 0] ∧ Sl ww 1 eI v (aft (aft WN L0 I1) L1 I2) | 11 => Sl ww 1 eI x (aft (aft WN L0 I1) L1 I2) | 12 => x = .int .i64 0 | 13 => Sl ww 1 eI x (aft (aft WN L0 I1) L1 I2) | 14 => x = .int .i64 0 | _ => True : Prop)) (fun w' => Below U7.heap.size U7 w') (by kernel_rfl) rfl (by show layable _ 316 _ 12 = true; decide +kernel) rfl ((Below.refl _ _).drew) ?mono10 ?step10 ?rest10
          case mono10 =>
            intro i x ww ww' hB h
            match i, h with
            | 0, h => exact h
            | 1, h => exact BrdAt.below h hB
            | 2, h => exact h
            | 3, h => exact Sl.below h hB
            | 4, h => exact h
            | 5, h => exact h
            | 6, h => exact h
            | 7, h => exact Sl.below h hB
            | 8, h => exact h
            | 9, h => exact (by obtain ⟨v, e, h⟩ := h; exact ⟨v, e, Sl.below h hB⟩)
            | 10, h => exact (by obtain ⟨v, e, h⟩ := h; exact ⟨v, e, Sl.below h hB⟩)
            | 11, h => exact Sl.below h hB
            | 12, h => exact h
            | 13, h => exact Sl.below h hB
            | 14, h => exact h
            | n + 15, h => exact h
          case step10 =>
            intro i o_ listed ac W hA ho hL he
            have hk7 : ac.tmps.getD 7 undef = .pointer (some ⟨gB, 0, none⟩) := hL.kept 7 (by decide +kernel)
            have hk13 : ac.tmps.getD 13 undef = .slice a_va n c_va := hL.kept 13 (by decide +kernel)
            have hk10 : ac.tmps.getD 10 undef = .slice (some ⟨b2, o2, none⟩) 2 cc2 := hL.kept 10 (by decide +kernel)
            have hk12 : ac.tmps.getD 12 undef = .int .i64 I2 := hL.kept 12 (by decide +kernel)
            have CL : ∀ W', Below W.heap.size W W' → Below U7.heap.size U7 W' := fun W' h => hL.cls.trans (h.mono hL.cls.size)
            have k_c0 := keepc hL.cls c0
            have k_c1 := keepc hL.cls c1
            have k_c2 := keepc hL.cls c2
            have k_c3 := keepc hL.cls c3
            have k_c4 := keepc hL.cls c4
            have k_c5 := keepc hL.cls c5
            have k_c9 := keepc hL.cls c9
            match i, hA, ho with
            | 0, _, ho =>
              cases ho
              refine wpOp_plain rfl rfl ?_
              unfold Oper.wp
              go_simp
              exact ⟨_, rfl, Below.refl _ _, CL _ (Below.refl _ _), rfl⟩
            | 1, _, ho =>
              cases ho
              have d0 : ac.tmps.getD 129 undef = .agg #[.int .i64 B.eye, .int .i64 B.bull, .slice p1 lr q1, .slice p2 ll q2, .slice p3 n q3, .int .i64 B.wire] := hL.new 0 _ 129 rfl (he ⟨0, .data⟩ (by simp) rfl) rfl
              have x := HOWN.out W _ (HB.out.below hL.cls)
              refine wpOp_plain rfl rfl ?_
              unfold Oper.wp
              go_simp
              refine x.mono ?_
              rintro e w' ⟨v', rfl, hbr, hBn⟩
              exact ⟨_, rfl, hBn, CL _ hBn, hbr⟩
            | 2, _, ho =>
              cases ho
              refine wpOp_plain rfl rfl ?_
              unfold Oper.wp
              go_simp
              exact ⟨_, rfl, Below.refl _ _, CL _ (Below.refl _ _), rfl⟩
            | 3, _, ho =>
              cases ho
              have d2 : ac.tmps.getD 131 undef = .slice a_va n c_va := hL.new 2 _ 131 rfl (he ⟨2, .data⟩ (by simp) rfl) rfl
              have x := HINT.out W _ _ _ HLA.out (Hva.out.below hL.cls)
              refine wpOp_plain rfl rfl ?_
              unfold Oper.wp
              go_simp
              refine x.mono ?_
              rintro e w' ⟨v', rfl, hs, hBn⟩
              exact ⟨_, rfl, hBn, CL _ hBn, hs⟩
            | 4, _, ho =>
              cases ho
              refine wpOp_plain rfl rfl ?_
              unfold Oper.wp
              go_simp
              exact ⟨_, rfl, Below.refl _ _, CL _ (Below.refl _ _), rfl⟩
            | 5, _, ho =>
              cases ho
              have d4 : ac.tmps.getD 133 undef = .slice (some ⟨b2, o2, none⟩) 2 cc2 := hL.new 4 _ 133 rfl (he ⟨4, .data⟩ (by simp) rfl) rfl
              refine wpOp_plain rfl rfl ?_
              unfold Oper.wp
              go_simp
              exact ⟨_, rfl, Below.refl _ _, CL _ (Below.refl _ _), rfl⟩
            | 6, _, ho =>
              cases ho
              have d5 : ac.tmps.getD 134 undef = .pointer (some ⟨b2, o2 + 1, none⟩) := hL.new 5 _ 134 rfl (he ⟨5, .data⟩ (by simp) rfl) rfl
              refine wpOp_plain rfl rfl ?_
              unfold Oper.wp
              go_simp
              exact ⟨_, rfl, Below.refl _ _, CL _ (Below.refl _ _), rfl⟩
            | 7, _, ho =>
              cases ho
              have d6 : ac.tmps.getD 135 undef = .slice a_r1 n c_r1 := hL.new 6 _ 135 rfl (he ⟨6, .data⟩ (by simp) rfl) rfl
              have x := HINT.out W _ _ _ HL1.out.2.2 (HR1.out.below hL.cls)
              refine wpOp_plain rfl rfl ?_
              unfold Oper.wp
              go_simp
              refine x.mono ?_
              rintro e w' ⟨v', rfl, hs, hBn⟩
              exact ⟨_, rfl, hBn, CL _ hBn, hs⟩
            | 8, _, ho =>
              cases ho
              refine wpOp_plain rfl rfl ?_
              unfold Oper.wp
              go_simp
              exact ⟨_, rfl, Below.refl _ _, CL _ (Below.refl _ _), rfl⟩
            | 9, _, ho =>
              cases ho
              obtain ⟨x1, hx1⟩ : ∃ x, ac.tmps.getD 130 undef = x := ⟨_, rfl⟩
              have d1 := hL.new 1 _ 130 rfl (he ⟨1, .data⟩ (by simp) rfl) rfl
              rw [hx1] at d1
              obtain ⟨x3, hx3⟩ : ∃ x, ac.tmps.getD 132 undef = x := ⟨_, rfl⟩
              have d3 := hL.new 3 _ 132 rfl (he ⟨3, .data⟩ (by simp) rfl) rfl
              rw [hx3] at d3
              obtain ⟨x7, hx7⟩ : ∃ x, ac.tmps.getD 136 undef = x := ⟨_, rfl⟩
              have d7 := hL.new 7 _ 136 rfl (he ⟨7, .data⟩ (by simp) rfl) rfl
              rw [hx7] at d7
              have d8 : ac.tmps.getD 137 undef = .int .i64 I2 := hL.new 8 _ 137 rfl (he ⟨8, .data⟩ (by simp) rfl) rfl
              have x := HWE.out W x1 x3 x7 _ _ 1020 I2 (by omega) (by omega) HLA.out HL1.out.2.2 hI2n d1 d3 d7
              refine wpOp_plain rfl rfl ?_
              unfold Oper.wp
              go_simp
              refine x.mono ?_
              rintro e w' ⟨v', rfl, hs, hBn⟩
              exact ⟨_, rfl, hBn, CL _ hBn, ⟨_, rfl, hs⟩⟩
            | 10, _, ho =>
              cases ho
              obtain ⟨x9, hx9⟩ : ∃ x, ac.tmps.getD 138 undef = x := ⟨_, rfl⟩
              have d9 := hL.new 9 _ 138 rfl (he ⟨9, .data⟩ (by simp) rfl) rfl
              rw [hx9] at d9
              obtain ⟨v', rfl, hs⟩ := d9
              refine wpOp_plain rfl rfl ?_
              unfold Oper.wp
              go_simp
              exact ⟨_, rfl, Below.refl _ _, CL _ (Below.refl _ _), ⟨_, rfl, hs⟩⟩
            | 11, _, ho =>
              cases ho
              obtain ⟨x10, hx10⟩ : ∃ x, ac.tmps.getD 128 undef = x := ⟨_, rfl⟩
              have d10 := hL.new 10 _ 128 rfl (he ⟨10, .data⟩ (by simp) rfl) rfl
              rw [hx10] at d10
              obtain ⟨v', rfl, hs⟩ := d10
              refine wpOp_plain rfl rfl ?_
              unfold Oper.wp
              go_simp
              exact ⟨_, rfl, Below.refl _ _, CL _ (Below.refl _ _), hs⟩
            | 12, _, ho =>
              cases ho
              obtain ⟨x10, hx10⟩ : ∃ x, ac.tmps.getD 128 undef = x := ⟨_, rfl⟩
              have d10 := hL.new 10 _ 128 rfl (he ⟨10, .data⟩ (by simp) rfl) rfl
              rw [hx10] at d10
              obtain ⟨v', rfl, hs⟩ := d10
              refine wpOp_plain rfl rfl ?_
              unfold Oper.wp
              go_simp
              exact ⟨_, rfl, Below.refl _ _, CL _ (Below.refl _ _), rfl⟩
            | 13, _, ho =>
              cases ho
              obtain ⟨x11, hx11⟩ : ∃ x, ac.tmps.getD 139 undef = x := ⟨_, rfl⟩
              have d11 := hL.new 11 _ 139 rfl (he ⟨11, .data⟩ (by simp) rfl) rfl
              rw [hx11] at d11
              refine wpOp_plain rfl rfl ?_
              unfold Oper.wp
              go_simp
              exact ⟨_, rfl, Below.refl _ _, CL _ (Below.refl _ _), d11⟩
            | 14, _, ho =>
              cases ho
              have d12 : ac.tmps.getD 140 undef = .int .i64 0 := hL.new 12 _ 140 rfl (he ⟨12, .data⟩ (by simp) rfl) rfl
              refine wpOp_plain rfl rfl ?_
              unfold Oper.wp
              go_simp
              exact ⟨_, rfl, Below.refl _ _, CL _ (Below.refl _ _), rfl⟩
            | n + 15, hA, _ => simp at hA
          case rest10 =>
            intro ac U10 hL
            have e129 : ac.tmps.getD 129 undef = .agg #[.int .i64 B.eye, .int .i64 B.bull, .slice p1 lr q1, .slice p2 ll q2, .slice p3 n q3, .int .i64 B.wire] := hL.new 0 _ 129 rfl rfl rfl
            obtain ⟨y130, e130⟩ : ∃ x, ac.tmps.getD 130 undef = x := ⟨_, rfl⟩
            have e131 : ac.tmps.getD 131 undef = .slice a_va n c_va := hL.new 2 _ 131 rfl rfl rfl
            obtain ⟨y132, e132⟩ : ∃ x, ac.tmps.getD 132 undef = x := ⟨_, rfl⟩
            have e133 : ac.tmps.getD 133 undef = .slice (some ⟨b2, o2, none⟩) 2 cc2 := hL.new 4 _ 133 rfl rfl rfl
            have e134 : ac.tmps.getD 134 undef = .pointer (some ⟨b2, o2 + 1, none⟩) := hL.new 5 _ 134 rfl rfl rfl
            have e135 : ac.tmps.getD 135 undef = .slice a_r1 n c_r1 := hL.new 6 _ 135 rfl rfl rfl
            obtain ⟨y136, e136⟩ : ∃ x, ac.tmps.getD 136 undef = x := ⟨_, rfl⟩
            have e137 : ac.tmps.getD 137 undef = .int .i64 I2 := hL.new 8 _ 137 rfl rfl rfl
            obtain ⟨y138, e138⟩ : ∃ x, ac.tmps.getD 138 undef = x := ⟨_, rfl⟩
            obtain ⟨y128, e128⟩ : ∃ x, ac.tmps.getD 128 undef = x := ⟨_, rfl⟩
            obtain ⟨y139, e139⟩ : ∃ x, ac.tmps.getD 139 undef = x := ⟨_, rfl⟩
            have e140 : ac.tmps.getD 140 undef = .int .i64 0 := hL.new 12 _ 140 rfl rfl rfl
            have hn21 := hL.new 13 _ 21 rfl rfl rfl
            obtain ⟨vc, e21⟩ : ∃ x, ac.tmps.getD 21 undef = x := ⟨_, rfl⟩
            rw [e21] at hn21
            have Hvc : Aside (Sl U10 1 eI vc (aft (aft WN L0 I1) L1 I2)) := hn21
            clear hn21
            have e14 : ac.tmps.getD 14 undef = .int .i64 0 := hL.new 14 _ 14 rfl rfl rfl
            have es := hL.sets [129, 130, 131, 132, 133, 134, 135, 136, 137, 138, 128, 139, 140, 21, 14] (by decide +kernel)
            rw [List.foldl_cons, List.foldl_cons, List.foldl_cons, List.foldl_cons, List.foldl_cons, List.foldl_cons, List.foldl_cons, List.foldl_cons, List.foldl_cons, List.foldl_cons, List.foldl_cons, List.foldl_cons, List.foldl_cons, List.foldl_cons, List.foldl_cons, List.foldl_nil, e129, e130, e131, e132, e133, e134, e135, e136, e137, e138, e128, e139, e140, e21, e14] at es
            have BN : Below U7.heap.size U7 U10 := hL.cls
            rw [es]
            clear es hL e129 e130 e131 e132 e133 e134 e135 e136 e137 e138 e128 e139 e140 e21 e14
            refine wpAny_done (by decide +kernel) ?_ _
            simp only [List.setIfInBounds_toArray, List.set_cons_zero, List.set_cons_succ]
            replace HB : Aside (BrdAt U10 (.agg #[.int .i64 B.eye, .int .i64 B.bull, .slice p1 lr q1, .slice p2 ll q2, .slice p3 n q3, .int .i64 B.wire]) B) := HB.out.below BN
            replace HV1 : Aside (Sl U10 1 eI (.slice a_v1 n c_v1) WN) := HV1.out.below BN
            replace HR0 : Aside (Sl U10 1 eI (.slice a_r0 n c_r0) L0) := HR0.out.below BN
            replace HR1 : Aside (Sl U10 1 eI (.slice a_r1 n c_r1) L1) := HR1.out.below BN
            replace HV2 : Aside (Sl U10 1 eR (.slice (some ⟨b2, o2, none⟩) 2 cc2) [(.slice a_r0 n c_r0, L0), (.slice a_r1 n c_r1, L1)]) := HV2.out.below BN
            replace Hva : Aside (Sl U10 1 eI (.slice a_va n c_va) (aft WN L0 I1)) := Hva.out.below BN
            replace c0 := keepc BN c0
            replace c1 := keepc BN c1
            replace c2 := keepc BN c2
            replace c3 := keepc BN c3
            replace c4 := keepc BN c4
            replace c5 := keepc BN c5
            replace c6 := keepc BN c6
            replace c7 := keepc BN c7
            replace c8 := keepc BN c8
            replace c9 := keepc BN c9
            replace BWU : Aside (Below w.heap.size w U10) := BWU.out.trans (BN.mono BWU.out.size)
            clear BN
            obtain ⟨a_vc, c_vc, h_vc⟩ : ∃ a c, vc = .slice a n c := by
              obtain ⟨a, c, e, _⟩ := Hvc.out
              exact ⟨a, c, by rw [e, HLC.out.1]⟩
            subst h_vc
            go_wp2_with fail
            refine (HOWN.out _ _ HB.out).mono ?_
            rintro e w1 ⟨vo, rfl, hbo, hb1⟩
            have HBO : Aside (BrdAt w1 vo B) := hbo
            clear hbo
            go_wp2_with fail
            refine (HINT.out _ _ _ _ HL1.out.1 (Sl.below HV1.out hb1)).mono ?_
            rintro e w2 ⟨vi, rfl, hsi, hb2⟩
            have HSI : Aside (Sl w2 1 eI vi WN) := hsi
            clear hsi
            go_wp2_with fail
            refine (HWK2.out _ _ (Sl.below (Sl.below HV2.out hb1) hb2) (Sl.below (Sl.below HR0.out hb1) hb2) (Sl.below (Sl.below HR1.out hb1) hb2)).mono ?_
            rintro e w3 ⟨vw, us, rfl, hw1, hw2, hw3, hb3⟩
            have HWU : Aside (Sl w3 1 eR vw us ∧ us.map (·.2) = [L0, L1] ∧ ∀ x ∈ us, Sl w3 1 eI x.1 x.2) := ⟨hw1, hw2, hw3⟩
            clear hw1 hw2 hw3
            go_wp2_with fail
            refine (HPL2.out _ _ _ _ us (BrdAt.below (BrdAt.below HBO.out hb2) hb3) (Sl.below HSI.out hb3) HWU.out.1 HWU.out.2.1 HWU.out.2.2).mono ?_
            rintro e U11 ⟨vtwo, rfl, hs4, hb4⟩
            have Hvtwo : Aside (Sl U11 1 eI vtwo [(K0 : Int), (J0 : Int)]) := hs4
            clear hs4
            have BN : Below U10.heap.size U10 U11 := hb1.trans ((hb2.trans ((hb3.trans (hb4.mono hb3.size)).mono hb2.size)).mono hb1.size)
            clear hb1 hb2 hb3 hb4 HBO HSI HWU
            replace HB : Aside (BrdAt U11 (.agg #[.int .i64 B.eye, .int .i64 B.bull, .slice p1 lr q1, .slice p2 ll q2, .slice p3 n q3, .int .i64 B.wire]) B) := HB.out.below BN
            replace HV1 : Aside (Sl U11 1 eI (.slice a_v1 n c_v1) WN) := HV1.out.below BN
            replace HR0 : Aside (Sl U11 1 eI (.slice a_r0 n c_r0) L0) := HR0.out.below BN
            replace HR1 : Aside (Sl U11 1 eI (.slice a_r1 n c_r1) L1) := HR1.out.below BN
            replace HV2 : Aside (Sl U11 1 eR (.slice (some ⟨b2, o2, none⟩) 2 cc2) [(.slice a_r0 n c_r0, L0), (.slice a_r1 n c_r1, L1)]) := HV2.out.below BN
            replace Hva : Aside (Sl U11 1 eI (.slice a_va n c_va) (aft WN L0 I1)) := Hva.out.below BN
            replace Hvc : Aside (Sl U11 1 eI (.slice a_vc n c_vc) (aft (aft WN L0 I1) L1 I2)) := Hvc.out.below BN
            replace c0 := keepc BN c0
            replace c1 := keepc BN c1
            replace c2 := keepc BN c2
            replace c3 := keepc BN c3
            replace c4 := keepc BN c4
            replace c5 := keepc BN c5
            replace c6 := keepc BN c6
            replace c7 := keepc BN c7
            replace c8 := keepc BN c8
            replace c9 := keepc BN c9
            replace BWU : Aside (Below w.heap.size w U11) := BWU.out.trans (BN.mono BWU.out.size)
            clear BN
            obtain ⟨b_vtwo, o_vtwo, c_vtwo, h_vtwo, g_vtwo0, g_vtwo1⟩ : ∃ (b o c : Nat), vtwo = .slice (some ⟨b, o, none⟩) 2 c ∧ U11.cell? ⟨b, o, none⟩ = some (.int .i64 K0) ∧ U11.cell? ⟨b, o + 1, none⟩ = some (.int .i64 J0) := by
              obtain ⟨a, c, e, _, hs⟩ := Hvtwo.out
              obtain ⟨b, o, rfl, _, hc⟩ := hs (by simp)
              exact ⟨b, o, c, e, by simpa using hc 0 _ rfl 0 _ rfl, by simpa using hc 1 _ rfl 0 _ rfl⟩
            subst h_vtwo
            have hK0z : ¬ (n : Int) ≤ (K0 : Int) := by omega
            have hK0n : ¬ (K0 : Int) < 0 := by omega
            have hJ0z : ¬ (n : Int) ≤ (J0 : Int) := by omega
            have hJ0n : ¬ (J0 : Int) < 0 := by omega
            go_upto_region 14 with (fail)
            refine region_laid (fl := 12) [true, true, true, true, true, true, true, true, true, true, true, true, true, true, true] 0 (fun (i : Nat) (x : Value) (ww : World) => (match i with | 0 => x = .agg #[.int .i64 B.eye, .int .i64 B.bull, .slice p1 lr q1, .slice p2 ll q2, .slice p3 n q3, .int .i64 B.wire] | 1 => BrdAt ww x B | 2 => x = .slice a_v1 n c_v1 | 3 => Sl ww 1 eI x (WN) | 4 => x = .slice (some ⟨b2, o2, none⟩) 2 cc2 | 5 => x = .pointer (some ⟨b2, o2, none⟩) | 6 => x = .slice a_r0 n c_r0 | 7 => Sl ww 1 eI x (L0) | 8 => x = .int .i64 K1 | 9 => ∃ v, x = .tuple #[v, .int .i64 0] ∧ Sl ww 1 eI v (aft WN L0 K1) | 10 => ∃ v, x = .tuple #[v, .int .i64 0] ∧ Sl ww 1 eI v (aft WN L0 K1) | 11 => Sl ww 1 eI x (aft WN L0 K1) | 12 => x = .int .i64 0 | 13 => Sl ww 1 eI x (aft WN L0 K1) | 14 => x = .int .i64 0 | _ => True : Prop)) (fun w' => Below U11.heap.size U11 w') (by kernel_rfl) rfl (by show layable _ 316 _ 12 = true; decide +kernel) rfl ((Below.refl _ _).drew) ?mono14 ?step14 ?rest14
            case mono14 =>
              intro i x ww ww' hB h
              match i, h with
              | 0, h => exact h
              | 1, h => exact BrdAt.below h hB
              | 2, h => exact h
              | 3, h => exact Sl.below h hB
              | 4, h => exact h
              | 5, h => exact h
              | 6, h => exact h
              | 7, h => exact Sl.below h hB
              | 8, h => exact h
              | 9, h => exact (by obtain ⟨v, e, h⟩ := h; exact ⟨v, e, Sl.below h hB⟩)
              | 10, h => exact (by obtain ⟨v, e, h⟩ := h; exact ⟨v, e, Sl.below h hB⟩)
              | 11, h => exact Sl.below h hB
              | 12, h => exact h
              | 13, h => exact Sl.below h hB
              | 14, h => exact h
              | n + 15, h => exact h
            case step14 =>
              intro i o_ listed ac W hA ho hL he
              have hk7 : ac.tmps.getD 7 undef = .pointer (some ⟨gB, 0, none⟩) := hL.kept 7 (by decide +kernel)
              have hk9 : ac.tmps.getD 9 undef = .slice a_v1 n c_v1 := hL.kept 9 (by decide +kernel)
              have hk10 : ac.tmps.getD 10 undef = .slice (some ⟨b2, o2, none⟩) 2 cc2 := hL.kept 10 (by decide +kernel)
              have hk15 : ac.tmps.getD 15 undef = .int .i64 K1 := hL.kept 15 (by decide +kernel)
              have CL : ∀ W', Below W.heap.size W W' → Below U11.heap.size U11 W' := fun W' h => hL.cls.trans (h.mono hL.cls.size)
              have k_c0 := keepc hL.cls c0
              have k_c1 := keepc hL.cls c1
              have k_c2 := keepc hL.cls c2
              have k_c3 := keepc hL.cls c3
              have k_c4 := keepc hL.cls c4
              have k_c5 := keepc hL.cls c5
              have k_c8 := keepc hL.cls c8
              match i, hA, ho with
              | 0, _, ho =>
                cases ho
                refine wpOp_plain rfl rfl ?_
                unfold Oper.wp
                go_simp
                exact ⟨_, rfl, Below.refl _ _, CL _ (Below.refl _ _), rfl⟩
              | 1, _, ho =>
                cases ho
                have d0 : ac.tmps.getD 196 undef = .agg #[.int .i64 B.eye, .int .i64 B.bull, .slice p1 lr q1, .slice p2 ll q2, .slice p3 n q3, .int .i64 B.wire] := hL.new 0 _ 196 rfl (he ⟨0, .data⟩ (by simp) rfl) rfl
                have x := HOWN.out W _ (HB.out.below hL.cls)
                refine wpOp_plain rfl rfl ?_
                unfold Oper.wp
                go_simp
                refine x.mono ?_
                rintro e w' ⟨v', rfl, hbr, hBn⟩
                exact ⟨_, rfl, hBn, CL _ hBn, hbr⟩
              | 2, _, ho =>
                cases ho
                refine wpOp_plain rfl rfl ?_
                unfold Oper.wp
                go_simp
                exact ⟨_, rfl, Below.refl _ _, CL _ (Below.refl _ _), rfl⟩
              | 3, _, ho =>
                cases ho
                have d2 : ac.tmps.getD 198 undef = .slice a_v1 n c_v1 := hL.new 2 _ 198 rfl (he ⟨2, .data⟩ (by simp) rfl) rfl
                have x := HINT.out W _ _ _ HL1.out.1 (HV1.out.below hL.cls)
                refine wpOp_plain rfl rfl ?_
                unfold Oper.wp
                go_simp
                refine x.mono ?_
                rintro e w' ⟨v', rfl, hs, hBn⟩
                exact ⟨_, rfl, hBn, CL _ hBn, hs⟩
              | 4, _, ho =>
                cases ho
                refine wpOp_plain rfl rfl ?_
                unfold Oper.wp
                go_simp
                exact ⟨_, rfl, Below.refl _ _, CL _ (Below.refl _ _), rfl⟩
              | 5, _, ho =>
                cases ho
                have d4 : ac.tmps.getD 200 undef = .slice (some ⟨b2, o2, none⟩) 2 cc2 := hL.new 4 _ 200 rfl (he ⟨4, .data⟩ (by simp) rfl) rfl
                refine wpOp_plain rfl rfl ?_
                unfold Oper.wp
                go_simp
                exact ⟨_, rfl, Below.refl _ _, CL _ (Below.refl _ _), rfl⟩
              | 6, _, ho =>
                cases ho
                have d5 : ac.tmps.getD 201 undef = .pointer (some ⟨b2, o2, none⟩) := hL.new 5 _ 201 rfl (he ⟨5, .data⟩ (by simp) rfl) rfl
                refine wpOp_plain rfl rfl ?_
                unfold Oper.wp
                go_simp
                exact ⟨_, rfl, Below.refl _ _, CL _ (Below.refl _ _), rfl⟩
              | 7, _, ho =>
                cases ho
                have d6 : ac.tmps.getD 202 undef = .slice a_r0 n c_r0 := hL.new 6 _ 202 rfl (he ⟨6, .data⟩ (by simp) rfl) rfl
                have x := HINT.out W _ _ _ HL1.out.2.1 (HR0.out.below hL.cls)
                refine wpOp_plain rfl rfl ?_
                unfold Oper.wp
                go_simp
                refine x.mono ?_
                rintro e w' ⟨v', rfl, hs, hBn⟩
                exact ⟨_, rfl, hBn, CL _ hBn, hs⟩
              | 8, _, ho =>
                cases ho
                refine wpOp_plain rfl rfl ?_
                unfold Oper.wp
                go_simp
                exact ⟨_, rfl, Below.refl _ _, CL _ (Below.refl _ _), rfl⟩
              | 9, _, ho =>
                cases ho
                obtain ⟨x1, hx1⟩ : ∃ x, ac.tmps.getD 197 undef = x := ⟨_, rfl⟩
                have d1 := hL.new 1 _ 197 rfl (he ⟨1, .data⟩ (by simp) rfl) rfl
                rw [hx1] at d1
                obtain ⟨x3, hx3⟩ : ∃ x, ac.tmps.getD 199 undef = x := ⟨_, rfl⟩
                have d3 := hL.new 3 _ 199 rfl (he ⟨3, .data⟩ (by simp) rfl) rfl
                rw [hx3] at d3
                obtain ⟨x7, hx7⟩ : ∃ x, ac.tmps.getD 203 undef = x := ⟨_, rfl⟩
                have d7 := hL.new 7 _ 203 rfl (he ⟨7, .data⟩ (by simp) rfl) rfl
                rw [hx7] at d7
                have d8 : ac.tmps.getD 204 undef = .int .i64 K1 := hL.new 8 _ 204 rfl (he ⟨8, .data⟩ (by simp) rfl) rfl
                have x := HWE.out W x1 x3 x7 _ _ 765 K1 (by omega) (by omega) HL1.out.1 HL1.out.2.1 hK1 d1 d3 d7
                refine wpOp_plain rfl rfl ?_
                unfold Oper.wp
                go_simp
                refine x.mono ?_
                rintro e w' ⟨v', rfl, hs, hBn⟩
                exact ⟨_, rfl, hBn, CL _ hBn, ⟨_, rfl, hs⟩⟩
              | 10, _, ho =>
                cases ho
                obtain ⟨x9, hx9⟩ : ∃ x, ac.tmps.getD 205 undef = x := ⟨_, rfl⟩
                have d9 := hL.new 9 _ 205 rfl (he ⟨9, .data⟩ (by simp) rfl) rfl
                rw [hx9] at d9
                obtain ⟨v', rfl, hs⟩ := d9
                refine wpOp_plain rfl rfl ?_
                unfold Oper.wp
                go_simp
                exact ⟨_, rfl, Below.refl _ _, CL _ (Below.refl _ _), ⟨_, rfl, hs⟩⟩
              | 11, _, ho =>
                cases ho
                obtain ⟨x10, hx10⟩ : ∃ x, ac.tmps.getD 195 undef = x := ⟨_, rfl⟩
                have d10 := hL.new 10 _ 195 rfl (he ⟨10, .data⟩ (by simp) rfl) rfl
                rw [hx10] at d10
                obtain ⟨v', rfl, hs⟩ := d10
                refine wpOp_plain rfl rfl ?_
                unfold Oper.wp
                go_simp
                exact ⟨_, rfl, Below.refl _ _, CL _ (Below.refl _ _), hs⟩
              | 12, _, ho =>
                cases ho
                obtain ⟨x10, hx10⟩ : ∃ x, ac.tmps.getD 195 undef = x := ⟨_, rfl⟩
                have d10 := hL.new 10 _ 195 rfl (he ⟨10, .data⟩ (by simp) rfl) rfl
                rw [hx10] at d10
                obtain ⟨v', rfl, hs⟩ := d10
                refine wpOp_plain rfl rfl ?_
                unfold Oper.wp
                go_simp
                exact ⟨_, rfl, Below.refl _ _, CL _ (Below.refl _ _), rfl⟩
              | 13, _, ho =>
                cases ho
                obtain ⟨x11, hx11⟩ : ∃ x, ac.tmps.getD 206 undef = x := ⟨_, rfl⟩
                have d11 := hL.new 11 _ 206 rfl (he ⟨11, .data⟩ (by simp) rfl) rfl
                rw [hx11] at d11
                refine wpOp_plain rfl rfl ?_
                unfold Oper.wp
                go_simp
                exact ⟨_, rfl, Below.refl _ _, CL _ (Below.refl _ _), d11⟩
              | 14, _, ho =>
                cases ho
                have d12 : ac.tmps.getD 207 undef = .int .i64 0 := hL.new 12 _ 207 rfl (he ⟨12, .data⟩ (by simp) rfl) rfl
                refine wpOp_plain rfl rfl ?_
                unfold Oper.wp
                go_simp
                exact ⟨_, rfl, Below.refl _ _, CL _ (Below.refl _ _), rfl⟩
              | n + 15, hA, _ => simp at hA
            case rest14 =>
              intro ac U14 hL
              have e196 : ac.tmps.getD 196 undef = .agg #[.int .i64 B.eye, .int .i64 B.bull, .slice p1 lr q1, .slice p2 ll q2, .slice p3 n q3, .int .i64 B.wire] := hL.new 0 _ 196 rfl rfl rfl
              obtain ⟨y197, e197⟩ : ∃ x, ac.tmps.getD 197 undef = x := ⟨_, rfl⟩
              have e198 : ac.tmps.getD 198 undef = .slice a_v1 n c_v1 := hL.new 2 _ 198 rfl rfl rfl
              obtain ⟨y199, e199⟩ : ∃ x, ac.tmps.getD 199 undef = x := ⟨_, rfl⟩
              have e200 : ac.tmps.getD 200 undef = .slice (some ⟨b2, o2, none⟩) 2 cc2 := hL.new 4 _ 200 rfl rfl rfl
              have e201 : ac.tmps.getD 201 undef = .pointer (some ⟨b2, o2, none⟩) := hL.new 5 _ 201 rfl rfl rfl
              have e202 : ac.tmps.getD 202 undef = .slice a_r0 n c_r0 := hL.new 6 _ 202 rfl rfl rfl
              obtain ⟨y203, e203⟩ : ∃ x, ac.tmps.getD 203 undef = x := ⟨_, rfl⟩
              have e204 : ac.tmps.getD 204 undef = .int .i64 K1 := hL.new 8 _ 204 rfl rfl rfl
              obtain ⟨y205, e205⟩ : ∃ x, ac.tmps.getD 205 undef = x := ⟨_, rfl⟩
              obtain ⟨y195, e195⟩ : ∃ x, ac.tmps.getD 195 undef = x := ⟨_, rfl⟩
              obtain ⟨y206, e206⟩ : ∃ x, ac.tmps.getD 206 undef = x := ⟨_, rfl⟩
              have e207 : ac.tmps.getD 207 undef = .int .i64 0 := hL.new 12 _ 207 rfl rfl rfl
              have hn24 := hL.new 13 _ 24 rfl rfl rfl
              obtain ⟨vd, e24⟩ : ∃ x, ac.tmps.getD 24 undef = x := ⟨_, rfl⟩
              rw [e24] at hn24
              have Hvd : Aside (Sl U14 1 eI vd (aft WN L0 K1)) := hn24
              clear hn24
              have e14 : ac.tmps.getD 14 undef = .int .i64 0 := hL.new 14 _ 14 rfl rfl rfl
              have es := hL.sets [196, 197, 198, 199, 200, 201, 202, 203, 204, 205, 195, 206, 207, 24, 14] (by decide +kernel)
              rw [List.foldl_cons, List.foldl_cons, List.foldl_cons, List.foldl_cons, List.foldl_cons, List.foldl_cons, List.foldl_cons, List.foldl_cons, List.foldl_cons, List.foldl_cons, List.foldl_cons, List.foldl_cons, List.foldl_cons, List.foldl_cons, List.foldl_cons, List.foldl_nil, e196, e197, e198, e199, e200, e201, e202, e203, e204, e205, e195, e206, e207, e24, e14] at es
              have BN : Below U11.heap.size U11 U14 := hL.cls
              rw [es]
              clear es hL e196 e197 e198 e199 e200 e201 e202 e203 e204 e205 e195 e206 e207 e24 e14
              refine wpAny_done (by decide +kernel) ?_ _
              simp only [List.setIfInBounds_toArray, List.set_cons_zero, List.set_cons_succ]
              replace HB : Aside (BrdAt U14 (.agg #[.int .i64 B.eye, .int .i64 B.bull, .slice p1 lr q1, .slice p2 ll q2, .slice p3 n q3, .int .i64 B.wire]) B) := HB.out.below BN
              replace HV1 : Aside (Sl U14 1 eI (.slice a_v1 n c_v1) WN) := HV1.out.below BN
              replace HR0 : Aside (Sl U14 1 eI (.slice a_r0 n c_r0) L0) := HR0.out.below BN
              replace HR1 : Aside (Sl U14 1 eI (.slice a_r1 n c_r1) L1) := HR1.out.below BN
              replace HV2 : Aside (Sl U14 1 eR (.slice (some ⟨b2, o2, none⟩) 2 cc2) [(.slice a_r0 n c_r0, L0), (.slice a_r1 n c_r1, L1)]) := HV2.out.below BN
              replace Hva : Aside (Sl U14 1 eI (.slice a_va n c_va) (aft WN L0 I1)) := Hva.out.below BN
              replace Hvc : Aside (Sl U14 1 eI (.slice a_vc n c_vc) (aft (aft WN L0 I1) L1 I2)) := Hvc.out.below BN
              replace c0 := keepc BN c0
              replace c1 := keepc BN c1
              replace c2 := keepc BN c2
              replace c3 := keepc BN c3
              replace c4 := keepc BN c4
              replace c5 := keepc BN c5
              replace c6 := keepc BN c6
              replace c7 := keepc BN c7
              replace c8 := keepc BN c8
              replace c9 := keepc BN c9
              replace g_vtwo0 := keepc BN g_vtwo0
              replace g_vtwo1 := keepc BN g_vtwo1
              replace BWU : Aside (Below w.heap.size w U14) := BWU.out.trans (BN.mono BWU.out.size)
              clear BN
              go_upto_region 15 with (fail)
              refine region_laid (fl := 12) [true, true, true, true, true, true, true, true, true, true, true, true, true, true, true, true, true] 0 (fun (i : Nat) (x : Value) (ww : World) => (match i with | 0 => x = .agg #[.int .i64 B.eye, .int .i64 B.bull, .slice p1 lr q1, .slice p2 ll q2, .slice p3 n q3, .int .i64 B.wire] | 1 => BrdAt ww x B | 2 => x = .slice a_v1 n c_v1 | 3 => Sl ww 1 eI x (WN) | 4 => x = .slice (some ⟨b2, o2, none⟩) 2 cc2 | 5 => x = .pointer (some ⟨b2, o2, none⟩) | 6 => x = .slice a_r0 n c_r0 | 7 => Sl ww 1 eI x (L0) | 8 => x = .slice (some ⟨b_vtwo, o_vtwo, none⟩) 2 c_vtwo | 9 => x = .pointer (some ⟨b_vtwo, o_vtwo, none⟩) | 10 => x = .int .i64 K0 | 11 => ∃ v, x = .tuple #[v, .int .i64 0] ∧ Sl ww 1 eI v (aft WN L0 K0) | 12 => ∃ v, x = .tuple #[v, .int .i64 0] ∧ Sl ww 1 eI v (aft WN L0 K0) | 13 => Sl ww 1 eI x (aft WN L0 K0) | 14 => x = .int .i64 0 | 15 => Sl ww 1 eI x (aft WN L0 K0) | 16 => x = .int .i64 0 | _ => True : Prop)) (fun w' => Below U14.heap.size U14 w') (by kernel_rfl) rfl (by show layable _ 316 _ 12 = true; decide +kernel) rfl ((Below.refl _ _).drew) ?mono15 ?step15 ?rest15
              case mono15 =>
                intro i x ww ww' hB h
                match i, h with
                | 0, h => exact h
                | 1, h => exact BrdAt.below h hB
                | 2, h => exact h
                | 3, h => exact Sl.below h hB
                | 4, h => exact h
                | 5, h => exact h
                | 6, h => exact h
                | 7, h => exact Sl.below h hB
                | 8, h => exact h
                | 9, h => exact h
                | 10, h => exact h
                | 11, h => exact (by obtain ⟨v, e, h⟩ := h; exact ⟨v, e, Sl.below h hB⟩)
                | 12, h => exact (by obtain ⟨v, e, h⟩ := h; exact ⟨v, e, Sl.below h hB⟩)
                | 13, h => exact Sl.below h hB
                | 14, h => exact h
                | 15, h => exact Sl.below h hB
                | 16, h => exact h
                | n + 17, h => exact h
              case step15 =>
                intro i o_ listed ac W hA ho hL he
                have hk7 : ac.tmps.getD 7 undef = .pointer (some ⟨gB, 0, none⟩) := hL.kept 7 (by decide +kernel)
                have hk9 : ac.tmps.getD 9 undef = .slice a_v1 n c_v1 := hL.kept 9 (by decide +kernel)
                have hk10 : ac.tmps.getD 10 undef = .slice (some ⟨b2, o2, none⟩) 2 cc2 := hL.kept 10 (by decide +kernel)
                have hk22 : ac.tmps.getD 22 undef = .slice (some ⟨b_vtwo, o_vtwo, none⟩) 2 c_vtwo := hL.kept 22 (by decide +kernel)
                have CL : ∀ W', Below W.heap.size W W' → Below U14.heap.size U14 W' := fun W' h => hL.cls.trans (h.mono hL.cls.size)
                have k_c0 := keepc hL.cls c0
                have k_c1 := keepc hL.cls c1
                have k_c2 := keepc hL.cls c2
                have k_c3 := keepc hL.cls c3
                have k_c4 := keepc hL.cls c4
                have k_c5 := keepc hL.cls c5
                have k_c8 := keepc hL.cls c8
                have k_g_vtwo0 := keepc hL.cls g_vtwo0
                match i, hA, ho with
                | 0, _, ho =>
                  cases ho
                  refine wpOp_plain rfl rfl ?_
                  unfold Oper.wp
                  go_simp
                  exact ⟨_, rfl, Below.refl _ _, CL _ (Below.refl _ _), rfl⟩
                | 1, _, ho =>
                  cases ho
                  have d0 : ac.tmps.getD 209 undef = .agg #[.int .i64 B.eye, .int .i64 B.bull, .slice p1 lr q1, .slice p2 ll q2, .slice p3 n q3, .int .i64 B.wire] := hL.new 0 _ 209 rfl (he ⟨0, .data⟩ (by simp) rfl) rfl
                  have x := HOWN.out W _ (HB.out.below hL.cls)
                  refine wpOp_plain rfl rfl ?_
                  unfold Oper.wp
                  go_simp
                  refine x.mono ?_
                  rintro e w' ⟨v', rfl, hbr, hBn⟩
                  exact ⟨_, rfl, hBn, CL _ hBn, hbr⟩
                | 2, _, ho =>
                  cases ho
                  refine wpOp_plain rfl rfl ?_
                  unfold Oper.wp
                  go_simp
                  exact ⟨_, rfl, Below.refl _ _, CL _ (Below.refl _ _), rfl⟩
                | 3, _, ho =>
                  cases ho
                  have d2 : ac.tmps.getD 211 undef = .slice a_v1 n c_v1 := hL.new 2 _ 211 rfl (he ⟨2, .data⟩ (by simp) rfl) rfl
                  have x := HINT.out W _ _ _ HL1.out.1 (HV1.out.below hL.cls)
                  refine wpOp_plain rfl rfl ?_
                  unfold Oper.wp
                  go_simp
                  refine x.mono ?_
                  rintro e w' ⟨v', rfl, hs, hBn⟩
                  exact ⟨_, rfl, hBn, CL _ hBn, hs⟩
                | 4, _, ho =>
                  cases ho
                  refine wpOp_plain rfl rfl ?_
                  unfold Oper.wp
                  go_simp
                  exact ⟨_, rfl, Below.refl _ _, CL _ (Below.refl _ _), rfl⟩
                | 5, _, ho =>
                  cases ho
                  have d4 : ac.tmps.getD 213 undef = .slice (some ⟨b2, o2, none⟩) 2 cc2 := hL.new 4 _ 213 rfl (he ⟨4, .data⟩ (by simp) rfl) rfl
                  refine wpOp_plain rfl rfl ?_
                  unfold Oper.wp
                  go_simp
                  exact ⟨_, rfl, Below.refl _ _, CL _ (Below.refl _ _), rfl⟩
                | 6, _, ho =>
                  cases ho
                  have d5 : ac.tmps.getD 214 undef = .pointer (some ⟨b2, o2, none⟩) := hL.new 5 _ 214 rfl (he ⟨5, .data⟩ (by simp) rfl) rfl
                  refine wpOp_plain rfl rfl ?_
                  unfold Oper.wp
                  go_simp
                  exact ⟨_, rfl, Below.refl _ _, CL _ (Below.refl _ _), rfl⟩
                | 7, _, ho =>
                  cases ho
                  have d6 : ac.tmps.getD 215 undef = .slice a_r0 n c_r0 := hL.new 6 _ 215 rfl (he ⟨6, .data⟩ (by simp) rfl) rfl
                  have x := HINT.out W _ _ _ HL1.out.2.1 (HR0.out.below hL.cls)
                  refine wpOp_plain rfl rfl ?_
                  unfold Oper.wp
                  go_simp
                  refine x.mono ?_
                  rintro e w' ⟨v', rfl, hs, hBn⟩
                  exact ⟨_, rfl, hBn, CL _ hBn, hs⟩
                | 8, _, ho =>
                  cases ho
                  refine wpOp_plain rfl rfl ?_
                  unfold Oper.wp
                  go_simp
                  exact ⟨_, rfl, Below.refl _ _, CL _ (Below.refl _ _), rfl⟩
                | 9, _, ho =>
                  cases ho
                  have d8 : ac.tmps.getD 217 undef = .slice (some ⟨b_vtwo, o_vtwo, none⟩) 2 c_vtwo := hL.new 8 _ 217 rfl (he ⟨8, .data⟩ (by simp) rfl) rfl
                  refine wpOp_plain rfl rfl ?_
                  unfold Oper.wp
                  go_simp
                  exact ⟨_, rfl, Below.refl _ _, CL _ (Below.refl _ _), rfl⟩
                | 10, _, ho =>
                  cases ho
                  have d9 : ac.tmps.getD 218 undef = .pointer (some ⟨b_vtwo, o_vtwo, none⟩) := hL.new 9 _ 218 rfl (he ⟨9, .data⟩ (by simp) rfl) rfl
                  refine wpOp_plain rfl rfl ?_
                  unfold Oper.wp
                  go_simp
                  exact ⟨_, rfl, Below.refl _ _, CL _ (Below.refl _ _), rfl⟩
                | 11, _, ho =>
                  cases ho
                  obtain ⟨x1, hx1⟩ : ∃ x, ac.tmps.getD 210 undef = x := ⟨_, rfl⟩
                  have d1 := hL.new 1 _ 210 rfl (he ⟨1, .data⟩ (by simp) rfl) rfl
                  rw [hx1] at d1
                  obtain ⟨x3, hx3⟩ : ∃ x, ac.tmps.getD 212 undef = x := ⟨_, rfl⟩
                  have d3 := hL.new 3 _ 212 rfl (he ⟨3, .data⟩ (by simp) rfl) rfl
                  rw [hx3] at d3
                  obtain ⟨x7, hx7⟩ : ∃ x, ac.tmps.getD 216 undef = x := ⟨_, rfl⟩
                  have d7 := hL.new 7 _ 216 rfl (he ⟨7, .data⟩ (by simp) rfl) rfl
                  rw [hx7] at d7
                  have d10 : ac.tmps.getD 219 undef = .int .i64 K0 := hL.new 10 _ 219 rfl (he ⟨10, .data⟩ (by simp) rfl) rfl
                  have x := HWE.out W x1 x3 x7 _ _ 765 K0 (by omega) (by omega) HL1.out.1 HL1.out.2.1 hK0 d1 d3 d7
                  refine wpOp_plain rfl rfl ?_
                  unfold Oper.wp
                  go_simp
                  refine x.mono ?_
                  rintro e w' ⟨v', rfl, hs, hBn⟩
                  exact ⟨_, rfl, hBn, CL _ hBn, ⟨_, rfl, hs⟩⟩
                | 12, _, ho =>
                  cases ho
                  obtain ⟨x11, hx11⟩ : ∃ x, ac.tmps.getD 220 undef = x := ⟨_, rfl⟩
                  have d11 := hL.new 11 _ 220 rfl (he ⟨11, .data⟩ (by simp) rfl) rfl
                  rw [hx11] at d11
                  obtain ⟨v', rfl, hs⟩ := d11
                  refine wpOp_plain rfl rfl ?_
                  unfold Oper.wp
                  go_simp
                  exact ⟨_, rfl, Below.refl _ _, CL _ (Below.refl _ _), ⟨_, rfl, hs⟩⟩
                | 13, _, ho =>
                  cases ho
                  obtain ⟨x12, hx12⟩ : ∃ x, ac.tmps.getD 208 undef = x := ⟨_, rfl⟩
                  have d12 := hL.new 12 _ 208 rfl (he ⟨12, .data⟩ (by simp) rfl) rfl
                  rw [hx12] at d12
                  obtain ⟨v', rfl, hs⟩ := d12
                  refine wpOp_plain rfl rfl ?_
                  unfold Oper.wp
                  go_simp
                  exact ⟨_, rfl, Below.refl _ _, CL _ (Below.refl _ _), hs⟩
                | 14, _, ho =>
                  cases ho
                  obtain ⟨x12, hx12⟩ : ∃ x, ac.tmps.getD 208 undef = x := ⟨_, rfl⟩
                  have d12 := hL.new 12 _ 208 rfl (he ⟨12, .data⟩ (by simp) rfl) rfl
                  rw [hx12] at d12
                  obtain ⟨v', rfl, hs⟩ := d12
                  refine wpOp_plain rfl rfl ?_
                  unfold Oper.wp
                  go_simp
                  exact ⟨_, rfl, Below.refl _ _, CL _ (Below.refl _ _), rfl⟩
                | 15, _, ho =>
                  cases ho
                  obtain ⟨x13, hx13⟩ : ∃ x, ac.tmps.getD 221 undef = x := ⟨_, rfl⟩
                  have d13 := hL.new 13 _ 221 rfl (he ⟨13, .data⟩ (by simp) rfl) rfl
                  rw [hx13] at d13
                  refine wpOp_plain rfl rfl ?_
                  unfold Oper.wp
                  go_simp
                  exact ⟨_, rfl, Below.refl _ _, CL _ (Below.refl _ _), d13⟩
                | 16, _, ho =>
                  cases ho
                  have d14 : ac.tmps.getD 222 undef = .int .i64 0 := hL.new 14 _ 222 rfl (he ⟨14, .data⟩ (by simp) rfl) rfl
                  refine wpOp_plain rfl rfl ?_
                  unfold Oper.wp
                  go_simp
                  exact ⟨_, rfl, Below.refl _ _, CL _ (Below.refl _ _), rfl⟩
                | n + 17, hA, _ => simp at hA
              case rest15 =>
                intro ac U15 hL
                have e209 : ac.tmps.getD 209 undef = .agg #[.int .i64 B.eye, .int .i64 B.bull, .slice p1 lr q1, .slice p2 ll q2, .slice p3 n q3, .int .i64 B.wire] := hL.new 0 _ 209 rfl rfl rfl
                obtain ⟨y210, e210⟩ : ∃ x, ac.tmps.getD 210 undef = x := ⟨_, rfl⟩
                have e211 : ac.tmps.getD 211 undef = .slice a_v1 n c_v1 := hL.new 2 _ 211 rfl rfl rfl
                obtain ⟨y212, e212⟩ : ∃ x, ac.tmps.getD 212 undef = x := ⟨_, rfl⟩
                have e213 : ac.tmps.getD 213 undef = .slice (some ⟨b2, o2, none⟩) 2 cc2 := hL.new 4 _ 213 rfl rfl rfl
                have e214 : ac.tmps.getD 214 undef = .pointer (some ⟨b2, o2, none⟩) := hL.new 5 _ 214 rfl rfl rfl
                have e215 : ac.tmps.getD 215 undef = .slice a_r0 n c_r0 := hL.new 6 _ 215 rfl rfl rfl
                obtain ⟨y216, e216⟩ : ∃ x, ac.tmps.getD 216 undef = x := ⟨_, rfl⟩
                have e217 : ac.tmps.getD 217 undef = .slice (some ⟨b_vtwo, o_vtwo, none⟩) 2 c_vtwo := hL.new 8 _ 217 rfl rfl rfl
                have e218 : ac.tmps.getD 218 undef = .pointer (some ⟨b_vtwo, o_vtwo, none⟩) := hL.new 9 _ 218 rfl rfl rfl
                have e219 : ac.tmps.getD 219 undef = .int .i64 K0 := hL.new 10 _ 219 rfl rfl rfl
                obtain ⟨y220, e220⟩ : ∃ x, ac.tmps.getD 220 undef = x := ⟨_, rfl⟩
                obtain ⟨y208, e208⟩ : ∃ x, ac.tmps.getD 208 undef = x := ⟨_, rfl⟩
                obtain ⟨y221, e221⟩ : ∃ x, ac.tmps.getD 221 undef = x := ⟨_, rfl⟩
                have e222 : ac.tmps.getD 222 undef = .int .i64 0 := hL.new 14 _ 222 rfl rfl rfl
                have hn25 := hL.new 15 _ 25 rfl rfl rfl
                obtain ⟨vh, e25⟩ : ∃ x, ac.tmps.getD 25 undef = x := ⟨_, rfl⟩
                rw [e25] at hn25
                have Hvh : Aside (Sl U15 1 eI vh (aft WN L0 K0)) := hn25
                clear hn25
                have e17 : ac.tmps.getD 17 undef = .int .i64 0 := hL.new 16 _ 17 rfl rfl rfl
                have es := hL.sets [209, 210, 211, 212, 213, 214, 215, 216, 217, 218, 219, 220, 208, 221, 222, 25, 17] (by decide +kernel)
                rw [List.foldl_cons, List.foldl_cons, List.foldl_cons, List.foldl_cons, List.foldl_cons, List.foldl_cons, List.foldl_cons, List.foldl_cons, List.foldl_cons, List.foldl_cons, List.foldl_cons, List.foldl_cons, List.foldl_cons, List.foldl_cons, List.foldl_cons, List.foldl_cons, List.foldl_cons, List.foldl_nil, e209, e210, e211, e212, e213, e214, e215, e216, e217, e218, e219, e220, e208, e221, e222, e25, e17] at es
                have BN : Below U14.heap.size U14 U15 := hL.cls
                rw [es]
                clear es hL e209 e210 e211 e212 e213 e214 e215 e216 e217 e218 e219 e220 e208 e221 e222 e25 e17
                refine wpAny_done (by decide +kernel) ?_ _
                simp only [List.setIfInBounds_toArray, List.set_cons_zero, List.set_cons_succ]
                replace HB : Aside (BrdAt U15 (.agg #[.int .i64 B.eye, .int .i64 B.bull, .slice p1 lr q1, .slice p2 ll q2, .slice p3 n q3, .int .i64 B.wire]) B) := HB.out.below BN
                replace HV1 : Aside (Sl U15 1 eI (.slice a_v1 n c_v1) WN) := HV1.out.below BN
                replace HR0 : Aside (Sl U15 1 eI (.slice a_r0 n c_r0) L0) := HR0.out.below BN
                replace HR1 : Aside (Sl U15 1 eI (.slice a_r1 n c_r1) L1) := HR1.out.below BN
                replace HV2 : Aside (Sl U15 1 eR (.slice (some ⟨b2, o2, none⟩) 2 cc2) [(.slice a_r0 n c_r0, L0), (.slice a_r1 n c_r1, L1)]) := HV2.out.below BN
                replace Hva : Aside (Sl U15 1 eI (.slice a_va n c_va) (aft WN L0 I1)) := Hva.out.below BN
                replace Hvc : Aside (Sl U15 1 eI (.slice a_vc n c_vc) (aft (aft WN L0 I1) L1 I2)) := Hvc.out.below BN
                replace Hvd : Aside (Sl U15 1 eI vd (aft WN L0 K1)) := Hvd.out.below BN
                replace c0 := keepc BN c0
                replace c1 := keepc BN c1
                replace c2 := keepc BN c2
                replace c3 := keepc BN c3
                replace c4 := keepc BN c4
                replace c5 := keepc BN c5
                replace c6 := keepc BN c6
                replace c7 := keepc BN c7
                replace c8 := keepc BN c8
                replace c9 := keepc BN c9
                replace g_vtwo0 := keepc BN g_vtwo0
                replace g_vtwo1 := keepc BN g_vtwo1
                replace BWU : Aside (Below w.heap.size w U15) := BWU.out.trans (BN.mono BWU.out.size)
                clear BN
                obtain ⟨a_vd, c_vd, h_vd⟩ : ∃ a c, vd = .slice a n c := by
                  obtain ⟨a, c, e, _⟩ := Hvd.out
                  exact ⟨a, c, by rw [e, HLD.out.1]⟩
                subst h_vd
                obtain ⟨a_vh, c_vh, h_vh⟩ : ∃ a c, vh = .slice a n c := by
                  obtain ⟨a, c, e, _⟩ := Hvh.out
                  exact ⟨a, c, by rw [e, HLH.out.1]⟩
                subst h_vh
                go_wp2_with fail
                have xmo := HMO.out _ _ _ _ HLD.out Hvd.out
                rw [← HM12.out.1] at xmo
                refine xmo.mono ?_
                rintro e U16 ⟨rfl, BN⟩
                clear xmo Hvd
                replace HB : Aside (BrdAt U16 (.agg #[.int .i64 B.eye, .int .i64 B.bull, .slice p1 lr q1, .slice p2 ll q2, .slice p3 n q3, .int .i64 B.wire]) B) := HB.out.below BN
                replace HV1 : Aside (Sl U16 1 eI (.slice a_v1 n c_v1) WN) := HV1.out.below BN
                replace HR0 : Aside (Sl U16 1 eI (.slice a_r0 n c_r0) L0) := HR0.out.below BN
                replace HR1 : Aside (Sl U16 1 eI (.slice a_r1 n c_r1) L1) := HR1.out.below BN
                replace HV2 : Aside (Sl U16 1 eR (.slice (some ⟨b2, o2, none⟩) 2 cc2) [(.slice a_r0 n c_r0, L0), (.slice a_r1 n c_r1, L1)]) := HV2.out.below BN
                replace Hva : Aside (Sl U16 1 eI (.slice a_va n c_va) (aft WN L0 I1)) := Hva.out.below BN
                replace Hvc : Aside (Sl U16 1 eI (.slice a_vc n c_vc) (aft (aft WN L0 I1) L1 I2)) := Hvc.out.below BN
                replace Hvh : Aside (Sl U16 1 eI (.slice a_vh n c_vh) (aft WN L0 K0)) := Hvh.out.below BN
                replace c0 := keepc BN c0
                replace c1 := keepc BN c1
                replace c2 := keepc BN c2
                replace c3 := keepc BN c3
                replace c4 := keepc BN c4
                replace c5 := keepc BN c5
                replace c6 := keepc BN c6
                replace c7 := keepc BN c7
                replace c8 := keepc BN c8
                replace c9 := keepc BN c9
                replace g_vtwo0 := keepc BN g_vtwo0
                replace g_vtwo1 := keepc BN g_vtwo1
                replace BWU : Aside (Below w.heap.size w U16) := BWU.out.trans (BN.mono BWU.out.size)
                clear BN
                go_upto_region 18 with (fail)
                refine region_laidC (fl := 12) [true, true, true, true, true, true, true, true, true, true, true, true, true, true, true, true, true] 0 (fun (i : Nat) (x : Value) (ww : World) => (match i with | 0 => x = .agg #[.int .i64 B.eye, .int .i64 B.bull, .slice p1 lr q1, .slice p2 ll q2, .slice p3 n q3, .int .i64 B.wire] | 1 => BrdAt ww x B | 2 => x = .slice a_vh n c_vh | 3 => Sl ww 1 eI x (aft WN L0 K0) | 4 => x = .slice (some ⟨b2, o2, none⟩) 2 cc2 | 5 => x = .pointer (some ⟨b2, o2 + 1, none⟩) | 6 => x = .slice a_r1 n c_r1 | 7 => Sl ww 1 eI x (L1) | 8 => x = .slice (some ⟨b_vtwo, o_vtwo, none⟩) 2 c_vtwo | 9 => x = .pointer (some ⟨b_vtwo, o_vtwo + 1, none⟩) | 10 => x = .int .i64 J0 | 11 => ∃ v, x = .tuple #[v, .int .i64 0] ∧ Sl ww 1 eI v (aft (aft WN L0 K0) L1 J0) | 12 => ∃ v, x = .tuple #[v, .int .i64 0] ∧ Sl ww 1 eI v (aft (aft WN L0 K0) L1 J0) | 13 => Sl ww 1 eI x (aft (aft WN L0 K0) L1 J0) | 14 => x = .int .i64 0 | 15 => Sl ww 1 eI x (aft (aft WN L0 K0) L1 J0) | 16 => x = .int .i64 0 | _ => True : Prop)) (fun w' => Below U16.heap.size U16 w') (by kernel_rfl) rfl (by show layableC _ 316 _ 12 = true; decide +kernel) rfl ((Below.refl _ _).drew) ?mono18 ?step18 ?rest18
                case mono18 =>
                  intro i x ww ww' hB h
                  match i, h with
                  | 0, h => exact h
                  | 1, h => exact BrdAt.below h hB
                  | 2, h => exact h
                  | 3, h => exact Sl.below h hB
                  | 4, h => exact h
                  | 5, h => exact h
                  | 6, h => exact h
                  | 7, h => exact Sl.below h hB
                  | 8, h => exact h
                  | 9, h => exact h
                  | 10, h => exact h
                  | 11, h => exact (by obtain ⟨v, e, h⟩ := h; exact ⟨v, e, Sl.below h hB⟩)
                  | 12, h => exact (by obtain ⟨v, e, h⟩ := h; exact ⟨v, e, Sl.below h hB⟩)
                  | 13, h => exact Sl.below h hB
                  | 14, h => exact h
                  | 15, h => exact Sl.below h hB
                  | 16, h => exact h
                  | n + 17, h => exact h
                case step18 =>
                  intro i o_ listed ac W hA ho hL he hcl hli hsz
                  have hk7 : ac.tmps.getD 7 undef = .pointer (some ⟨gB, 0, none⟩) := hL.kept 7 (by decide +kernel)
                  have hk10 : ac.tmps.getD 10 undef = .slice (some ⟨b2, o2, none⟩) 2 cc2 := hL.kept 10 (by decide +kernel)
                  have hk22 : ac.tmps.getD 22 undef = .slice (some ⟨b_vtwo, o_vtwo, none⟩) 2 c_vtwo := hL.kept 22 (by decide +kernel)
                  have CL : ∀ W', Below W.heap.size W W' → Below U16.heap.size U16 W' := fun W' h => hL.cls.trans (h.mono hL.cls.size)
                  have k_c0 := keepc hL.cls c0
                  have k_c1 := keepc hL.cls c1
                  have k_c2 := keepc hL.cls c2
                  have k_c3 := keepc hL.cls c3
                  have k_c4 := keepc hL.cls c4
                  have k_c5 := keepc hL.cls c5
                  have k_c9 := keepc hL.cls c9
                  have k_g_vtwo1 := keepc hL.cls g_vtwo1
                  match i, hA, ho with
                  | 0, _, ho =>
                    cases ho
                    refine wpOp_plain rfl rfl ?_
                    unfold Oper.wp
                    go_simp
                    exact ⟨_, rfl, Below.refl _ _, CL _ (Below.refl _ _), rfl⟩
                  | 1, _, ho =>
                    cases ho
                    have d0 : ac.tmps.getD 236 undef = .agg #[.int .i64 B.eye, .int .i64 B.bull, .slice p1 lr q1, .slice p2 ll q2, .slice p3 n q3, .int .i64 B.wire] := hL.new 0 _ 236 rfl (he ⟨0, .data⟩ (by simp) rfl) rfl
                    have x := HOWN.out W _ (HB.out.below hL.cls)
                    refine wpOp_plain rfl rfl ?_
                    unfold Oper.wp
                    go_simp
                    refine x.mono ?_
                    rintro e w' ⟨v', rfl, hbr, hBn⟩
                    exact ⟨_, rfl, hBn, CL _ hBn, hbr⟩
                  | 2, _, ho =>
                    cases ho
                    have hk25 : ac.tmps.getD 25 undef = .slice a_vh n c_vh := hL.kept3 hcl hsz 25 2 15 12 hli (by decide +kernel) (by decide +kernel)
                    refine wpOp_plain rfl rfl ?_
                    unfold Oper.wp
                    go_simp
                    exact ⟨_, rfl, Below.refl _ _, CL _ (Below.refl _ _), rfl⟩
                  | 3, _, ho =>
                    cases ho
                    have d2 : ac.tmps.getD 238 undef = .slice a_vh n c_vh := hL.new 2 _ 238 rfl (he ⟨2, .data⟩ (by simp) rfl) rfl
                    have x := HINT.out W _ _ _ HLH.out (Hvh.out.below hL.cls)
                    refine wpOp_plain rfl rfl ?_
                    unfold Oper.wp
                    go_simp
                    refine x.mono ?_
                    rintro e w' ⟨v', rfl, hs, hBn⟩
                    exact ⟨_, rfl, hBn, CL _ hBn, hs⟩
                  | 4, _, ho =>
                    cases ho
                    refine wpOp_plain rfl rfl ?_
                    unfold Oper.wp
                    go_simp
                    exact ⟨_, rfl, Below.refl _ _, CL _ (Below.refl _ _), rfl⟩
                  | 5, _, ho =>
                    cases ho
                    have d4 : ac.tmps.getD 240 undef = .slice (some ⟨b2, o2, none⟩) 2 cc2 := hL.new 4 _ 240 rfl (he ⟨4, .data⟩ (by simp) rfl) rfl
                    refine wpOp_plain rfl rfl ?_
                    unfold Oper.wp
                    go_simp
                    exact ⟨_, rfl, Below.refl _ _, CL _ (Below.refl _ _), rfl⟩
                  | 6, _, ho =>
                    cases ho
                    have d5 : ac.tmps.getD 241 undef = .pointer (some ⟨b2, o2 + 1, none⟩) := hL.new 5 _ 241 rfl (he ⟨5, .data⟩ (by simp) rfl) rfl
                    refine wpOp_plain rfl rfl ?_
                    unfold Oper.wp
                    go_simp
                    exact ⟨_, rfl, Below.refl _ _, CL _ (Below.refl _ _), rfl⟩
                  | 7, _, ho =>
                    cases ho
                    have d6 : ac.tmps.getD 242 undef = .slice a_r1 n c_r1 := hL.new 6 _ 242 rfl (he ⟨6, .data⟩ (by simp) rfl) rfl
                    have x := HINT.out W _ _ _ HL1.out.2.2 (HR1.out.below hL.cls)
                    refine wpOp_plain rfl rfl ?_
                    unfold Oper.wp
                    go_simp
                    refine x.mono ?_
                    rintro e w' ⟨v', rfl, hs, hBn⟩
                    exact ⟨_, rfl, hBn, CL _ hBn, hs⟩
                  | 8, _, ho =>
                    cases ho
                    refine wpOp_plain rfl rfl ?_
                    unfold Oper.wp
                    go_simp
                    exact ⟨_, rfl, Below.refl _ _, CL _ (Below.refl _ _), rfl⟩
                  | 9, _, ho =>
                    cases ho
                    have d8 : ac.tmps.getD 244 undef = .slice (some ⟨b_vtwo, o_vtwo, none⟩) 2 c_vtwo := hL.new 8 _ 244 rfl (he ⟨8, .data⟩ (by simp) rfl) rfl
                    refine wpOp_plain rfl rfl ?_
                    unfold Oper.wp
                    go_simp
                    exact ⟨_, rfl, Below.refl _ _, CL _ (Below.refl _ _), rfl⟩
                  | 10, _, ho =>
                    cases ho
                    have d9 : ac.tmps.getD 245 undef = .pointer (some ⟨b_vtwo, o_vtwo + 1, none⟩) := hL.new 9 _ 245 rfl (he ⟨9, .data⟩ (by simp) rfl) rfl
                    refine wpOp_plain rfl rfl ?_
                    unfold Oper.wp
                    go_simp
                    exact ⟨_, rfl, Below.refl _ _, CL _ (Below.refl _ _), rfl⟩
                  | 11, _, ho =>
                    cases ho
                    obtain ⟨x1, hx1⟩ : ∃ x, ac.tmps.getD 237 undef = x := ⟨_, rfl⟩
                    have d1 := hL.new 1 _ 237 rfl (he ⟨1, .data⟩ (by simp) rfl) rfl
                    rw [hx1] at d1
                    obtain ⟨x3, hx3⟩ : ∃ x, ac.tmps.getD 239 undef = x := ⟨_, rfl⟩
                    have d3 := hL.new 3 _ 239 rfl (he ⟨3, .data⟩ (by simp) rfl) rfl
                    rw [hx3] at d3
                    obtain ⟨x7, hx7⟩ : ∃ x, ac.tmps.getD 243 undef = x := ⟨_, rfl⟩
                    have d7 := hL.new 7 _ 243 rfl (he ⟨7, .data⟩ (by simp) rfl) rfl
                    rw [hx7] at d7
                    have d10 : ac.tmps.getD 246 undef = .int .i64 J0 := hL.new 10 _ 246 rfl (he ⟨10, .data⟩ (by simp) rfl) rfl
                    have x := HWE.out W x1 x3 x7 _ _ 1020 J0 (by omega) (by omega) HLH.out HL1.out.2.2 hJ0 d1 d3 d7
                    refine wpOp_plain rfl rfl ?_
                    unfold Oper.wp
                    go_simp
                    refine x.mono ?_
                    rintro e w' ⟨v', rfl, hs, hBn⟩
                    exact ⟨_, rfl, hBn, CL _ hBn, ⟨_, rfl, hs⟩⟩
                  | 12, _, ho =>
                    cases ho
                    obtain ⟨x11, hx11⟩ : ∃ x, ac.tmps.getD 247 undef = x := ⟨_, rfl⟩
                    have d11 := hL.new 11 _ 247 rfl (he ⟨11, .data⟩ (by simp) rfl) rfl
                    rw [hx11] at d11
                    obtain ⟨v', rfl, hs⟩ := d11
                    refine wpOp_plain rfl rfl ?_
                    unfold Oper.wp
                    go_simp
                    exact ⟨_, rfl, Below.refl _ _, CL _ (Below.refl _ _), ⟨_, rfl, hs⟩⟩
                  | 13, _, ho =>
                    cases ho
                    obtain ⟨x12, hx12⟩ : ∃ x, ac.tmps.getD 235 undef = x := ⟨_, rfl⟩
                    have d12 := hL.new 12 _ 235 rfl (he ⟨12, .data⟩ (by simp) rfl) rfl
                    rw [hx12] at d12
                    obtain ⟨v', rfl, hs⟩ := d12
                    refine wpOp_plain rfl rfl ?_
                    unfold Oper.wp
                    go_simp
                    exact ⟨_, rfl, Below.refl _ _, CL _ (Below.refl _ _), hs⟩
                  | 14, _, ho =>
                    cases ho
                    obtain ⟨x12, hx12⟩ : ∃ x, ac.tmps.getD 235 undef = x := ⟨_, rfl⟩
                    have d12 := hL.new 12 _ 235 rfl (he ⟨12, .data⟩ (by simp) rfl) rfl
                    rw [hx12] at d12
                    obtain ⟨v', rfl, hs⟩ := d12
                    refine wpOp_plain rfl rfl ?_
                    unfold Oper.wp
                    go_simp
                    exact ⟨_, rfl, Below.refl _ _, CL _ (Below.refl _ _), rfl⟩
                  | 15, _, ho =>
                    cases ho
                    obtain ⟨x13, hx13⟩ : ∃ x, ac.tmps.getD 248 undef = x := ⟨_, rfl⟩
                    have d13 := hL.new 13 _ 248 rfl (he ⟨13, .data⟩ (by simp) rfl) rfl
                    rw [hx13] at d13
                    refine wpOp_plain rfl rfl ?_
                    unfold Oper.wp
                    go_simp
                    exact ⟨_, rfl, Below.refl _ _, CL _ (Below.refl _ _), d13⟩
                  | 16, _, ho =>
                    cases ho
                    have d14 : ac.tmps.getD 249 undef = .int .i64 0 := hL.new 14 _ 249 rfl (he ⟨14, .data⟩ (by simp) rfl) rfl
                    refine wpOp_plain rfl rfl ?_
                    unfold Oper.wp
                    go_simp
                    exact ⟨_, rfl, Below.refl _ _, CL _ (Below.refl _ _), rfl⟩
                  | n + 17, hA, _ => simp at hA
                case rest18 =>
                  intro ac U18 hL
                  have e236 : ac.tmps.getD 236 undef = .agg #[.int .i64 B.eye, .int .i64 B.bull, .slice p1 lr q1, .slice p2 ll q2, .slice p3 n q3, .int .i64 B.wire] := hL.new 0 _ 236 rfl rfl rfl
                  obtain ⟨y237, e237⟩ : ∃ x, ac.tmps.getD 237 undef = x := ⟨_, rfl⟩
                  have e238 : ac.tmps.getD 238 undef = .slice a_vh n c_vh := hL.new 2 _ 238 rfl rfl rfl
                  obtain ⟨y239, e239⟩ : ∃ x, ac.tmps.getD 239 undef = x := ⟨_, rfl⟩
                  have e240 : ac.tmps.getD 240 undef = .slice (some ⟨b2, o2, none⟩) 2 cc2 := hL.new 4 _ 240 rfl rfl rfl
                  have e241 : ac.tmps.getD 241 undef = .pointer (some ⟨b2, o2 + 1, none⟩) := hL.new 5 _ 241 rfl rfl rfl
                  have e242 : ac.tmps.getD 242 undef = .slice a_r1 n c_r1 := hL.new 6 _ 242 rfl rfl rfl
                  obtain ⟨y243, e243⟩ : ∃ x, ac.tmps.getD 243 undef = x := ⟨_, rfl⟩
                  have e244 : ac.tmps.getD 244 undef = .slice (some ⟨b_vtwo, o_vtwo, none⟩) 2 c_vtwo := hL.new 8 _ 244 rfl rfl rfl
                  have e245 : ac.tmps.getD 245 undef = .pointer (some ⟨b_vtwo, o_vtwo + 1, none⟩) := hL.new 9 _ 245 rfl rfl rfl
                  have e246 : ac.tmps.getD 246 undef = .int .i64 J0 := hL.new 10 _ 246 rfl rfl rfl
                  obtain ⟨y247, e247⟩ : ∃ x, ac.tmps.getD 247 undef = x := ⟨_, rfl⟩
                  obtain ⟨y235, e235⟩ : ∃ x, ac.tmps.getD 235 undef = x := ⟨_, rfl⟩
                  obtain ⟨y248, e248⟩ : ∃ x, ac.tmps.getD 248 undef = x := ⟨_, rfl⟩
                  have e249 : ac.tmps.getD 249 undef = .int .i64 0 := hL.new 14 _ 249 rfl rfl rfl
                  have hn25 := hL.new 15 _ 25 rfl rfl rfl
                  obtain ⟨vh2, e25⟩ : ∃ x, ac.tmps.getD 25 undef = x := ⟨_, rfl⟩
                  rw [e25] at hn25
                  have Hvh2 : Aside (Sl U18 1 eI vh2 (aft (aft WN L0 K0) L1 J0)) := hn25
                  clear hn25
                  have e17 : ac.tmps.getD 17 undef = .int .i64 0 := hL.new 16 _ 17 rfl rfl rfl
                  have es := hL.sets [236, 237, 238, 239, 240, 241, 242, 243, 244, 245, 246, 247, 235, 248, 249, 25, 17] (by decide +kernel)
                  rw [List.foldl_cons, List.foldl_cons, List.foldl_cons, List.foldl_cons, List.foldl_cons, List.foldl_cons, List.foldl_cons, List.foldl_cons, List.foldl_cons, List.foldl_cons, List.foldl_cons, List.foldl_cons, List.foldl_cons, List.foldl_cons, List.foldl_cons, List.foldl_cons, List.foldl_cons, List.foldl_nil, e236, e237, e238, e239, e240, e241, e242, e243, e244, e245, e246, e247, e235, e248, e249, e25, e17] at es
                  have BN : Below U16.heap.size U16 U18 := hL.cls
                  rw [es]
                  clear es hL e236 e237 e238 e239 e240 e241 e242 e243 e244 e245 e246 e247 e235 e248 e249 e25 e17
                  refine wpAny_done (by decide +kernel) ?_ _
                  simp only [List.setIfInBounds_toArray, List.set_cons_zero, List.set_cons_succ]
                  replace HB : Aside (BrdAt U18 (.agg #[.int .i64 B.eye, .int .i64 B.bull, .slice p1 lr q1, .slice p2 ll q2, .slice p3 n q3, .int .i64 B.wire]) B) := HB.out.below BN
                  replace HV1 : Aside (Sl U18 1 eI (.slice a_v1 n c_v1) WN) := HV1.out.below BN
                  replace HR0 : Aside (Sl U18 1 eI (.slice a_r0 n c_r0) L0) := HR0.out.below BN
                  replace HR1 : Aside (Sl U18 1 eI (.slice a_r1 n c_r1) L1) := HR1.out.below BN
                  replace HV2 : Aside (Sl U18 1 eR (.slice (some ⟨b2, o2, none⟩) 2 cc2) [(.slice a_r0 n c_r0, L0), (.slice a_r1 n c_r1, L1)]) := HV2.out.below BN
                  replace Hva : Aside (Sl U18 1 eI (.slice a_va n c_va) (aft WN L0 I1)) := Hva.out.below BN
                  replace Hvc : Aside (Sl U18 1 eI (.slice a_vc n c_vc) (aft (aft WN L0 I1) L1 I2)) := Hvc.out.below BN
                  replace Hvh : Aside (Sl U18 1 eI (.slice a_vh n c_vh) (aft WN L0 K0)) := Hvh.out.below BN
                  replace c0 := keepc BN c0
                  replace c1 := keepc BN c1
                  replace c2 := keepc BN c2
                  replace c3 := keepc BN c3
                  replace c4 := keepc BN c4
                  replace c5 := keepc BN c5
                  replace c6 := keepc BN c6
                  replace c7 := keepc BN c7
                  replace c8 := keepc BN c8
                  replace c9 := keepc BN c9
                  replace g_vtwo0 := keepc BN g_vtwo0
                  replace g_vtwo1 := keepc BN g_vtwo1
                  replace BWU : Aside (Below w.heap.size w U18) := BWU.out.trans (BN.mono BWU.out.size)
                  clear BN
                  obtain ⟨a_vh2, c_vh2, h_vh2⟩ : ∃ a c, vh2 = .slice a n c := by
                    obtain ⟨a, c, e, _⟩ := Hvh2.out
                    exact ⟨a, c, by rw [e, HL2.out.1]⟩
                  subst h_vh2
                  go_upto_region 19 with (fail)
                  refine region_laid (fl := 10) [true, true, true, true, true, true, true, true] 0 (fun (i : Nat) (x : Value) (ww : World) => (match i with | 0 => x = .slice a_v1 n c_v1 | 1 => x = .int .i64 WN.sum | 2 => x = .slice (some ⟨b2, o2, none⟩) 2 cc2 | 3 => x = .pointer (some ⟨b2, o2, none⟩) | 4 => x = .slice a_r0 n c_r0 | 5 => x = .int .i64 L0.sum | 6 => x = .int .i64 (WN.sum + L0.sum) | 7 => x = .int .i64 (WN.sum + L0.sum) | _ => True : Prop)) (fun w' => Below U18.heap.size U18 w') (by kernel_rfl) rfl (by show layable _ 316 _ 10 = true; decide +kernel) rfl ((Below.refl _ _).drew) ?mono19 ?step19 ?rest19
                  case mono19 =>
                    intro i x ww ww' hB h
                    match i, h with
                    | 0, h => exact h
                    | 1, h => exact h
                    | 2, h => exact h
                    | 3, h => exact h
                    | 4, h => exact h
                    | 5, h => exact h
                    | 6, h => exact h
                    | 7, h => exact h
                    | n + 8, h => exact h
                  case step19 =>
                    intro i o_ listed ac W hA ho hL he
                    have hk9 : ac.tmps.getD 9 undef = .slice a_v1 n c_v1 := hL.kept 9 (by decide +kernel)
                    have hk10 : ac.tmps.getD 10 undef = .slice (some ⟨b2, o2, none⟩) 2 cc2 := hL.kept 10 (by decide +kernel)
                    have CL : ∀ W', Below W.heap.size W W' → Below U18.heap.size U18 W' := fun W' h => hL.cls.trans (h.mono hL.cls.size)
                    have k_c8 := keepc hL.cls c8
                    match i, hA, ho with
                    | 0, _, ho =>
                      cases ho
                      refine wpOp_plain rfl rfl ?_
                      unfold Oper.wp
                      go_simp
                      exact ⟨_, rfl, Below.refl _ _, CL _ (Below.refl _ _), rfl⟩
                    | 1, _, ho =>
                      cases ho
                      have d0 : ac.tmps.getD 250 undef = .slice a_v1 n c_v1 := hL.new 0 _ 250 rfl (he ⟨0, .data⟩ (by simp) rfl) rfl
                      have x := HSU.out W _ _ _ HL1.out.1 (by omega) (HV1.out.below hL.cls)
                      refine wpOp_plain rfl rfl ?_
                      unfold Oper.wp
                      go_simp
                      refine x.mono ?_
                      rintro e w' ⟨rfl, hBn⟩
                      exact ⟨_, rfl, hBn, CL _ hBn, rfl⟩
                    | 2, _, ho =>
                      cases ho
                      refine wpOp_plain rfl rfl ?_
                      unfold Oper.wp
                      go_simp
                      exact ⟨_, rfl, Below.refl _ _, CL _ (Below.refl _ _), rfl⟩
                    | 3, _, ho =>
                      cases ho
                      have d2 : ac.tmps.getD 252 undef = .slice (some ⟨b2, o2, none⟩) 2 cc2 := hL.new 2 _ 252 rfl (he ⟨2, .data⟩ (by simp) rfl) rfl
                      refine wpOp_plain rfl rfl ?_
                      unfold Oper.wp
                      go_simp
                      exact ⟨_, rfl, Below.refl _ _, CL _ (Below.refl _ _), rfl⟩
                    | 4, _, ho =>
                      cases ho
                      have d3 : ac.tmps.getD 253 undef = .pointer (some ⟨b2, o2, none⟩) := hL.new 3 _ 253 rfl (he ⟨3, .data⟩ (by simp) rfl) rfl
                      refine wpOp_plain rfl rfl ?_
                      unfold Oper.wp
                      go_simp
                      exact ⟨_, rfl, Below.refl _ _, CL _ (Below.refl _ _), rfl⟩
                    | 5, _, ho =>
                      cases ho
                      have d4 : ac.tmps.getD 254 undef = .slice a_r0 n c_r0 := hL.new 4 _ 254 rfl (he ⟨4, .data⟩ (by simp) rfl) rfl
                      have x := HSU.out W _ _ _ HL1.out.2.1 (by omega) (HR0.out.below hL.cls)
                      refine wpOp_plain rfl rfl ?_
                      unfold Oper.wp
                      go_simp
                      refine x.mono ?_
                      rintro e w' ⟨rfl, hBn⟩
                      exact ⟨_, rfl, hBn, CL _ hBn, rfl⟩
                    | 6, _, ho =>
                      cases ho
                      have d1 : ac.tmps.getD 251 undef = .int .i64 WN.sum := hL.new 1 _ 251 rfl (he ⟨1, .data⟩ (by simp) rfl) rfl
                      have d5 : ac.tmps.getD 255 undef = .int .i64 L0.sum := hL.new 5 _ 255 rfl (he ⟨5, .data⟩ (by simp) rfl) rfl
                      have hz := HWR.out
                      refine wpOp_plain rfl rfl ?_
                      unfold Oper.wp
                      go_simp
                      exact ⟨_, rfl, Below.refl _ _, CL _ (Below.refl _ _), rfl⟩
                    | 7, _, ho =>
                      cases ho
                      have d6 : ac.tmps.getD 256 undef = .int .i64 (WN.sum + L0.sum) := hL.new 6 _ 256 rfl (he ⟨6, .data⟩ (by simp) rfl) rfl
                      refine wpOp_plain rfl rfl ?_
                      unfold Oper.wp
                      go_simp
                      exact ⟨_, rfl, Below.refl _ _, CL _ (Below.refl _ _), rfl⟩
                    | n + 8, hA, _ => simp at hA
                  case rest19 =>
                    intro ac U19 hL
                    have e250 : ac.tmps.getD 250 undef = .slice a_v1 n c_v1 := hL.new 0 _ 250 rfl rfl rfl
                    have e251 : ac.tmps.getD 251 undef = .int .i64 WN.sum := hL.new 1 _ 251 rfl rfl rfl
                    have e252 : ac.tmps.getD 252 undef = .slice (some ⟨b2, o2, none⟩) 2 cc2 := hL.new 2 _ 252 rfl rfl rfl
                    have e253 : ac.tmps.getD 253 undef = .pointer (some ⟨b2, o2, none⟩) := hL.new 3 _ 253 rfl rfl rfl
                    have e254 : ac.tmps.getD 254 undef = .slice a_r0 n c_r0 := hL.new 4 _ 254 rfl rfl rfl
                    have e255 : ac.tmps.getD 255 undef = .int .i64 L0.sum := hL.new 5 _ 255 rfl rfl rfl
                    have e256 : ac.tmps.getD 256 undef = .int .i64 (WN.sum + L0.sum) := hL.new 6 _ 256 rfl rfl rfl
                    have e26 : ac.tmps.getD 26 undef = .int .i64 (WN.sum + L0.sum) := hL.new 7 _ 26 rfl rfl rfl
                    have es := hL.sets [250, 251, 252, 253, 254, 255, 256, 26] (by decide +kernel)
                    rw [List.foldl_cons, List.foldl_cons, List.foldl_cons, List.foldl_cons, List.foldl_cons, List.foldl_cons, List.foldl_cons, List.foldl_cons, List.foldl_nil, e250, e251, e252, e253, e254, e255, e256, e26] at es
                    have BN : Below U18.heap.size U18 U19 := hL.cls
                    rw [es]
                    clear es hL e250 e251 e252 e253 e254 e255 e256 e26
                    refine wpAny_done (by decide +kernel) ?_ _
                    simp only [List.setIfInBounds_toArray, List.set_cons_zero, List.set_cons_succ]
                    replace HB : Aside (BrdAt U19 (.agg #[.int .i64 B.eye, .int .i64 B.bull, .slice p1 lr q1, .slice p2 ll q2, .slice p3 n q3, .int .i64 B.wire]) B) := HB.out.below BN
                    replace HV1 : Aside (Sl U19 1 eI (.slice a_v1 n c_v1) WN) := HV1.out.below BN
                    replace HR0 : Aside (Sl U19 1 eI (.slice a_r0 n c_r0) L0) := HR0.out.below BN
                    replace HR1 : Aside (Sl U19 1 eI (.slice a_r1 n c_r1) L1) := HR1.out.below BN
                    replace HV2 : Aside (Sl U19 1 eR (.slice (some ⟨b2, o2, none⟩) 2 cc2) [(.slice a_r0 n c_r0, L0), (.slice a_r1 n c_r1, L1)]) := HV2.out.below BN
                    replace Hva : Aside (Sl U19 1 eI (.slice a_va n c_va) (aft WN L0 I1)) := Hva.out.below BN
                    replace Hvc : Aside (Sl U19 1 eI (.slice a_vc n c_vc) (aft (aft WN L0 I1) L1 I2)) := Hvc.out.below BN
                    replace Hvh2 : Aside (Sl U19 1 eI (.slice a_vh2 n c_vh2) (aft (aft WN L0 K0) L1 J0)) := Hvh2.out.below BN
                    replace c0 := keepc BN c0
                    replace c1 := keepc BN c1
                    replace c2 := keepc BN c2
                    replace c3 := keepc BN c3
                    replace c4 := keepc BN c4
                    replace c5 := keepc BN c5
                    replace c6 := keepc BN c6
                    replace c7 := keepc BN c7
                    replace c8 := keepc BN c8
                    replace c9 := keepc BN c9
                    replace g_vtwo0 := keepc BN g_vtwo0
                    replace g_vtwo1 := keepc BN g_vtwo1
                    replace BWU : Aside (Below w.heap.size w U19) := BWU.out.trans (BN.mono BWU.out.size)
                    clear BN
                    obtain ⟨S, hS⟩ : ∃ S, WN.sum + L0.sum = S := ⟨_, rfl⟩
                    obtain ⟨S1, hS1⟩ : ∃ S1, L1.sum = S1 := ⟨_, rfl⟩
                    have hSA : (aft WN L0 I1).sum = S := by rw [sum_aft _ _ _ (by rw [HL1.out.1.1, HL1.out.2.1.1]) (by rw [HL1.out.2.1.1]; exact hI1n), hS]
                    have hSC : (aft (aft WN L0 I1) L1 I2).sum = S + S1 := by rw [sum_aft _ _ _ (by rw [HLA.out.1, HL1.out.2.2.1]) (by rw [HL1.out.2.2.1]; exact hI2n), hSA, hS1]
                    have hSB : 0 ≤ S ∧ S ≤ 200000 ∧ 0 ≤ S1 ∧ S1 ≤ 100000 := by have := HSB.out; omega
                    have hG1 : S ≤ M1 * (n : Int) := by
                      have h1 := sum_le_mx (aft WN L0 K1)
                      rw [sum_aft _ _ _ (by rw [HL1.out.1.1, HL1.out.2.1.1]) (by rw [HL1.out.2.1.1]; exact hK1), hS, ← HM12.out.1, HLD.out.1] at h1
                      exact h1
                    have hG2 : S + S1 ≤ M2 * (n : Int) := by
                      have h1 := sum_le_mx (aft (aft WN L0 K0) L1 J0)
                      rw [sum_aft _ _ _ (by rw [HLH.out.1, HL1.out.2.2.1]) (by rw [HL1.out.2.2.1]; exact hJ0), sum_aft _ _ _ (by rw [HL1.out.1.1, HL1.out.2.1.1]) (by rw [HL1.out.2.1.1]; exact hK0), hS, hS1, ← HM12.out.2, HL2.out.1] at h1
                      exact h1
                    have hm1 : M1 ≤ mx (aft WN L0 I1) := HMIN.out.1 I1 hI1n
                    have hm2 : M2 ≤ mx (aft (aft WN L0 I1) L1 I2) := HMIN.out.2 I1 I2 hI1n hI2n
                    have hu1 : M1 * (n : Int) ≤ 1020 * 20 := Int.mul_le_mul HMB.out.1.2 (by omega) (by omega) (by omega)
                    have hu2 : M2 * (n : Int) ≤ 1275 * 20 := Int.mul_le_mul HMB.out.2.2 (by omega) (by omega) (by omega)
                    have hl1 : 0 ≤ M1 * (n : Int) := Int.mul_nonneg HMB.out.1.1 (by omega)
                    have hl2 : 0 ≤ M2 * (n : Int) := Int.mul_nonneg HMB.out.2.1 (by omega)
                    have hr1 : IntKind.i64.wrap (M1 * (n : Int)) = M1 * (n : Int) := IntWalk.i64_in _ (by omega)
                    have hr2 : IntKind.i64.wrap (M2 * (n : Int)) = M2 * (n : Int) := IntWalk.i64_in _ (by omega)
                    have hr3 : IntKind.i64.wrap (S + S1) = S + S1 := IntWalk.i64_in _ (by omega)
                    have y1 : ∀ W, Below U19.heap.size U19 W → Calls Try.prog 24 #[.slice a_vh2 n c_vh2] W (Ret (.int .i64 M2) W) := fun W h => by rw [HM12.out.2]; exact HMO.out W _ _ _ HL2.out (Hvh2.out.below h)
                    have y2 : ∀ W, Below U19.heap.size U19 W → Calls Try.prog 25 #[.slice a_va n c_va] W (Ret (.int .i64 S) W) := fun W h => by rw [← hSA]; exact HSU.out W _ _ _ HLA.out (by omega) (Hva.out.below h)
                    have y3 : ∀ W, Below U19.heap.size U19 W → Calls Try.prog 25 #[.slice a_vc n c_vc] W (Ret (.int .i64 (S + S1)) W) := fun W h => by rw [← hSC]; exact HSU.out W _ _ _ HLC.out (by omega) (Hvc.out.below h)
                    have y4 : ∀ W, Below U19.heap.size U19 W → Calls Try.prog 25 #[.slice a_r1 n c_r1] W (Ret (.int .i64 S1) W) := fun W h => by rw [← hS1]; exact HSU.out W _ _ _ HL1.out.2.2 (by omega) (HR1.out.below h)
                    have y5 : ∀ W, Below U19.heap.size U19 W → Calls Try.prog 24 #[.slice a_va n c_va] W (Ret (.int .i64 (mx (aft WN L0 I1))) W) := fun W h => HMO.out W _ _ _ HLA.out (Hva.out.below h)
                    have y6 : ∀ W, Below U19.heap.size U19 W → Calls Try.prog 24 #[.slice a_vc n c_vc] W (Ret (.int .i64 (mx (aft (aft WN L0 I1) L1 I2))) W) := fun W h => HMO.out W _ _ _ HLC.out (Hvc.out.below h)
                    have y7 := known_any
                    have MK : Aside (∀ w', Below U19.heap.size U19 w' → (Below U19.heap.size U19 w' ∧ w'.cell? ⟨b2, o2 + 1, none⟩ = some (.slice a_r1 n c_r1))) := fun w' hB => ⟨hB, keepc hB c9⟩
                    clear HOWN HINT HWE HBE HPL1 HPL2 HWK HWK1 HWK2 HMO HSU HB HV1 HR0 HR1 HV2 Hva Hvc Hvh2 hSA hSC hu1 hu2 hl1 hl2
                    rw [hS]
                    clear hS hS1
                    generalize mx (aft WN L0 I1) = mA at *
                    generalize mx (aft (aft WN L0 I1) L1 I2) = mC at *
                    clear HSB
                    obtain ⟨zb1, zb2, zb3, zb4⟩ := hSB
                    go_upto_region 20 with (fail)
                    refine region_class (fun w' => Below U19.heap.size U19 w' ∧ w'.cell? ⟨b2, o2 + 1, none⟩ = some (.slice a_r1 n c_r1)) (by kernel_rfl) (by kernel_rfl) (MK.out _ ((Below.refl _ _).drew)) ?_
                    iterate 60 (first | go_big_quiet_skip | (go_big_quiet_want; unfold Oper.quiet; apply Exists.intro; refine ⟨fun W hW => ?_, ?_⟩; (go_split_ands; unfold Oper.quietAt; go_simp; first | rfl | exact ⟨rfl, rfl⟩ | ((first | (with_reducible refine (y1 _ (by assumption)).mono ?_) | (with_reducible refine (y2 _ (by assumption)).mono ?_) | (with_reducible refine (y3 _ (by assumption)).mono ?_) | (with_reducible refine (y4 _ (by assumption)).mono ?_) | (with_reducible refine (y5 _ (by assumption)).mono ?_) | (with_reducible refine (y6 _ (by assumption)).mono ?_) | (with_reducible refine (y7 _).mono ?_)); rintro e w2 ⟨rfl, hb2⟩; exact ⟨rfl, MK.out _ (Below.trans (by assumption) (Below.mono (by assumption) (Below.size (by assumption))))⟩)); go_big_quiet_on; (try simp only [Act.put, List.setIfInBounds_toArray, List.set_cons_zero, List.set_cons_succ])))
                    refine wpQuiet_nil ?_
                    intro W hW
                    obtain ⟨hBW, _⟩ := hW
                    go_wp2_with fail
                    go_ret
                    exact ⟨rfl, BWU.out.trans (hBW.mono BWU.out.size)⟩
end Go.Proofs.Ytifabfbnjnjhlaa
