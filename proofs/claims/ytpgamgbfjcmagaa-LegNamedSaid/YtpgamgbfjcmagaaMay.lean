/- Leg: parts Is, Kc, Kd. -/
import Derived.Deep.DeepCutAuto
import Derived.Deep.CutBlock
import Derived.Test.YtpgamgbfjcmagaaMax
import Derived.Test.YtpgamgbfjcmagaaMav
import Derived.Test.YtpgamgbfjcmagaaMao
set_option linter.unusedVariables false
set_option linter.unusedSimpArgs false
namespace Go.Proofs.Ytpgamgbfjcmagaa
section
open Go.RowKit Go.Maps Go.Sort Go.Shelf Go.Deep
set_option maxRecDepth 100000 in
set_option maxHeartbeats 16000000 in
theorem tale_any (h : Hnd) (vs vbd : Value) (w : World) (hv : Sl w 1 eU16 vs h.starts) (h16 : ∀ x ∈ h.starts, 0 ≤ x ∧ x ≤ 65535) (hg8 : 0 ≤ h.gates ∧ h.gates ≤ 255) (hr8 : 0 ≤ h.rounds ∧ h.rounds ≤ 255) (hf8 : 0 ≤ h.first ∧ h.first ≤ 255) (hb : Sl w 1 eU8 vbd h.beds) (hb8 : ∀ x ∈ h.beds, 0 ≤ x ∧ x ≤ 255) :
  Calls Try.prog 34 #[hndV h vs vbd] w (TaleOk h w) := by
 have HVS : Aside (Sl w 1 eU16 vs h.starts ∧ Sl w 1 eU8 vbd h.beds) := ⟨hv, hb⟩
 have HBY : Aside ((∀ x ∈ h.starts, 0 ≤ x ∧ x ≤ 65535) ∧ (0 ≤ h.gates ∧ h.gates ≤ 255) ∧ (0 ≤ h.rounds ∧ h.rounds ≤ 255) ∧ (0 ≤ h.first ∧ h.first ≤ 255) ∧ (∀ x ∈ h.beds, 0 ≤ x ∧ x ≤ 255)) := ⟨h16, hg8, hr8, hf8, hb8⟩
 have HSL : Aside ((∃ a n c, vs = .slice a n c) ∧ (∃ a n c, vbd = .slice a n c)) := by
  obtain ⟨a, c, e, -, -⟩ := hv
  obtain ⟨a', c', e', -, -⟩ := hb
  exact ⟨⟨_, _, _, e⟩, ⟨_, _, _, e'⟩⟩
 clear hv hb h16 hg8 hr8 hf8 hb8
 unfold hndV
 go_enter Try.func34, Try.ntmps34
 go_upto_region 1 with (fail)
 obtain ⟨wa, hwa⟩ : ∃ u, u = (w.alloc (.cells #[vs, .int .u8 h.gates, .bool h.equal, .int .u8 h.rounds, .int .u8 h.first, vbd] 78)).alloc (.cells #[.slice none 0 0, .slice none 0 0, .slice none 0 0, .slice none 0 0, .slice none 0 0, .slice none 0 0, .int .i64 0, .bool false] 81) := ⟨_, rfl⟩
 rw [← hwa]
 have HWA : Aside (wa.heap[w.heap.size]? = some (.cells #[vs, .int .u8 h.gates, .bool h.equal, .int .u8 h.rounds, .int .u8 h.first, vbd] 78 (0, 0)) ∧ wa.heap[w.heap.size + 1]? = some (.cells #[.slice none 0 0, .slice none 0 0, .slice none 0 0, .slice none 0 0, .slice none 0 0, .slice none 0 0, .int .i64 0, .bool false] 81 (0, 0)) ∧ Below w.heap.size w wa ∧ wa.heap.size = w.heap.size + 2) := by
  rw [hwa]
  refine ⟨?_, World.alloc_heap_new' _ _ _ (by simp), by (repeat' (first | exact Below.refl _ _ | assumption | (with_reducible refine Below.drew ?_) | (with_reducible refine Below.setCell ?_ (by (first | (simp; done) | (simp; omega))) _) | (with_reducible refine below_drewN' ?_ _) | (refine Below.alloc ?_ (by (try simp only [World.size_alloc, World.size_drew, World.size_setCell]); omega) _) | (refine Below.trans ?_ (Below.mono (by assumption) (by (try simp only [World.size_alloc, World.size_drew, World.size_setCell]); omega))))), by simp⟩
  exact (Below.heap_alloc _ _ _ (by simp)).trans (World.alloc_heap_new _ _)
 have b0 := blk_cell HWA.out.1 (i := 0) rfl
 have b1 := blk_cell HWA.out.1 (i := 1) rfl
 have b2 := blk_cell HWA.out.1 (i := 2) rfl
 have b3 := blk_cell HWA.out.1 (i := 3) rfl
 have b4 := blk_cell HWA.out.1 (i := 4) rfl
 have b5 := blk_cell HWA.out.1 (i := 5) rfl
 clear hwa
 go_wp2_with fail
 refine (hrules_any h vs vbd wa (HVS.out.1.below HWA.out.2.2.1) HBY.out.1 HBY.out.2.1 HBY.out.2.2.1 HBY.out.2.2.2.1 HSL.out.2).mono ?_
 rintro e w1 ⟨hb1, vc, rfl, ho1⟩
 obtain ⟨nc, hnc⟩ : ∃ nc, (hcnt h).length = nc := ⟨_, rfl⟩
 have HNC : Aside ((hcnt h).length = nc) := hnc
 rw [hnc] at ho1
 clear hnc b0 b1 b2 b3 b4 b5
 obtain ⟨ac0, cc, rfl⟩ := owns_form3 ho1
 obtain ⟨r, hr⟩ : ∃ r, hrulesF h = r := ⟨_, rfl⟩
 have HRR : Aside (hrulesF h = r) := hr
 rw [hr]
 clear hr
 have HCC : Aside (0 < nc → ∃ cb, ac0 = some ⟨cb, 0, none⟩ ∧ cb < w1.heap.size ∧ ∀ k c, r.counts[k]? = some c → w1.cell? ⟨cb, 0 + k * 3, none⟩ = some (.int .i64 c.1) ∧ w1.cell? ⟨cb, 0 + k * 3 + 1, none⟩ = some (.int .i64 c.2.1) ∧ w1.cell? ⟨cb, 0 + k * 3 + 2, none⟩ = some (.int .i64 c.2.2)) := by
  intro h0
  obtain ⟨cb, cc', e1, e2, e3⟩ := cnt_cells ho1 HNC.out.symm h0
  simp only [Value.slice.injEq, true_and] at e1
  refine ⟨cb, e1.1, e2, fun k c hk => e3 k c ?_⟩
  rw [← HRR.out] at hk; exact hk
 have HB1 : Aside (Below wa.heap.size wa w1) := hb1
 obtain ⟨fr, hfr⟩ : ∃ x, r.first = x := ⟨_, rfl⟩
 obtain ⟨rr, hrr⟩ : ∃ x, r.rounds = x := ⟨_, rfl⟩
 obtain ⟨eq, heq⟩ : ∃ x, r.equal = x := ⟨_, rfl⟩
 have HRF : Aside (r.first = fr ∧ r.rounds = rr ∧ r.equal = eq) := ⟨hfr, hrr, heq⟩
 unfold legRV
 rw [hfr, hrr, heq]
 clear hfr hrr heq ho1 hb1
 dsimp only
 go_upto_region 2 with (fail)
 obtain ⟨wb, hwb⟩ : ∃ u, u = w1.alloc (.cells #[.slice ac0 nc cc, .int .i64 fr, .int .i64 rr, .bool eq] 42) := ⟨_, rfl⟩
 rw [← hwb]
 obtain ⟨L3, hL3⟩ : ∃ L3, w1.heap.size = L3 := ⟨_, rfl⟩
 have HL3 : Aside (wb.heap[L3]? = some (.cells #[.slice ac0 nc cc, .int .i64 r.first, .int .i64 r.rounds, .bool r.equal] 42 (0, 0)) ∧ Below w1.heap.size w1 wb ∧ w1.heap.size = L3 ∧ wb.heap.size = L3 + 1) := by
  rw [HRF.out.1, HRF.out.2.1, HRF.out.2.2, hwb, ← hL3]
  exact ⟨World.alloc_heap_new _ _, (Below.refl _ _).alloc (Nat.le_refl _) _, rfl, by simp⟩
 rw [hL3]
 have HBW : Aside (Below wa.heap.size wa wb) := HB1.out.trans (HL3.out.2.1.mono HB1.out.size)
 have HBX : Aside (wb.heap[w.heap.size]? = some (.cells #[vs, .int .u8 h.gates, .bool h.equal, .int .u8 h.rounds, .int .u8 h.first, vbd] 78 (0, 0)) ∧ wb.heap[w.heap.size + 1]? = some (.cells #[.slice none 0 0, .slice none 0 0, .slice none 0 0, .slice none 0 0, .slice none 0 0, .slice none 0 0, .int .i64 0, .bool false] 81 (0, 0)) ∧ w.heap.size + 1 < wb.heap.size ∧ Below w.heap.size w wb) := by
  have h1 := HBW.out.size
  have h2 := HWA.out.2.2.2
  exact ⟨(HBW.out.block _ (by omega)).trans HWA.out.1, (HBW.out.block _ (by omega)).trans HWA.out.2.1, by omega, HWA.out.2.2.1.trans (HBW.out.mono (by omega))⟩
 obtain ⟨B0, hB0⟩ : ∃ B0, w.heap.size = B0 := ⟨_, rfl⟩
 have HB0 : Aside (w.heap.size = B0) := hB0
 rw [hB0]
 clear hwb hL3 hB0
 have kc : wb.cell? ⟨L3, 0, none⟩ = some (.slice ac0 nc cc) := blk_cell HL3.out.1 rfl
 refine tal2 kc (by kernel_rfl) (by rfl) (by rfl) ?rest2
 case rest2 =>
  intro ac w2 hL
  have e18 : ac.tmps.getD 18 undef = .agg #[.slice none 0 0, .slice none 0 0, .slice none 0 0, .slice none 0 0, .slice none 0 0, .slice none 0 0, .int .i64 0, .bool false] := hL.new 0 _ 18 rfl rfl rfl
  have e19 : ac.tmps.getD 19 undef = .pointer (some ⟨L3, 0, none⟩) := hL.new 1 _ 19 rfl rfl rfl
  have e20 : ac.tmps.getD 20 undef = .slice ac0 nc cc := hL.new 2 _ 20 rfl rfl rfl
  have e21 : ac.tmps.getD 21 undef = .int .i64 (nc : Int) := hL.new 3 _ 21 rfl rfl rfl
  obtain ⟨hb2, hAF, -⟩ := hL.cls
  obtain ⟨L4, e4, L4a, L4b, L4c⟩ := hAF _ (List.mem_cons_self ..) rfl
  change ac.tmps.getD 4 undef = _ at e4
  have x4 : w2.heap[L4]? = some (.cells #[.slice none 0 0, .slice none 0 0, .slice none 0 0, .slice none 0 0, .slice none 0 0, .slice none 0 0, .int .i64 0, .bool false] 81 (0, 0)) := L4c
  have e5 : ac.tmps.getD 5 undef = .int .i64 (nc : Int) := hL.new 6 _ 5 rfl rfl rfl
  have e6 : ac.tmps.getD 6 undef = .int .i64 0 := hL.new 7 _ 6 rfl rfl rfl
  have es_ := hL.sets [18, 19, 20, 21, 4, 5, 6] (by decide +kernel)
  rw [List.foldl_cons, List.foldl_cons, List.foldl_cons, List.foldl_cons, List.foldl_cons, List.foldl_cons, List.foldl_cons, List.foldl_nil, e18, e19, e20, e21, e4, e5, e6] at es_
  rw [es_]
  clear es_ hL e18 e19 e20 e21 e4 e5 e6
  have HT0 : Aside (TlAt wb (L4 + 1) L4 (bgK r 0) [] nilV (fun _ => 0) (fun _ => []) w2) := tl_start hb2 L4a x4
  clear hb2 hAF L4b L4c x4 kc
  have HL4 : Aside (wb.heap.size ≤ L4) := L4a
  clear L4a
  have HN5 : Aside (nc ≤ 5 ∧ r.counts.length = nc) := by
   refine ⟨?_, ?_⟩
   ·rw [← HNC.out, hcnt_len]; omega
   ·rw [← HRR.out]; exact HNC.out
  refine wpAny_done (by decide +kernel) ?_ _
  simp only [List.setIfInBounds_toArray, List.set_cons_zero, List.set_cons_succ]
  go_wp2_with fail
  go_loopg [7] nc (fun gg s7 wr => ∃ (k : Nat) (vv : Nat → Value) (nn : Nat → Nat) (xx : Nat → List Value), k ≤ nc ∧ nc - k ≤ gg ∧ s7 = .int .i64 (k : Int) ∧ Aside (TlAt wb (L4 + 1) L4 (bgK r k) [] vv nn xx wr ∧ ∀ i, 6 ≤ i → nn i = 0))
  case atStart => exact ⟨0, _, _, _, by omega, by omega, rfl, HT0.out, fun _ _ => rfl⟩
  case round =>
   clear HT0
   obtain ⟨k, vv, nn, xx, hk, hgk, rfl, HT⟩ := hrel
   by_cases hlt : k < nc
   ·have hltz : (k : Int) < (nc : Int) := by omega
    obtain ⟨cb, rfl, HCB⟩ : ∃ cb, ac0 = some ⟨cb, 0, none⟩ ∧ Aside (cb < w1.heap.size ∧ ∀ k c, r.counts[k]? = some c → w1.cell? ⟨cb, 0 + k * 3, none⟩ = some (.int .i64 c.1) ∧ w1.cell? ⟨cb, 0 + k * 3 + 1, none⟩ = some (.int .i64 c.2.1) ∧ w1.cell? ⟨cb, 0 + k * 3 + 2, none⟩ = some (.int .i64 c.2.2)) := by
     obtain ⟨cb, e1, e2⟩ := HCC.out (by omega)
     exact ⟨cb, e1, e2⟩
    obtain ⟨⟨c1, c2, c3⟩, hx⟩ : ∃ c, r.counts[k]? = some c := ⟨_, List.getElem?_eq_getElem (by rw [HN5.out.2]; exact hlt)⟩
    have HX : Aside (r.counts[k]? = some (c1, c2, c3)) := hx
    have hB := HL3.out.2.1.trans (HT.out.1.bel.mono HL3.out.2.1.size)
    have hc1 : ∀ (W : World), Below w1.heap.size w1 W → ∀ (i : Nat) (x : Value), w1.cell? ⟨cb, i, none⟩ = some x → W.cell? ⟨cb, i, none⟩ = some x := fun W hW i x hx => (cell_blk (hW.block _ HCB.out.1)).trans hx
    obtain ⟨p1, p2, -⟩ := HCB.out.2 k _ hx
    have h1 := hc1 _ hB _ _ p1
    have h2 := hc1 _ hB _ _ p2
    have HCW : Aside (∀ W, Below wb.heap.size wb W → (∀ j, j < L4 + 1 → j ≠ L4 → W.heap[j]? = wr.heap[j]?) → W.cell? ⟨cb, 0 + k * 3, none⟩ = some (.int .i64 c1) ∧ W.cell? ⟨cb, 0 + k * 3 + 1, none⟩ = some (.int .i64 c2)) := by
     intro W hW _
     have hB2 := HL3.out.2.1.trans (hW.mono HL3.out.2.1.size)
     exact ⟨hc1 _ hB2 _ _ p1, hc1 _ hB2 _ _ p2⟩
    have hru : wr.heap[L3]? = some (.cells #[.slice (some ⟨cb, 0, none⟩) nc cc, .int .i64 r.first, .int .i64 r.rounds, .bool r.equal] 42 (0, 0)) := (HT.out.1.bel.block _ (by rw [HL3.out.2.2.2]; omega)).trans HL3.out.1
    have hleg : wr.heap[L4]? = some (.cells (tlC vv 0 false) 81 (0, 0)) := HT.out.1.leg
    have hnn : ∀ i, nn i ≤ 1000 := by
     have hl : (r.counts.take k).length ≤ 1000 := by rw [List.length_take, HN5.out.2]; have := HN5.out.1; omega
     exact HT.out.1.nb HT.out.2 (by show ((r.counts.take k).map _).length ≤ _; rw [List.length_map]; exact hl) (by show ((r.counts.take k).map _).length ≤ _; rw [List.length_map]; exact hl) (by show ((r.counts.take k).map _).length ≤ _; rw [List.length_map]; exact hl) (Nat.zero_le _) (Nat.zero_le _)
    have hL34 : L3 < L4 + 1 ∧ L3 ≠ L4 := by have := HL4.out; have := HL3.out.2.2.2; omega
    clear hx hB hc1 p1 p2
    go_upto_region 6 with (fail)
    refine tal6 HT.out.1.rows hleg HT.out.1.bel HT.out.1.siz HT.out.1.lt HT.out.1.new hnn hru h1 h2 HCW hL34 hlt hltz (by kernel_rfl) (by rfl) (by rfl) (by rfl) (by rfl) ?rest6
    case rest6 =>
     intro ac w5 hL
     have e27 : ac.tmps.getD 27 undef = .pointer (some ⟨L4, 1, none⟩) := hL.new 0 _ 27 rfl rfl rfl
     have e28 : ac.tmps.getD 28 undef = vv 0 := hL.new 1 _ 28 rfl rfl rfl
     have e29 : ac.tmps.getD 29 undef = .pointer (some ⟨L3, 0, none⟩) := hL.new 2 _ 29 rfl rfl rfl
     have e30 : ac.tmps.getD 30 undef = .slice (some ⟨cb, 0, none⟩) nc cc := hL.new 3 _ 30 rfl rfl rfl
     have e31 : ac.tmps.getD 31 undef = .int .i64 (k : Int) := hL.new 4 _ 31 rfl rfl rfl
     have e32 : ac.tmps.getD 32 undef = .pointer (some ⟨cb, 0 + k * 3, none⟩) := hL.new 5 _ 32 rfl rfl rfl
     have e33 : ac.tmps.getD 33 undef = .pointer (some ⟨cb, 0 + k * 3, none⟩) := hL.new 6 _ 33 rfl rfl rfl
     have e34 : ac.tmps.getD 34 undef = .int .i64 c1 := hL.new 7 _ 34 rfl rfl rfl
     obtain ⟨y35, e35⟩ : ∃ x, ac.tmps.getD 35 undef = x := ⟨_, rfl⟩
     obtain ⟨y36, e36⟩ : ∃ x, ac.tmps.getD 36 undef = x := ⟨_, rfl⟩
     have e37 : ac.tmps.getD 37 undef = .pointer (some ⟨L4, 2, none⟩) := hL.new 10 _ 37 rfl rfl rfl
     have e38 : ac.tmps.getD 38 undef = vv 1 := hL.new 11 _ 38 rfl rfl rfl
     obtain ⟨y39, e39⟩ : ∃ x, ac.tmps.getD 39 undef = x := ⟨_, rfl⟩
     obtain ⟨y40, e40⟩ : ∃ x, ac.tmps.getD 40 undef = x := ⟨_, rfl⟩
     have e41 : ac.tmps.getD 41 undef = .pointer (some ⟨L4, 3, none⟩) := hL.new 14 _ 41 rfl rfl rfl
     have e42 : ac.tmps.getD 42 undef = vv 2 := hL.new 15 _ 42 rfl rfl rfl
     have e43 : ac.tmps.getD 43 undef = .pointer (some ⟨L3, 0, none⟩) := hL.new 16 _ 43 rfl rfl rfl
     have e44 : ac.tmps.getD 44 undef = .slice (some ⟨cb, 0, none⟩) nc cc := hL.new 17 _ 44 rfl rfl rfl
     have e45 : ac.tmps.getD 45 undef = .int .i64 (k : Int) := hL.new 18 _ 45 rfl rfl rfl
     have e46 : ac.tmps.getD 46 undef = .pointer (some ⟨cb, 0 + k * 3, none⟩) := hL.new 19 _ 46 rfl rfl rfl
     have e47 : ac.tmps.getD 47 undef = .pointer (some ⟨cb, 0 + k * 3 + 1, none⟩) := hL.new 20 _ 47 rfl rfl rfl
     have e48 : ac.tmps.getD 48 undef = .int .i64 c2 := hL.new 21 _ 48 rfl rfl rfl
     have e49 : ac.tmps.getD 49 undef = .bool (c2 == 0) := hL.new 22 _ 49 rfl rfl rfl
     obtain ⟨y50, e50⟩ : ∃ x, ac.tmps.getD 50 undef = x := ⟨_, rfl⟩
     obtain ⟨y51, e51⟩ : ∃ x, ac.tmps.getD 51 undef = x := ⟨_, rfl⟩
     have e52 : ac.tmps.getD 52 undef = .pointer (some ⟨L4, 1, none⟩) := hL.new 25 _ 52 rfl rfl rfl
     have e53 : ac.tmps.getD 53 undef = .pointer (some ⟨L4, 2, none⟩) := hL.new 27 _ 53 rfl rfl rfl
     have e54 : ac.tmps.getD 54 undef = .pointer (some ⟨L4, 3, none⟩) := hL.new 29 _ 54 rfl rfl rfl
     have HCL : Aside (∃ E, RwC wb (L4 + 1) L4 tlN6 (tlP6 6 c1 c2) (tlD vv nn xx) 81 (tlC vv 0 false) wr #[true, true, true, true, true, true, true, true, true, true, true, true, true, true, true, true, true, true, true, true, true, true, true, true, true, true, true, true, true, true, true] ac E w5) := hL.cls
     have es_ := hL.sets [27, 28, 29, 30, 31, 32, 33, 34, 35, 36, 37, 38, 39, 40, 41, 42, 43, 44, 45, 46, 47, 48, 49, 50, 51, 52, 53, 54] (by decide +kernel)
     rw [List.foldl_cons, List.foldl_cons, List.foldl_cons, List.foldl_cons, List.foldl_cons, List.foldl_cons, List.foldl_cons, List.foldl_cons, List.foldl_cons, List.foldl_cons, List.foldl_cons, List.foldl_cons, List.foldl_cons, List.foldl_cons, List.foldl_cons, List.foldl_cons, List.foldl_cons, List.foldl_cons, List.foldl_cons, List.foldl_cons, List.foldl_cons, List.foldl_cons, List.foldl_cons, List.foldl_cons, List.foldl_cons, List.foldl_cons, List.foldl_cons, List.foldl_cons, List.foldl_nil, e27, e28, e29, e30, e31, e32, e33, e34, e35, e36, e37, e38, e39, e40, e41, e42, e43, e44, e45, e46, e47, e48, e49, e50, e51, e52, e53, e54] at es_
     rw [es_]
     clear es_ hL e27 e28 e29 e30 e31 e32 e33 e34 e35 e36 e37 e38 e39 e40 e41 e42 e43 e44 e45 e46 e47 e48 e49 e50 e51 e52 e53 e54
     have HN6 : Aside (∃ vv' nn' xx', TlAt wb (L4 + 1) L4 (bgK r (k + 1)) [] vv' nn' xx' w5 ∧ (∀ i, 6 ≤ i → nn' i = 0)) := by
      obtain ⟨E, hE⟩ := HCL.out
      have d3 : ∀ j, j < 3 → j = 0 ∨ j = 1 ∨ j = 2 := by omega
      obtain ⟨a1, a2, a3, a4, a5⟩ := c6_tl HT.out.1 hE (fun j hj => by rcases d3 j hj with rfl | rfl | rfl <;> rfl) (fun j hj => by rcases d3 j hj with rfl | rfl | rfl <;> rfl) HX.out
      exact ⟨a1, a2, a3, a4, fun i hi => (a5 i hi).trans (HT.out.2 i hi)⟩
     clear HCL HT hleg hru h1 h2 HCW hnn
     refine wpAny_done (by decide +kernel) ?_ _
     simp only [List.setIfInBounds_toArray, List.set_cons_zero, List.set_cons_succ]
     have ek : IntKind.i64.wrap ((k : Int) + 1) = (k : Int) + 1 := IntWalk.i64_in _ (by have := HN5.out; omega)
     go_wp2_with fail
     go_roundg (nc - (k + 1))
     case measure => omega
     case rel =>
      obtain ⟨a1, a2, a3, a4⟩ := HN6.out
      exact ⟨k + 1, a1, a2, a3, by omega, by omega, by go_num, a4⟩
   ·have hltz : ¬ (k : Int) < (nc : Int) := by omega
    have hke : k = nc := by omega
    subst hke
    have HT1 : Aside (TlAt wb (L4 + 1) L4 (talK r h.beds 0).g (talK r h.beds 0).vs vv nn xx wr ∧ ∀ i, 6 ≤ i → nn i = 0) := by
     have := HT.out.1
     rw [← HN5.out.2, bgK_all] at this
     exact ⟨this, HT.out.2⟩
    have HX3 : Aside (∀ W, Below wb.heap.size wb W → W.heap[L3]? = some (.cells #[.slice ac0 k cc, .int .i64 fr, .int .i64 rr, .bool eq] 42 (0, 0))) := by
     intro W hW
     rw [← HRF.out.1, ← HRF.out.2.1, ← HRF.out.2.2]
     exact (hW.block _ (by rw [HL3.out.2.2.2]; omega)).trans HL3.out.1
    clear HT hk hgk hlt
    go_wp2_with fail
    go_loopg [6, 8] 60 (fun gg s6 s8 wr => ∃ (v : Nat) (vv : Nat → Value) (nn : Nat → Nat) (xx : Nat → List Value), v ≤ 60 ∧ 60 - v ≤ gg ∧ (k = 0 → v = 0) ∧ s6 = .int .i64 ((talK r h.beds v).a : Int) ∧ s8 = .int .i64 (v : Int) ∧ Aside (TlAt wb (L4 + 1) L4 (talK r h.beds v).g (talK r h.beds v).vs vv nn xx wr ∧ ∀ i, 6 ≤ i → nn i = 0))
    case atStart => exact ⟨0, _, _, _, by omega, by omega, fun _ => rfl, rfl, rfl, HT1.out⟩
    case round =>
     clear HT1
     obtain ⟨v, vv, nn, xx, hv, hgv, hv0, rfl, rfl, HT⟩ := hrel
     obtain ⟨ov, hov⟩ : ∃ ov, (talK r h.beds v).g.over = ov := ⟨_, rfl⟩
     have HOV : Aside ((talK r h.beds v).g.over = ov) := hov
     clear hov
     obtain ⟨a0, ha0⟩ : ∃ a0, (talK r h.beds v).a = a0 := ⟨_, rfl⟩
     have HA0 : Aside ((talK r h.beds v).a = a0) := ha0
     rw [ha0]
     clear ha0
     have k7 : wr.cell? ⟨L4, 7, none⟩ = some (.bool ov) := by rw [← HOV.out]; exact blk_cell HT.out.1.leg (i := 7) rfl
     have HVK : Aside (k = 0 → v = 0) := hv0
     have HV6 : Aside (v ≤ 60) := hv
     clear hv0
     by_cases hgo : v < 60 ∧ ov = false ∧ 0 < k
     ·obtain ⟨g1, rfl, g3⟩ := hgo
      have hltz : (v : Int) < 60 := by omega
      have hgt : (k : Int) > 0 := by omega
      obtain ⟨cb, rfl, HCB⟩ : ∃ cb, ac0 = some ⟨cb, 0, none⟩ ∧ Aside (cb < w1.heap.size ∧ ∀ k c, r.counts[k]? = some c → w1.cell? ⟨cb, 0 + k * 3, none⟩ = some (.int .i64 c.1) ∧ w1.cell? ⟨cb, 0 + k * 3 + 1, none⟩ = some (.int .i64 c.2.1) ∧ w1.cell? ⟨cb, 0 + k * 3 + 2, none⟩ = some (.int .i64 c.2.2)) := by
       obtain ⟨cb, e1, e2⟩ := HCC.out g3
       exact ⟨cb, e1, e2⟩
      go_upto_block 3 with (fail)
      go_cut [6] from 55 to 236 (fun s6 wf => ∃ (vv' : Nat → Value) (nn' : Nat → Nat) (xx' : Nat → List Value), s6 = .int .i64 ((talK r h.beds (v + 1)).a : Int) ∧ Aside (TlAt wb (L4 + 1) L4 (talK r h.beds (v + 1)).g (talK r h.beds (v + 1)).vs vv' nn' xx' wf ∧ ∀ i, 6 ≤ i → nn' i = 0))
      case first =>
       as_aux_lemma =>
        rename_i J' K' hJ' hK'
        have hrok : r.Ok := by
         rw [← HRR.out]
         exact hr_ok HBY.out.1 HBY.out.2.1 HBY.out.2.2.2.1 (fun e => by have := HNC.out; rw [e] at this; simp at this; omega)
        have hcw : ∀ (i : Nat) (x : Value), w1.cell? ⟨cb, i, none⟩ = some x → wb.cell? ⟨cb, i, none⟩ = some x := fun i x hx => (cell_blk (HL3.out.2.1.block _ HCB.out.1)).trans hx
        exact tal_b3 (h := h) (r := r) (B0 := B0) (by kernel_rfl) hJ' hK' (by rw [← HB0.out]; exact HBX.out.1) (fun W hW q hq => hbed_any h vs vbd q W (HVS.out.2.below (HBX.out.2.2.2.trans (hW.mono (HBX.out.2.2.2).size))) HBY.out.2.2.2.2 hq HSL.out.1) HBY.out.2.2.2.2 ⟨hrok, HN5.out.2⟩ HL3.out.1 (fun q c hc => ⟨hcw _ _ (HCB.out.2 q c hc).1, hcw _ _ (HCB.out.2 q c hc).2.1, hcw _ _ (HCB.out.2 q c hc).2.2⟩) HA0 HT HOV g1
      case rest =>
       obtain ⟨vv', nn', xx', rfl, HT'⟩ := hcut
       have ek : IntKind.i64.wrap ((v : Int) + 1) = (v : Int) + 1 := IntWalk.i64_in _ (by omega)
       go_wp2_with fail
       go_roundg (60 - (v + 1))
       case measure => omega
       case rel => exact ⟨v + 1, vv', nn', xx', by omega, by omega, fun e => by omega, rfl, by go_num, HT'.out⟩
     ·have HTF : Aside (talK r h.beds v = talF h) := by
       show _ = _
       unfold talF
       rw [HRR.out]
       by_cases hz : hcnt h = []
       ·have : k = 0 := by rw [← HNC.out, hz]; rfl
        rw [if_pos hz, HVK.out this]
       ·rw [if_neg hz]
        have hk0 : 0 < k := by rw [← HNC.out]; exact List.length_pos_iff.2 hz
        by_cases h6 : v = 60
        ·rw [h6]
        ·have ho : ov = true := by
          cases ov with
          | true => rfl
          | false => exact absurd ⟨by have := HV6.out; omega, rfl, hk0⟩ hgo
         exact (tal_at (HOV.out.trans ho) HV6.out).symm
      have HTL : Aside (TlAt wb (L4 + 1) L4 (talF h).g (talF h).vs vv nn xx wr) := by have := HT.out.1; rw [HTF.out] at this; exact this
      obtain ⟨rn, hrn⟩ : ∃ rn, (talF h).g.round = rn := ⟨_, rfl⟩
      have HFN : Aside ((talF h).g.round = rn ∧ (talF h).g.over = ov) := ⟨hrn, by rw [← HTF.out]; exact HOV.out⟩
      clear hrn
      have hleg : wr.heap[L4]? = some (.cells (tlC vv rn ov) 81 (0, 0)) := by have := HTL.out.leg; rw [HFN.out.1, HFN.out.2] at this; exact this
      obtain ⟨A0, C0, E0⟩ := owns_form3 (HTL.out.rows.own 0 (by omega))
      change vv 0 = .slice A0 (nn 0) C0 at E0
      obtain ⟨A1, C1, E1⟩ := owns_form3 (HTL.out.rows.own 1 (by omega))
      change vv 1 = .slice A1 (nn 1) C1 at E1
      obtain ⟨A2, C2, E2⟩ := owns_form3 (HTL.out.rows.own 2 (by omega))
      change vv 2 = .slice A2 (nn 2) C2 at E2
      obtain ⟨A3, C3, E3⟩ := owns_form3 (HTL.out.rows.own 3 (by omega))
      change vv 3 = .slice A3 (nn 3) C3 at E3
      obtain ⟨A4, C4, E4⟩ := owns_form3 (HTL.out.rows.own 4 (by omega))
      change vv 4 = .slice A4 (nn 4) C4 at E4
      obtain ⟨A5, C5, E5⟩ := owns_form3 (HTL.out.rows.own 5 (by omega))
      change vv 5 = .slice A5 (nn 5) C5 at E5
      have k0 : wr.cell? ⟨L4, 0, none⟩ = some (.slice A5 (nn 5) C5) := by rw [← E5]; exact blk_cell hleg rfl
      have k1 : wr.cell? ⟨L4, 1, none⟩ = some (.slice A0 (nn 0) C0) := by rw [← E0]; exact blk_cell hleg rfl
      have k2 : wr.cell? ⟨L4, 2, none⟩ = some (.slice A1 (nn 1) C1) := by rw [← E1]; exact blk_cell hleg rfl
      have k3 : wr.cell? ⟨L4, 3, none⟩ = some (.slice A2 (nn 2) C2) := by rw [← E2]; exact blk_cell hleg rfl
      have k4 : wr.cell? ⟨L4, 4, none⟩ = some (.slice A3 (nn 3) C3) := by rw [← E3]; exact blk_cell hleg rfl
      have k5 : wr.cell? ⟨L4, 5, none⟩ = some (.slice A4 (nn 4) C4) := by rw [← E4]; exact blk_cell hleg rfl
      have k6 : wr.cell? ⟨L4, 6, none⟩ = some (.int .i64 rn) := blk_cell hleg rfl
      have hz1 : wr.heap[B0 + 1]? = some (.cells #[.slice none 0 0, .slice none 0 0, .slice none 0 0, .slice none 0 0, .slice none 0 0, .slice none 0 0, .int .i64 0, .bool false] 81 (0, 0)) := by
       have := HBX.out.2.2.1
       rw [← HB0.out]
       exact (HTL.out.bel.block _ this).trans HBX.out.2.1
      have r0 : wr.cell? ⟨B0 + 1, 0, none⟩ = some (.slice none 0 0) := blk_cell hz1 (i := 0) rfl
      have r1 : wr.cell? ⟨B0 + 1, 1, none⟩ = some (.slice none 0 0) := blk_cell hz1 (i := 1) rfl
      have r2 : wr.cell? ⟨B0 + 1, 2, none⟩ = some (.slice none 0 0) := blk_cell hz1 (i := 2) rfl
      have r3 : wr.cell? ⟨B0 + 1, 3, none⟩ = some (.slice none 0 0) := blk_cell hz1 (i := 3) rfl
      have r4 : wr.cell? ⟨B0 + 1, 4, none⟩ = some (.slice none 0 0) := blk_cell hz1 (i := 4) rfl
      have r5 : wr.cell? ⟨B0 + 1, 5, none⟩ = some (.slice none 0 0) := blk_cell hz1 (i := 5) rfl
      have r6 : wr.cell? ⟨B0 + 1, 6, none⟩ = some (.int .i64 0) := blk_cell hz1 (i := 6) rfl
      have r7 : wr.cell? ⟨B0 + 1, 7, none⟩ = some (.bool false) := blk_cell hz1 (i := 7) rfl
      have rf := blk_free hz1
      have hltB : B0 + 1 < wr.heap.size := (Array.getElem?_eq_some_iff.1 hz1).1
      clear hleg hz1 HT
      have HRES : Aside (∀ W, TlR w (L4 + 1) (talF h).g (talF h).vs vv nn xx W → TaleOk h w (.returned (.agg #[.slice A5 (nn 5) C5, .slice A0 (nn 0) C0, .slice A1 (nn 1) C1, .slice A2 (nn 2) C2, .slice A3 (nn 3) C3, .slice A4 (nn 4) C4, .int .i64 rn, .bool ov])) W) := by
       intro W hW
       exact ⟨L4 + 1, vv, nn, xx, by rw [HFN.out.1, HFN.out.2]; unfold tlC; rw [E0, E1, E2, E3, E4, E5], hW⟩
      clear E0 E1 E2 E3 E4 E5
      have HR0 : Aside (TlR w (L4 + 1) (talF h).g (talF h).vs vv nn xx wr) := HTL.out.res HBX.out.2.2.2
      have HBL : Aside (B0 + 1 < L4 + 1 ∧ w.heap.size ≤ B0 + 1) := by show _ ∧ _; have := HBX.out.2.2.1; have := HL4.out; have := HB0.out; omega
      by_cases h6 : v < 60
      ·have hltz : (v : Int) < 60 := by omega
       cases ov with
       | true =>
        clear hgo h6
        go_wp2_with fail
        refine bodyPost_ret (v := .agg #[.slice A5 (nn 5) C5, .slice A0 (nn 0) C0, .slice A1 (nn 1) C1, .slice A2 (nn 2) C2, .slice A3 (nn 3) C3, .slice A4 (nn 4) C4, .int .i64 rn, .bool true]) (by simp [results, Try.results34, go_sem, hltB, r0, r1, r2, r3, r4, r5, r6, r7, rf]) rfl ?_
        exact HRES.out _ ((((((((HR0.out.setc HBL.out.1 HBL.out.2 _).setc HBL.out.1 HBL.out.2 _).setc HBL.out.1 HBL.out.2 _).setc HBL.out.1 HBL.out.2 _).setc HBL.out.1 HBL.out.2 _).setc HBL.out.1 HBL.out.2 _).setc HBL.out.1 HBL.out.2 _).setc HBL.out.1 HBL.out.2 _)
       | false =>
        have hk0 : ¬ (k : Int) > 0 := by
         intro e
         exact hgo ⟨h6, rfl, by omega⟩
        clear hgo h6
        go_wp2_with fail
        refine bodyPost_ret (v := .agg #[.slice A5 (nn 5) C5, .slice A0 (nn 0) C0, .slice A1 (nn 1) C1, .slice A2 (nn 2) C2, .slice A3 (nn 3) C3, .slice A4 (nn 4) C4, .int .i64 rn, .bool false]) (by simp [results, Try.results34, go_sem, hltB, r0, r1, r2, r3, r4, r5, r6, r7, rf]) rfl ?_
        exact HRES.out _ ((((((((HR0.out.setc HBL.out.1 HBL.out.2 _).setc HBL.out.1 HBL.out.2 _).setc HBL.out.1 HBL.out.2 _).setc HBL.out.1 HBL.out.2 _).setc HBL.out.1 HBL.out.2 _).setc HBL.out.1 HBL.out.2 _).setc HBL.out.1 HBL.out.2 _).setc HBL.out.1 HBL.out.2 _)
      ·have hltz : ¬ (v : Int) < 60 := by omega
       clear hgo h6
       go_wp2_with fail
       refine bodyPost_ret (v := .agg #[.slice A5 (nn 5) C5, .slice A0 (nn 0) C0, .slice A1 (nn 1) C1, .slice A2 (nn 2) C2, .slice A3 (nn 3) C3, .slice A4 (nn 4) C4, .int .i64 rn, .bool ov]) (by simp [results, Try.results34, go_sem, hltB, r0, r1, r2, r3, r4, r5, r6, r7, rf]) rfl ?_
       exact HRES.out _ ((((((((HR0.out.setc HBL.out.1 HBL.out.2 _).setc HBL.out.1 HBL.out.2 _).setc HBL.out.1 HBL.out.2 _).setc HBL.out.1 HBL.out.2 _).setc HBL.out.1 HBL.out.2 _).setc HBL.out.1 HBL.out.2 _).setc HBL.out.1 HBL.out.2 _).setc HBL.out.1 HBL.out.2 _)
end
section
open Go.RowKit Go.Maps Go.Sort Go.Shelf Go.Deep
section
variable {h : Hnd} {w wr w5 : World} {vs vbd : Value} {B0 : Nat}
set_option maxRecDepth 100000 in
set_option maxHeartbeats 16000000 in
theorem nam1 {ops : List Oper} {Q : Exit → Act → World → Prop} {a0 : Act} (hbx : wr.heap[B0]? = some (.cells #[vs, .int .u8 h.gates, .bool h.equal, .int .u8 h.rounds, .int .u8 h.first, vbd] 78 (0, 0))) (X1 : Aside (∀ W, Below wr.heap.size wr W → Calls Try.prog 33 #[.agg #[vs, .int .u8 h.gates, .bool h.equal, .int .u8 h.rounds, .int .u8 h.first, vbd]] W (HRulesOk h W))) (X2 : Aside (∀ W, Below wr.heap.size wr W → Calls Try.prog 34 #[.agg #[vs, .int .u8 h.gates, .bool h.equal, .int .u8 h.rounds, .int .u8 h.first, vbd]] W (TaleOk h W))) (hops : regOps 1 Try.f9 = some ops) (hsz0 : a0.tmps.size = 256) (hs3 : a0.tmps.getD 3 undef = .pointer (some ⟨B0, 0, none⟩))
  (hrest : ∀ (ac : Act) (w5 : World), LaidG ops.toArray a0 (fun (i : Nat) (x : Value) (ww : World) => (match i with | 0 => x = .agg #[vs, .int .u8 h.gates, .bool h.equal, .int .u8 h.rounds, .int .u8 h.first, vbd] | 1 => RulV h x ww | 2 => x = .agg #[vs, .int .u8 h.gates, .bool h.equal, .int .u8 h.rounds, .int .u8 h.first, vbd] | 3 => TalV h wr x ww | 4 => True | 5 => True | _ => True : Prop)) (Cl wr [(⟨4, 6, 7, .cells #[.slice none 0 0, .int .i64 0, .int .i64 0, .bool false] 42 (0, 0), .cells #[.slice none 0 0, .int .i64 0, .int .i64 0, .bool false] 42 (0, 0)⟩ : AS), (⟨5, 7, 8, .cells #[.slice none 0 0, .slice none 0 0, .slice none 0 0, .slice none 0 0, .slice none 0 0, .slice none 0 0, .int .i64 0, .bool false] 81 (0, 0), .cells #[.slice none 0 0, .slice none 0 0, .slice none 0 0, .slice none 0 0, .slice none 0 0, .slice none 0 0, .int .i64 0, .bool false] 81 (0, 0)⟩ : AS)]) #[true, true, true, true, true, true, false, false] ac w5 → wpAny Try.prog .any ops.toArray Q 2 #[true, true, true, true, true, true, false, false] ac w5) : (Code.region 1 ops.toArray true).wp Try.prog Q a0 wr := by
 (conv at hops => lhs; whnf)
 obtain rfl := Option.some.inj hops
 clear hops
 refine region_laidK (fun W W2 => Below W.heap.size W W2) (fl := 16) [true, true, true, true, true, true, false, false] 2 (fun (i : Nat) (x : Value) (ww : World) => (match i with | 0 => x = .agg #[vs, .int .u8 h.gates, .bool h.equal, .int .u8 h.rounds, .int .u8 h.first, vbd] | 1 => RulV h x ww | 2 => x = .agg #[vs, .int .u8 h.gates, .bool h.equal, .int .u8 h.rounds, .int .u8 h.first, vbd] | 3 => TalV h wr x ww | 4 => True | 5 => True | _ => True : Prop)) (Cl wr [(⟨4, 6, 7, .cells #[.slice none 0 0, .int .i64 0, .int .i64 0, .bool false] 42 (0, 0), .cells #[.slice none 0 0, .int .i64 0, .int .i64 0, .bool false] 42 (0, 0)⟩ : AS), (⟨5, 7, 8, .cells #[.slice none 0 0, .slice none 0 0, .slice none 0 0, .slice none 0 0, .slice none 0 0, .slice none 0 0, .int .i64 0, .bool false] 81 (0, 0), .cells #[.slice none 0 0, .slice none 0 0, .slice none 0 0, .slice none 0 0, .slice none 0 0, .slice none 0 0, .int .i64 0, .bool false] 81 (0, 0)⟩ : AS)]) (by kernel_rfl) rfl (by rw [hsz0]; decide +kernel) rfl (Cl.start _ _ _ _) ?mono ?step hrest
 case mono =>
  intro i x ww ww' hB h
  match i, h with
  | 0, h => exact h
  | 1, h => exact (h.below hB)
  | 2, h => exact h
  | 3, h => exact (h.below hB)
  | 4, h => exact h
  | 5, h => exact h
  | n + 6, h => exact h
 case step =>
  intro i o_ listed ac W hA ho hL he hcl hli hsz
  have hk3 : ac.tmps.getD 3 undef = .pointer (some ⟨B0, 0, none⟩) := (hL.kept 3 (by decide +kernel)).trans hs3
  have z0 : W.cell? ⟨B0, 0, none⟩ = some (vs) := keepc hL.cls.1 (blk_cell hbx (i := 0) rfl)
  have z1 : W.cell? ⟨B0, 1, none⟩ = some (.int .u8 h.gates) := keepc hL.cls.1 (blk_cell hbx (i := 1) rfl)
  have z2 : W.cell? ⟨B0, 2, none⟩ = some (.bool h.equal) := keepc hL.cls.1 (blk_cell hbx (i := 2) rfl)
  have z3 : W.cell? ⟨B0, 3, none⟩ = some (.int .u8 h.rounds) := keepc hL.cls.1 (blk_cell hbx (i := 3) rfl)
  have z4 : W.cell? ⟨B0, 4, none⟩ = some (.int .u8 h.first) := keepc hL.cls.1 (blk_cell hbx (i := 4) rfl)
  have z5 : W.cell? ⟨B0, 5, none⟩ = some (vbd) := keepc hL.cls.1 (blk_cell hbx (i := 5) rfl)
  match i, hA, ho with
  | 0, _, ho =>
   cases ho
   refine wpOp_plain rfl rfl ?_
   unfold Oper.wp
   go_simp
   first | exact ⟨_, rfl, Below.refl _ _, Cl.other hL.cls rfl (Below.refl _ _), rfl⟩
  | 1, _, ho =>
   cases ho
   have d0 : ac.tmps.getD 25 undef = .agg #[vs, .int .u8 h.gates, .bool h.equal, .int .u8 h.rounds, .int .u8 h.first, vbd] := hL.new 0 _ 25 rfl (he ⟨0, .data⟩ (by simp) rfl) rfl
   refine wpOp_plain rfl rfl ?_
   unfold Oper.wp
   go_simp
   refine (X1.out _ hL.cls.1).mono ?_
   rintro e w' ⟨hBn, vc, rfl, ho⟩
   exact ⟨_, rfl, hBn, Cl.other hL.cls rfl hBn, ⟨vc, rfl, own_mono ho (Nat.zero_le _)⟩⟩
  | 2, _, ho =>
   cases ho
   refine wpOp_plain rfl rfl ?_
   unfold Oper.wp
   go_simp
   first | exact ⟨_, rfl, Below.refl _ _, Cl.other hL.cls rfl (Below.refl _ _), rfl⟩
  | 3, _, ho =>
   cases ho
   have d2 : ac.tmps.getD 27 undef = .agg #[vs, .int .u8 h.gates, .bool h.equal, .int .u8 h.rounds, .int .u8 h.first, vbd] := hL.new 2 _ 27 rfl (he ⟨2, .data⟩ (by simp) rfl) rfl
   refine wpOp_plain rfl rfl ?_
   unfold Oper.wp
   go_simp
   refine (X2.out _ hL.cls.1).mono ?_
   rintro e w' ⟨Z, vv, nn, xx, rfl, ht⟩
   exact ⟨_, rfl, ht.bel, Cl.other hL.cls rfl ht.bel, ⟨Z, vv, nn, xx, rfl, ht.base hL.cls.1⟩⟩
  | 4, _, ho =>
   cases ho
   have hq : listed.getD 6 false = false := by
    cases hx : listed.getD 6 false with
    | false => rfl
    | true =>
     have h8 := hcl 6 _ rfl hx ⟨4, .data⟩ (by simp) rfl
     simp only [Array.getD_eq_getD_getElem?] at h8 hli
     rw [Array.getElem?_eq_getElem (show 4 < listed.size by rw [hsz]; decide)] at h8 hli
     rw [Option.getD_some] at h8 hli
     rw [h8] at hli
     exact absurd hli (by simp)
   have hBn : Below W.heap.size W (W.alloc (.cells #[.slice none 0 0, .int .i64 0, .int .i64 0, .bool false] 42)) := (Below.refl _ _).alloc (Nat.le_refl _) _
   refine wpOp_plain rfl rfl ?_
   unfold Oper.wp
   go_simp
   have hC := Cl.alloc (⟨4, 6, 7, .cells #[.slice none 0 0, .int .i64 0, .int .i64 0, .bool false] 42 (0, 0), .cells #[.slice none 0 0, .int .i64 0, .int .i64 0, .bool false] 42 (0, 0)⟩ : AS) hL.cls (by simp) (by rw [hL.size, hsz0]; exact (by decide : (7 : Nat) < 256)) hq (by simp) (by intro e' he hne; simp at he; rcases he with rfl | rfl <;> first | exact absurd rfl hne | exact ⟨by simp, by simp, by simp⟩)
   first | exact ⟨_, rfl, hBn, hC, trivial⟩ | exact ⟨_, rfl, hBn, hC⟩ | exact ⟨_, rfl, hC⟩
  | 5, _, ho =>
   cases ho
   have hq : listed.getD 7 false = false := by
    cases hx : listed.getD 7 false with
    | false => rfl
    | true =>
     have h8 := hcl 7 _ rfl hx ⟨5, .data⟩ (by simp) rfl
     simp only [Array.getD_eq_getD_getElem?] at h8 hli
     rw [Array.getElem?_eq_getElem (show 5 < listed.size by rw [hsz]; decide)] at h8 hli
     rw [Option.getD_some] at h8 hli
     rw [h8] at hli
     exact absurd hli (by simp)
   have hBn : Below W.heap.size W (W.alloc (.cells #[.slice none 0 0, .slice none 0 0, .slice none 0 0, .slice none 0 0, .slice none 0 0, .slice none 0 0, .int .i64 0, .bool false] 81)) := (Below.refl _ _).alloc (Nat.le_refl _) _
   refine wpOp_plain rfl rfl ?_
   unfold Oper.wp
   go_simp
   have hC := Cl.alloc (⟨5, 7, 8, .cells #[.slice none 0 0, .slice none 0 0, .slice none 0 0, .slice none 0 0, .slice none 0 0, .slice none 0 0, .int .i64 0, .bool false] 81 (0, 0), .cells #[.slice none 0 0, .slice none 0 0, .slice none 0 0, .slice none 0 0, .slice none 0 0, .slice none 0 0, .int .i64 0, .bool false] 81 (0, 0)⟩ : AS) hL.cls (by simp) (by rw [hL.size, hsz0]; exact (by decide : (8 : Nat) < 256)) hq (by simp) (by intro e' he hne; simp at he; rcases he with rfl | rfl <;> first | exact absurd rfl hne | exact ⟨by simp, by simp, by simp⟩)
   first | exact ⟨_, rfl, hBn, hC, trivial⟩ | exact ⟨_, rfl, hBn, hC⟩ | exact ⟨_, rfl, hC⟩
  | 6, hA, _ => cases hA
  | 7, hA, _ => cases hA
  | n + 8, hA, _ => simp at hA
end
section
variable {wr w5 : World} {g10 dl c3 : Nat} {a3 : Option Addr} {p : Int} {bs : List Int}
set_option maxRecDepth 100000 in
set_option maxHeartbeats 16000000 in
theorem nam6 {ops : List Oper} {Q : Exit → Act → World → Prop} {a0 : Act} (k0 : wr.cell? ⟨g10, 0, none⟩ = some (.int .i64 p)) (k1 : wr.cell? ⟨g10, 1, none⟩ = some (.slice a3 dl c3)) (HXS : Aside (Sl wr 1 eI (.slice a3 dl c3) bs)) (HDL : Aside (bs.length = dl ∧ 0 < dl ∧ dl ≤ 6)) (hops : regOps 6 Try.f9 = some ops) (hsz0 : a0.tmps.size = 256) (hs10 : a0.tmps.getD 10 undef = .pointer (some ⟨g10, 0, none⟩))
  (hrest : ∀ (ac : Act) (w5 : World), LaidG ops.toArray a0 (fun (i : Nat) (x : Value) (ww : World) => (match i with | 0 => x = .pointer (some ⟨g10, 0, none⟩) | 1 => x = .int .i64 p | 2 => NilO wr.heap.size x ww | 3 => x = .pointer (some ⟨g10, 1, none⟩) | 4 => x = .slice a3 dl c3 | 5 => OwnB wr.heap.size bs x ww | 6 => AggO wr.heap.size p bs x ww | 7 => True | _ => True : Prop)) (Cl wr [(⟨7, 8, 11, .cells #[.int .i64 0, .slice none 0 0] 84 (0, 0), .cells #[.int .i64 0, .slice none 0 0] 84 (0, 0)⟩ : AS)]) #[true, true, true, true, true, true, true, true, false, false, false] ac w5 → wpAny Try.prog .any ops.toArray Q 3 #[true, true, true, true, true, true, true, true, false, false, false] ac w5) : (Code.region 6 ops.toArray true).wp Try.prog Q a0 wr := by
 (conv at hops => lhs; whnf)
 obtain rfl := Option.some.inj hops
 clear hops
 obtain ⟨j0, hj0, jz0, jz1, jz2⟩ := info_parts info_bedD
 refine region_laidK (fun W W2 => Below W.heap.size W W2) (fl := 16) [true, true, true, true, true, true, true, true, false, false, false] 3 (fun (i : Nat) (x : Value) (ww : World) => (match i with | 0 => x = .pointer (some ⟨g10, 0, none⟩) | 1 => x = .int .i64 p | 2 => NilO wr.heap.size x ww | 3 => x = .pointer (some ⟨g10, 1, none⟩) | 4 => x = .slice a3 dl c3 | 5 => OwnB wr.heap.size bs x ww | 6 => AggO wr.heap.size p bs x ww | 7 => True | _ => True : Prop)) (Cl wr [(⟨7, 8, 11, .cells #[.int .i64 0, .slice none 0 0] 84 (0, 0), .cells #[.int .i64 0, .slice none 0 0] 84 (0, 0)⟩ : AS)]) (by kernel_rfl) rfl (by rw [hsz0]; decide +kernel) rfl (Cl.start _ _ _ _) ?mono ?step hrest
 case mono =>
  intro i x ww ww' hB h
  match i, h with
  | 0, h => exact h
  | 1, h => exact h
  | 2, h => exact (h.below hB)
  | 3, h => exact h
  | 4, h => exact h
  | 5, h => exact (h.below hB)
  | 6, h => exact (h.below hB)
  | 7, h => exact h
  | n + 8, h => exact h
 case step =>
  intro i o_ listed ac W hA ho hL he hcl hli hsz
  have hk10 : ac.tmps.getD 10 undef = .pointer (some ⟨g10, 0, none⟩) := (hL.kept 10 (by decide +kernel)).trans hs10
  have z0 := keepc hL.cls.1 k0
  have z1 := keepc hL.cls.1 k1
  match i, hA, ho with
  | 0, _, ho =>
   cases ho
   refine wpOp_plain rfl rfl ?_
   unfold Oper.wp
   go_simp
   first | exact ⟨_, rfl, Below.refl _ _, Cl.other hL.cls rfl (Below.refl _ _), rfl⟩
  | 1, _, ho =>
   cases ho
   have d0 : ac.tmps.getD 51 undef = .pointer (some ⟨g10, 0, none⟩) := hL.new 0 _ 51 rfl (he ⟨0, .data⟩ (by simp) rfl) rfl
   refine wpOp_plain rfl rfl ?_
   unfold Oper.wp
   go_simp
   first | exact ⟨_, rfl, Below.refl _ _, Cl.other hL.cls rfl (Below.refl _ _), rfl⟩
  | 2, _, ho =>
   cases ho
   have hBn : Below W.heap.size W (W.alloc (.cells #[] 34)) := (Below.refl _ _).alloc (Nat.le_refl _) _
   refine wpOp_plain rfl rfl ?_
   unfold Oper.wp
   go_simp
   have hD : ∃ g, (Value.slice (some ⟨W.heap.size, 0, none⟩) 0 0) = .slice (some ⟨g, 0, none⟩) 0 0 ∧ wr.heap.size ≤ g ∧ (W.alloc (.cells #[] 34)).heap[g]? = some (.cells #[] 34 (0, 0)) := ⟨_, rfl, hL.cls.1.size, World.alloc_heap_new _ _⟩
   first | exact ⟨_, rfl, hBn, Cl.other hL.cls rfl hBn, hD⟩ | exact ⟨_, rfl, Cl.other (i := 2) (t := 53) hL.cls rfl hBn, hD⟩ | exact ⟨Cl.other (i := 2) (t := 53) hL.cls rfl hBn, hD⟩
  | 3, _, ho =>
   cases ho
   refine wpOp_plain rfl rfl ?_
   unfold Oper.wp
   go_simp
   first | exact ⟨_, rfl, Below.refl _ _, Cl.other hL.cls rfl (Below.refl _ _), rfl⟩
  | 4, _, ho =>
   cases ho
   have d3 : ac.tmps.getD 54 undef = .pointer (some ⟨g10, 1, none⟩) := hL.new 3 _ 54 rfl (he ⟨3, .data⟩ (by simp) rfl) rfl
   refine wpOp_plain rfl rfl ?_
   unfold Oper.wp
   go_simp
   first | exact ⟨_, rfl, Below.refl _ _, Cl.other hL.cls rfl (Below.refl _ _), rfl⟩
  | 5, _, ho =>
   cases ho
   obtain ⟨x2, hx2⟩ : ∃ x, ac.tmps.getD 53 undef = x := ⟨_, rfl⟩
   have d2 := hL.new 2 _ 53 rfl (he ⟨2, .data⟩ (by simp) rfl) rfl
   rw [hx2] at d2
   have d4 : ac.tmps.getD 55 undef = .slice a3 dl c3 := hL.new 4 _ 55 rfl (he ⟨4, .data⟩ (by simp) rfl) rfl
   obtain ⟨g, rfl, hgB, hg⟩ := d2
   refine wpOp_plain rfl rfl ?_
   refine wp_append_fresh_own W (.tmp 53) (.tmp 55) 27 rfl 34 j0 (.int .i64 0) 1 8 Try.underlying27 hj0 jz0 jz1 jz2 rfl (by decide) g hg (by rw [← hx2]; rfl) (vy := .slice a3 dl c3) (ys := bs) (enc := eI) d4 (HXS.out.below hL.cls.1) (fun _ => rfl) (eI_all bs) (by have := HDL.out; unfold maxLen; omega) (by have := HDL.out; omega) (by intro e0; have := HDL.out; rw [e0] at this; simp at this; omega) hgB ?_
   intro v' w' hown hrow hBn
   exact ⟨_, rfl, hBn, Cl.other hL.cls rfl hBn, ⟨hown, hrow⟩⟩
  | 6, _, ho =>
   cases ho
   have d1 : ac.tmps.getD 52 undef = .int .i64 p := hL.new 1 _ 52 rfl (he ⟨1, .data⟩ (by simp) rfl) rfl
   obtain ⟨x5, hx5⟩ : ∃ x, ac.tmps.getD 56 undef = x := ⟨_, rfl⟩
   have d5 := hL.new 5 _ 56 rfl (he ⟨5, .data⟩ (by simp) rfl) rfl
   rw [hx5] at d5
   have dq1 : ac.tmps[52]?.getD undef = .int .i64 p := by rw [← Array.getD_eq_getD_getElem?]; exact d1
   have dq2 : ac.tmps[56]?.getD undef = x5 := by rw [← Array.getD_eq_getD_getElem?]; exact hx5
   have dq3 : OwnB wr.heap.size bs x5 W := d5
   clear d5
   obtain ⟨u1, u2, rfl⟩ := owns_sl dq3.1
   refine wpOp_plain rfl rfl ?_
   unfold Oper.wp
   go_simp
   exact ⟨_, rfl, Below.refl _ _, Cl.other hL.cls rfl (Below.refl _ _), ⟨_, rfl, dq3⟩⟩
  | 7, _, ho =>
   cases ho
   have hq : listed.getD 8 false = false := by
    cases hx : listed.getD 8 false with
    | false => rfl
    | true =>
     have h8 := hcl 8 _ rfl hx ⟨7, .data⟩ (by simp) rfl
     simp only [Array.getD_eq_getD_getElem?] at h8 hli
     rw [Array.getElem?_eq_getElem (show 7 < listed.size by rw [hsz]; decide)] at h8 hli
     rw [Option.getD_some] at h8 hli
     rw [h8] at hli
     exact absurd hli (by simp)
   have hBn : Below W.heap.size W (W.alloc (.cells #[.int .i64 0, .slice none 0 0] 84)) := (Below.refl _ _).alloc (Nat.le_refl _) _
   refine wpOp_plain rfl rfl ?_
   unfold Oper.wp
   go_simp
   have hC := Cl.alloc (⟨7, 8, 11, .cells #[.int .i64 0, .slice none 0 0] 84 (0, 0), .cells #[.int .i64 0, .slice none 0 0] 84 (0, 0)⟩ : AS) hL.cls (by simp) (by rw [hL.size, hsz0]; exact (by decide : (11 : Nat) < 256)) hq (by simp) (by intro e' he hne; simp at he; rcases he with rfl <;> first | exact absurd rfl hne | exact ⟨by simp, by simp, by simp⟩)
   first | exact ⟨_, rfl, hBn, hC, trivial⟩ | exact ⟨_, rfl, hBn, hC⟩ | exact ⟨_, rfl, hC⟩
  | 8, hA, _ => cases hA
  | 9, hA, _ => cases hA
  | 10, hA, _ => cases hA
  | n + 11, hA, _ => simp at hA
end
end
section
open Go.RowKit Go.Maps Go.Sort Go.Shelf Go.Deep
section
variable {wr w5 : World} {g8 g11 gu nu cu b m cv i0 : Nat} {bp : Int} {lvp : List (Int × Value × List Int)} {lp : List (Int × List Int)}
set_option maxRecDepth 100000 in
set_option maxHeartbeats 16000000 in
theorem nam22 {ops : List Oper} {Q : Exit → Act → World → Prop} {a0 : Act} (k0 : wr.cell? ⟨g8, 0, none⟩ = some (.slice (some ⟨b, 0, none⟩) m cv)) (X1 : Aside (∀ W, Below wr.heap.size wr W → Calls Try.prog 20 #[.slice (some ⟨b, 0, none⟩) i0 cv] W (VisitsOw lvp W))) (HLP : Aside (lvp.map prV = lp)) (q0 : wr.cell? ⟨g11, 0, none⟩ = some (.int .i64 bp)) (q1 : wr.cell? ⟨g11, 1, none⟩ = some (.slice (some ⟨gu, 0, none⟩) nu cu)) (hi0 : (0 : Int) ≤ (i0 : Int)) (hic : i0 ≤ cv) (hicz : (i0 : Int) ≤ (cv : Int)) (hops : regOps 22 Try.f9 = some ops) (hsz0 : a0.tmps.size = 256) (hs8 : a0.tmps.getD 8 undef = .pointer (some ⟨g8, 0, none⟩)) (hs9 : a0.tmps.getD 9 undef = .int .i64 (i0 : Int)) (hs11 : a0.tmps.getD 11 undef = .pointer (some ⟨g11, 0, none⟩))
  (hrest : ∀ (ac : Act) (w5 : World), LaidG ops.toArray a0 (fun (i : Nat) (x : Value) (ww : World) => (match i with | 0 => x = .pointer (some ⟨g8, 0, none⟩) | 1 => x = .slice (some ⟨b, 0, none⟩) m cv | 2 => x = .int .i64 (i0 : Int) | 3 => x = .slice (some ⟨b, 0, none⟩) i0 cv | 4 => VisO wr.heap.size lp x ww | 5 => x = .agg #[.int .i64 bp, .slice (some ⟨gu, 0, none⟩) nu cu] | 6 => OneW bp (.slice (some ⟨gu, 0, none⟩) nu cu) x ww | _ => True : Prop)) (fun (_ : Array Bool) (_ : Act) (w2_ : World) => Below wr.heap.size wr w2_) #[true, true, true, true, true, true, true, false, false] ac w5 → wpAny Try.prog .any ops.toArray Q 2 #[true, true, true, true, true, true, true, false, false] ac w5) : (Code.region 22 ops.toArray true).wp Try.prog Q a0 wr := by
 (conv at hops => lhs; whnf)
 obtain rfl := Option.some.inj hops
 clear hops
 refine region_laidK (fun W W2 => Below W.heap.size W W2) (fl := 16) [true, true, true, true, true, true, true, false, false] 2 (fun (i : Nat) (x : Value) (ww : World) => (match i with | 0 => x = .pointer (some ⟨g8, 0, none⟩) | 1 => x = .slice (some ⟨b, 0, none⟩) m cv | 2 => x = .int .i64 (i0 : Int) | 3 => x = .slice (some ⟨b, 0, none⟩) i0 cv | 4 => VisO wr.heap.size lp x ww | 5 => x = .agg #[.int .i64 bp, .slice (some ⟨gu, 0, none⟩) nu cu] | 6 => OneW bp (.slice (some ⟨gu, 0, none⟩) nu cu) x ww | _ => True : Prop)) (fun (_ : Array Bool) (_ : Act) (w2_ : World) => Below wr.heap.size wr w2_) (by kernel_rfl) rfl (by rw [hsz0]; decide +kernel) rfl ((Below.refl _ _).drew) ?mono ?step hrest
 case mono =>
  intro i x ww ww' hB h
  match i, h with
  | 0, h => exact h
  | 1, h => exact h
  | 2, h => exact h
  | 3, h => exact h
  | 4, h => exact (h.below hB)
  | 5, h => exact h
  | 6, h => exact (h.below hB)
  | n + 7, h => exact h
 case step =>
  intro i o_ listed ac W hA ho hL he hcl hli hsz
  have hk8 : ac.tmps.getD 8 undef = .pointer (some ⟨g8, 0, none⟩) := (hL.kept 8 (by decide +kernel)).trans hs8
  have hk9 : ac.tmps.getD 9 undef = .int .i64 (i0 : Int) := (hL.kept 9 (by decide +kernel)).trans hs9
  have hk11 : ac.tmps.getD 11 undef = .pointer (some ⟨g11, 0, none⟩) := (hL.kept 11 (by decide +kernel)).trans hs11
  have CL : ∀ W', Below W.heap.size W W' → Below wr.heap.size wr W' := fun W' h => hL.cls.trans (h.mono hL.cls.size)
  have z0 := keepc hL.cls k0
  have z1 := keepc hL.cls q0
  have z2 := keepc hL.cls q1
  match i, hA, ho with
  | 0, _, ho =>
   cases ho
   refine wpOp_plain rfl rfl ?_
   unfold Oper.wp
   go_simp
   exact ⟨_, rfl, Below.refl _ _, hL.cls, rfl⟩
  | 1, _, ho =>
   cases ho
   have d0 : ac.tmps.getD 123 undef = .pointer (some ⟨g8, 0, none⟩) := hL.new 0 _ 123 rfl (he ⟨0, .data⟩ (by simp) rfl) rfl
   refine wpOp_plain rfl rfl ?_
   unfold Oper.wp
   go_simp
   exact ⟨_, rfl, Below.refl _ _, hL.cls, rfl⟩
  | 2, _, ho =>
   cases ho
   refine wpOp_plain rfl rfl ?_
   unfold Oper.wp
   go_simp
   exact ⟨_, rfl, Below.refl _ _, hL.cls, rfl⟩
  | 3, _, ho =>
   cases ho
   have d1 : ac.tmps.getD 124 undef = .slice (some ⟨b, 0, none⟩) m cv := hL.new 1 _ 124 rfl (he ⟨1, .data⟩ (by simp) rfl) rfl
   have d2 : ac.tmps.getD 125 undef = .int .i64 (i0 : Int) := hL.new 2 _ 125 rfl (he ⟨2, .data⟩ (by simp) rfl) rfl
   refine wpOp_plain rfl rfl ?_
   unfold Oper.wp
   go_simp
   exact ⟨_, rfl, Below.refl _ _, hL.cls, rfl⟩
  | 4, _, ho =>
   cases ho
   have d3 : ac.tmps.getD 126 undef = .slice (some ⟨b, 0, none⟩) i0 cv := hL.new 3 _ 126 rfl (he ⟨3, .data⟩ (by simp) rfl) rfl
   refine wpOp_plain rfl rfl ?_
   unfold Oper.wp
   go_simp
   refine (X1.out _ hL.cls).mono ?_
   rintro e w' ⟨hBn, v', lv', rfl, h1, h2, h3⟩
   exact ⟨_, rfl, hBn, CL _ hBn, ⟨lv', own_mono h1 hL.cls.size, h2, h3.trans HLP.out⟩⟩
  | 5, _, ho =>
   cases ho
   refine wpOp_plain rfl rfl ?_
   unfold Oper.wp
   go_simp
   exact ⟨_, rfl, Below.refl _ _, hL.cls, rfl⟩
  | 6, _, ho =>
   cases ho
   have d5 : ac.tmps.getD 128 undef = .agg #[.int .i64 bp, .slice (some ⟨gu, 0, none⟩) nu cu] := hL.new 5 _ 128 rfl (he ⟨5, .data⟩ (by simp) rfl) rfl
   simp only [Array.getD_eq_getD_getElem?] at d5
   have hBn : Below W.heap.size W (W.alloc (.cells #[.int .i64 bp, .slice (some ⟨gu, 0, none⟩) nu cu] 84)) := (Below.refl _ _).alloc (Nat.le_refl _) _
   have hD : ∃ g, (Value.slice (some ⟨W.heap.size, 0, none⟩) 1 1) = .slice (some ⟨g, 0, none⟩) 1 1 ∧ (W.alloc (.cells #[.int .i64 bp, .slice (some ⟨gu, 0, none⟩) nu cu] 84)).heap[g]? = some (.cells #[.int .i64 bp, .slice (some ⟨gu, 0, none⟩) nu cu] 84 (0, 0)) := ⟨_, rfl, World.alloc_heap_new _ _⟩
   refine wpOp_plain rfl rfl ?_
   unfold Oper.wp
   go_simp
   first | exact ⟨_, rfl, hBn, CL _ hBn, hD⟩ | exact ⟨_, rfl, CL _ hBn, hD⟩ | exact ⟨CL _ hBn, hD⟩ | exact ⟨_, rfl, hD⟩ | exact hD
  | 7, hA, _ => cases hA
  | 8, hA, _ => cases hA
  | n + 9, hA, _ => simp at hA
end
end
end Go.Proofs.Ytpgamgbfjcmagaa
