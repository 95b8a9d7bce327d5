/- Leg: parts Is, Kf. -/
import Derived.Deep.DeepCutAuto
import Derived.Deep.CutBlock
import Derived.Test.YtnhjoebdmmelaaaMax
import Derived.Test.YtnhjoebdmmelaaaMav
import Derived.Test.YtnhjoebdmmelaaaMao
import Derived.Test.YtnhjoebdmmelaaaMaw
set_option linter.unusedVariables false
set_option linter.unusedSimpArgs false
namespace Go.Proofs.Ytnhjoebdmmelaaa
section
open Go.RowKit Go.Maps Go.Sort Go.Shelf Go.Deep
set_option maxRecDepth 100000 in
set_option maxHeartbeats 16000000 in
theorem tale_any (h : Hnd) (vs vbd : Value) (w : World) (hv : Sl w 1 eU16 vs h.starts) (h16 : ∀ x ∈ h.starts, 0 ≤ x ∧ x ≤ 65535) (hg8 : 0 ≤ h.gates ∧ h.gates ≤ 255) (hr8 : 0 ≤ h.rounds ∧ h.rounds ≤ 255) (hf8 : 0 ≤ h.first ∧ h.first ≤ 255) (hb : Sl w 1 eU8 vbd h.beds) (hb8 : ∀ x ∈ h.beds, 0 ≤ x ∧ x ≤ 255) :
  Calls Try.prog 34 #[hndV h vs vbd] w (TaleOk h w) := by
 have HVS : Aside (Sl w 1 eU16 vs h.starts ∧ Sl w 1 eU8 vbd h.beds) := ⟨hv, hb⟩
 have HBY : Aside ((∀ x ∈ h.starts, 0 ≤ x ∧ x ≤ 65535) ∧ (0 ≤ h.gates ∧ h.gates ≤ 255) ∧ (0 ≤ h.rounds ∧ h.rounds ≤ 255) ∧ (0 ≤ h.first ∧ h.first ≤ 255) ∧ (∀ x ∈ h.beds, 0 ≤ x ∧ x ≤ 255)) := ⟨h16, hg8, hr8, hf8, hb8⟩
 have HSL : Aside ((∃ a n c, vs = .slice a n c) ∧ (∃ a n c, vbd = .slice a n c)) := by
  obtain ⟨a, c, e, -, -⟩ := hv
  obtain ⟨a', c', e', -, -⟩ := hb
  exact ⟨⟨_, _, _, e⟩, ⟨_, _, _, e'⟩⟩
 clear hv hb h16 hg8 hr8 hf8 hb8
 unfold hndV
 go_enter Try.func34, Try.ntmps34
 go_upto_region 1 with (fail)
 obtain ⟨wa, hwa⟩ : ∃ u, u = (w.alloc (.cells #[vs, .int .u8 h.gates, .bool h.equal, .int .u8 h.rounds, .int .u8 h.first, vbd] 78)).alloc (.cells #[.slice none 0 0, .slice none 0 0, .slice none 0 0, .slice none 0 0, .slice none 0 0, .slice none 0 0, .int .i64 0, .bool false] 81) := ⟨_, rfl⟩
 rw [← hwa]
 have HWA : Aside (wa.heap[w.heap.size]? = some (.cells #[vs, .int .u8 h.gates, .bool h.equal, .int .u8 h.rounds, .int .u8 h.first, vbd] 78 (0, 0)) ∧ wa.heap[w.heap.size + 1]? = some (.cells #[.slice none 0 0, .slice none 0 0, .slice none 0 0, .slice none 0 0, .slice none 0 0, .slice none 0 0, .int .i64 0, .bool false] 81 (0, 0)) ∧ Below w.heap.size w wa ∧ wa.heap.size = w.heap.size + 2) := by
  rw [hwa]
  refine ⟨?_, World.alloc_heap_new' _ _ _ (by simp), by (repeat' (first | exact Below.refl _ _ | assumption | (with_reducible refine Below.drew ?_) | (with_reducible refine Below.setCell ?_ (by (first | (simp; done) | (simp; omega))) _) | (with_reducible refine below_drewN' ?_ _) | (refine Below.alloc ?_ (by (try simp only [World.size_alloc, World.size_drew, World.size_setCell]); omega) _) | (refine Below.trans ?_ (Below.mono (by assumption) (by (try simp only [World.size_alloc, World.size_drew, World.size_setCell]); omega))))), by simp⟩
  exact (Below.heap_alloc _ _ _ (by simp)).trans (World.alloc_heap_new _ _)
 have b0 := blk_cell HWA.out.1 (i := 0) rfl
 have b1 := blk_cell HWA.out.1 (i := 1) rfl
 have b2 := blk_cell HWA.out.1 (i := 2) rfl
 have b3 := blk_cell HWA.out.1 (i := 3) rfl
 have b4 := blk_cell HWA.out.1 (i := 4) rfl
 have b5 := blk_cell HWA.out.1 (i := 5) rfl
 clear hwa
 go_wp2_with fail
 refine (hrules_any h vs vbd wa (HVS.out.1.below HWA.out.2.2.1) HBY.out.1 HBY.out.2.1 HBY.out.2.2.1 HBY.out.2.2.2.1 HSL.out.2).mono ?_
 rintro e w1 ⟨hb1, vc, rfl, ho1⟩
 obtain ⟨nc, hnc⟩ : ∃ nc, (hcnt h).length = nc := ⟨_, rfl⟩
 have HNC : Aside ((hcnt h).length = nc) := hnc
 rw [hnc] at ho1
 clear hnc b0 b1 b2 b3 b4 b5
 obtain ⟨ac0, cc, rfl⟩ := owns_form3 ho1
 obtain ⟨r, hr⟩ : ∃ r, hrulesF h = r := ⟨_, rfl⟩
 have HRR : Aside (hrulesF h = r) := hr
 rw [hr]
 clear hr
 have HCC : Aside (0 < nc → ∃ cb, ac0 = some ⟨cb, 0, none⟩ ∧ cb < w1.heap.size ∧ ∀ k c, r.counts[k]? = some c → w1.cell? ⟨cb, 0 + k * 3, none⟩ = some (.int .i64 c.1) ∧ w1.cell? ⟨cb, 0 + k * 3 + 1, none⟩ = some (.int .i64 c.2.1) ∧ w1.cell? ⟨cb, 0 + k * 3 + 2, none⟩ = some (.int .i64 c.2.2)) := by
  intro h0
  obtain ⟨cb, cc', e1, e2, e3⟩ := cnt_cells ho1 HNC.out.symm h0
  simp only [Value.slice.injEq, true_and] at e1
  refine ⟨cb, e1.1, e2, fun k c hk => e3 k c ?_⟩
  rw [← HRR.out] at hk; exact hk
 have HB1 : Aside (Below wa.heap.size wa w1) := hb1
 obtain ⟨fr, hfr⟩ : ∃ x, r.first = x := ⟨_, rfl⟩
 obtain ⟨rr, hrr⟩ : ∃ x, r.rounds = x := ⟨_, rfl⟩
 obtain ⟨eq, heq⟩ : ∃ x, r.equal = x := ⟨_, rfl⟩
 have HRF : Aside (r.first = fr ∧ r.rounds = rr ∧ r.equal = eq) := ⟨hfr, hrr, heq⟩
 unfold legRV
 rw [hfr, hrr, heq]
 clear hfr hrr heq ho1 hb1
 dsimp only
 go_upto_region 2 with (fail)
 obtain ⟨wb, hwb⟩ : ∃ u, u = w1.alloc (.cells #[.slice ac0 nc cc, .int .i64 fr, .int .i64 rr, .bool eq] 42) := ⟨_, rfl⟩
 rw [← hwb]
 obtain ⟨L3, hL3⟩ : ∃ L3, w1.heap.size = L3 := ⟨_, rfl⟩
 have HL3 : Aside (wb.heap[L3]? = some (.cells #[.slice ac0 nc cc, .int .i64 r.first, .int .i64 r.rounds, .bool r.equal] 42 (0, 0)) ∧ Below w1.heap.size w1 wb ∧ w1.heap.size = L3 ∧ wb.heap.size = L3 + 1) := by
  rw [HRF.out.1, HRF.out.2.1, HRF.out.2.2, hwb, ← hL3]
  exact ⟨World.alloc_heap_new _ _, (Below.refl _ _).alloc (Nat.le_refl _) _, rfl, by simp⟩
 rw [hL3]
 have HBW : Aside (Below wa.heap.size wa wb) := HB1.out.trans (HL3.out.2.1.mono HB1.out.size)
 have HBX : Aside (wb.heap[w.heap.size]? = some (.cells #[vs, .int .u8 h.gates, .bool h.equal, .int .u8 h.rounds, .int .u8 h.first, vbd] 78 (0, 0)) ∧ wb.heap[w.heap.size + 1]? = some (.cells #[.slice none 0 0, .slice none 0 0, .slice none 0 0, .slice none 0 0, .slice none 0 0, .slice none 0 0, .int .i64 0, .bool false] 81 (0, 0)) ∧ w.heap.size + 1 < wb.heap.size ∧ Below w.heap.size w wb) := by
  have h1 := HBW.out.size
  have h2 := HWA.out.2.2.2
  exact ⟨(HBW.out.block _ (by omega)).trans HWA.out.1, (HBW.out.block _ (by omega)).trans HWA.out.2.1, by omega, HWA.out.2.2.1.trans (HBW.out.mono (by omega))⟩
 obtain ⟨B0, hB0⟩ : ∃ B0, w.heap.size = B0 := ⟨_, rfl⟩
 have HB0 : Aside (w.heap.size = B0) := hB0
 rw [hB0]
 clear hwb hL3 hB0
 have kc : wb.cell? ⟨L3, 0, none⟩ = some (.slice ac0 nc cc) := blk_cell HL3.out.1 rfl
 refine tal2 kc (by kernel_rfl) (by rfl) (by rfl) ?rest2
 case rest2 =>
  intro ac w2 hL
  have e18 : ac.tmps.getD 18 undef = .agg #[.slice none 0 0, .slice none 0 0, .slice none 0 0, .slice none 0 0, .slice none 0 0, .slice none 0 0, .int .i64 0, .bool false] := hL.new 0 _ 18 rfl rfl rfl
  have e19 : ac.tmps.getD 19 undef = .pointer (some ⟨L3, 0, none⟩) := hL.new 1 _ 19 rfl rfl rfl
  have e20 : ac.tmps.getD 20 undef = .slice ac0 nc cc := hL.new 2 _ 20 rfl rfl rfl
  have e21 : ac.tmps.getD 21 undef = .int .i64 (nc : Int) := hL.new 3 _ 21 rfl rfl rfl
  obtain ⟨hb2, hAF, -⟩ := hL.cls
  obtain ⟨L4, e4, L4a, L4b, L4c⟩ := hAF _ (List.mem_cons_self ..) rfl
  change ac.tmps.getD 4 undef = _ at e4
  have x4 : w2.heap[L4]? = some (.cells #[.slice none 0 0, .slice none 0 0, .slice none 0 0, .slice none 0 0, .slice none 0 0, .slice none 0 0, .int .i64 0, .bool false] 81 (0, 0)) := L4c
  have e5 : ac.tmps.getD 5 undef = .int .i64 (nc : Int) := hL.new 6 _ 5 rfl rfl rfl
  have e6 : ac.tmps.getD 6 undef = .int .i64 0 := hL.new 7 _ 6 rfl rfl rfl
  have es_ := hL.sets [18, 19, 20, 21, 4, 5, 6] (by decide +kernel)
  rw [List.foldl_cons, List.foldl_cons, List.foldl_cons, List.foldl_cons, List.foldl_cons, List.foldl_cons, List.foldl_cons, List.foldl_nil, e18, e19, e20, e21, e4, e5, e6] at es_
  rw [es_]
  clear es_ hL e18 e19 e20 e21 e4 e5 e6
  have HT0 : Aside (TlAt wb (L4 + 1) L4 (bgK r 0) [] nilV (fun _ => 0) (fun _ => []) w2) := tl_start hb2 L4a x4
  clear hb2 hAF L4b L4c x4 kc
  have HL4 : Aside (wb.heap.size ≤ L4) := L4a
  clear L4a
  have HN5 : Aside (nc ≤ 5 ∧ r.counts.length = nc) := by
   refine ⟨?_, ?_⟩
   ·rw [← HNC.out, hcnt_len]; omega
   ·rw [← HRR.out]; exact HNC.out
  refine wpAny_done (by decide +kernel) ?_ _
  simp only [List.setIfInBounds_toArray, List.set_cons_zero, List.set_cons_succ]
  go_wp2_with fail
  go_loopg [7] nc (fun gg s7 wr => ∃ (k : Nat) (vv : Nat → Value) (nn : Nat → Nat) (xx : Nat → List Value), k ≤ nc ∧ nc - k ≤ gg ∧ s7 = .int .i64 (k : Int) ∧ Aside (TlAt wb (L4 + 1) L4 (bgK r k) [] vv nn xx wr ∧ ∀ i, 6 ≤ i → nn i = 0))
  case atStart => exact ⟨0, _, _, _, by omega, by omega, rfl, HT0.out, fun _ _ => rfl⟩
  case round =>
   clear HT0
   obtain ⟨k, vv, nn, xx, hk, hgk, rfl, HT⟩ := hrel
   by_cases hlt : k < nc
   ·have hltz : (k : Int) < (nc : Int) := by omega
    obtain ⟨cb, rfl, HCB⟩ : ∃ cb, ac0 = some ⟨cb, 0, none⟩ ∧ Aside (cb < w1.heap.size ∧ ∀ k c, r.counts[k]? = some c → w1.cell? ⟨cb, 0 + k * 3, none⟩ = some (.int .i64 c.1) ∧ w1.cell? ⟨cb, 0 + k * 3 + 1, none⟩ = some (.int .i64 c.2.1) ∧ w1.cell? ⟨cb, 0 + k * 3 + 2, none⟩ = some (.int .i64 c.2.2)) := by
     obtain ⟨cb, e1, e2⟩ := HCC.out (by omega)
     exact ⟨cb, e1, e2⟩
    obtain ⟨⟨c1, c2, c3⟩, hx⟩ : ∃ c, r.counts[k]? = some c := ⟨_, List.getElem?_eq_getElem (by rw [HN5.out.2]; exact hlt)⟩
    have HX : Aside (r.counts[k]? = some (c1, c2, c3)) := hx
    have hB := HL3.out.2.1.trans (HT.out.1.bel.mono HL3.out.2.1.size)
    have hc1 : ∀ (W : World), Below w1.heap.size w1 W → ∀ (i : Nat) (x : Value), w1.cell? ⟨cb, i, none⟩ = some x → W.cell? ⟨cb, i, none⟩ = some x := fun W hW i x hx => (cell_blk (hW.block _ HCB.out.1)).trans hx
    obtain ⟨p1, p2, -⟩ := HCB.out.2 k _ hx
    have h1 := hc1 _ hB _ _ p1
    have h2 := hc1 _ hB _ _ p2
    have HCW : Aside (∀ W, Below wb.heap.size wb W → (∀ j, j < L4 + 1 → j ≠ L4 → W.heap[j]? = wr.heap[j]?) → W.cell? ⟨cb, 0 + k * 3, none⟩ = some (.int .i64 c1) ∧ W.cell? ⟨cb, 0 + k * 3 + 1, none⟩ = some (.int .i64 c2)) := by
     intro W hW _
     have hB2 := HL3.out.2.1.trans (hW.mono HL3.out.2.1.size)
     exact ⟨hc1 _ hB2 _ _ p1, hc1 _ hB2 _ _ p2⟩
    have hru : wr.heap[L3]? = some (.cells #[.slice (some ⟨cb, 0, none⟩) nc cc, .int .i64 r.first, .int .i64 r.rounds, .bool r.equal] 42 (0, 0)) := (HT.out.1.bel.block _ (by rw [HL3.out.2.2.2]; omega)).trans HL3.out.1
    have hleg : wr.heap[L4]? = some (.cells (tlC vv 0 false) 81 (0, 0)) := HT.out.1.leg
    have hnn : ∀ i, nn i ≤ 1000 := by
     have hl : (r.counts.take k).length ≤ 1000 := by rw [List.length_take, HN5.out.2]; have := HN5.out.1; omega
     exact HT.out.1.nb HT.out.2 (by show ((r.counts.take k).map _).length ≤ _; rw [List.length_map]; exact hl) (by show ((r.counts.take k).map _).length ≤ _; rw [List.length_map]; exact hl) (by show ((r.counts.take k).map _).length ≤ _; rw [List.length_map]; exact hl) (Nat.zero_le _) (Nat.zero_le _)
    have hL34 : L3 < L4 + 1 ∧ L3 ≠ L4 := by have := HL4.out; have := HL3.out.2.2.2; omega
    clear hx hB hc1 p1 p2
    go_upto_region 6 with (fail)
    refine tal6 HT.out.1.rows hleg HT.out.1.bel HT.out.1.siz HT.out.1.lt HT.out.1.new hnn hru h1 h2 HCW hL34 hlt hltz (by kernel_rfl) (by rfl) (by rfl) (by rfl) (by rfl) ?rest6
    case rest6 =>
     intro ac w5 hL
     have e27 : ac.tmps.getD 27 undef = .pointer (some ⟨L4, 1, none⟩) := hL.new 0 _ 27 rfl rfl rfl
     have e28 : ac.tmps.getD 28 undef = vv 0 := hL.new 1 _ 28 rfl rfl rfl
     have e29 : ac.tmps.getD 29 undef = .pointer (some ⟨L3, 0, none⟩) := hL.new 2 _ 29 rfl rfl rfl
     have e30 : ac.tmps.getD 30 undef = .slice (some ⟨cb, 0, none⟩) nc cc := hL.new 3 _ 30 rfl rfl rfl
     have e31 : ac.tmps.getD 31 undef = .int .i64 (k : Int) := hL.new 4 _ 31 rfl rfl rfl
     have e32 : ac.tmps.getD 32 undef = .pointer (some ⟨cb, 0 + k * 3, none⟩) := hL.new 5 _ 32 rfl rfl rfl
     have e33 : ac.tmps.getD 33 undef = .pointer (some ⟨cb, 0 + k * 3, none⟩) := hL.new 6 _ 33 rfl rfl rfl
     have e34 : ac.tmps.getD 34 undef = .int .i64 c1 := hL.new 7 _ 34 rfl rfl rfl
     obtain ⟨y35, e35⟩ : ∃ x, ac.tmps.getD 35 undef = x := ⟨_, rfl⟩
     obtain ⟨y36, e36⟩ : ∃ x, ac.tmps.getD 36 undef = x := ⟨_, rfl⟩
     have e37 : ac.tmps.getD 37 undef = .pointer (some ⟨L4, 2, none⟩) := hL.new 10 _ 37 rfl rfl rfl
     have e38 : ac.tmps.getD 38 undef = vv 1 := hL.new 11 _ 38 rfl rfl rfl
     obtain ⟨y39, e39⟩ : ∃ x, ac.tmps.getD 39 undef = x := ⟨_, rfl⟩
     obtain ⟨y40, e40⟩ : ∃ x, ac.tmps.getD 40 undef = x := ⟨_, rfl⟩
     have e41 : ac.tmps.getD 41 undef = .pointer (some ⟨L4, 3, none⟩) := hL.new 14 _ 41 rfl rfl rfl
     have e42 : ac.tmps.getD 42 undef = vv 2 := hL.new 15 _ 42 rfl rfl rfl
     have e43 : ac.tmps.getD 43 undef = .pointer (some ⟨L3, 0, none⟩) := hL.new 16 _ 43 rfl rfl rfl
     have e44 : ac.tmps.getD 44 undef = .slice (some ⟨cb, 0, none⟩) nc cc := hL.new 17 _ 44 rfl rfl rfl
     have e45 : ac.tmps.getD 45 undef = .int .i64 (k : Int) := hL.new 18 _ 45 rfl rfl rfl
     have e46 : ac.tmps.getD 46 undef = .pointer (some ⟨cb, 0 + k * 3, none⟩) := hL.new 19 _ 46 rfl rfl rfl
     have e47 : ac.tmps.getD 47 undef = .pointer (some ⟨cb, 0 + k * 3 + 1, none⟩) := hL.new 20 _ 47 rfl rfl rfl
     have e48 : ac.tmps.getD 48 undef = .int .i64 c2 := hL.new 21 _ 48 rfl rfl rfl
     have e49 : ac.tmps.getD 49 undef = .bool (c2 == 0) := hL.new 22 _ 49 rfl rfl rfl
     obtain ⟨y50, e50⟩ : ∃ x, ac.tmps.getD 50 undef = x := ⟨_, rfl⟩
     obtain ⟨y51, e51⟩ : ∃ x, ac.tmps.getD 51 undef = x := ⟨_, rfl⟩
     have e52 : ac.tmps.getD 52 undef = .pointer (some ⟨L4, 1, none⟩) := hL.new 25 _ 52 rfl rfl rfl
     have e53 : ac.tmps.getD 53 undef = .pointer (some ⟨L4, 2, none⟩) := hL.new 27 _ 53 rfl rfl rfl
     have e54 : ac.tmps.getD 54 undef = .pointer (some ⟨L4, 3, none⟩) := hL.new 29 _ 54 rfl rfl rfl
     have HCL : Aside (∃ E, RwC wb (L4 + 1) L4 tlN6 (tlP6 6 c1 c2) (tlD vv nn xx) 81 (tlC vv 0 false) wr #[true, true, true, true, true, true, true, true, true, true, true, true, true, true, true, true, true, true, true, true, true, true, true, true, true, true, true, true, true, true, true] ac E w5) := hL.cls
     have es_ := hL.sets [27, 28, 29, 30, 31, 32, 33, 34, 35, 36, 37, 38, 39, 40, 41, 42, 43, 44, 45, 46, 47, 48, 49, 50, 51, 52, 53, 54] (by decide +kernel)
     rw [List.foldl_cons, List.foldl_cons, List.foldl_cons, List.foldl_cons, List.foldl_cons, List.foldl_cons, List.foldl_cons, List.foldl_cons, List.foldl_cons, List.foldl_cons, List.foldl_cons, List.foldl_cons, List.foldl_cons, List.foldl_cons, List.foldl_cons, List.foldl_cons, List.foldl_cons, List.foldl_cons, List.foldl_cons, List.foldl_cons, List.foldl_cons, List.foldl_cons, List.foldl_cons, List.foldl_cons, List.foldl_cons, List.foldl_cons, List.foldl_cons, List.foldl_cons, List.foldl_nil, e27, e28, e29, e30, e31, e32, e33, e34, e35, e36, e37, e38, e39, e40, e41, e42, e43, e44, e45, e46, e47, e48, e49, e50, e51, e52, e53, e54] at es_
     rw [es_]
     clear es_ hL e27 e28 e29 e30 e31 e32 e33 e34 e35 e36 e37 e38 e39 e40 e41 e42 e43 e44 e45 e46 e47 e48 e49 e50 e51 e52 e53 e54
     have HN6 : Aside (∃ vv' nn' xx', TlAt wb (L4 + 1) L4 (bgK r (k + 1)) [] vv' nn' xx' w5 ∧ (∀ i, 6 ≤ i → nn' i = 0)) := by
      obtain ⟨E, hE⟩ := HCL.out
      have d3 : ∀ j, j < 3 → j = 0 ∨ j = 1 ∨ j = 2 := by omega
      obtain ⟨a1, a2, a3, a4, a5⟩ := c6_tl HT.out.1 hE (fun j hj => by rcases d3 j hj with rfl | rfl | rfl <;> rfl) (fun j hj => by rcases d3 j hj with rfl | rfl | rfl <;> rfl) HX.out
      exact ⟨a1, a2, a3, a4, fun i hi => (a5 i hi).trans (HT.out.2 i hi)⟩
     clear HCL HT hleg hru h1 h2 HCW hnn
     refine wpAny_done (by decide +kernel) ?_ _
     simp only [List.setIfInBounds_toArray, List.set_cons_zero, List.set_cons_succ]
     have ek : IntKind.i64.wrap ((k : Int) + 1) = (k : Int) + 1 := IntWalk.i64_in _ (by have := HN5.out; omega)
     go_wp2_with fail
     go_roundg (nc - (k + 1))
     case measure => omega
     case rel =>
      obtain ⟨a1, a2, a3, a4⟩ := HN6.out
      exact ⟨k + 1, a1, a2, a3, by omega, by omega, by go_num, a4⟩
   ·have hltz : ¬ (k : Int) < (nc : Int) := by omega
    have hke : k = nc := by omega
    subst hke
    have HT1 : Aside (TlAt wb (L4 + 1) L4 (talK r h.beds 0).g (talK r h.beds 0).vs vv nn xx wr ∧ ∀ i, 6 ≤ i → nn i = 0) := by
     have := HT.out.1
     rw [← HN5.out.2, bgK_all] at this
     exact ⟨this, HT.out.2⟩
    have HX3 : Aside (∀ W, Below wb.heap.size wb W → W.heap[L3]? = some (.cells #[.slice ac0 k cc, .int .i64 fr, .int .i64 rr, .bool eq] 42 (0, 0))) := by
     intro W hW
     rw [← HRF.out.1, ← HRF.out.2.1, ← HRF.out.2.2]
     exact (hW.block _ (by rw [HL3.out.2.2.2]; omega)).trans HL3.out.1
    clear HT hk hgk hlt
    go_wp2_with fail
    go_loopg [6, 8] 60 (fun gg s6 s8 wr => ∃ (v : Nat) (vv : Nat → Value) (nn : Nat → Nat) (xx : Nat → List Value), v ≤ 60 ∧ 60 - v ≤ gg ∧ (k = 0 → v = 0) ∧ s6 = .int .i64 ((talK r h.beds v).a : Int) ∧ s8 = .int .i64 (v : Int) ∧ Aside (TlAt wb (L4 + 1) L4 (talK r h.beds v).g (talK r h.beds v).vs vv nn xx wr ∧ ∀ i, 6 ≤ i → nn i = 0))
    case atStart => exact ⟨0, _, _, _, by omega, by omega, fun _ => rfl, rfl, rfl, HT1.out⟩
    case round =>
     clear HT1
     obtain ⟨v, vv, nn, xx, hv, hgv, hv0, rfl, rfl, HT⟩ := hrel
     obtain ⟨ov, hov⟩ : ∃ ov, (talK r h.beds v).g.over = ov := ⟨_, rfl⟩
     have HOV : Aside ((talK r h.beds v).g.over = ov) := hov
     clear hov
     obtain ⟨a0, ha0⟩ : ∃ a0, (talK r h.beds v).a = a0 := ⟨_, rfl⟩
     have HA0 : Aside ((talK r h.beds v).a = a0) := ha0
     rw [ha0]
     clear ha0
     have k7 : wr.cell? ⟨L4, 7, none⟩ = some (.bool ov) := by rw [← HOV.out]; exact blk_cell HT.out.1.leg (i := 7) rfl
     have HVK : Aside (k = 0 → v = 0) := hv0
     have HV6 : Aside (v ≤ 60) := hv
     clear hv0
     by_cases hgo : v < 60 ∧ ov = false ∧ 0 < k
     ·obtain ⟨g1, rfl, g3⟩ := hgo
      have hltz : (v : Int) < 60 := by omega
      have hgt : (k : Int) > 0 := by omega
      obtain ⟨cb, rfl, HCB⟩ : ∃ cb, ac0 = some ⟨cb, 0, none⟩ ∧ Aside (cb < w1.heap.size ∧ ∀ k c, r.counts[k]? = some c → w1.cell? ⟨cb, 0 + k * 3, none⟩ = some (.int .i64 c.1) ∧ w1.cell? ⟨cb, 0 + k * 3 + 1, none⟩ = some (.int .i64 c.2.1) ∧ w1.cell? ⟨cb, 0 + k * 3 + 2, none⟩ = some (.int .i64 c.2.2)) := by
       obtain ⟨cb, e1, e2⟩ := HCC.out g3
       exact ⟨cb, e1, e2⟩
      go_upto_block 3 with (fail)
      go_cut [6] from 55 to 236 (fun s6 wf => ∃ (vv' : Nat → Value) (nn' : Nat → Nat) (xx' : Nat → List Value), s6 = .int .i64 ((talK r h.beds (v + 1)).a : Int) ∧ Aside (TlAt wb (L4 + 1) L4 (talK r h.beds (v + 1)).g (talK r h.beds (v + 1)).vs vv' nn' xx' wf ∧ ∀ i, 6 ≤ i → nn' i = 0))
      case first =>
       as_aux_lemma =>
        rename_i J' K' hJ' hK'
        have hrok : r.Ok := by
         rw [← HRR.out]
         exact hr_ok HBY.out.1 HBY.out.2.1 HBY.out.2.2.2.1 (fun e => by have := HNC.out; rw [e] at this; simp at this; omega)
        have hcw : ∀ (i : Nat) (x : Value), w1.cell? ⟨cb, i, none⟩ = some x → wb.cell? ⟨cb, i, none⟩ = some x := fun i x hx => (cell_blk (HL3.out.2.1.block _ HCB.out.1)).trans hx
        exact tal_b3 (h := h) (r := r) (B0 := B0) (by kernel_rfl) hJ' hK' (by rw [← HB0.out]; exact HBX.out.1) (fun W hW q hq => hbed_any h vs vbd q W (HVS.out.2.below (HBX.out.2.2.2.trans (hW.mono (HBX.out.2.2.2).size))) HBY.out.2.2.2.2 hq HSL.out.1) HBY.out.2.2.2.2 ⟨hrok, HN5.out.2⟩ HL3.out.1 (fun q c hc => ⟨hcw _ _ (HCB.out.2 q c hc).1, hcw _ _ (HCB.out.2 q c hc).2.1, hcw _ _ (HCB.out.2 q c hc).2.2⟩) HA0 HT HOV g1
      case rest =>
       obtain ⟨vv', nn', xx', rfl, HT'⟩ := hcut
       have ek : IntKind.i64.wrap ((v : Int) + 1) = (v : Int) + 1 := IntWalk.i64_in _ (by omega)
       go_wp2_with fail
       go_roundg (60 - (v + 1))
       case measure => omega
       case rel => exact ⟨v + 1, vv', nn', xx', by omega, by omega, fun e => by omega, rfl, by go_num, HT'.out⟩
     ·have HTF : Aside (talK r h.beds v = talF h) := by
       show _ = _
       unfold talF
       rw [HRR.out]
       by_cases hz : hcnt h = []
       ·have : k = 0 := by rw [← HNC.out, hz]; rfl
        rw [if_pos hz, HVK.out this]
       ·rw [if_neg hz]
        have hk0 : 0 < k := by rw [← HNC.out]; exact List.length_pos_iff.2 hz
        by_cases h6 : v = 60
        ·rw [h6]
        ·have ho : ov = true := by
          cases ov with
          | true => rfl
          | false => exact absurd ⟨by have := HV6.out; omega, rfl, hk0⟩ hgo
         exact (tal_at (HOV.out.trans ho) HV6.out).symm
      have HTL : Aside (TlAt wb (L4 + 1) L4 (talF h).g (talF h).vs vv nn xx wr) := by have := HT.out.1; rw [HTF.out] at this; exact this
      obtain ⟨rn, hrn⟩ : ∃ rn, (talF h).g.round = rn := ⟨_, rfl⟩
      have HFN : Aside ((talF h).g.round = rn ∧ (talF h).g.over = ov) := ⟨hrn, by rw [← HTF.out]; exact HOV.out⟩
      clear hrn
      have hleg : wr.heap[L4]? = some (.cells (tlC vv rn ov) 81 (0, 0)) := by have := HTL.out.leg; rw [HFN.out.1, HFN.out.2] at this; exact this
      obtain ⟨A0, C0, E0⟩ := owns_form3 (HTL.out.rows.own 0 (by omega))
      change vv 0 = .slice A0 (nn 0) C0 at E0
      obtain ⟨A1, C1, E1⟩ := owns_form3 (HTL.out.rows.own 1 (by omega))
      change vv 1 = .slice A1 (nn 1) C1 at E1
      obtain ⟨A2, C2, E2⟩ := owns_form3 (HTL.out.rows.own 2 (by omega))
      change vv 2 = .slice A2 (nn 2) C2 at E2
      obtain ⟨A3, C3, E3⟩ := owns_form3 (HTL.out.rows.own 3 (by omega))
      change vv 3 = .slice A3 (nn 3) C3 at E3
      obtain ⟨A4, C4, E4⟩ := owns_form3 (HTL.out.rows.own 4 (by omega))
      change vv 4 = .slice A4 (nn 4) C4 at E4
      obtain ⟨A5, C5, E5⟩ := owns_form3 (HTL.out.rows.own 5 (by omega))
      change vv 5 = .slice A5 (nn 5) C5 at E5
      have k0 : wr.cell? ⟨L4, 0, none⟩ = some (.slice A5 (nn 5) C5) := by rw [← E5]; exact blk_cell hleg rfl
      have k1 : wr.cell? ⟨L4, 1, none⟩ = some (.slice A0 (nn 0) C0) := by rw [← E0]; exact blk_cell hleg rfl
      have k2 : wr.cell? ⟨L4, 2, none⟩ = some (.slice A1 (nn 1) C1) := by rw [← E1]; exact blk_cell hleg rfl
      have k3 : wr.cell? ⟨L4, 3, none⟩ = some (.slice A2 (nn 2) C2) := by rw [← E2]; exact blk_cell hleg rfl
      have k4 : wr.cell? ⟨L4, 4, none⟩ = some (.slice A3 (nn 3) C3) := by rw [← E3]; exact blk_cell hleg rfl
      have k5 : wr.cell? ⟨L4, 5, none⟩ = some (.slice A4 (nn 4) C4) := by rw [← E4]; exact blk_cell hleg rfl
      have k6 : wr.cell? ⟨L4, 6, none⟩ = some (.int .i64 rn) := blk_cell hleg rfl
      have hz1 : wr.heap[B0 + 1]? = some (.cells #[.slice none 0 0, .slice none 0 0, .slice none 0 0, .slice none 0 0, .slice none 0 0, .slice none 0 0, .int .i64 0, .bool false] 81 (0, 0)) := by
       have := HBX.out.2.2.1
       rw [← HB0.out]
       exact (HTL.out.bel.block _ this).trans HBX.out.2.1
      have r0 : wr.cell? ⟨B0 + 1, 0, none⟩ = some (.slice none 0 0) := blk_cell hz1 (i := 0) rfl
      have r1 : wr.cell? ⟨B0 + 1, 1, none⟩ = some (.slice none 0 0) := blk_cell hz1 (i := 1) rfl
      have r2 : wr.cell? ⟨B0 + 1, 2, none⟩ = some (.slice none 0 0) := blk_cell hz1 (i := 2) rfl
      have r3 : wr.cell? ⟨B0 + 1, 3, none⟩ = some (.slice none 0 0) := blk_cell hz1 (i := 3) rfl
      have r4 : wr.cell? ⟨B0 + 1, 4, none⟩ = some (.slice none 0 0) := blk_cell hz1 (i := 4) rfl
      have r5 : wr.cell? ⟨B0 + 1, 5, none⟩ = some (.slice none 0 0) := blk_cell hz1 (i := 5) rfl
      have r6 : wr.cell? ⟨B0 + 1, 6, none⟩ = some (.int .i64 0) := blk_cell hz1 (i := 6) rfl
      have r7 : wr.cell? ⟨B0 + 1, 7, none⟩ = some (.bool false) := blk_cell hz1 (i := 7) rfl
      have rf := blk_free hz1
      have hltB : B0 + 1 < wr.heap.size := (Array.getElem?_eq_some_iff.1 hz1).1
      clear hleg hz1 HT
      have HRES : Aside (∀ W, TlR w (L4 + 1) (talF h).g (talF h).vs vv nn xx W → TaleOk h w (.returned (.agg #[.slice A5 (nn 5) C5, .slice A0 (nn 0) C0, .slice A1 (nn 1) C1, .slice A2 (nn 2) C2, .slice A3 (nn 3) C3, .slice A4 (nn 4) C4, .int .i64 rn, .bool ov])) W) := by
       intro W hW
       exact ⟨L4 + 1, vv, nn, xx, by rw [HFN.out.1, HFN.out.2]; unfold tlC; rw [E0, E1, E2, E3, E4, E5], hW⟩
      clear E0 E1 E2 E3 E4 E5
      have HR0 : Aside (TlR w (L4 + 1) (talF h).g (talF h).vs vv nn xx wr) := HTL.out.res HBX.out.2.2.2
      have HBL : Aside (B0 + 1 < L4 + 1 ∧ w.heap.size ≤ B0 + 1) := by show _ ∧ _; have := HBX.out.2.2.1; have := HL4.out; have := HB0.out; omega
      by_cases h6 : v < 60
      ·have hltz : (v : Int) < 60 := by omega
       cases ov with
       | true =>
        clear hgo h6
        go_wp2_with fail
        refine bodyPost_ret (v := .agg #[.slice A5 (nn 5) C5, .slice A0 (nn 0) C0, .slice A1 (nn 1) C1, .slice A2 (nn 2) C2, .slice A3 (nn 3) C3, .slice A4 (nn 4) C4, .int .i64 rn, .bool true]) (by simp [results, Try.results34, go_sem, hltB, r0, r1, r2, r3, r4, r5, r6, r7, rf]) rfl ?_
        exact HRES.out _ ((((((((HR0.out.setc HBL.out.1 HBL.out.2 _).setc HBL.out.1 HBL.out.2 _).setc HBL.out.1 HBL.out.2 _).setc HBL.out.1 HBL.out.2 _).setc HBL.out.1 HBL.out.2 _).setc HBL.out.1 HBL.out.2 _).setc HBL.out.1 HBL.out.2 _).setc HBL.out.1 HBL.out.2 _)
       | false =>
        have hk0 : ¬ (k : Int) > 0 := by
         intro e
         exact hgo ⟨h6, rfl, by omega⟩
        clear hgo h6
        go_wp2_with fail
        refine bodyPost_ret (v := .agg #[.slice A5 (nn 5) C5, .slice A0 (nn 0) C0, .slice A1 (nn 1) C1, .slice A2 (nn 2) C2, .slice A3 (nn 3) C3, .slice A4 (nn 4) C4, .int .i64 rn, .bool false]) (by simp [results, Try.results34, go_sem, hltB, r0, r1, r2, r3, r4, r5, r6, r7, rf]) rfl ?_
        exact HRES.out _ ((((((((HR0.out.setc HBL.out.1 HBL.out.2 _).setc HBL.out.1 HBL.out.2 _).setc HBL.out.1 HBL.out.2 _).setc HBL.out.1 HBL.out.2 _).setc HBL.out.1 HBL.out.2 _).setc HBL.out.1 HBL.out.2 _).setc HBL.out.1 HBL.out.2 _).setc HBL.out.1 HBL.out.2 _)
      ·have hltz : ¬ (v : Int) < 60 := by omega
       clear hgo h6
       go_wp2_with fail
       refine bodyPost_ret (v := .agg #[.slice A5 (nn 5) C5, .slice A0 (nn 0) C0, .slice A1 (nn 1) C1, .slice A2 (nn 2) C2, .slice A3 (nn 3) C3, .slice A4 (nn 4) C4, .int .i64 rn, .bool ov]) (by simp [results, Try.results34, go_sem, hltB, r0, r1, r2, r3, r4, r5, r6, r7, rf]) rfl ?_
       exact HRES.out _ ((((((((HR0.out.setc HBL.out.1 HBL.out.2 _).setc HBL.out.1 HBL.out.2 _).setc HBL.out.1 HBL.out.2 _).setc HBL.out.1 HBL.out.2 _).setc HBL.out.1 HBL.out.2 _).setc HBL.out.1 HBL.out.2 _).setc HBL.out.1 HBL.out.2 _).setc HBL.out.1 HBL.out.2 _)
end
section
open Go.RowKit Go.Maps Go.Sort Go.Shelf Go.Deep
def SlA {α : Type} (W : World) (k : Nat) (enc : α → List Value) (v : Value) (xs : List α) (q : Nat → Prop) : Prop := Sl W k enc v xs ∧ (xs ≠ [] → ∀ b o n c, v = .slice (some ⟨b, o, none⟩) n c → b < W.heap.size ∧ ¬ q b)
theorem Sl.blk {α : Type} {W : World} {k : Nat} {enc : α → List Value} {v : Value} {xs : List α} (h : Sl W k enc v xs) (hn : xs ≠ []) {b o n c : Nat} (hv : v = .slice (some ⟨b, o, none⟩) n c) : b < W.heap.size := by
 obtain ⟨a, c', e, -, hs⟩ := h
 obtain ⟨b', off, h1, h2, -⟩ := hs hn
 rw [hv, h1] at e
 simp only [Value.slice.injEq, Option.some.injEq, Addr.mk.injEq, and_true] at e
 rw [e.1.1]; exact h2
theorem SlA.below {α : Type} {W W' : World} {k : Nat} {enc : α → List Value} {v : Value} {xs : List α} {q : Nat → Prop} (h : SlA W k enc v xs q) (hB : Below W.heap.size W W') : SlA W' k enc v xs q :=
 ⟨h.1.below hB, fun hn b o n c e => ⟨Nat.lt_of_lt_of_le (h.2 hn b o n c e).1 hB.size, (h.2 hn b o n c e).2⟩⟩
theorem SlA.imp {α : Type} {W : World} {k : Nat} {enc : α → List Value} {v : Value} {xs : List α} {q q' : Nat → Prop} (h : SlA W k enc v xs q) (hq : ∀ b, b < W.heap.size → q' b → q b) : SlA W k enc v xs q' :=
 ⟨h.1, fun hn b o n c e => ⟨(h.2 hn b o n c e).1, fun e2 => (h.2 hn b o n c e).2 (hq b (h.2 hn b o n c e).1 e2)⟩⟩
theorem Sl.keepB {α : Type} {W W' : World} {k : Nat} {enc : α → List Value} {v : Value} {xs : List α} (h : Sl W k enc v xs) (hz : W.heap.size ≤ W'.heap.size) (hk : xs ≠ [] → ∀ b o n c, v = .slice (some ⟨b, o, none⟩) n c → W'.heap[b]? = W.heap[b]?) : Sl W' k enc v xs := by
 obtain ⟨a, c, e, hl, hs⟩ := h
 refine ⟨a, c, e, hl, fun hn => ?_⟩
 obtain ⟨b, off, h1, h2, h3⟩ := hs hn
 subst h1
 refine ⟨b, off, rfl, by omega, fun j x hj i y hy => ?_⟩
 rw [cell_blk (hk hn b off _ c e)]
 exact h3 j x hj i y hy
theorem SlA.except {α : Type} {W W' : World} {k : Nat} {enc : α → List Value} {v : Value} {xs : List α} {q : Nat → Prop} (h : SlA W k enc v xs q) (hz : W.heap.size ≤ W'.heap.size) (hk : ∀ b, b < W.heap.size → ¬ q b → W'.heap[b]? = W.heap[b]?) : SlA W' k enc v xs q :=
 ⟨h.1.keepB hz (fun hn b o n c e => hk b (h.2 hn b o n c e).1 (h.2 hn b o n c e).2), fun hn b o n c e => ⟨Nat.lt_of_lt_of_le (h.2 hn b o n c e).1 hz, (h.2 hn b o n c e).2⟩⟩
def StQ (g : LegG) (v : Value) (q : Nat → Prop) (W : World) : Prop := ∃ vl vd vi vw, v = .agg #[vl, vd, vi, .int .i64 g.next, .int .i64 g.round, .bool g.over, vw] ∧ SlA W 1 eI vl g.left q ∧ SlA W 1 eI vd g.darts q ∧ SlA W 1 eB vi g.inn q ∧ SlA W 1 eI vw g.wins q
theorem StQ.below {g : LegG} {v : Value} {q : Nat → Prop} {W W' : World} (h : StQ g v q W) (hB : Below W.heap.size W W') : StQ g v q W' := by
 obtain ⟨vl, vd, vi, vw, e, h1, h2, h3, h4⟩ := h; exact ⟨vl, vd, vi, vw, e, h1.below hB, h2.below hB, h3.below hB, h4.below hB⟩
theorem StQ.imp {g : LegG} {v : Value} {q q' : Nat → Prop} {W : World} (h : StQ g v q W) (hq : ∀ b, b < W.heap.size → q' b → q b) : StQ g v q' W := by
 obtain ⟨vl, vd, vi, vw, e, h1, h2, h3, h4⟩ := h; exact ⟨vl, vd, vi, vw, e, h1.imp hq, h2.imp hq, h3.imp hq, h4.imp hq⟩
theorem StQ.except {g : LegG} {v : Value} {q : Nat → Prop} {W W' : World} (h : StQ g v q W) (hz : W.heap.size ≤ W'.heap.size) (hk : ∀ b, b < W.heap.size → ¬ q b → W'.heap[b]? = W.heap[b]?) : StQ g v q W' := by
 obtain ⟨vl, vd, vi, vw, e, h1, h2, h3, h4⟩ := h; exact ⟨vl, vd, vi, vw, e, h1.except hz hk, h2.except hz hk, h3.except hz hk, h4.except hz hk⟩
theorem StQ.sts {g : LegG} {v : Value} {q : Nat → Prop} {W : World} (h : StQ g v q W) : StS g v W := by
 obtain ⟨vl, vd, vi, vw, e, h1, h2, h3, h4⟩ := h; exact ⟨vl, vd, vi, vw, e, h1.1, h2.1, h3.1, h4.1⟩
theorem slA_of {α : Type} {W : World} {k : Nat} {enc : α → List Value} {v : Value} {xs : List α} {B : Nat} {q : Nat → Prop} (h : Sl W k enc v xs) (hb : xs ≠ [] → ∀ b o n c, v = .slice (some ⟨b, o, none⟩) n c → B ≤ b) (hq : ∀ b, B ≤ b → ¬ q b) : SlA W k enc v xs q :=
 ⟨h, fun hn b o n c e => ⟨h.blk hn e, hq b (hb hn b o n c e)⟩⟩
theorem StAt.stq {g : LegG} {v : Value} {W : World} {B : Nat} {q : Nat → Prop} (h : StAt W v g B) (hq : ∀ b, B ≤ b → ¬ q b) : StQ g v q W := by
 obtain ⟨vl, vd, vi, vw, e, h1, h2, h3, h4, h5⟩ := h
 exact ⟨vl, vd, vi, vw, e, slA_of h1 (fun _ b o n c e => h5 b o n c (.inl e)) hq, slA_of h2 (fun _ b o n c e => h5 b o n c (.inr (.inl e))) hq, slA_of h3 (fun _ b o n c e => h5 b o n c (.inr (.inr (.inl e)))) hq, slA_of h4 (fun hn b o n c e => h5 b o n c (.inr (.inr (.inr ⟨hn, e⟩)))) hq⟩
structure CR (base : World) (r : LegR) (l : List (Int × List Int)) (gr : LegG) (Q1 Q2 : Value → Prop) (sR sV sJ sM s0 sA : Nat) (listed : Array Bool) (a : Act) (W : World) : Prop where
 bel : Below base.heap.size base W
 rul : listed.getD 1 false = true → listed.getD 5 false = false → RulX r (a.tmps.getD sR undef) W
 vis : listed.getD 4 false = true → listed.getD 5 false = false → VisS l (a.tmps.getD sV undef) W
 blk : listed.getD 10 false = true → ∃ g, a.tmps.getD sA undef = .pointer (some ⟨g, 0, none⟩) ∧ base.heap.size ≤ g ∧ g < W.heap.size ∧ (listed.getD 11 false = false → W.heap[g]? = some (.cells #[.slice none 0 0, .slice none 0 0, .slice none 0 0, .int .i64 0, .int .i64 0, .bool false, .slice none 0 0] 51 (0, 0))) ∧ (listed.getD 11 false = true → ∃ x0 x1 x2 x3 x4 x5 x6, a.tmps.getD s0 undef = .agg #[x0, x1, x2, x3, x4, x5, x6] ∧ W.heap[g]? = some (.cells #[x0, x1, x2, x3, x4, x5, x6] 51 (0, 0)))
 res : listed.getD 5 false = true → ∃ v y z, a.tmps.getD sJ undef = .tuple #[v, y, z] ∧ Q1 y ∧ Q2 z ∧ StQ gr v (fun g => listed.getD 10 false = true ∧ a.tmps.getD sA undef = .pointer (some ⟨g, 0, none⟩)) W
 mv : listed.getD 6 false = true → a.tmps.getD sM undef = a.tmps.getD sJ undef
 ex : listed.getD 7 false = true → ∃ v y z, a.tmps.getD sJ undef = .tuple #[v, y, z] ∧ a.tmps.getD s0 undef = v
section
variable {base W W' : World} {r : LegR} {l : List (Int × List Int)} {gr : LegG} {Q1 Q2 : Value → Prop} {sR sV sJ sM s0 sA : Nat} {listed : Array Bool} {a : Act}
theorem CR.start (m : Nat) (a : Act) : CR base r l gr Q1 Q2 sR sV sJ sM s0 sA (Array.replicate m false) a base.drew := by
 refine ⟨(Below.refl _ _).drew, fun e => ?_, fun e => ?_, fun e => ?_, fun e => ?_, fun e => ?_, fun e => ?_⟩ <;> (rw [rep_false] at e; cases e)
theorem CR.other (h : CR base r l gr Q1 Q2 sR sV sJ sM s0 sA listed a W) {i t : Nat} {x : Value} (hi : (decide (i ≠ 1) && decide (i ≠ 4) && decide (i ≠ 5) && decide (i ≠ 6) && decide (i ≠ 7) && decide (i ≠ 10) && decide (i ≠ 11)) = true) (ht : (decide (t ≠ sR) && decide (t ≠ sV) && decide (t ≠ sJ) && decide (t ≠ sM) && decide (t ≠ s0) && decide (t ≠ sA)) = true) (hB : Below W.heap.size W W') : CR base r l gr Q1 Q2 sR sV sJ sM s0 sA (listed.setIfInBounds i true) (a.put (some t) x) W' := by
 simp only [Bool.and_eq_true, decide_eq_true_eq] at hi ht
 obtain ⟨⟨⟨⟨⟨⟨i1, i4⟩, i5⟩, i6⟩, i7⟩, i10⟩, i11⟩ := hi
 obtain ⟨⟨⟨⟨⟨tR, tV⟩, tJ⟩, tM⟩, t0⟩, tA⟩ := ht
 refine ⟨h.bel.trans (hB.mono h.bel.size), ?_, ?_, ?_, ?_, ?_, ?_⟩
 ·rw [getD_set_ne _ _ _ _ (Ne.symm i1), getD_set_ne _ _ _ _ (Ne.symm i5), getD_put (Ne.symm tR)]; exact fun e1 e2 => (h.rul e1 e2).below hB
 ·rw [getD_set_ne _ _ _ _ (Ne.symm i4), getD_set_ne _ _ _ _ (Ne.symm i5), getD_put (Ne.symm tV)]; exact fun e1 e2 => (h.vis e1 e2).below hB
 ·rw [getD_set_ne _ _ _ _ (Ne.symm i10), getD_set_ne _ _ _ _ (Ne.symm i11), getD_put (Ne.symm tA), getD_put (Ne.symm t0)]
  intro e
  obtain ⟨g, g1, g2, g3, g4, g5⟩ := h.blk e
  exact ⟨g, g1, g2, Nat.lt_of_lt_of_le g3 hB.size, fun e2 => (hB.block g g3).trans (g4 e2), fun e2 => by
   obtain ⟨x0, x1, x2, x3, x4, x5, x6, k1, k2⟩ := g5 e2
   exact ⟨x0, x1, x2, x3, x4, x5, x6, k1, (hB.block g g3).trans k2⟩⟩
 ·rw [getD_set_ne _ _ _ _ (Ne.symm i5), getD_set_ne _ _ _ _ (Ne.symm i10), getD_put (Ne.symm tJ), getD_put (Ne.symm tA)]
  intro e
  obtain ⟨v, y, z, k1, k2, k3, k4⟩ := h.res e
  exact ⟨v, y, z, k1, k2, k3, k4.below hB⟩
 ·rw [getD_set_ne _ _ _ _ (Ne.symm i6), getD_put (Ne.symm tM), getD_put (Ne.symm tJ)]; exact h.mv
 ·rw [getD_set_ne _ _ _ _ (Ne.symm i7), getD_put (Ne.symm tJ), getD_put (Ne.symm t0)]; exact h.ex
def CRd (sR sV sJ sM s0 sA : Nat) : Prop := [sR, sV, sJ, sM, s0, sA].Nodup
theorem CRd.all (hd : CRd sR sV sJ sM s0 sA) : sR ≠ sV ∧ sR ≠ sJ ∧ sR ≠ sM ∧ sR ≠ s0 ∧ sR ≠ sA ∧ sV ≠ sJ ∧ sV ≠ sM ∧ sV ≠ s0 ∧ sV ≠ sA ∧ sJ ≠ sM ∧ sJ ≠ s0 ∧ sJ ≠ sA ∧ sM ≠ s0 ∧ sM ≠ sA ∧ s0 ≠ sA := by
 unfold CRd at hd
 simp only [List.nodup_cons, List.mem_cons, not_or, List.not_mem_nil, not_false_eq_true, List.nodup_nil, and_true] at hd
 obtain ⟨⟨a1, a2, a3, a4, a5⟩, ⟨b1, b2, b3, b4⟩, ⟨c1, c2, c3⟩, ⟨d1, d2⟩, e1⟩ := hd
 exact ⟨a1, a2, a3, a4, a5, b1, b2, b3, b4, c1, c2, c3, d1, d2, e1⟩
theorem CR.rules (h : CR base r l gr Q1 Q2 sR sV sJ sM s0 sA listed a W) (hd : CRd sR sV sJ sM s0 sA) {x : Value} (hs : sR < a.tmps.size) (hx : RulX r x W') (hB : Below W.heap.size W W') : CR base r l gr Q1 Q2 sR sV sJ sM s0 sA (listed.setIfInBounds 1 true) (a.put (some sR) x) W' := by
 obtain ⟨nRV, nRJ, nRM, nR0, nRA, nVJ, nVM, nV0, nVA, nJM, nJ0, nJA, nM0, nMA, n0A⟩ := hd.all
 refine ⟨h.bel.trans (hB.mono h.bel.size), fun _ _ => ?_, ?_, ?_, ?_, ?_, ?_⟩
 ·rw [show (a.put (some sR) x).tmps.getD sR undef = x from getDV_set_self _ _ _ _ hs]; exact hx
 ·rw [getD_set_ne _ _ _ _ (by decide), getD_set_ne _ _ _ _ (by decide), getD_put (Ne.symm nRV)]; exact fun e1 e2 => (h.vis e1 e2).below hB
 ·rw [getD_set_ne _ _ _ _ (by decide), getD_set_ne _ _ _ _ (by decide), getD_put (Ne.symm nRA), getD_put (Ne.symm nR0)]
  intro e
  obtain ⟨g, g1, g2, g3, g4, g5⟩ := h.blk e
  exact ⟨g, g1, g2, Nat.lt_of_lt_of_le g3 hB.size, fun e2 => (hB.block g g3).trans (g4 e2), fun e2 => by
   obtain ⟨x0, x1, x2, x3, x4, x5, x6, k1, k2⟩ := g5 e2
   exact ⟨x0, x1, x2, x3, x4, x5, x6, k1, (hB.block g g3).trans k2⟩⟩
 ·rw [getD_set_ne _ _ _ _ (by decide), getD_set_ne _ _ _ _ (by decide), getD_put (Ne.symm nRJ), getD_put (Ne.symm nRA)]
  intro e
  obtain ⟨v, y, z, k1, k2, k3, k4⟩ := h.res e
  exact ⟨v, y, z, k1, k2, k3, k4.below hB⟩
 ·rw [getD_set_ne _ _ _ _ (by decide), getD_put (Ne.symm nRM), getD_put (Ne.symm nRJ)]; exact h.mv
 ·rw [getD_set_ne _ _ _ _ (by decide), getD_put (Ne.symm nRJ), getD_put (Ne.symm nR0)]; exact h.ex
theorem CR.visits (h : CR base r l gr Q1 Q2 sR sV sJ sM s0 sA listed a W) (hd : CRd sR sV sJ sM s0 sA) {x : Value} (hs : sV < a.tmps.size) (hx : VisS l x W') (hB : Below W.heap.size W W') : CR base r l gr Q1 Q2 sR sV sJ sM s0 sA (listed.setIfInBounds 4 true) (a.put (some sV) x) W' := by
 obtain ⟨nRV, nRJ, nRM, nR0, nRA, nVJ, nVM, nV0, nVA, nJM, nJ0, nJA, nM0, nMA, n0A⟩ := hd.all
 refine ⟨h.bel.trans (hB.mono h.bel.size), ?_, fun _ _ => ?_, ?_, ?_, ?_, ?_⟩
 ·rw [getD_set_ne _ _ _ _ (by decide), getD_set_ne _ _ _ _ (by decide), getD_put nRV]; exact fun e1 e2 => (h.rul e1 e2).below hB
 ·rw [show (a.put (some sV) x).tmps.getD sV undef = x from getDV_set_self _ _ _ _ hs]; exact hx
 ·rw [getD_set_ne _ _ _ _ (by decide), getD_set_ne _ _ _ _ (by decide), getD_put (Ne.symm nVA), getD_put (Ne.symm nV0)]
  intro e
  obtain ⟨g, g1, g2, g3, g4, g5⟩ := h.blk e
  exact ⟨g, g1, g2, Nat.lt_of_lt_of_le g3 hB.size, fun e2 => (hB.block g g3).trans (g4 e2), fun e2 => by
   obtain ⟨x0, x1, x2, x3, x4, x5, x6, k1, k2⟩ := g5 e2
   exact ⟨x0, x1, x2, x3, x4, x5, x6, k1, (hB.block g g3).trans k2⟩⟩
 ·rw [getD_set_ne _ _ _ _ (by decide), getD_set_ne _ _ _ _ (by decide), getD_put (Ne.symm nVJ), getD_put (Ne.symm nVA)]
  intro e
  obtain ⟨v, y, z, k1, k2, k3, k4⟩ := h.res e
  exact ⟨v, y, z, k1, k2, k3, k4.below hB⟩
 ·rw [getD_set_ne _ _ _ _ (by decide), getD_put (Ne.symm nVM), getD_put (Ne.symm nVJ)]; exact h.mv
 ·rw [getD_set_ne _ _ _ _ (by decide), getD_put (Ne.symm nVJ), getD_put (Ne.symm nV0)]; exact h.ex
theorem CR.call (h : CR base r l gr Q1 Q2 sR sV sJ sM s0 sA listed a W) (hd : CRd sR sV sJ sM s0 sA) {v y z : Value} (hs : sJ < a.tmps.size) (hl : 5 < listed.size) (h6 : listed.getD 6 false = false) (h7 : listed.getD 7 false = false) (hy : Q1 y) (hz : Q2 z) (hx : StAt W' v gr W.heap.size) (hB : Below W.heap.size W W') : CR base r l gr Q1 Q2 sR sV sJ sM s0 sA (listed.setIfInBounds 5 true) (a.put (some sJ) (.tuple #[v, y, z])) W' := by
 obtain ⟨nRV, nRJ, nRM, nR0, nRA, nVJ, nVM, nV0, nVA, nJM, nJ0, nJA, nM0, nMA, n0A⟩ := hd.all
 refine ⟨h.bel.trans (hB.mono h.bel.size), fun _ e => ?_, fun _ e => ?_, ?_, fun _ => ⟨v, y, z, getDV_set_self _ _ _ _ hs, hy, hz, hx.stq (fun b hb => ?_)⟩, fun e => ?_, fun e => ?_⟩
 ·rw [getD_set_self _ _ _ hl] at e; cases e
 ·rw [getD_set_self _ _ _ hl] at e; cases e
 ·rw [getD_set_ne _ _ _ _ (by decide), getD_set_ne _ _ _ _ (by decide), getD_put (Ne.symm nJA), getD_put (Ne.symm nJ0)]
  intro e
  obtain ⟨g, g1, g2, g3, g4, g5⟩ := h.blk e
  exact ⟨g, g1, g2, Nat.lt_of_lt_of_le g3 hB.size, fun e2 => (hB.block g g3).trans (g4 e2), fun e2 => by
   obtain ⟨x0, x1, x2, x3, x4, x5, x6, k1, k2⟩ := g5 e2
   exact ⟨x0, x1, x2, x3, x4, x5, x6, k1, (hB.block g g3).trans k2⟩⟩
 ·rw [getD_set_ne _ _ _ _ (by decide), getD_put (Ne.symm nJA)]
  rintro ⟨e1, e2⟩
  obtain ⟨g, g1, g2, g3, -⟩ := h.blk e1
  rw [g1] at e2
  simp only [Value.pointer.injEq, Option.some.injEq, Addr.mk.injEq, and_true] at e2
  omega
 ·rw [getD_set_ne _ _ _ _ (by decide), h6] at e; cases e
 ·rw [getD_set_ne _ _ _ _ (by decide), h7] at e; cases e
theorem CR.move (h : CR base r l gr Q1 Q2 sR sV sJ sM s0 sA listed a W) (hd : CRd sR sV sJ sM s0 sA) (hs : sM < a.tmps.size) : CR base r l gr Q1 Q2 sR sV sJ sM s0 sA (listed.setIfInBounds 6 true) (a.put (some sM) (a.tmps.getD sJ undef)) W := by
 obtain ⟨nRV, nRJ, nRM, nR0, nRA, nVJ, nVM, nV0, nVA, nJM, nJ0, nJA, nM0, nMA, n0A⟩ := hd.all
 have hB := Below.refl W.heap.size W
 refine ⟨h.bel, ?_, ?_, ?_, ?_, fun _ => ?_, ?_⟩
 ·rw [getD_set_ne _ _ _ _ (by decide), getD_set_ne _ _ _ _ (by decide), getD_put nRM]; exact h.rul
 ·rw [getD_set_ne _ _ _ _ (by decide), getD_set_ne _ _ _ _ (by decide), getD_put nVM]; exact h.vis
 ·rw [getD_set_ne _ _ _ _ (by decide), getD_set_ne _ _ _ _ (by decide), getD_put (Ne.symm nMA), getD_put (Ne.symm nM0)]
  intro e
  obtain ⟨g, g1, g2, g3, g4, g5⟩ := h.blk e
  exact ⟨g, g1, g2, Nat.lt_of_lt_of_le g3 hB.size, fun e2 => (hB.block g g3).trans (g4 e2), fun e2 => by
   obtain ⟨x0, x1, x2, x3, x4, x5, x6, k1, k2⟩ := g5 e2
   exact ⟨x0, x1, x2, x3, x4, x5, x6, k1, (hB.block g g3).trans k2⟩⟩
 ·rw [getD_set_ne _ _ _ _ (by decide), getD_set_ne _ _ _ _ (by decide), getD_put nJM, getD_put (Ne.symm nMA)]
  intro e
  obtain ⟨v, y, z, k1, k2, k3, k4⟩ := h.res e
  exact ⟨v, y, z, k1, k2, k3, k4.below hB⟩
 ·rw [getD_put nJM]; exact getDV_set_self _ _ _ _ hs
 ·rw [getD_set_ne _ _ _ _ (by decide), getD_put nJM, getD_put (Ne.symm nM0)]; exact h.ex
theorem CR.first (h : CR base r l gr Q1 Q2 sR sV sJ sM s0 sA listed a W) (hd : CRd sR sV sJ sM s0 sA) {v y z : Value} (hs : s0 < a.tmps.size) (h11 : listed.getD 11 false = false) (hx : a.tmps.getD sJ undef = .tuple #[v, y, z]) : CR base r l gr Q1 Q2 sR sV sJ sM s0 sA (listed.setIfInBounds 7 true) (a.put (some s0) v) W := by
 obtain ⟨nRV, nRJ, nRM, nR0, nRA, nVJ, nVM, nV0, nVA, nJM, nJ0, nJA, nM0, nMA, n0A⟩ := hd.all
 have hB := Below.refl W.heap.size W
 refine ⟨h.bel, ?_, ?_, ?_, ?_, ?_, fun _ => ⟨v, y, z, ?_, getDV_set_self _ _ _ _ hs⟩⟩
 ·rw [getD_set_ne _ _ _ _ (by decide), getD_set_ne _ _ _ _ (by decide), getD_put nR0]; exact h.rul
 ·rw [getD_set_ne _ _ _ _ (by decide), getD_set_ne _ _ _ _ (by decide), getD_put nV0]; exact h.vis
 ·rw [getD_set_ne _ _ _ _ (by decide), getD_set_ne _ _ _ _ (by decide), getD_put (Ne.symm n0A)]
  intro e
  obtain ⟨g, g1, g2, g3, g4, g5⟩ := h.blk e
  exact ⟨g, g1, g2, g3, g4, fun e2 => by rw [h11] at e2; cases e2⟩
 ·rw [getD_set_ne _ _ _ _ (by decide), getD_set_ne _ _ _ _ (by decide), getD_put nJ0, getD_put (Ne.symm n0A)]
  intro e
  obtain ⟨v, y, z, k1, k2, k3, k4⟩ := h.res e
  exact ⟨v, y, z, k1, k2, k3, k4.below hB⟩
 ·rw [getD_set_ne _ _ _ _ (by decide), getD_put nM0, getD_put nJ0]; exact h.mv
 ·rw [getD_put nJ0]; exact hx
theorem CR.alloc (h : CR base r l gr Q1 Q2 sR sV sJ sM s0 sA listed a W) (hd : CRd sR sV sJ sM s0 sA) (hs : sA < a.tmps.size) (h11 : listed.getD 11 false = false) : CR base r l gr Q1 Q2 sR sV sJ sM s0 sA (listed.setIfInBounds 10 true) (a.put (some sA) (.pointer (some ⟨W.heap.size, 0, none⟩))) (W.alloc (.cells #[.slice none 0 0, .slice none 0 0, .slice none 0 0, .int .i64 0, .int .i64 0, .bool false, .slice none 0 0] 51)) := by
 obtain ⟨nRV, nRJ, nRM, nR0, nRA, nVJ, nVM, nV0, nVA, nJM, nJ0, nJA, nM0, nMA, n0A⟩ := hd.all
 have hB : Below W.heap.size W (W.alloc (.cells #[.slice none 0 0, .slice none 0 0, .slice none 0 0, .int .i64 0, .int .i64 0, .bool false, .slice none 0 0] 51)) := (Below.refl _ _).alloc (Nat.le_refl _) _
 refine ⟨h.bel.alloc h.bel.size _, ?_, ?_, fun _ => ⟨W.heap.size, getDV_set_self _ _ _ _ hs, h.bel.size, by simp, fun _ => World.alloc_heap_new _ _, fun e2 => by rw [getD_set_ne _ _ _ _ (by decide), h11] at e2; cases e2⟩, ?_, ?_, ?_⟩
 ·rw [getD_set_ne _ _ _ _ (by decide), getD_set_ne _ _ _ _ (by decide), getD_put nRA]; exact fun e1 e2 => (h.rul e1 e2).below hB
 ·rw [getD_set_ne _ _ _ _ (by decide), getD_set_ne _ _ _ _ (by decide), getD_put nVA]; exact fun e1 e2 => (h.vis e1 e2).below hB
 ·rw [getD_set_ne _ _ _ _ (by decide), getD_put nJA]
  intro e
  obtain ⟨v, y, z, k1, k2, k3, k4⟩ := h.res e
  refine ⟨v, y, z, k1, k2, k3, (k4.imp (fun b hb => ?_)).below hB⟩
  rintro ⟨-, e2⟩
  rw [show (a.put (some sA) (.pointer (some ⟨W.heap.size, 0, none⟩))).tmps.getD sA undef = .pointer (some ⟨W.heap.size, 0, none⟩) from getDV_set_self _ _ _ _ hs] at e2
  simp only [Value.pointer.injEq, Option.some.injEq, Addr.mk.injEq, and_true] at e2
  omega
 ·rw [getD_set_ne _ _ _ _ (by decide), getD_put nMA, getD_put nJA]; exact h.mv
 ·rw [getD_set_ne _ _ _ _ (by decide), getD_put nJA, getD_put n0A]; exact h.ex
theorem CR.store (h : CR base r l gr Q1 Q2 sR sV sJ sM s0 sA listed a W) (h10 : listed.getD 10 false = true) (h5 : listed.getD 5 false = true) (hl : 11 < listed.size) (h11 : listed.getD 11 false = false) {g : Nat} (hg : a.tmps.getD sA undef = .pointer (some ⟨g, 0, none⟩)) {x0 x1 x2 x3 x4 x5 x6 : Value} (hv : a.tmps.getD s0 undef = .agg #[x0, x1, x2, x3, x4, x5, x6]) (a' : Act) (ha : a'.tmps = a.tmps) : CR base r l gr Q1 Q2 sR sV sJ sM s0 sA (listed.setIfInBounds 11 true) a' (((((((W.setCell ⟨g, 0, none⟩ x0).setCell ⟨g, 1, none⟩ x1).setCell ⟨g, 2, none⟩ x2).setCell ⟨g, 3, none⟩ x3).setCell ⟨g, 4, none⟩ x4).setCell ⟨g, 5, none⟩ x5).setCell ⟨g, 6, none⟩ x6) := by
 obtain ⟨g', g1, g2, g3, g4, g5⟩ := h.blk h10
 rw [hg] at g1
 simp only [Value.pointer.injEq, Option.some.injEq, Addr.mk.injEq, and_true] at g1
 subst g1
 have hsz : (((((((W.setCell ⟨g, 0, none⟩ x0).setCell ⟨g, 1, none⟩ x1).setCell ⟨g, 2, none⟩ x2).setCell ⟨g, 3, none⟩ x3).setCell ⟨g, 4, none⟩ x4).setCell ⟨g, 5, none⟩ x5).setCell ⟨g, 6, none⟩ x6).heap.size = W.heap.size := by simp only [World.size_setCell]
 have hk : ∀ b, b ≠ g → (((((((W.setCell ⟨g, 0, none⟩ x0).setCell ⟨g, 1, none⟩ x1).setCell ⟨g, 2, none⟩ x2).setCell ⟨g, 3, none⟩ x3).setCell ⟨g, 4, none⟩ x4).setCell ⟨g, 5, none⟩ x5).setCell ⟨g, 6, none⟩ x6).heap[b]? = W.heap[b]? := fun b hb => by
  rw [Below.heap_setCell _ _ _ _ hb, Below.heap_setCell _ _ _ _ hb, Below.heap_setCell _ _ _ _ hb, Below.heap_setCell _ _ _ _ hb, Below.heap_setCell _ _ _ _ hb, Below.heap_setCell _ _ _ _ hb, Below.heap_setCell _ _ _ _ hb]
 refine ⟨below_set7 h.bel g2 x0 x1 x2 x3 x4 x5 x6, fun _ e => ?_, fun _ e => ?_, fun _ => ⟨g, by rw [ha]; exact hg, g2, by rw [hsz]; exact g3, fun e2 => ?_, fun _ => ⟨x0, x1, x2, x3, x4, x5, x6, by rw [ha]; exact hv, ?_⟩⟩, ?_, ?_, ?_⟩
 ·rw [getD_set_ne _ _ _ _ (by decide), h5] at e; cases e
 ·rw [getD_set_ne _ _ _ _ (by decide), h5] at e; cases e
 ·rw [getD_set_self _ _ _ hl] at e2; cases e2
 ·have z0 := Go.Joins.block_setCell (i := 0) (g4 h11) x0
  have z1 := Go.Joins.block_setCell (i := 1) z0 x1
  have z2 := Go.Joins.block_setCell (i := 2) z1 x2
  have z3 := Go.Joins.block_setCell (i := 3) z2 x3
  have z4 := Go.Joins.block_setCell (i := 4) z3 x4
  have z5 := Go.Joins.block_setCell (i := 5) z4 x5
  exact Go.Joins.block_setCell (i := 6) z5 x6
 ·rw [getD_set_ne _ _ _ _ (by decide), getD_set_ne _ _ _ _ (by decide), ha]
  intro e
  obtain ⟨v, y, z, k1, k2, k3, k4⟩ := h.res e
  exact ⟨v, y, z, k1, k2, k3, k4.except (by rw [hsz]; exact Nat.le_refl _) (fun b hb hq => hk b (fun e2 => hq ⟨h10, by rw [e2]; exact hg⟩))⟩
 ·rw [getD_set_ne _ _ _ _ (by decide), ha]; exact h.mv
 ·rw [getD_set_ne _ _ _ _ (by decide), ha]; exact h.ex
end
end
end Go.Proofs.Ytnhjoebdmmelaaa
