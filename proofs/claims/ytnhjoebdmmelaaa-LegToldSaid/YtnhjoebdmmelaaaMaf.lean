/- Leg: parts G, H, Ba, Bb, Bc, Bd, Be, L, Lay, N. -/
import Derived.Outline
import Derived.Laws.OwnMore
import Derived.Maps.AppendAt
import Derived.Shelf.SlIterI.Nil
import Derived.Shelf.SortM.Plain
import Derived.Shelf.SortM.SortNone
import Derived.Ground.GgzProg
import Derived.Ground.SlgmProg
import Derived.Test.YtnhjoebdmmelaaaProg
import Derived.Maps.OwnSet
import Derived.Maps.RangeWalk
import Derived.Shelf.SlIter.AllValues
import Derived.Test.YtnhjoebdmmelaaaMae
import Derived.Test.YtnhjoebdmmelaaaMab
set_option linter.unusedVariables false
set_option linter.unusedSimpArgs false
namespace Go.Proofs.Ytnhjoebdmmelaaa
section
open Go.RowKit Go.Shelf
def thrV (t : Thr) : Value := .agg #[.int .i64 t.left, .int .i64 t.score, .int .i64 t.darts, .bool t.inn, .bool t.bust, .bool t.won]
def thrR (r : Thr × Int × Int) : Value := .tuple #[thrV r.1, .int .i64 r.2.1, .int .i64 r.2.2]
def ZeroAt (w : World) (R : Nat) : Prop := w.heap[R]? = some (.cells #[.int .i64 0, .int .i64 0, .int .i64 0, .bool false, .bool false, .bool false] 30 (0, 0))
theorem vis_below {w w' : World} {V : Nat} {t : Thr} {c : Cnt} (h : VisAt w V t c) (hB : Below w.heap.size w w') : VisAt w' V t c := (hB.block V (vis_size h)).trans h
theorem zero_below {w w' : World} {R : Nat} (h : ZeroAt w R) (hB : Below w.heap.size w w') : ZeroAt w' R := (hB.block R (Array.getElem?_eq_some_iff.1 h).1).trans h
theorem below_set6 {B R : Nat} {w w1 : World} (h : Below B w w1) (hR : B ≤ R) (x0 x1 x2 x3 x4 x5 : Value) :
  Below B w ((((((w1.setCell ⟨R, 0, none⟩ x0).setCell ⟨R, 1, none⟩ x1).setCell ⟨R, 2, none⟩ x2).setCell ⟨R, 3, none⟩ x3).setCell ⟨R, 4, none⟩ x4).setCell ⟨R, 5, none⟩ x5) :=
 (((((h.setCell (p := ⟨R, 0, none⟩) hR x0).setCell (p := ⟨R, 1, none⟩) hR x1).setCell (p := ⟨R, 2, none⟩) hR x2).setCell (p := ⟨R, 3, none⟩) hR x3).setCell (p := ⟨R, 4, none⟩) hR x4).setCell (p := ⟨R, 5, none⟩) hR x5
def ThrInv (c : Cnt) (in0 : Bool) (left : Int) (bs : List Int) (res : Thr × Int × Int) (w : World) (V R k : Nat) (wr : World) : Prop :=
 ∃ t : Thr, VisAt wr V t c ∧ t.Ok k ∧ thrL c in0 left t k (bs.drop k) = res ∧ Below w.heap.size w wr ∧ ZeroAt wr R
set_option maxRecDepth 100000 in
set_option maxHeartbeats 4000000 in
theorem thrown_any (c : Cnt) (in0 : Bool) (left : Int) (v : Value) (bs : List Int) (w : World) (hs : Sl w 1 eI v bs) (hc : vcnt c = true) (l0 : 0 ≤ left) (l1 : left ≤ 1001) (hbs : ∀ x ∈ bs, -9223372036854775808 ≤ x ∧ x ≤ 9223372036854775807) :
  Calls Try.prog 41 #[cntV c, .bool in0, .int .i64 left, v] w (Ret (thrR (thr c in0 left bs)) w) := by
 obtain ⟨a, cp, rfl, hl, hs⟩ := hs
 obtain ⟨n, hn⟩ : ∃ n, bs.length = n := ⟨_, rfl⟩
 have HN : Aside (bs.length = n) := hn
 have HS : Aside (bs ≠ [] → ∃ b off, a = some ⟨b, off, none⟩ ∧ b < w.heap.size ∧ ∀ j x, bs[j]? = some x → ∀ i y, (eI x)[i]? = some y → w.cell? ⟨b, off + j * 1 + i, none⟩ = some y) := hs
 have HB : Aside (∀ x ∈ bs, -9223372036854775808 ≤ x ∧ x ≤ 9223372036854775807) := hbs
 have HC : Aside (vcnt c = true) := hc
 rw [hn] at hl ⊢
 clear hn hs hbs hc
 obtain ⟨res, hres⟩ : ∃ res, thr c in0 left bs = res := ⟨_, rfl⟩
 have HRES : Aside (thr c in0 left bs = res) := hres
 rw [hres]
 clear hres
 have hcv : cntV c = .agg #[.int .i64 c.1, .int .i64 c.2.1, .int .i64 c.2.2] := rfl
 rw [hcv]
 clear hcv
 go_enter Try.func41, Try.ntmps41
 go_wp2_with fail
 obtain ⟨wa, hwa⟩ : ∃ u, u = ((w.alloc (.cells #[.int .i64 c.1, .int .i64 c.2.1, .int .i64 c.2.2] 24)).alloc (.cells #[.int .i64 0, .int .i64 0, .int .i64 0, .bool false, .bool false, .bool false] 30)).alloc (.cells #[.int .i64 left, .int .i64 0, .int .i64 0, .bool in0, .bool false, .bool false, .int .i64 c.1, .int .i64 c.2.1, .int .i64 c.2.2] 132) := ⟨_, rfl⟩
 have HI : Aside (ThrInv c in0 left bs res w (w.heap.size + 1 + 1) (w.heap.size + 1) 0 wa) := by
  refine ⟨⟨left, 0, 0, in0, false, false⟩, ?_, ⟨l0, l1, rfl, by omega⟩, HRES.out, by rw [hwa]; (repeat' (first | exact Below.refl _ _ | assumption | (with_reducible refine Below.drew ?_) | (with_reducible refine Below.setCell ?_ (by (first | (simp; done) | (simp; omega))) _) | (with_reducible refine below_drewN' ?_ _) | (refine Below.alloc ?_ (by (try simp only [World.size_alloc, World.size_drew, World.size_setCell]); omega) _) | (refine Below.trans ?_ (Below.mono (by assumption) (by (try simp only [World.size_alloc, World.size_drew, World.size_setCell]); omega))))), ?_⟩
  ·rw [hwa]; exact World.alloc_heap_new' _ _ _ (by simp)
  ·rw [hwa]; exact (Below.heap_alloc _ _ _ (by simp)).trans (World.alloc_heap_new' _ _ _ (by simp))
 rw [← hwa]
 clear hwa
 go_loopg [22] n (fun gg i wr => ∃ k : Nat, k ≤ n ∧ n - k ≤ gg ∧ i = .int .i64 k ∧ Aside (ThrInv c in0 left bs res w (w.heap.size + 1 + 1) (w.heap.size + 1) k wr))
 case atStart => exact ⟨0, Nat.zero_le _, by omega, rfl, HI.out⟩
 case round =>
  clear HI HRES
  obtain ⟨k, hk, hg, rfl, HI⟩ := hrel
  obtain ⟨t, hv, hok, hr, hB, hz⟩ := HI.out
  have hend := fun W h => ended_any (w.heap.size + 1 + 1) t c W h
  have hzlt : w.heap.size + 1 < wr.heap.size := (Array.getElem?_eq_some_iff.1 hz).1
  have hvlt := vis_size hv
  have HV : Aside (VisAt wr (w.heap.size + 1 + 1) t c) := hv
  have HZ : Aside (ZeroAt wr (w.heap.size + 1)) := hz
  have HOK : Aside (t.Ok k) := hok
  have HBW : Aside (Below w.heap.size w wr) := hB
  have HR : Aside (thrL c in0 left t k (bs.drop k) = res) := hr
  clear hv hz hok hB hr HI
  by_cases hlt : k < n
  ·have hltz : (k : Int) < (n : Int) := by omega
   obtain ⟨b, hb⟩ : ∃ b, bs[k]? = some b := ⟨_, List.getElem?_eq_getElem (by rw [HN.out]; exact hlt)⟩
   obtain ⟨B, off, rfl, hBlt, hcl⟩ := HS.out (by intro e; rw [e] at hb; simp at hb)
   have kb : wr.cell? ⟨B, off + k, none⟩ = some (.int .i64 b) := keepc HBW.out (by have := hcl k b hb 0 (.int .i64 b) rfl; simpa using this)
   have HBB : Aside (-9223372036854775808 ≤ b ∧ b ≤ 9223372036854775807) := HB.out b (List.mem_of_getElem? hb)
   have HD : Aside (bs.drop k = b :: bs.drop (k + 1)) := by
    obtain ⟨h1, h2⟩ := List.getElem?_eq_some_iff.1 hb
    show _ = _
    rw [List.drop_eq_getElem_cons h1, h2]
   have HR2 : Aside (thrL c in0 left t k (b :: bs.drop (k + 1)) = res) := by
    show _ = _
    rw [← HD.out]; exact HR.out
   clear hcl hb HR HD
   cases he : t.ended with
   | true =>
    rw [he] at hend
    have HR3 : Aside (res = (Thr.zero, (k : Int), 32)) := by
     show _ = _
     rw [← HR2.out, thrL, if_pos he]
    clear he HR2
    go_wp2_with fail
    refine (hend _ HV.out).mono ?_
    rintro e w1 ⟨rfl, hb1⟩
    have z1 := zero_below HZ.out hb1
    have r0 := blk_cell z1 (i := 0) rfl
    have r1 := blk_cell z1 (i := 1) rfl
    have r2 := blk_cell z1 (i := 2) rfl
    have r3 := blk_cell z1 (i := 3) rfl
    have r4 := blk_cell z1 (i := 4) rfl
    have r5 := blk_cell z1 (i := 5) rfl
    have rf := blk_free z1
    have BF : Aside (Below w.heap.size w w1) := HBW.out.trans (hb1.mono HBW.out.size)
    clear hb1 z1 hend kb
    go_wp2
    refine bodyPost_ret (v := .tuple #[.agg #[.int .i64 0, .int .i64 0, .int .i64 0, .bool false, .bool false, .bool false], .int .i64 (k : Int), .int .i64 32]) (by simp [results, Try.results41, go_sem, r0, r1, r2, r3, r4, r5]) rfl ⟨by rw [HR3.out]; rfl, ?_⟩
    exact below_set6 BF.out (by omega) _ _ _ _ _ _
   | false =>
    rw [he] at hend
    have x2 := fun W => valid_any b W HBB.out.1 HBB.out.2
    unfold hitV at x2
    go_wp2_with fail
    refine (hend _ HV.out).mono ?_
    rintro e w1 ⟨rfl, hb1⟩
    have HV1 : Aside (VisAt w1 (w.heap.size + 1 + 1) t c) := vis_below HV.out hb1
    have HZ1 : Aside (ZeroAt w1 (w.heap.size + 1)) := zero_below HZ.out hb1
    have BF : Aside (Below w.heap.size w w1) := HBW.out.trans (hb1.mono HBW.out.size)
    clear hb1 hend kb HV HZ HBW hzlt hvlt
    cases hvb : vbed b with
    | false =>
     rw [hvb] at x2
     have HR3 : Aside (res = (Thr.zero, (k : Int), 2)) := by
      show _ = _
      rw [← HR2.out, thrL, if_neg (by rw [he]; simp), if_neg (by rw [hvb]; simp)]
     clear he hvb HR2
     go_wp2_with fail
     refine (x2 _).mono ?_
     rintro e w2 ⟨rfl, hb2⟩
     have ha : Below w1.heap.size w1 w2 := ((Below.refl _ w1).alloc (Nat.le_refl _) _).trans (hb2.mono (by simp))
     have z1 := zero_below HZ1.out ha
     have BF2 : Aside (Below w.heap.size w w2) := BF.out.trans (ha.mono BF.out.size)
     clear ha hb2 BF
     have BF := BF2
     clear BF2
     have r0 := blk_cell z1 (i := 0) rfl
     have r1 := blk_cell z1 (i := 1) rfl
     have r2 := blk_cell z1 (i := 2) rfl
     have r3 := blk_cell z1 (i := 3) rfl
     have r4 := blk_cell z1 (i := 4) rfl
     have r5 := blk_cell z1 (i := 5) rfl
     have rf := blk_free z1
     clear z1
     go_wp2
     refine bodyPost_ret (v := .tuple #[.agg #[.int .i64 0, .int .i64 0, .int .i64 0, .bool false, .bool false, .bool false], .int .i64 (k : Int), .int .i64 2]) (by simp [results, Try.results41, go_sem, r0, r1, r2, r3, r4, r5]) rfl ⟨by rw [HR3.out]; rfl, ?_⟩
     exact below_set6 BF.out (by omega) _ _ _ _ _ _
    | true =>
     rw [hvb] at x2
     have HR3 : Aside (thrL c in0 left (t.step c b) (k + 1) (bs.drop (k + 1)) = res) := by
      show _ = _
      rw [← HR2.out, thrL, if_neg (by rw [he]; simp), if_pos hvb]
     have HOK2 : Aside ((t.step c b).Ok (k + 1)) := HOK.out.step he c hvb
     have x3 := fun W (h : VisAt W (w.heap.size + 1 + 1) t c) => take_any (w.heap.size + 1 + 1) t c b W h hvb HC.out HOK.out.l0 HOK.out.l1 (by rw [HOK.out.d]; omega) (by
      have h1 := HOK.out.d
      have h2 := HOK2.out.n3
      omega)
     unfold hitV at x3
     clear he hvb HR2
     go_wp2_with fail
     refine (x2 _).mono ?_
     rintro e w2 ⟨rfl, hb2⟩
     have ha : Below w1.heap.size w1 w2 := ((Below.refl _ w1).alloc (Nat.le_refl _) _).trans (hb2.mono (by simp))
     have HV2 : Aside (VisAt w2 (w.heap.size + 1 + 1) t c) := vis_below HV1.out ha
     have HZ2 : Aside (ZeroAt w2 (w.heap.size + 1)) := zero_below HZ1.out ha
     have BF2 : Aside (Below w.heap.size w w2) := BF.out.trans (ha.mono BF.out.size)
     have kh : w2.cell? ⟨w1.heap.size, 0, none⟩ = some (.int .i64 b) := keepc hb2 (by go_simp)
     clear ha hb2 BF HV1 HZ1 x2
     go_wp2_with fail
     refine (x3 _ HV2.out).mono ?_
     rintro e w3 ⟨⟨v3, rfl⟩, hv3, ho3⟩
     have HI3 : Aside (ThrInv c in0 left bs res w (w.heap.size + 1 + 1) (w.heap.size + 1) (k + 1) w3) := by
      have hz := vis_size HV2.out
      exact ⟨t.step c b, hv3, HOK2.out, HR3.out, BF2.out.trans ((ho3.below (by omega)).mono (by omega)), ho3.cells (by omega) HZ2.out⟩
     clear hv3 ho3 HV2 HZ2 x3 kh
     go_wp2_with fail
     go_roundg (n - (k + 1))
     case measure => omega
     case rel => exact ⟨k + 1, by omega, by omega, by go_num, HI3.out⟩
  ·have hltz : ¬ (k : Int) < (n : Int) := by omega
   have : k = n := by omega
   subst this
   have HR2 : Aside (thrL c in0 left t k [] = res) := by
    have := HR.out
    rw [List.drop_of_length_le (by rw [HN.out]; exact Nat.le_refl _)] at this
    exact this
   clear HR
   cases he : t.ended with
   | false =>
    rw [he] at hend
    have HR3 : Aside (res = (Thr.zero, -1, 31)) := by
     show _ = _
     rw [← HR2.out, thrL, if_neg (by rw [he]; simp)]
    clear he HR2
    go_wp2_with fail
    refine (hend _ HV.out).mono ?_
    rintro e w1 ⟨rfl, hb1⟩
    have z1 := zero_below HZ.out hb1
    have r0 := blk_cell z1 (i := 0) rfl
    have r1 := blk_cell z1 (i := 1) rfl
    have r2 := blk_cell z1 (i := 2) rfl
    have r3 := blk_cell z1 (i := 3) rfl
    have r4 := blk_cell z1 (i := 4) rfl
    have r5 := blk_cell z1 (i := 5) rfl
    have rf := blk_free z1
    have BF : Aside (Below w.heap.size w w1) := HBW.out.trans (hb1.mono HBW.out.size)
    clear hb1 z1 hend
    go_wp2
    refine bodyPost_ret (v := .tuple #[.agg #[.int .i64 0, .int .i64 0, .int .i64 0, .bool false, .bool false, .bool false], .int .i64 (-1), .int .i64 31]) (by simp [results, Try.results41, go_sem, r0, r1, r2, r3, r4, r5]) rfl ⟨by rw [HR3.out]; rfl, ?_⟩
    exact below_set6 BF.out (by omega) _ _ _ _ _ _
   | true =>
    rw [he] at hend
    have HR3 : Aside (res = (t.fin left in0, -1, 0)) := by
     show _ = _
     rw [← HR2.out, thrL, if_pos he]
    clear he HR2
    go_wp2_with fail
    refine (hend _ HV.out).mono ?_
    rintro e w1 ⟨rfl, hb1⟩
    have z1 := zero_below HZ.out hb1
    have r0 := blk_cell z1 (i := 0) rfl
    have r1 := blk_cell z1 (i := 1) rfl
    have r2 := blk_cell z1 (i := 2) rfl
    have r3 := blk_cell z1 (i := 3) rfl
    have r4 := blk_cell z1 (i := 4) rfl
    have r5 := blk_cell z1 (i := 5) rfl
    have rf := blk_free z1
    have BF : Aside (Below w.heap.size w w1) := HBW.out.trans (hb1.mono HBW.out.size)
    have v1 := vis_below HV.out hb1
    have HL : Aside (0 ≤ t.left ∧ t.left ≤ 1001) := ⟨HOK.out.l0, HOK.out.l1⟩
    obtain ⟨tl, ts, td, ti, tb, tw⟩ := t
    unfold VisAt at v1
    simp only [] at v1
    have k0 := blk_cell v1 (i := 0) rfl
    have k1 := blk_cell v1 (i := 1) rfl
    have k2 := blk_cell v1 (i := 2) rfl
    have k3 := blk_cell v1 (i := 3) rfl
    have k4 := blk_cell v1 (i := 4) rfl
    have k5 := blk_cell v1 (i := 5) rfl
    have kf := blk_free v1
    obtain ⟨tl0, tl1⟩ := HL.out
    simp only [] at tl0 tl1
    clear hb1 z1 v1 hend HV HZ HOK HL
    cases tb with
    | true =>
     have HR4 : Aside (res = (⟨left, 0, td, in0, true, tw⟩, -1, 0)) := by
      show _ = _
      rw [HR3.out]
      simp [Thr.fin]
     clear HR3
     go_wp2
     refine bodyPost_ret (v := .tuple #[.agg #[.int .i64 left, .int .i64 0, .int .i64 td, .bool in0, .bool true, .bool tw], .int .i64 (-1), .int .i64 0]) (by simp [results, Try.results41, go_sem, r0, r1, r2, r3, r4, r5]) rfl ⟨by rw [HR4.out]; rfl, ?_⟩
     exact below_set6 (((BF.out.setCell (p := ⟨w.heap.size + 1 + 1, 0, none⟩) (show w.heap.size ≤ w.heap.size + 1 + 1 by omega) _).setCell (p := ⟨w.heap.size + 1 + 1, 3, none⟩) (show w.heap.size ≤ w.heap.size + 1 + 1 by omega) _).setCell (p := ⟨w.heap.size + 1 + 1, 1, none⟩) (show w.heap.size ≤ w.heap.size + 1 + 1 by omega) _) (by omega) _ _ _ _ _ _
    | false =>
     have HR4 : Aside (res = (⟨tl, left - tl, td, ti, false, tw⟩, -1, 0)) := by
      show _ = _
      rw [HR3.out]; rfl
     clear HR3
     go_wp2
     refine bodyPost_ret (v := .tuple #[.agg #[.int .i64 tl, .int .i64 (left - tl), .int .i64 td, .bool ti, .bool false, .bool tw], .int .i64 (-1), .int .i64 0]) (by simp [results, Try.results41, go_sem, r0, r1, r2, r3, r4, r5]) rfl ⟨by rw [HR4.out]; rfl, ?_⟩
     exact below_set6 (BF.out.setCell (p := ⟨w.heap.size + 1 + 1, 1, none⟩) (show w.heap.size ≤ w.heap.size + 1 + 1 by omega) _) (by omega) _ _ _ _ _ _
end
section
open Go.RowKit Go.Shelf
def visR (r : Thr × Int) : Value := .tuple #[thrV r.1, .int .i64 r.2]
set_option maxRecDepth 100000 in
set_option maxHeartbeats 4000000 in
theorem Visit_any (c : Cnt) (in0 : Bool) (left : Int) (v : Value) (bs : List Int) (w : World) (hs : Sl w 1 eI v bs) (hbs : ∀ x ∈ bs, -9223372036854775808 ≤ x ∧ x ≤ 9223372036854775807) :
  Calls Try.prog 14 #[cntV c, .bool in0, .int .i64 left, v] w (Ret (visR (visitF c in0 left bs)) w) := by
 have x1 := fun W => validCount_any c W
 have x2 := fun W => validStand_any c in0 left W
 unfold standV at x2
 have x3 := fun (hc : vcnt c = true) (hv : vstand c in0 left = true) W (hW : Below w.heap.size w W) => thrown_any c in0 left v bs W (hs.below hW) hc (by
  unfold vstand inb at hv; simp at hv; have := hv.1.1; split at this <;> omega) (by
  unfold vstand inb at hv; unfold vcnt inb at hc; simp at hv hc; omega) hbs
 have HR : Aside (visitF c in0 left bs = if vcnt c = true then (if vstand c in0 left = true then ((thr c in0 left bs).1, (thr c in0 left bs).2.2) else (Thr.zero, 3)) else (Thr.zero, 2)) := rfl
 obtain ⟨a, cp, rfl, hl, _⟩ := hs
 generalize visitF c in0 left bs = res at *
 generalize thr c in0 left bs = tr at *
 generalize bs.length = n at *
 have hcv : cntV c = .agg #[.int .i64 c.1, .int .i64 c.2.1, .int .i64 c.2.2] := rfl
 rw [hcv] at *
 clear hcv hbs
 cases hc : vcnt c with
 | false =>
  rw [hc] at x1
  have HR2 : Aside (res = (Thr.zero, 2)) := by
   show _ = _
   rw [HR.out, if_neg (by rw [hc]; simp)]
  clear HR hc x3 x2
  go_enter Try.func14, Try.ntmps14
  go_wp2_with fail
  refine (x1 _).mono ?_
  rintro e w1 ⟨rfl, hb1⟩
  have z1 : ZeroAt w1 (w.heap.size + 1) := (hb1.block _ (by simp)).trans (World.alloc_heap_new' _ _ _ (by simp))
  have BF : Aside (Below w.heap.size w w1) := by (repeat' (first | exact Below.refl _ _ | assumption | (with_reducible refine Below.drew ?_) | (with_reducible refine Below.setCell ?_ (by (first | (simp; done) | (simp; omega))) _) | (with_reducible refine below_drewN' ?_ _) | (refine Below.alloc ?_ (by (try simp only [World.size_alloc, World.size_drew, World.size_setCell]); omega) _) | (refine Below.trans ?_ (Below.mono (by assumption) (by (try simp only [World.size_alloc, World.size_drew, World.size_setCell]); omega)))))
  have r0 := blk_cell z1 (i := 0) rfl
  have r1 := blk_cell z1 (i := 1) rfl
  have r2 := blk_cell z1 (i := 2) rfl
  have r3 := blk_cell z1 (i := 3) rfl
  have r4 := blk_cell z1 (i := 4) rfl
  have r5 := blk_cell z1 (i := 5) rfl
  have rf := blk_free z1
  clear hb1 z1
  go_wp2
  refine bodyPost_ret (v := .tuple #[.agg #[.int .i64 0, .int .i64 0, .int .i64 0, .bool false, .bool false, .bool false], .int .i64 2]) (by simp [results, Try.results14, go_sem, r0, r1, r2, r3, r4, r5]) rfl ⟨by rw [HR2.out]; rfl, ?_⟩
  exact below_set6 BF.out (by omega) _ _ _ _ _ _
 | true =>
  rw [hc] at x1
  cases hv : vstand c in0 left with
  | false =>
   rw [hv] at x2
   have HR2 : Aside (res = (Thr.zero, 3)) := by
    show _ = _
    rw [HR.out, if_pos hc, if_neg (by rw [hv]; simp)]
   clear HR hc x3 hv
   go_enter Try.func14, Try.ntmps14
   go_wp2_with fail
   refine (x1 _).mono ?_
   rintro e w1 ⟨rfl, hb1⟩
   have z1 : ZeroAt w1 (w.heap.size + 1) := (hb1.block _ (by simp)).trans (World.alloc_heap_new' _ _ _ (by simp))
   have BF1 : Aside (Below w.heap.size w w1) := by (repeat' (first | exact Below.refl _ _ | assumption | (with_reducible refine Below.drew ?_) | (with_reducible refine Below.setCell ?_ (by (first | (simp; done) | (simp; omega))) _) | (with_reducible refine below_drewN' ?_ _) | (refine Below.alloc ?_ (by (try simp only [World.size_alloc, World.size_drew, World.size_setCell]); omega) _) | (refine Below.trans ?_ (Below.mono (by assumption) (by (try simp only [World.size_alloc, World.size_drew, World.size_setCell]); omega)))))
   have c0 : w1.cell? ⟨w.heap.size, 0, none⟩ = some (.int .i64 c.1) := keepc hb1 (by go_simp)
   have c1 : w1.cell? ⟨w.heap.size, 1, none⟩ = some (.int .i64 c.2.1) := keepc hb1 (by go_simp)
   have c2 : w1.cell? ⟨w.heap.size, 2, none⟩ = some (.int .i64 c.2.2) := keepc hb1 (by go_simp)
   have Z1 : Aside (ZeroAt w1 (w.heap.size + 1)) := z1
   clear hb1 z1
   go_wp2_with fail
   refine (x2 _).mono ?_
   rintro e w2 ⟨rfl, hb2⟩
   have z2 := zero_below Z1.out hb2
   have BF : Aside (Below w.heap.size w w2) := BF1.out.trans (hb2.mono BF1.out.size)
   have r0 := blk_cell z2 (i := 0) rfl
   have r1 := blk_cell z2 (i := 1) rfl
   have r2 := blk_cell z2 (i := 2) rfl
   have r3 := blk_cell z2 (i := 3) rfl
   have r4 := blk_cell z2 (i := 4) rfl
   have r5 := blk_cell z2 (i := 5) rfl
   have rf := blk_free z2
   clear hb2 z2 c0 c1 c2 Z1 BF1
   go_wp2
   refine bodyPost_ret (v := .tuple #[.agg #[.int .i64 0, .int .i64 0, .int .i64 0, .bool false, .bool false, .bool false], .int .i64 3]) (by simp [results, Try.results14, go_sem, r0, r1, r2, r3, r4, r5]) rfl ⟨by rw [HR2.out]; rfl, ?_⟩
   exact below_set6 BF.out (by omega) _ _ _ _ _ _
  | true =>
   rw [hv] at x2
   have x3 := x3 hc hv
   have HR2 : Aside (res = (tr.1, tr.2.2)) := by
    show _ = _
    rw [HR.out, if_pos hc, if_pos hv]
   obtain ⟨⟨tl, ts, td, ti, tb, tw⟩, dart, err⟩ := tr
   unfold thrR thrV at x3
   simp only [] at x3
   clear HR hc hv
   go_enter Try.func14, Try.ntmps14
   go_wp2_with fail
   refine (x1 _).mono ?_
   rintro e w1 ⟨rfl, hb1⟩
   have z1 : ZeroAt w1 (w.heap.size + 1) := (hb1.block _ (by simp)).trans (World.alloc_heap_new' _ _ _ (by simp))
   have BF1 : Aside (Below w.heap.size w w1) := by (repeat' (first | exact Below.refl _ _ | assumption | (with_reducible refine Below.drew ?_) | (with_reducible refine Below.setCell ?_ (by (first | (simp; done) | (simp; omega))) _) | (with_reducible refine below_drewN' ?_ _) | (refine Below.alloc ?_ (by (try simp only [World.size_alloc, World.size_drew, World.size_setCell]); omega) _) | (refine Below.trans ?_ (Below.mono (by assumption) (by (try simp only [World.size_alloc, World.size_drew, World.size_setCell]); omega)))))
   have c0 : w1.cell? ⟨w.heap.size, 0, none⟩ = some (.int .i64 c.1) := keepc hb1 (by go_simp)
   have c1 : w1.cell? ⟨w.heap.size, 1, none⟩ = some (.int .i64 c.2.1) := keepc hb1 (by go_simp)
   have c2 : w1.cell? ⟨w.heap.size, 2, none⟩ = some (.int .i64 c.2.2) := keepc hb1 (by go_simp)
   have Z1 : Aside (ZeroAt w1 (w.heap.size + 1)) := z1
   clear hb1 z1
   go_wp2_with fail
   refine (x2 _).mono ?_
   rintro e w2 ⟨rfl, hb2⟩
   have Z2 : Aside (ZeroAt w2 (w.heap.size + 1)) := zero_below Z1.out hb2
   have BF2 : Aside (Below w.heap.size w w2) := BF1.out.trans (hb2.mono BF1.out.size)
   have c0' := keepc hb2 c0
   have c1' := keepc hb2 c1
   have c2' := keepc hb2 c2
   clear hb2 c0 c1 c2 Z1 BF1
   go_wp2_with fail
   refine (x3 _ BF2.out).mono ?_
   rintro e w3 ⟨rfl, hb3⟩
   have z3 := zero_below Z2.out hb3
   have BF : Aside (Below w.heap.size w w3) := BF2.out.trans (hb3.mono BF2.out.size)
   have zs : w.heap.size + 1 < w3.heap.size := (Array.getElem?_eq_some_iff.1 z3).1
   have r0 := blk_cell z3 (i := 0) rfl
   have r1 := blk_cell z3 (i := 1) rfl
   have r2 := blk_cell z3 (i := 2) rfl
   have r3 := blk_cell z3 (i := 3) rfl
   have r4 := blk_cell z3 (i := 4) rfl
   have r5 := blk_cell z3 (i := 5) rfl
   have rf := blk_free z3
   clear hb3 z3 c0' c1' c2' Z2 BF2 x1 x2 x3
   go_wp2
   refine bodyPost_ret (v := .tuple #[.agg #[.int .i64 tl, .int .i64 ts, .int .i64 td, .bool ti, .bool tb, .bool tw], .int .i64 err]) (by simp [results, Try.results14, go_sem, r0, r1, r2, r3, r4, r5, zs]) rfl ⟨by rw [HR2.out]; rfl, ?_⟩
   exact (below_set6 BF.out (by omega) _ _ _ _ _ _).alloc (by simp only [World.size_setCell]; exact BF.out.size) _
end
section
open Go.RowKit Go.Shelf
theorem vcnt_bd {c : Cnt} (h : vcnt c = true) : 2 ≤ c.1 ∧ c.1 ≤ 1001 := by
 unfold vcnt inb at h
 simp only [Bool.and_eq_true, decide_eq_true_eq] at h
 exact h.1
end
section
open Go.RowKit Go.Shelf
end
section
open Go.RowKit Go.Shelf
theorem vbed_zero {b : Int} (h : vbed b = true) : decide (b ≠ 0) = decide (1 ≤ b / 100) := by
 obtain ⟨h0, h1⟩ := vbed_bd h
 unfold vbed inb at h
 rw [show fac b = b / 100 from Int.tdiv_eq_ediv_of_nonneg h0] at h
 simp only [Bool.or_eq_true, Bool.and_eq_true, decide_eq_true_eq] at h
 rw [decide_eq_decide]
 constructor
 ·intro hne; rcases h with ((h | h) | h) | h <;> omega
 ·intro hh hz; subst hz; simp at hh
end
section
open Go.RowKit Go.Shelf
def lo (c : Cnt) : Int := if c.2.2 = 0 then 1 else 2
def RvAt (w : World) (X : Nat) (t : Thr) (ui : Bool) : Prop := w.heap[X]? = some (.cells #[.int .i64 t.left, .int .i64 0, .int .i64 t.darts, .bool ui, .bool t.bust, .bool t.won] 30 (0, 0))
structure RvInv (c : Cnt) (in0 : Bool) (left : Int) (bs : List Int) (res : Thr × Int × Int) (w : World) (k : Nat) (t : Thr) (ui : Bool) (wr : World) : Prop where
 blk : RvAt wr (w.heap.size + 1 + 1) t ui
 inn : t.bust = false → ui = t.inn
 ok : t.Ok k
 low : t.won = false → lo c ≤ t.left
 res : thrL c in0 left t k (bs.drop k) = res
 bel : Below w.heap.size w wr
 zero : ZeroAt wr (w.heap.size + 1)
 box : wr.heap[w.heap.size]? = some (.cells #[.int .i64 c.1, .int .i64 c.2.1, .int .i64 c.2.2] 24 (0, 0))
end
section
open Go.RowKit Go.Shelf
end
section
open Go.RowKit Go.Shelf
def mn : List Int → Int
 | [] => 0
 | x :: xs => xs.foldl min x
theorem mn_snoc (xs : List Int) (y : Int) (h : xs ≠ []) : mn (xs ++ [y]) = min (mn xs) y := by
 cases xs with
 | nil => exact absurd rfl h
 | cons x xs => simp [mn, List.foldl_append]
set_option maxRecDepth 100000 in
set_option maxHeartbeats 1000000 in
theorem min_any (v : Value) (xs : List Int) (w : World) (hs : Sl w 1 (eI) v xs) (hne : xs ≠ []) :
  Calls Try.prog 90 #[v] w (Ret (.int .i64 (mn xs)) w) := by
 obtain ⟨a, c, rfl, hl, hs⟩ := hs
 obtain ⟨b, off, rfl, hb, hc⟩ := hs hne
 clear hs
 have hpos : 0 < xs.length := List.length_pos_iff.2 hne
 have HC : Aside (∀ j x, xs[j]? = some x → w.cell? ⟨b, off + j, none⟩ = some (.int .i64 x)) := fun j x hx => by have := hc j x hx 0 (.int .i64 x) rfl; simpa using this
 clear hc hne
 obtain ⟨n, hn⟩ : ∃ n, xs.length = n := ⟨_, rfl⟩
 have HN : Aside (xs.length = n) := hn
 rw [hn] at hl hpos ⊢
 have HE : Aside (mn xs = mn (xs.take n)) := by show _ = _; rw [← hn, List.take_length]
 rw [HE.out]
 clear hn
 obtain ⟨x0, hx0⟩ : ∃ x, xs[0]? = some x := ⟨_, List.getElem?_eq_getElem (by rw [HN.out]; exact hpos)⟩
 have k0 : w.cell? ⟨b, off, none⟩ = some (.int .i64 x0) := by have := HC.out 0 x0 hx0; simpa using this
 have H1 : Aside (mn (xs.take 1) = x0) := by
  show _ = _
  cases xs with
  | nil => simp at hx0
  | cons y ys => simp at hx0; simp [mn, hx0]
 clear hx0
 have hz1 : ¬ ((n : Int) < 1) := by omega
 have hz0 : (0 : Int) < (n : Int) := by omega
 go_enter Try.func90, Try.ntmps90
 go_wp2
 go_loopg [3, 4] n (fun gg m i wr => ∃ k : Nat, 1 ≤ k ∧ k ≤ n ∧ n - k ≤ gg ∧ i = .int .i64 k ∧ m = .int .i64 (mn (xs.take k)) ∧ wr = w)
 case atStart => exact ⟨1, by omega, by omega, by omega, rfl, by rw [H1.out], rfl⟩
 case round =>
  obtain ⟨k, hk1, hk, hg, rfl, rfl, rfl⟩ := hrel
  by_cases hlt : k < n
  ·have hltz : (k : Int) < (n : Int) := by omega
   obtain ⟨x, hx⟩ : ∃ x, xs[k]? = some x := ⟨_, List.getElem?_eq_getElem (by rw [HN.out]; exact hlt)⟩
   have kx := HC.out k x hx
   have HM : Aside (mn (xs.take (k + 1)) = min (mn (xs.take k)) x) := by
    show _ = _
    obtain ⟨hk', e⟩ := List.getElem?_eq_some_iff.1 hx
    rw [List.take_succ_eq_append_getElem hk', e]
    exact mn_snoc _ _ (by intro e0; have := congrArg List.length e0; have := HN.out; simp only [List.length_take, List.length_nil] at *; omega)
   clear hx
   generalize mn (xs.take k) = m at *
   go_wp2
   go_roundg (n - (k + 1))
   case measure => omega
   case rel => exact ⟨k + 1, by omega, by omega, by omega, by go_num, by rw [HM.out], rfl⟩
  ·have : k = n := by omega
   subst this
   have hltz : ¬ (k : Int) < (k : Int) := by omega
   go_wp2
   go_ret
   exact ⟨rfl, Below.refl _ _⟩
def distF (d : Int × Int) : Int := if d.1 = 225 then -2 else if d.1 = 125 then -1 else if d.1 = 0 then 10001 else d.2
def offOk (d : Int × Int) : Bool := vbed d.1 && inb 0 10000 d.2
set_option maxRecDepth 100000 in
set_option maxHeartbeats 2000000 in
theorem wrongOff_any (d : Int × Int) (w : World) (h1 : -9223372036854775808 ≤ d.1) (h2 : d.1 ≤ 9223372036854775807) :
  Calls Try.prog 56 #[pt d] w (Ret (.bool (!offOk d)) w) := by
 have x1 := fun W => valid_any d.1 W h1 h2
 have y1 := fun W k hk t => within_any 0 10000 _ [d.2] _ (sl_one W k hk t d.2)
 simp only [List.all_cons, List.all_nil, Bool.and_true] at y1
 obtain ⟨b, f⟩ := d
 unfold offOk
 unfold hitV at x1
 unfold pt
 simp only [] at *
 generalize vbed b = r1 at *
 generalize inb 0 10000 f = r2 at *
 cases r1 with
 | false =>
  rw [Bool.false_and, Bool.not_false]
  go_enter Try.func56, Try.ntmps56
  go_wp2_with (go_at_call 69; (with_reducible refine (x1 _).mono ?_); rintro e w1 ⟨rfl, hb1⟩; (obtain ⟨hc1, hf1⟩ := bcell hb1; have z1 := hb1.size; (try simp only [World.size_alloc, World.size_drew, World.size_setCell] at z1); (try have q1a : w.heap.size < w1.heap.size := by omega); (try have q1b : w.heap.size + 1 < w1.heap.size := by omega); (try have q1c : w.heap.size + 1 + 1 < w1.heap.size := by omega); (try have q1d : w.heap.size + 1 + 1 + 1 < w1.heap.size := by omega); (try have q1e : wr.heap.size < w1.heap.size := by omega); (try have q1f : wr.heap.size + 1 < w1.heap.size := by omega)))
  go_ret
  exact ⟨rfl, by (repeat' (first | exact Below.refl _ _ | assumption | (with_reducible refine Below.drew ?_) | (with_reducible refine Below.setCell ?_ (by (first | (simp; done) | (simp; omega))) _) | (with_reducible refine below_drewN' ?_ _) | (refine Below.alloc ?_ (by (try simp only [World.size_alloc, World.size_drew, World.size_setCell]); omega) _) | (refine Below.trans ?_ (Below.mono (by assumption) (by (try simp only [World.size_alloc, World.size_drew, World.size_setCell]); omega)))))⟩
 | true =>
  rw [Bool.true_and]
  go_enter Try.func56, Try.ntmps56
  go_wp2_with (first | (go_at_call 69; (with_reducible refine (x1 _).mono ?_); rintro e w1 ⟨rfl, hb1⟩; (obtain ⟨hc1, hf1⟩ := bcell hb1; have z1 := hb1.size; (try simp only [World.size_alloc, World.size_drew, World.size_setCell] at z1); (try have q1a : w.heap.size < w1.heap.size := by omega); (try have q1b : w.heap.size + 1 < w1.heap.size := by omega); (try have q1c : w.heap.size + 1 + 1 < w1.heap.size := by omega); (try have q1d : w.heap.size + 1 + 1 + 1 < w1.heap.size := by omega); (try have q1e : wr.heap.size < w1.heap.size := by omega); (try have q1f : wr.heap.size + 1 < w1.heap.size := by omega))) | (go_at_call 47; (with_reducible refine (y1 _ _ (by simp) _).mono ?_); rintro e w2 ⟨rfl, hb2⟩; (obtain ⟨hc2, hf2⟩ := bcell hb2; have z2 := hb2.size; (try simp only [World.size_alloc, World.size_drew, World.size_setCell] at z2); (try have q2a : w.heap.size < w2.heap.size := by omega); (try have q2b : w.heap.size + 1 < w2.heap.size := by omega); (try have q2c : w.heap.size + 1 + 1 < w2.heap.size := by omega); (try have q2d : w.heap.size + 1 + 1 + 1 < w2.heap.size := by omega); (try have q2e : wr.heap.size < w2.heap.size := by omega); (try have q2f : wr.heap.size + 1 < w2.heap.size := by omega); (try have q2g : w1.heap.size < w2.heap.size := by omega); (try have q2h : w1.heap.size + 1 < w2.heap.size := by omega))))
  go_ret
  exact ⟨rfl, by (repeat' (first | exact Below.refl _ _ | assumption | (with_reducible refine Below.drew ?_) | (with_reducible refine Below.setCell ?_ (by (first | (simp; done) | (simp; omega))) _) | (with_reducible refine below_drewN' ?_ _) | (refine Below.alloc ?_ (by (try simp only [World.size_alloc, World.size_drew, World.size_setCell]); omega) _) | (refine Below.trans ?_ (Below.mono (by assumption) (by (try simp only [World.size_alloc, World.size_drew, World.size_setCell]); omega)))))⟩
def twoIdx (a b x : Int) : Int := if x = a then 0 else if x = b then 1 else -1
set_option maxRecDepth 100000 in
set_option maxHeartbeats 2000000 in
theorem index2 (B : Nat) (a b x : Int) (w : World) (k0 : w.cell? ⟨B, 0, none⟩ = some (.int .i64 a)) (k1 : w.cell? ⟨B, 1, none⟩ = some (.int .i64 b)) :
  Calls Try.prog 89 #[.slice (some ⟨B, 0, none⟩) 2 2, .int .i64 x] w (Ret (.int .i64 (twoIdx a b x)) w) := by
 have HT : Aside (twoIdx a b x = if x = a then 0 else if x = b then 1 else -1) := rfl
 generalize twoIdx a b x = r at *
 go_enter Try.func89, Try.ntmps89
 go_wp2
 go_loopg [5, 8] 3 (fun gg i j wr => ∃ k : Nat, k ≤ 2 ∧ 2 - k < gg ∧ j = .int .i64 k ∧ Aside (0 < k → ¬ x = a) ∧ Aside (1 < k → ¬ x = b) ∧ wr = w)
 case atStart => exact ⟨0, by omega, by omega, rfl, fun h => absurd h (by omega), fun h => absurd h (by omega), rfl⟩
 case round =>
  obtain ⟨k, hk, hg, rfl, A1, A2, rfl⟩ := hrel
  match k, hk, hg, A1, A2 with
  | 0, _, hg, A1, A2 =>
   by_cases c : x = a
   ·have hq : (x == a) = true := by simpa using c
    have HR : Aside (r = 0) := by
     show _ = _
     rw [HT.out, if_pos c]
    clear c HT A1 A2
    go_wp2
    go_ret
    exact ⟨by rw [HR.out]; rfl, Below.refl _ _⟩
   ·have hq : (x == a) = false := by simpa using c
    have A3 : Aside (0 < 1 → ¬ x = a) := fun _ => c
    clear c A1 A2
    go_wp2
    go_roundg 2
    case measure => omega
    case rel => exact ⟨1, by omega, by omega, rfl, A3.out, fun h => absurd h (by omega), rfl⟩
  | 1, _, hg, A1, A2 =>
   have na := A1.out (by omega)
   by_cases c : x = b
   ·have hq : (x == b) = true := by simpa using c
    have HR : Aside (r = 1) := by
     show _ = _
     rw [HT.out, if_neg na, if_pos c]
    clear c na HT A1 A2
    go_wp2
    go_ret
    exact ⟨by rw [HR.out]; rfl, Below.refl _ _⟩
   ·have hq : (x == b) = false := by simpa using c
    have A3 : Aside (0 < 2 → ¬ x = a) := fun _ => na
    have A4 : Aside (1 < 2 → ¬ x = b) := fun _ => c
    clear c na A1 A2
    go_wp2
    go_roundg 1
    case measure => omega
    case rel => exact ⟨2, by omega, by omega, rfl, A3.out, A4.out, rfl⟩
  | 2, _, hg, A1, A2 =>
   have HR : Aside (r = -1) := by
    show _ = _
    rw [HT.out, if_neg (A1.out (by omega)), if_neg (A2.out (by omega))]
   clear HT A1 A2
   go_wp2
   go_ret
   exact ⟨by rw [HR.out]; rfl, Below.refl _ _⟩
set_option maxRecDepth 100000 in
set_option maxHeartbeats 2000000 in
theorem distance_any (d : Int × Int) (w : World) :
  Calls Try.prog 78 #[pt d] w (Ret (.int .i64 (distF d)) w) := by
 obtain ⟨b, f⟩ := d
 have HD : Aside (distF (b, f) = if b = 225 then -2 else if b = 125 then -1 else if b = 0 then 10001 else f) := rfl
 generalize distF (b, f) = r at *
 unfold pt
 simp only []
 have x1 := fun B W k0 k1 => index2 B 225 125 b W k0 k1
 have HX : Aside (twoIdx 225 125 b = if b = 225 then 0 else if b = 125 then 1 else -1) := rfl
 generalize twoIdx 225 125 b = t at *
 have HT : Aside ((b = 225 ∧ t = 0 ∧ r = -2) ∨ (b = 125 ∧ t = 1 ∧ r = -1) ∨ (b = 0 ∧ t = -1 ∧ r = 10001) ∨ ((b == 0) = false ∧ t = -1 ∧ r = f)) := by
  show _ ∨ _
  rw [HD.out, HX.out]
  by_cases c1 : b = 225
  ·exact .inl ⟨c1, by rw [if_pos c1], by rw [if_pos c1]⟩
  ·by_cases c2 : b = 125
   ·exact .inr (.inl ⟨c2, by rw [if_neg c1, if_pos c2], by rw [if_neg c1, if_pos c2]⟩)
   ·by_cases c3 : b = 0
    ·exact .inr (.inr (.inl ⟨c3, by rw [if_neg c1, if_neg c2], by rw [if_neg c1, if_neg c2, if_pos c3]⟩))
    ·exact .inr (.inr (.inr ⟨by simpa using c3, by rw [if_neg c1, if_neg c2], by rw [if_neg c1, if_neg c2, if_neg c3]⟩))
 clear HD HX
 go_enter Try.func78, Try.ntmps78
 go_wp2_with fail
 obtain ⟨w1, hw1⟩ : ∃ u, u = (w.alloc (.cells #[.int .i64 b, .int .i64 f] 91)).alloc (.cells #[.int .i64 225, .int .i64 125] 144) := ⟨_, rfl⟩
 have k0 : w1.cell? ⟨w.heap.size, 0, none⟩ = some (.int .i64 b) := by rw [hw1]; go_simp
 have k1 : w1.cell? ⟨w.heap.size, 1, none⟩ = some (.int .i64 f) := by rw [hw1]; go_simp
 have k2 : w1.cell? ⟨w.heap.size + 1, 0, none⟩ = some (.int .i64 225) := by rw [hw1]; go_simp
 have k3 : w1.cell? ⟨w.heap.size + 1, 1, none⟩ = some (.int .i64 125) := by rw [hw1]; go_simp
 have B1 : Aside (Below w.heap.size w w1) := by rw [hw1]; (repeat' (first | exact Below.refl _ _ | assumption | (with_reducible refine Below.drew ?_) | (with_reducible refine Below.setCell ?_ (by (first | (simp; done) | (simp; omega))) _) | (with_reducible refine below_drewN' ?_ _) | (refine Below.alloc ?_ (by (try simp only [World.size_alloc, World.size_drew, World.size_setCell]); omega) _) | (refine Below.trans ?_ (Below.mono (by assumption) (by (try simp only [World.size_alloc, World.size_drew, World.size_setCell]); omega)))))
 rw [← hw1]
 clear hw1
 have MK : Aside (∀ w', Below w1.heap.size w1 w' → (Below w1.heap.size w1 w' ∧ w'.cell? ⟨w.heap.size, 0, none⟩ = some (.int .i64 b) ∧ w'.cell? ⟨w.heap.size + 1, 0, none⟩ = some (.int .i64 225) ∧ w'.cell? ⟨w.heap.size + 1, 1, none⟩ = some (.int .i64 125))) := fun w' hB => ⟨hB, keepc hB k0, keepc hB k2, keepc hB k3⟩
 refine region_class (fun w' => Below w1.heap.size w1 w' ∧ w'.cell? ⟨w.heap.size, 0, none⟩ = some (.int .i64 b) ∧ w'.cell? ⟨w.heap.size + 1, 0, none⟩ = some (.int .i64 225) ∧ w'.cell? ⟨w.heap.size + 1, 1, none⟩ = some (.int .i64 125)) (by kernel_rfl) (by kernel_rfl) (MK.out _ ((Below.refl _ _).drew)) ?_
 iterate 5 (first | go_big_quiet_skip | (go_big_quiet_want; unfold Oper.quiet; apply Exists.intro; refine ⟨fun W hW => ?_, ?_⟩; (go_split_ands; unfold Oper.quietAt; go_simp; first | rfl | exact ⟨rfl, rfl⟩ | ((with_reducible refine (x1 _ _ (by assumption) (by assumption)).mono ?_); rintro e w2 ⟨rfl, hb2⟩; exact ⟨rfl, MK.out _ (Below.trans (by assumption) (Below.mono (by assumption) (Below.size (by assumption))))⟩)); go_big_quiet_on; (try simp only [Act.put, List.setIfInBounds_toArray, List.set_cons_zero, List.set_cons_succ])))
 refine wpQuiet_nil ?_
 intro wa hwa
 have ba : Below w1.heap.size w1 wa := hwa.1
 have j0 := keepc ba k0
 have j1 := keepc ba k1
 have BA : Aside (Below w.heap.size w wa) := B1.out.trans (ba.mono B1.out.size)
 clear hwa ba MK k0 k1 k2 k3 B1 x1
 rcases HT.out with ⟨rfl, rfl, rfl⟩ | ⟨rfl, rfl, rfl⟩ | ⟨rfl, rfl, rfl⟩ | ⟨hb0, rfl, rfl⟩
 all_goals
  clear HT
  go_wp2
  go_ret
  exact ⟨rfl, BA.out⟩
def evL (n : Nat) : List Int := (List.range n).map Int.ofNat
theorem evL_succ (n : Nat) : evL (n + 1) = evL n ++ [(n : Int)] := by unfold evL; rw [List.range_succ, List.map_append]; rfl
theorem evL_length (n : Nat) : (evL n).length = n := by simp [evL]
def RetOwn (l : List Int) (w : World) (e : Ending) (w' : World) : Prop :=
 ∃ v, e = .returned v ∧ w'.ownsRow w.heap.size 3 1 v l.length (l.map (Value.int .i64)) ∧ (v = .slice none 0 0 ↔ l = []) ∧ Below w.heap.size w w'
theorem info_int : (Try.prog.info? 3).map (fun i => (i.zero, i.size, i.bytes)) = some (some (.int .i64 0), 1, 8) := by kernel_rfl
set_option maxRecDepth 100000 in
set_option maxHeartbeats 2000000 in
theorem everyone_any (n : Nat) (w : World) (hn : n ≤ 1000) : Calls Try.prog 54 #[.int .i64 n] w (RetOwn (evL n) w) := by
 obtain ⟨i0, hi, hz0, hz1, hz2⟩ := info_parts info_int
 go_enter Try.func54, Try.ntmps54
 go_wp2
 go_loopw [3, 6] (fun v i wr => ∃ k : Nat, k ≤ n ∧ i = .int .i64 k ∧ wr.ownsRow w.heap.size 3 1 v (evL k).length ((evL k).map (Value.int .i64)) ∧ Aside ((v = .slice none 0 0 ↔ evL k = []) ∧ Below w.heap.size w wr)) (fun _ i _ => n - (intOf i).toNat)
 case atStart => exact ⟨0, Nat.zero_le _, rfl, ⟨by simp [evL], .inl ⟨rfl, rfl⟩⟩, ⟨by simp [evL], Below.refl _ _⟩⟩
 case round =>
  obtain ⟨k, hk, rfl, hown, HA⟩ := hrel
  by_cases hlt : k < n
  ·have hltz : (k : Int) < (n : Int) := by omega
   have hel := evL_length k
   have HS : Aside (evL (k + 1) = evL k ++ [(k : Int)]) := evL_succ k
   have HB0 : Aside (w.heap.size ≤ wr.heap.size) := HA.out.2.size
   go_wp2_with (at_builtin; refine wpList_append_own _ rfl _ _ 48 rfl w.heap.size 3 i0 (.int .i64 0) 1 8 Try.underlying48 hi hz0 hz1 hz2 rfl (by decide) _ _ _ rfl (hown.alloc _) ⟨wr.heap.size, 0, none⟩ 1 1 [.int .i64 k] rfl rfl (cell_one_new _ _ _) (ints_oneCell .i64 [(k : Int)]) (by unfold maxLen; omega) (by omega) (by have := HB0.out; simp; omega) ?_; intro v' w1 hown1 hgrow1 hnil1)
   go_roundw
   case rel =>
    refine ⟨k + 1, by omega, by go_num, ?_, ?_, ?_⟩
    ·rw [HS.out]; simpa using hown1
    ·rw [HS.out]
     constructor
     ·intro e; subst e
      rcases hown1.2 with ⟨_, h0⟩ | ⟨g, cap, cur, e2, _⟩
      ·omega
      ·cases e2
     ·intro e; simp at e
    ·exact (HA.out.2.alloc HA.out.2.size _).grown hgrow1 (by have := HA.out.2.size; simp; omega) (fun j hj => (hown.lt j hj).1)
   case measure => simp [intOf]; omega
  ·have hltz : ¬ (k : Int) < (n : Int) := by omega
   have : k = n := by omega
   subst this
   go_wp2
   go_ret
   exact ⟨_, rfl, hown, HA.out.1, HA.out.2⟩
end
section
open Go.Shelf
def collA_ren : Go.Shelf.Ren := ⟨fun | 8 => 91 | 11 => 98 | n => n, fun | 26 => 3 | 28 => 158 | 24 => 48 | 0 => 0 | 33 => 136 | 4 => 4 | n => n, fun | n => n⟩
theorem collA : Go.Proofs.SlLaysZI.n8 Try.prog collA_ren := {
 mixed := by kernel_rfl
 f8 := ⟨Try.f91.name, by decide, Try.func91.trans (congrArg some (by kernel_rfl))⟩
 f11 := ⟨Try.f98.name, by decide, Try.func98.trans (congrArg some (by kernel_rfl))⟩
 t0 := Try.underlying0
 a0 := Try.isAgg0
 z0 := Try.sizeOf0
 v0 := Try.zeroValue0
 t24 := Try.underlying48
 a24 := Try.isAgg48
 z24 := Try.sizeOf48
 v24 := Try.zeroValue48
 t26 := Try.underlying3
 a26 := Try.isAgg3
 z26 := Try.sizeOf3
 v26 := Try.zeroValue3
 t28 := Try.underlying158
 a28 := Try.isAgg158
 z28 := Try.sizeOf158
 v28 := Try.zeroValue158
 i26 := by kernel_rfl }
def sortA_ren : Go.Shelf.Ren := ⟨fun | 5 => 93 | 8 => 101 | 7 => 100 | 19 => 111 | 20 => 112 | 10 => 102 | 11 => 103 | 12 => 104 | 13 => 105 | 14 => 106 | 15 => 107 | 16 => 108 | 17 => 109 | 18 => 110 | 30 => 113 | 31 => 114 | 32 => 115 | 33 => 116 | 34 => 117 | 35 => 118 | 40 => 119 | n => n, fun | 23 => 48 | 25 => 3 | 3 => 3 | 32 => 166 | 22 => 48 | 0 => 0 | 44 => 177 | 46 => 179 | 4 => 4 | 36 => 169 | 35 => 168 | 41 => 174 | 5 => 5 | 9 => 9 | 53 => 180 | 57 => 184 | 63 => 186 | 64 => 187 | n => n, fun | n => n⟩
theorem sortA : Go.Proofs.SlLaysM.n5 Try.prog sortA_ren := {
 mixed := by kernel_rfl
 f5 := ⟨Try.f93.name, by decide, Try.func93.trans (congrArg some (by kernel_rfl))⟩
 f7 := ⟨Try.f100.name, by decide, Try.func100.trans (congrArg some (by kernel_rfl))⟩
 f8 := Try.func101.trans (congrArg some (by kernel_rfl))
 f10 := ⟨Try.f102.name, by decide, Try.func102.trans (congrArg some (by kernel_rfl))⟩
 f11 := ⟨Try.f103.name, by decide, Try.func103.trans (congrArg some (by kernel_rfl))⟩
 f12 := ⟨Try.f104.name, by decide, Try.func104.trans (congrArg some (by kernel_rfl))⟩
 f13 := ⟨Try.f105.name, by decide, Try.func105.trans (congrArg some (by kernel_rfl))⟩
 f14 := ⟨Try.f106.name, by decide, Try.func106.trans (congrArg some (by kernel_rfl))⟩
 f15 := ⟨Try.f107.name, by decide, Try.func107.trans (congrArg some (by kernel_rfl))⟩
 f16 := ⟨Try.f108.name, by decide, Try.func108.trans (congrArg some (by kernel_rfl))⟩
 f17 := ⟨Try.f109.name, by decide, Try.func109.trans (congrArg some (by kernel_rfl))⟩
 f18 := ⟨Try.f110.name, by decide, Try.func110.trans (congrArg some (by kernel_rfl))⟩
 f19 := Try.func111.trans (congrArg some (by kernel_rfl))
 f20 := Try.func112.trans (congrArg some (by kernel_rfl))
 f30 := ⟨Try.f113.name, by decide, Try.func113.trans (congrArg some (by kernel_rfl))⟩
 f31 := Try.func114.trans (congrArg some (by kernel_rfl))
 f32 := Try.func115.trans (congrArg some (by kernel_rfl))
 f33 := ⟨Try.f116.name, by decide, Try.func116.trans (congrArg some (by kernel_rfl))⟩
 f34 := ⟨Try.f117.name, by decide, Try.func117.trans (congrArg some (by kernel_rfl))⟩
 f35 := ⟨Try.f118.name, by decide, Try.func118.trans (congrArg some (by kernel_rfl))⟩
 f40 := ⟨Try.f119.name, by decide, Try.func119.trans (congrArg some (by kernel_rfl))⟩
 t0 := Try.underlying0
 a0 := Try.isAgg0
 z0 := Try.sizeOf0
 v0 := Try.zeroValue0
 t3 := Try.underlying3
 a3 := Try.isAgg3
 z3 := Try.sizeOf3
 v3 := Try.zeroValue3
 t4 := Try.underlying4
 a4 := Try.isAgg4
 z4 := Try.sizeOf4
 v4 := Try.zeroValue4
 t5 := Try.underlying5
 a5 := Try.isAgg5
 z5 := Try.sizeOf5
 v5 := Try.zeroValue5
 t9 := Try.underlying9
 a9 := Try.isAgg9
 z9 := Try.sizeOf9
 v9 := Try.zeroValue9
 t22 := Try.underlying48
 a22 := Try.isAgg48
 z22 := Try.sizeOf48
 v22 := Try.zeroValue48
 t23 := Try.underlying48
 a23 := Try.isAgg48
 z23 := Try.sizeOf48
 v23 := Try.zeroValue48
 t25 := Try.underlying3
 a25 := Try.isAgg3
 z25 := Try.sizeOf3
 v25 := Try.zeroValue3
 t32 := Try.underlying166
 a32 := Try.isAgg166
 z32 := Try.sizeOf166
 v32 := Try.zeroValue166
 t35 := Try.underlying168
 a35 := Try.isAgg168
 z35 := Try.sizeOf168
 v35 := Try.zeroValue168
 t36 := Try.underlying169
 a36 := Try.isAgg169
 z36 := Try.sizeOf169
 v36 := Try.zeroValue169
 t41 := Try.underlying174
 a41 := Try.isAgg174
 z41 := Try.sizeOf174
 v41 := Try.zeroValue174
 t44 := Try.underlying177
 a44 := Try.isAgg177
 z44 := Try.sizeOf177
 v44 := Try.zeroValue177
 t46 := Try.underlying179
 a46 := Try.isAgg179
 z46 := Try.sizeOf179
 v46 := Try.zeroValue179
 t53 := Try.underlying180
 a53 := Try.isAgg180
 z53 := Try.sizeOf180
 v53 := Try.zeroValue180
 t57 := Try.underlying184
 a57 := Try.isAgg184
 z57 := Try.sizeOf184
 v57 := Try.zeroValue184
 t63 := Try.underlying186
 a63 := Try.isAgg186
 z63 := Try.sizeOf186
 v63 := Try.zeroValue186
 t64 := Try.underlying187
 a64 := Try.isAgg187
 z64 := Try.sizeOf187
 v64 := Try.zeroValue187 }
end
section
open Go.RowKit Go.Maps Go.Sort Go.Shelf
structure Rep (D : DataW Unit) (ps : List (Int × Int)) : Prop where
 tidy : Tidy D
 nodup : (ps.map (·.1)).Nodup
 mem : ∀ x, Maps.has D (.int .i64 x) = true ↔ x ∈ ps.map (·.1)
 val : ∀ p ∈ ps, ∀ zd, D.atKey (.int .i64 p.1) zd = .lit (.int .i64 p.2)
 size : Maps.size D = ps.length
theorem Rep.empty : Rep (.map []) [] := ⟨tidy_empty, List.nodup_nil, fun x => by simp [Maps.has], (fun p hp => by cases hp), rfl⟩
theorem Rep.put {D : DataW Unit} {ps : List (Int × Int)} (h : Rep D ps) {k v : Int} (hk : k ∉ ps.map (·.1)) : Rep (D.put (.int .i64 k) (.lit (.int .i64 v))) (ps ++ [(k, v)]) := by
 have hn : Maps.has D (.int .i64 k) = false := by
  cases hh : Maps.has D (.int .i64 k) with
  | false => rfl
  | true => exact absurd ((h.mem k).1 hh) hk
 refine ⟨h.tidy.put (show WideAt.IsKeyLit (.int .i64 k) from trivial) _, ?_, fun x => ?_, fun p hp zd => ?_, ?_⟩
 ·rw [List.map_append, List.map_cons, List.map_nil]
  exact List.nodup_append.2 ⟨h.nodup, by simp, fun a ha b hb e => by simp at hb; subst hb; subst e; exact hk ha⟩
 ·by_cases e : x = k
  ·subst e; rw [has_put_same h.tidy.isMap (show WideAt.IsKeyLit (.int .i64 x) from trivial)]; simp
  ·rw [has_put_other (by intro h; cases h; exact e rfl), h.mem]; simp [e]
 ·rcases List.mem_append.1 hp with hp | hp
  ·have hne : p.1 ≠ k := fun e => hk (by rw [← e]; exact List.mem_map_of_mem hp)
   rw [atKey_put_other (by intro h; cases h; exact hne rfl)]; exact h.val p hp zd
  ·simp at hp; subst hp; exact atKey_put_same h.tidy.isMap (show WideAt.IsKeyLit (.int .i64 k) from trivial) _ _
 ·rw [size_put h.tidy, hn]; simp [h.size]
def SeenP (D : DataW Unit) (left : Lit → Bool) (qs : List (Int × Int)) : Prop := CollectedI D left (qs.map (·.1)) ∧ ∀ p ∈ qs, ∀ zd, D.atKey (.int .i64 p.1) zd = .lit (.int .i64 p.2)
theorem seen_perm {D : DataW Unit} {ps qs : List (Int × Int)} {left : Lit → Bool} (h : Rep D ps) (hs : SeenP D left qs) (hl : ∀ kl, left kl = false) : qs.Perm ps := by
 have nd : ∀ {l : List (Int × Int)}, (l.map (·.1)).Nodup → l.Nodup := fun hl => (List.pairwise_map.1 hl).imp (fun hne e => hne (by rw [e]))
 refine (List.perm_ext_iff_of_nodup (nd hs.1.1) (nd h.nodup)).2 fun p => ?_
 have hm : ∀ x, x ∈ qs.map (·.1) ↔ x ∈ ps.map (·.1) := fun x => by rw [hs.1.2 x, h.mem x, hl]; simp
 constructor
 ·intro hp
  obtain ⟨q, hq, e⟩ := List.mem_map.1 ((hm p.1).1 (List.mem_map_of_mem hp))
  have h1 := hs.2 p hp (.map [])
  have h2 := h.val q hq (.map [])
  rw [e, h1] at h2
  have : p = q := by
   obtain ⟨p1, p2⟩ := p
   obtain ⟨q1, q2⟩ := q
   simp only [DataW.lit.injEq, Lit.int.injEq, true_and] at h2 e
   simp [h2, e]
  rw [this]; exact hq
 ·intro hp
  obtain ⟨q, hq, e⟩ := List.mem_map.1 ((hm p.1).2 (List.mem_map_of_mem hp))
  have h1 := h.val p hp (.map [])
  have h2 := hs.2 q hq (.map [])
  rw [e, h1] at h2
  have : p = q := by
   obtain ⟨p1, p2⟩ := p
   obtain ⟨q1, q2⟩ := q
   simp only [DataW.lit.injEq, Lit.int.injEq, true_and] at h2 e
   simp [h2, e]
  rw [this]; exact hq
theorem mn_spec : ∀ (xs : List Int), xs ≠ [] → mn xs ∈ xs ∧ ∀ y ∈ xs, mn xs ≤ y := by
 have aux : ∀ (xs : List Int) (a : Int), (xs.foldl min a = a ∨ xs.foldl min a ∈ xs) ∧ xs.foldl min a ≤ a ∧ ∀ y ∈ xs, xs.foldl min a ≤ y := by
  intro xs
  induction xs with
  | nil => intro a; simp
  | cons x xs ih =>
   intro a
   rw [List.foldl_cons]
   obtain ⟨h1, h2, h3⟩ := ih (min a x)
   refine ⟨?_, by omega, fun y hy => ?_⟩
   ·rcases h1 with h1 | h1
    ·rw [h1]
     by_cases c : a ≤ x
     ·left; omega
     ·right; rw [show min a x = x by omega]; exact List.mem_cons_self
    ·right; exact List.mem_cons_of_mem _ h1
   ·rcases List.mem_cons.1 hy with rfl | hy
    ·omega
    ·exact h3 y hy
 intro xs hne
 cases xs with
 | nil => exact absurd rfl hne
 | cons x xs =>
  obtain ⟨h1, h2, h3⟩ := aux xs x
  refine ⟨?_, fun y hy => ?_⟩
  ·rcases h1 with h1 | h1
   ·show xs.foldl min x ∈ _; rw [h1]; exact List.mem_cons_self
   ·exact List.mem_cons_of_mem _ h1
  ·rcases List.mem_cons.1 hy with rfl | hy
   ·exact h2
   ·exact h3 y hy
theorem mn_perm {xs ys : List Int} (h : xs.Perm ys) (hne : xs ≠ []) : mn xs = mn ys := by
 have hne2 : ys ≠ [] := fun e => hne (by rw [e] at h; exact h.eq_nil)
 obtain ⟨a1, a2⟩ := mn_spec xs hne
 obtain ⟨b1, b2⟩ := mn_spec ys hne2
 have := a2 _ (h.mem_iff.2 b1)
 have := b2 _ (h.mem_iff.1 a1)
 omega
def leastU (m : Int) (ps : List (Int × Int)) : List Int := (ps.filter fun p => p.2 == m).map (·.1)
def leastL (ps : List (Int × Int)) : List Int := (leastU (mn (ps.map (·.2))) ps).mergeSort (fun x y => decide (x ≤ y))
theorem leastU_snoc (m : Int) (ps : List (Int × Int)) (p : Int × Int) : leastU m (ps ++ [p]) = leastU m ps ++ (if p.2 == m then [p.1] else []) := by
 unfold leastU
 rw [List.filter_append, List.map_append, List.filter_cons]
 split <;> simp
theorem sl_of_owns {w : World} {base n : Nat} {e : TypeId} {v : Value} {xs : List Int} (hl : xs.length ≤ 9223372036854775807) (h : w.ownsRow base e 1 v n (xs.map (Value.int .i64))) (hn : n = xs.length) (hnil : xs = [] → v = .slice none 0 0) : Sl w 1 eI v xs := by
 subst hn
 rcases h.2 with ⟨h0, h1⟩ | ⟨g, cap, cur, rfl, h1, hg, h2⟩
 ·have hx : xs = [] := List.eq_nil_of_length_eq_zero h1
  subst hx
  exact ⟨none, 0, h0, by simp, fun h => absurd rfl h⟩
 ·refine ⟨_, _, rfl, hl, fun hne => ⟨g, 0, rfl, (Array.getElem?_eq_some_iff.1 hg).1, ?_⟩⟩
  intro j x hx i y hy
  match i, hy with
  | 0, hy =>
   simp [eI] at hy; subst hy
   have := h.cellAt j (by have := (List.getElem?_eq_some_iff.1 hx).1; omega)
   rw [Nat.mul_one, Nat.zero_add, Nat.add_zero, this, List.getElem?_map, hx]; rfl
  | i + 1, hy => simp [eI] at hy
theorem ownsMap_below {P : Program} {k : TypeId} {R : Value → Option (DataW Unit × List MemPlace)} {M n : Nat} {D : DataW Unit} {A B : World} (h : A.ownsMap P k R M n D) (ht : Below A.heap.size A B) : B.ownsMap P k R M n D := by
 obtain ⟨es, clock, hb, r⟩ := h
 exact ⟨es, clock, (ht.block M (Array.getElem?_eq_some_iff.1 hb).1).trans hb, r⟩
abbrev OwnM (w : World) (M n : Nat) (D : DataW Unit) : Prop := w.ownsMap Try.prog 3 (plainElem (H := Unit) Try.prog 3) M n D
theorem int_k : Keyed Try.prog 3 := int_keyed Try.underlying3
set_option maxRecDepth 100000 in
set_option maxHeartbeats 2000000 in
theorem values1_in (n : Nat) (hn : 1 ≤ n) (l Bm b nn : Nat) (D0 : DataW Unit) (ps : List (Int × Int)) (hrep : Rep D0 ps) (J : List Int → World → Prop)
  (hY : ∀ pre x W, J pre W → pre.length < Maps.size D0 → YieldAt Fence.wide (n - 1) Try.prog l #[encZ x] W fun e W' => e = .returned (.bool true) ∧ J (pre ++ [x]) W' ∧ KeepsWalks W W')
  (W : World) (hJ : AbidesFrom W.heap.size J) (hm : W.cell? ⟨Bm, 0, none⟩ = some (.map (some b))) (hown : OwnM W b nn D0) (h0 : J [] W) :
  CallsIn Fence.wide n Try.prog 99 #[.func (.yield l) #[] #[], .pointer (some ⟨Bm, 0, none⟩)] W fun e W' => (∃ v, e = .returned v) ∧ ∃ ss : List Int, ss.Perm (ps.map (·.2)) ∧ J ss W' := by
 refine callsIn_of_wp Try.func99 rfl trivial ?_ rfl
 simp only [Try.ntmps99, List.size_toArray, List.length_cons, List.length_nil, Nat.reduceAdd, Nat.reduceSub, Array.replicate_succ, Array.replicate_zero, List.push_toArray, List.append_toArray, List.nil_append, List.cons_append]
 gi_wp2_with (first
  | (gi_at_range; refine wpListIn_range_own _ rfl _ 116 rfl 3 3 int_k Try.underlying116 _ b nn _ rfl hown ?_; intro w0 hrg0 hg0 hs0)
  | gi_in)
 go_frame
 gi_loopw [4] (fun _ wr => ∃ (left : Lit → Bool) (cnt : Nat) (qs : List (Int × Int)), wr.ranges Try.prog 3 (plainElem Try.prog 3) b W.heap.size nn D0 left cnt ∧ qs.length + cnt ≤ Maps.size D0 ∧ SeenP D0 left qs ∧ J (qs.map (·.2)) wr)
  (fun _ wr => wr.rangeLeft b W.heap.size)
 case atStart =>
  exact ⟨_, _, [], hrg0, by simp, ⟨CollectedI.start D0, by simp⟩, hJ [] W w0 none h0 hg0 (fun r e => by cases e)⟩
 case round =>
  obtain ⟨left, cnt, qs, hrg, hcs, hC, hJs⟩ := hrel
  gi_wp2_with (first
   | (gi_at_next; refine wpListIn_next_ranges _ rfl _ rfl 3 int_k (plainElem Try.prog 3) encZ encZ (fun key kl hk => by obtain ⟨x, hx, _⟩ := Maps.keyOf_i64 Try.underlying3 hk; exact ⟨x, hx⟩) (fun v y hv => by obtain ⟨c, rfl, _⟩ := plainElem_int_inv Try.underlying3 hv; exact ⟨c, rfl⟩) b W.heap.size nn _ _ _ rfl hrg ?_ ?_)
   | gi_in)
  ·intro hc0 hl0
   gi_wp2
   go_end0
   exact ⟨⟨_, rfl⟩, _, (seen_perm hrep hC hl0).map _, hJs⟩
  ·intro x c kl yd yp w2 cnt2 hkey hlk hv hat hrg2 hlt hg2 hs2 hen
   obtain ⟨x', ex, rfl, _⟩ := Maps.keyOf_i64 Try.underlying3 hkey
   obtain rfl : x = x' := encZ_inj ex
   obtain ⟨c', ec, ez, _⟩ := plainElem_int_inv Try.underlying3 hv
   obtain rfl : c = c' := by simpa using ec
   obtain rfl : yd = .lit (.int .i64 c) := (Prod.mk.inj ez).1
   have hJ2 : J (qs.map (·.2)) w2 := hJ _ wr w2 (some W.heap.size) hJs hg2 (fun r e => by cases e; exact ⟨Nat.le_refl _, hrg.iter_walk⟩)
   obtain ⟨fn, tmps, assign, body, hy, hR⟩ := hY (qs.map (·.2)) c w2 hJ2 (by simp; omega)
   have hC2 : SeenP D0 (fun z => left z && !z.sameKey (.int .i64 x)) (qs ++ [(x, c)]) := ⟨by simpa using hC.1.step hlk hat, fun p hp => (List.mem_append.1 hp).elim (hC.2 p) (fun e => by simp at e; subst e; exact hat)⟩
   clear hs2
   gi_wp2
   refine hR.mono ?_
   rintro e W3 ⟨rfl, hJ3, hk3⟩
   gi_wp2
   have hrg3 := hrg2.of_walks hk3
   go_roundw
   case rel => exact ⟨_, cnt2, qs ++ [(x, c)], hrg3, by simp; omega, hC2, by simpa using hJ3⟩
   case measure => rw [hrg3.left_eq, hrg.left_eq]; exact hlt
end
end Go.Proofs.Ytnhjoebdmmelaaa
