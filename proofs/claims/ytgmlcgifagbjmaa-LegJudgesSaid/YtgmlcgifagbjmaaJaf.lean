/- Leg: parts G, H, Ba, Bb, Bc, Bd. -/
import Derived.Outline
import Derived.Test.YtgmlcgifagbjmaaJae
set_option linter.unusedVariables false
set_option linter.unusedSimpArgs false
namespace Go.Proofs.Ytgmlcgifagbjmaa
section
open Go.RowKit Go.Shelf
def thrV (t : Thr) : Value := .agg #[.int .i64 t.left, .int .i64 t.score, .int .i64 t.darts, .bool t.inn, .bool t.bust, .bool t.won]
def thrR (r : Thr × Int × Int) : Value := .tuple #[thrV r.1, .int .i64 r.2.1, .int .i64 r.2.2]
/-- The zero result in memory. -/
def ZeroAt (w : World) (R : Nat) : Prop := w.heap[R]? = some (.cells #[.int .i64 0, .int .i64 0, .int .i64 0, .bool false, .bool false, .bool false] 30 (0, 0))
theorem vis_below {w w' : World} {V : Nat} {t : Thr} {c : Cnt} (h : VisAt w V t c) (hB : Below w.heap.size w w') : VisAt w' V t c := (hB.block V (vis_size h)).trans h
theorem zero_below {w w' : World} {R : Nat} (h : ZeroAt w R) (hB : Below w.heap.size w w') : ZeroAt w' R := (hB.block R (Array.getElem?_eq_some_iff.1 h).1).trans h
theorem below_set6 {B R : Nat} {w w1 : World} (h : Below B w w1) (hR : B ≤ R) (x0 x1 x2 x3 x4 x5 : Value) :
  Below B w ((((((w1.setCell ⟨R, 0, none⟩ x0).setCell ⟨R, 1, none⟩ x1).setCell ⟨R, 2, none⟩ x2).setCell ⟨R, 3, none⟩ x3).setCell ⟨R, 4, none⟩ x4).setCell ⟨R, 5, none⟩ x5) :=
 (((((h.setCell (p := ⟨R, 0, none⟩) hR x0).setCell (p := ⟨R, 1, none⟩) hR x1).setCell (p := ⟨R, 2, none⟩) hR x2).setCell (p := ⟨R, 3, none⟩) hR x3).setCell (p := ⟨R, 4, none⟩) hR x4).setCell (p := ⟨R, 5, none⟩) hR x5
/-- What holds at the head of a round. -/
def ThrInv (c : Cnt) (in0 : Bool) (left : Int) (bs : List Int) (res : Thr × Int × Int) (w : World) (V R k : Nat) (wr : World) : Prop :=
 ∃ t : Thr, VisAt wr V t c ∧ t.Ok k ∧ thrL c in0 left t k (bs.drop k) = res ∧ Below w.heap.size w wr ∧ ZeroAt wr R
set_option maxRecDepth 100000 in
set_option maxHeartbeats 4000000 in
theorem thrown_any (c : Cnt) (in0 : Bool) (left : Int) (v : Value) (bs : List Int) (w : World) (hs : Sl w 1 eI v bs) (hc : vcnt c = true) (l0 : 0 ≤ left) (l1 : left ≤ 1001) (hbs : ∀ x ∈ bs, -9223372036854775808 ≤ x ∧ x ≤ 9223372036854775807) :
  Calls Try.prog 41 #[cntV c, .bool in0, .int .i64 left, v] w (Ret (thrR (thr c in0 left bs)) w) := by
 obtain ⟨a, cp, rfl, hl, hs⟩ := hs
 obtain ⟨n, hn⟩ : ∃ n, bs.length = n := ⟨_, rfl⟩
 have HN : Aside (bs.length = n) := hn
 have HS : Aside (bs ≠ [] → ∃ b off, a = some ⟨b, off, none⟩ ∧ b < w.heap.size ∧ ∀ j x, bs[j]? = some x → ∀ i y, (eI x)[i]? = some y → w.cell? ⟨b, off + j * 1 + i, none⟩ = some y) := hs
 have HB : Aside (∀ x ∈ bs, -9223372036854775808 ≤ x ∧ x ≤ 9223372036854775807) := hbs
 have HC : Aside (vcnt c = true) := hc
 rw [hn] at hl ⊢
 clear hn hs hbs hc
 obtain ⟨res, hres⟩ : ∃ res, thr c in0 left bs = res := ⟨_, rfl⟩
 have HRES : Aside (thr c in0 left bs = res) := hres
 rw [hres]
 clear hres
 have hcv : cntV c = .agg #[.int .i64 c.1, .int .i64 c.2.1, .int .i64 c.2.2] := rfl
 rw [hcv]
 clear hcv
 go_enter Try.func41, Try.ntmps41
 go_wp2_with fail
 obtain ⟨wa, hwa⟩ : ∃ u, u = ((w.alloc (.cells #[.int .i64 c.1, .int .i64 c.2.1, .int .i64 c.2.2] 24)).alloc (.cells #[.int .i64 0, .int .i64 0, .int .i64 0, .bool false, .bool false, .bool false] 30)).alloc (.cells #[.int .i64 left, .int .i64 0, .int .i64 0, .bool in0, .bool false, .bool false, .int .i64 c.1, .int .i64 c.2.1, .int .i64 c.2.2] 132) := ⟨_, rfl⟩
 have HI : Aside (ThrInv c in0 left bs res w (w.heap.size + 1 + 1) (w.heap.size + 1) 0 wa) := by
  refine ⟨⟨left, 0, 0, in0, false, false⟩, ?_, ⟨l0, l1, rfl, by omega⟩, HRES.out, by rw [hwa]; (repeat' (first | exact Below.refl _ _ | assumption | (with_reducible refine Below.drew ?_) | (with_reducible refine Below.setCell ?_ (by (first | (simp; done) | (simp; omega))) _) | (with_reducible refine below_drewN' ?_ _) | (refine Below.alloc ?_ (by (try simp only [World.size_alloc, World.size_drew, World.size_setCell]); omega) _) | (refine Below.trans ?_ (Below.mono (by assumption) (by (try simp only [World.size_alloc, World.size_drew, World.size_setCell]); omega))))), ?_⟩
  ·rw [hwa]; exact World.alloc_heap_new' _ _ _ (by simp)
  ·rw [hwa]; exact (Below.heap_alloc _ _ _ (by simp)).trans (World.alloc_heap_new' _ _ _ (by simp))
 rw [← hwa]
 clear hwa
 go_loopg [22] n (fun gg i wr => ∃ k : Nat, k ≤ n ∧ n - k ≤ gg ∧ i = .int .i64 k ∧ Aside (ThrInv c in0 left bs res w (w.heap.size + 1 + 1) (w.heap.size + 1) k wr))
 case atStart => exact ⟨0, Nat.zero_le _, by omega, rfl, HI.out⟩
 case round =>
  clear HI HRES
  obtain ⟨k, hk, hg, rfl, HI⟩ := hrel
  obtain ⟨t, hv, hok, hr, hB, hz⟩ := HI.out
  have hend := fun W h => ended_any (w.heap.size + 1 + 1) t c W h
  have hzlt : w.heap.size + 1 < wr.heap.size := (Array.getElem?_eq_some_iff.1 hz).1
  have hvlt := vis_size hv
  have HV : Aside (VisAt wr (w.heap.size + 1 + 1) t c) := hv
  have HZ : Aside (ZeroAt wr (w.heap.size + 1)) := hz
  have HOK : Aside (t.Ok k) := hok
  have HBW : Aside (Below w.heap.size w wr) := hB
  have HR : Aside (thrL c in0 left t k (bs.drop k) = res) := hr
  clear hv hz hok hB hr HI
  by_cases hlt : k < n
  ·have hltz : (k : Int) < (n : Int) := by omega
   obtain ⟨b, hb⟩ : ∃ b, bs[k]? = some b := ⟨_, List.getElem?_eq_getElem (by rw [HN.out]; exact hlt)⟩
   obtain ⟨B, off, rfl, hBlt, hcl⟩ := HS.out (by intro e; rw [e] at hb; simp at hb)
   have kb : wr.cell? ⟨B, off + k, none⟩ = some (.int .i64 b) := keepc HBW.out (by have := hcl k b hb 0 (.int .i64 b) rfl; simpa using this)
   have HBB : Aside (-9223372036854775808 ≤ b ∧ b ≤ 9223372036854775807) := HB.out b (List.mem_of_getElem? hb)
   have HD : Aside (bs.drop k = b :: bs.drop (k + 1)) := by
    obtain ⟨h1, h2⟩ := List.getElem?_eq_some_iff.1 hb
    show _ = _
    rw [List.drop_eq_getElem_cons h1, h2]
   have HR2 : Aside (thrL c in0 left t k (b :: bs.drop (k + 1)) = res) := by
    show _ = _
    rw [← HD.out]; exact HR.out
   clear hcl hb HR HD
   cases he : t.ended with
   | true =>
    rw [he] at hend
    have HR3 : Aside (res = (Thr.zero, (k : Int), 32)) := by
     show _ = _
     rw [← HR2.out, thrL, if_pos he]
    clear he HR2
    go_wp2_with fail
    refine (hend _ HV.out).mono ?_
    rintro e w1 ⟨rfl, hb1⟩
    have z1 := zero_below HZ.out hb1
    have r0 := blk_cell z1 (i := 0) rfl
    have r1 := blk_cell z1 (i := 1) rfl
    have r2 := blk_cell z1 (i := 2) rfl
    have r3 := blk_cell z1 (i := 3) rfl
    have r4 := blk_cell z1 (i := 4) rfl
    have r5 := blk_cell z1 (i := 5) rfl
    have rf := blk_free z1
    have BF : Aside (Below w.heap.size w w1) := HBW.out.trans (hb1.mono HBW.out.size)
    clear hb1 z1 hend kb
    go_wp2
    refine bodyPost_ret (v := .tuple #[.agg #[.int .i64 0, .int .i64 0, .int .i64 0, .bool false, .bool false, .bool false], .int .i64 (k : Int), .int .i64 32]) (by simp [results, Try.results41, go_sem, r0, r1, r2, r3, r4, r5]) rfl ⟨by rw [HR3.out]; rfl, ?_⟩
    exact below_set6 BF.out (by omega) _ _ _ _ _ _
   | false =>
    rw [he] at hend
    have x2 := fun W => valid_any b W HBB.out.1 HBB.out.2
    unfold hitV at x2
    go_wp2_with fail
    refine (hend _ HV.out).mono ?_
    rintro e w1 ⟨rfl, hb1⟩
    have HV1 : Aside (VisAt w1 (w.heap.size + 1 + 1) t c) := vis_below HV.out hb1
    have HZ1 : Aside (ZeroAt w1 (w.heap.size + 1)) := zero_below HZ.out hb1
    have BF : Aside (Below w.heap.size w w1) := HBW.out.trans (hb1.mono HBW.out.size)
    clear hb1 hend kb HV HZ HBW hzlt hvlt
    cases hvb : vbed b with
    | false =>
     rw [hvb] at x2
     have HR3 : Aside (res = (Thr.zero, (k : Int), 2)) := by
      show _ = _
      rw [← HR2.out, thrL, if_neg (by rw [he]; simp), if_neg (by rw [hvb]; simp)]
     clear he hvb HR2
     go_wp2_with fail
     refine (x2 _).mono ?_
     rintro e w2 ⟨rfl, hb2⟩
     have ha : Below w1.heap.size w1 w2 := ((Below.refl _ w1).alloc (Nat.le_refl _) _).trans (hb2.mono (by simp))
     have z1 := zero_below HZ1.out ha
     have BF2 : Aside (Below w.heap.size w w2) := BF.out.trans (ha.mono BF.out.size)
     clear ha hb2 BF
     have BF := BF2
     clear BF2
     have r0 := blk_cell z1 (i := 0) rfl
     have r1 := blk_cell z1 (i := 1) rfl
     have r2 := blk_cell z1 (i := 2) rfl
     have r3 := blk_cell z1 (i := 3) rfl
     have r4 := blk_cell z1 (i := 4) rfl
     have r5 := blk_cell z1 (i := 5) rfl
     have rf := blk_free z1
     clear z1
     go_wp2
     refine bodyPost_ret (v := .tuple #[.agg #[.int .i64 0, .int .i64 0, .int .i64 0, .bool false, .bool false, .bool false], .int .i64 (k : Int), .int .i64 2]) (by simp [results, Try.results41, go_sem, r0, r1, r2, r3, r4, r5]) rfl ⟨by rw [HR3.out]; rfl, ?_⟩
     exact below_set6 BF.out (by omega) _ _ _ _ _ _
    | true =>
     rw [hvb] at x2
     have HR3 : Aside (thrL c in0 left (t.step c b) (k + 1) (bs.drop (k + 1)) = res) := by
      show _ = _
      rw [← HR2.out, thrL, if_neg (by rw [he]; simp), if_pos hvb]
     have HOK2 : Aside ((t.step c b).Ok (k + 1)) := HOK.out.step he c hvb
     have x3 := fun W (h : VisAt W (w.heap.size + 1 + 1) t c) => take_any (w.heap.size + 1 + 1) t c b W h hvb HC.out HOK.out.l0 HOK.out.l1 (by rw [HOK.out.d]; omega) (by
      have h1 := HOK.out.d
      have h2 := HOK2.out.n3
      omega)
     unfold hitV at x3
     clear he hvb HR2
     go_wp2_with fail
     refine (x2 _).mono ?_
     rintro e w2 ⟨rfl, hb2⟩
     have ha : Below w1.heap.size w1 w2 := ((Below.refl _ w1).alloc (Nat.le_refl _) _).trans (hb2.mono (by simp))
     have HV2 : Aside (VisAt w2 (w.heap.size + 1 + 1) t c) := vis_below HV1.out ha
     have HZ2 : Aside (ZeroAt w2 (w.heap.size + 1)) := zero_below HZ1.out ha
     have BF2 : Aside (Below w.heap.size w w2) := BF.out.trans (ha.mono BF.out.size)
     have kh : w2.cell? ⟨w1.heap.size, 0, none⟩ = some (.int .i64 b) := keepc hb2 (by go_simp)
     clear ha hb2 BF HV1 HZ1 x2
     go_wp2_with fail
     refine (x3 _ HV2.out).mono ?_
     rintro e w3 ⟨⟨v3, rfl⟩, hv3, ho3⟩
     have HI3 : Aside (ThrInv c in0 left bs res w (w.heap.size + 1 + 1) (w.heap.size + 1) (k + 1) w3) := by
      have hz := vis_size HV2.out
      exact ⟨t.step c b, hv3, HOK2.out, HR3.out, BF2.out.trans ((ho3.below (by omega)).mono (by omega)), ho3.cells (by omega) HZ2.out⟩
     clear hv3 ho3 HV2 HZ2 x3 kh
     go_wp2_with fail
     go_roundg (n - (k + 1))
     case measure => omega
     case rel => exact ⟨k + 1, by omega, by omega, by go_num, HI3.out⟩
  ·have hltz : ¬ (k : Int) < (n : Int) := by omega
   have : k = n := by omega
   subst this
   have HR2 : Aside (thrL c in0 left t k [] = res) := by
    have := HR.out
    rw [List.drop_of_length_le (by rw [HN.out]; exact Nat.le_refl _)] at this
    exact this
   clear HR
   cases he : t.ended with
   | false =>
    rw [he] at hend
    have HR3 : Aside (res = (Thr.zero, -1, 31)) := by
     show _ = _
     rw [← HR2.out, thrL, if_neg (by rw [he]; simp)]
    clear he HR2
    go_wp2_with fail
    refine (hend _ HV.out).mono ?_
    rintro e w1 ⟨rfl, hb1⟩
    have z1 := zero_below HZ.out hb1
    have r0 := blk_cell z1 (i := 0) rfl
    have r1 := blk_cell z1 (i := 1) rfl
    have r2 := blk_cell z1 (i := 2) rfl
    have r3 := blk_cell z1 (i := 3) rfl
    have r4 := blk_cell z1 (i := 4) rfl
    have r5 := blk_cell z1 (i := 5) rfl
    have rf := blk_free z1
    have BF : Aside (Below w.heap.size w w1) := HBW.out.trans (hb1.mono HBW.out.size)
    clear hb1 z1 hend
    go_wp2
    refine bodyPost_ret (v := .tuple #[.agg #[.int .i64 0, .int .i64 0, .int .i64 0, .bool false, .bool false, .bool false], .int .i64 (-1), .int .i64 31]) (by simp [results, Try.results41, go_sem, r0, r1, r2, r3, r4, r5]) rfl ⟨by rw [HR3.out]; rfl, ?_⟩
    exact below_set6 BF.out (by omega) _ _ _ _ _ _
   | true =>
    rw [he] at hend
    have HR3 : Aside (res = (t.fin left in0, -1, 0)) := by
     show _ = _
     rw [← HR2.out, thrL, if_pos he]
    clear he HR2
    go_wp2_with fail
    refine (hend _ HV.out).mono ?_
    rintro e w1 ⟨rfl, hb1⟩
    have z1 := zero_below HZ.out hb1
    have r0 := blk_cell z1 (i := 0) rfl
    have r1 := blk_cell z1 (i := 1) rfl
    have r2 := blk_cell z1 (i := 2) rfl
    have r3 := blk_cell z1 (i := 3) rfl
    have r4 := blk_cell z1 (i := 4) rfl
    have r5 := blk_cell z1 (i := 5) rfl
    have rf := blk_free z1
    have BF : Aside (Below w.heap.size w w1) := HBW.out.trans (hb1.mono HBW.out.size)
    have v1 := vis_below HV.out hb1
    have HL : Aside (0 ≤ t.left ∧ t.left ≤ 1001) := ⟨HOK.out.l0, HOK.out.l1⟩
    obtain ⟨tl, ts, td, ti, tb, tw⟩ := t
    unfold VisAt at v1
    simp only [] at v1
    have k0 := blk_cell v1 (i := 0) rfl
    have k1 := blk_cell v1 (i := 1) rfl
    have k2 := blk_cell v1 (i := 2) rfl
    have k3 := blk_cell v1 (i := 3) rfl
    have k4 := blk_cell v1 (i := 4) rfl
    have k5 := blk_cell v1 (i := 5) rfl
    have kf := blk_free v1
    obtain ⟨tl0, tl1⟩ := HL.out
    simp only [] at tl0 tl1
    clear hb1 z1 v1 hend HV HZ HOK HL
    cases tb with
    | true =>
     have HR4 : Aside (res = (⟨left, 0, td, in0, true, tw⟩, -1, 0)) := by
      show _ = _
      rw [HR3.out]
      simp [Thr.fin]
     clear HR3
     go_wp2
     refine bodyPost_ret (v := .tuple #[.agg #[.int .i64 left, .int .i64 0, .int .i64 td, .bool in0, .bool true, .bool tw], .int .i64 (-1), .int .i64 0]) (by simp [results, Try.results41, go_sem, r0, r1, r2, r3, r4, r5]) rfl ⟨by rw [HR4.out]; rfl, ?_⟩
     exact below_set6 (((BF.out.setCell (p := ⟨w.heap.size + 1 + 1, 0, none⟩) (show w.heap.size ≤ w.heap.size + 1 + 1 by omega) _).setCell (p := ⟨w.heap.size + 1 + 1, 3, none⟩) (show w.heap.size ≤ w.heap.size + 1 + 1 by omega) _).setCell (p := ⟨w.heap.size + 1 + 1, 1, none⟩) (show w.heap.size ≤ w.heap.size + 1 + 1 by omega) _) (by omega) _ _ _ _ _ _
    | false =>
     have HR4 : Aside (res = (⟨tl, left - tl, td, ti, false, tw⟩, -1, 0)) := by
      show _ = _
      rw [HR3.out]; rfl
     clear HR3
     go_wp2
     refine bodyPost_ret (v := .tuple #[.agg #[.int .i64 tl, .int .i64 (left - tl), .int .i64 td, .bool ti, .bool false, .bool tw], .int .i64 (-1), .int .i64 0]) (by simp [results, Try.results41, go_sem, r0, r1, r2, r3, r4, r5]) rfl ⟨by rw [HR4.out]; rfl, ?_⟩
     exact below_set6 (BF.out.setCell (p := ⟨w.heap.size + 1 + 1, 1, none⟩) (show w.heap.size ≤ w.heap.size + 1 + 1 by omega) _) (by omega) _ _ _ _ _ _
end
section
open Go.RowKit Go.Shelf
def visR (r : Thr × Int) : Value := .tuple #[thrV r.1, .int .i64 r.2]
set_option maxRecDepth 100000 in
set_option maxHeartbeats 4000000 in
theorem Visit_any (c : Cnt) (in0 : Bool) (left : Int) (v : Value) (bs : List Int) (w : World) (hs : Sl w 1 eI v bs) (hbs : ∀ x ∈ bs, -9223372036854775808 ≤ x ∧ x ≤ 9223372036854775807) :
  Calls Try.prog 14 #[cntV c, .bool in0, .int .i64 left, v] w (Ret (visR (visitF c in0 left bs)) w) := by
 have x1 := fun W => validCount_any c W
 have x2 := fun W => validStand_any c in0 left W
 unfold standV at x2
 have x3 := fun (hc : vcnt c = true) (hv : vstand c in0 left = true) W (hW : Below w.heap.size w W) => thrown_any c in0 left v bs W (hs.below hW) hc (by
  unfold vstand inb at hv; simp at hv; have := hv.1.1; split at this <;> omega) (by
  unfold vstand inb at hv; unfold vcnt inb at hc; simp at hv hc; omega) hbs
 have HR : Aside (visitF c in0 left bs = if vcnt c = true then (if vstand c in0 left = true then ((thr c in0 left bs).1, (thr c in0 left bs).2.2) else (Thr.zero, 3)) else (Thr.zero, 2)) := rfl
 obtain ⟨a, cp, rfl, hl, _⟩ := hs
 generalize visitF c in0 left bs = res at *
 generalize thr c in0 left bs = tr at *
 generalize bs.length = n at *
 have hcv : cntV c = .agg #[.int .i64 c.1, .int .i64 c.2.1, .int .i64 c.2.2] := rfl
 rw [hcv] at *
 clear hcv hbs
 cases hc : vcnt c with
 | false =>
  rw [hc] at x1
  have HR2 : Aside (res = (Thr.zero, 2)) := by
   show _ = _
   rw [HR.out, if_neg (by rw [hc]; simp)]
  clear HR hc x3 x2
  go_enter Try.func14, Try.ntmps14
  go_wp2_with fail
  refine (x1 _).mono ?_
  rintro e w1 ⟨rfl, hb1⟩
  have z1 : ZeroAt w1 (w.heap.size + 1) := (hb1.block _ (by simp)).trans (World.alloc_heap_new' _ _ _ (by simp))
  have BF : Aside (Below w.heap.size w w1) := by (repeat' (first | exact Below.refl _ _ | assumption | (with_reducible refine Below.drew ?_) | (with_reducible refine Below.setCell ?_ (by (first | (simp; done) | (simp; omega))) _) | (with_reducible refine below_drewN' ?_ _) | (refine Below.alloc ?_ (by (try simp only [World.size_alloc, World.size_drew, World.size_setCell]); omega) _) | (refine Below.trans ?_ (Below.mono (by assumption) (by (try simp only [World.size_alloc, World.size_drew, World.size_setCell]); omega)))))
  have r0 := blk_cell z1 (i := 0) rfl
  have r1 := blk_cell z1 (i := 1) rfl
  have r2 := blk_cell z1 (i := 2) rfl
  have r3 := blk_cell z1 (i := 3) rfl
  have r4 := blk_cell z1 (i := 4) rfl
  have r5 := blk_cell z1 (i := 5) rfl
  have rf := blk_free z1
  clear hb1 z1
  go_wp2
  refine bodyPost_ret (v := .tuple #[.agg #[.int .i64 0, .int .i64 0, .int .i64 0, .bool false, .bool false, .bool false], .int .i64 2]) (by simp [results, Try.results14, go_sem, r0, r1, r2, r3, r4, r5]) rfl ⟨by rw [HR2.out]; rfl, ?_⟩
  exact below_set6 BF.out (by omega) _ _ _ _ _ _
 | true =>
  rw [hc] at x1
  cases hv : vstand c in0 left with
  | false =>
   rw [hv] at x2
   have HR2 : Aside (res = (Thr.zero, 3)) := by
    show _ = _
    rw [HR.out, if_pos hc, if_neg (by rw [hv]; simp)]
   clear HR hc x3 hv
   go_enter Try.func14, Try.ntmps14
   go_wp2_with fail
   refine (x1 _).mono ?_
   rintro e w1 ⟨rfl, hb1⟩
   have z1 : ZeroAt w1 (w.heap.size + 1) := (hb1.block _ (by simp)).trans (World.alloc_heap_new' _ _ _ (by simp))
   have BF1 : Aside (Below w.heap.size w w1) := by (repeat' (first | exact Below.refl _ _ | assumption | (with_reducible refine Below.drew ?_) | (with_reducible refine Below.setCell ?_ (by (first | (simp; done) | (simp; omega))) _) | (with_reducible refine below_drewN' ?_ _) | (refine Below.alloc ?_ (by (try simp only [World.size_alloc, World.size_drew, World.size_setCell]); omega) _) | (refine Below.trans ?_ (Below.mono (by assumption) (by (try simp only [World.size_alloc, World.size_drew, World.size_setCell]); omega)))))
   have c0 : w1.cell? ⟨w.heap.size, 0, none⟩ = some (.int .i64 c.1) := keepc hb1 (by go_simp)
   have c1 : w1.cell? ⟨w.heap.size, 1, none⟩ = some (.int .i64 c.2.1) := keepc hb1 (by go_simp)
   have c2 : w1.cell? ⟨w.heap.size, 2, none⟩ = some (.int .i64 c.2.2) := keepc hb1 (by go_simp)
   have Z1 : Aside (ZeroAt w1 (w.heap.size + 1)) := z1
   clear hb1 z1
   go_wp2_with fail
   refine (x2 _).mono ?_
   rintro e w2 ⟨rfl, hb2⟩
   have z2 := zero_below Z1.out hb2
   have BF : Aside (Below w.heap.size w w2) := BF1.out.trans (hb2.mono BF1.out.size)
   have r0 := blk_cell z2 (i := 0) rfl
   have r1 := blk_cell z2 (i := 1) rfl
   have r2 := blk_cell z2 (i := 2) rfl
   have r3 := blk_cell z2 (i := 3) rfl
   have r4 := blk_cell z2 (i := 4) rfl
   have r5 := blk_cell z2 (i := 5) rfl
   have rf := blk_free z2
   clear hb2 z2 c0 c1 c2 Z1 BF1
   go_wp2
   refine bodyPost_ret (v := .tuple #[.agg #[.int .i64 0, .int .i64 0, .int .i64 0, .bool false, .bool false, .bool false], .int .i64 3]) (by simp [results, Try.results14, go_sem, r0, r1, r2, r3, r4, r5]) rfl ⟨by rw [HR2.out]; rfl, ?_⟩
   exact below_set6 BF.out (by omega) _ _ _ _ _ _
  | true =>
   rw [hv] at x2
   have x3 := x3 hc hv
   have HR2 : Aside (res = (tr.1, tr.2.2)) := by
    show _ = _
    rw [HR.out, if_pos hc, if_pos hv]
   obtain ⟨⟨tl, ts, td, ti, tb, tw⟩, dart, err⟩ := tr
   unfold thrR thrV at x3
   simp only [] at x3
   clear HR hc hv
   go_enter Try.func14, Try.ntmps14
   go_wp2_with fail
   refine (x1 _).mono ?_
   rintro e w1 ⟨rfl, hb1⟩
   have z1 : ZeroAt w1 (w.heap.size + 1) := (hb1.block _ (by simp)).trans (World.alloc_heap_new' _ _ _ (by simp))
   have BF1 : Aside (Below w.heap.size w w1) := by (repeat' (first | exact Below.refl _ _ | assumption | (with_reducible refine Below.drew ?_) | (with_reducible refine Below.setCell ?_ (by (first | (simp; done) | (simp; omega))) _) | (with_reducible refine below_drewN' ?_ _) | (refine Below.alloc ?_ (by (try simp only [World.size_alloc, World.size_drew, World.size_setCell]); omega) _) | (refine Below.trans ?_ (Below.mono (by assumption) (by (try simp only [World.size_alloc, World.size_drew, World.size_setCell]); omega)))))
   have c0 : w1.cell? ⟨w.heap.size, 0, none⟩ = some (.int .i64 c.1) := keepc hb1 (by go_simp)
   have c1 : w1.cell? ⟨w.heap.size, 1, none⟩ = some (.int .i64 c.2.1) := keepc hb1 (by go_simp)
   have c2 : w1.cell? ⟨w.heap.size, 2, none⟩ = some (.int .i64 c.2.2) := keepc hb1 (by go_simp)
   have Z1 : Aside (ZeroAt w1 (w.heap.size + 1)) := z1
   clear hb1 z1
   go_wp2_with fail
   refine (x2 _).mono ?_
   rintro e w2 ⟨rfl, hb2⟩
   have Z2 : Aside (ZeroAt w2 (w.heap.size + 1)) := zero_below Z1.out hb2
   have BF2 : Aside (Below w.heap.size w w2) := BF1.out.trans (hb2.mono BF1.out.size)
   have c0' := keepc hb2 c0
   have c1' := keepc hb2 c1
   have c2' := keepc hb2 c2
   clear hb2 c0 c1 c2 Z1 BF1
   go_wp2_with fail
   refine (x3 _ BF2.out).mono ?_
   rintro e w3 ⟨rfl, hb3⟩
   have z3 := zero_below Z2.out hb3
   have BF : Aside (Below w.heap.size w w3) := BF2.out.trans (hb3.mono BF2.out.size)
   have zs : w.heap.size + 1 < w3.heap.size := (Array.getElem?_eq_some_iff.1 z3).1
   have r0 := blk_cell z3 (i := 0) rfl
   have r1 := blk_cell z3 (i := 1) rfl
   have r2 := blk_cell z3 (i := 2) rfl
   have r3 := blk_cell z3 (i := 3) rfl
   have r4 := blk_cell z3 (i := 4) rfl
   have r5 := blk_cell z3 (i := 5) rfl
   have rf := blk_free z3
   clear hb3 z3 c0' c1' c2' Z2 BF2 x1 x2 x3
   go_wp2
   refine bodyPost_ret (v := .tuple #[.agg #[.int .i64 tl, .int .i64 ts, .int .i64 td, .bool ti, .bool tb, .bool tw], .int .i64 err]) (by simp [results, Try.results14, go_sem, r0, r1, r2, r3, r4, r5, zs]) rfl ⟨by rw [HR2.out]; rfl, ?_⟩
   exact (below_set6 BF.out (by omega) _ _ _ _ _ _).alloc (by simp only [World.size_setCell]; exact BF.out.size) _
end
section
open Go.RowKit Go.Shelf
theorem vcnt_bd {c : Cnt} (h : vcnt c = true) : 2 ≤ c.1 ∧ c.1 ≤ 1001 := by
 unfold vcnt inb at h
 simp only [Bool.and_eq_true, decide_eq_true_eq] at h
 exact h.1
set_option maxHeartbeats 400000 in
theorem rin_any (n lo hi : Int) (w : World) : Calls Try.prog 42 #[.int .i64 n, .int .i64 lo, .int .i64 hi] w (Ret (.bool (inb lo hi n)) w) := by
 unfold inb
 by_cases h1 : lo ≤ n
 ·by_cases h2 : n ≤ hi
  ·rw [show decide (lo ≤ n ∧ n ≤ hi) = true by simp [h1, h2]]
   go_enter Try.func42, Try.ntmps42
   go_wp2
   go_ret
   exact ⟨rfl, by (repeat' (first | exact Below.refl _ _ | assumption | (with_reducible refine Below.drew ?_) | (with_reducible refine Below.setCell ?_ (by (first | (simp; done) | (simp; omega))) _) | (with_reducible refine below_drewN' ?_ _) | (refine Below.alloc ?_ (by (try simp only [World.size_alloc, World.size_drew, World.size_setCell]); omega) _) | (refine Below.trans ?_ (Below.mono (by assumption) (by (try simp only [World.size_alloc, World.size_drew, World.size_setCell]); omega)))))⟩
  ·rw [show decide (lo ≤ n ∧ n ≤ hi) = false by simp [h1, h2]]
   go_enter Try.func42, Try.ntmps42
   go_wp2
   go_ret
   exact ⟨rfl, by (repeat' (first | exact Below.refl _ _ | assumption | (with_reducible refine Below.drew ?_) | (with_reducible refine Below.setCell ?_ (by (first | (simp; done) | (simp; omega))) _) | (with_reducible refine below_drewN' ?_ _) | (refine Below.alloc ?_ (by (try simp only [World.size_alloc, World.size_drew, World.size_setCell]); omega) _) | (refine Below.trans ?_ (Below.mono (by assumption) (by (try simp only [World.size_alloc, World.size_drew, World.size_setCell]); omega)))))⟩
 ·rw [show decide (lo ≤ n ∧ n ≤ hi) = false by simp [h1]]
  go_enter Try.func42, Try.ntmps42
  go_wp2
  go_ret
  exact ⟨rfl, by (repeat' (first | exact Below.refl _ _ | assumption | (with_reducible refine Below.drew ?_) | (with_reducible refine Below.setCell ?_ (by (first | (simp; done) | (simp; omega))) _) | (with_reducible refine below_drewN' ?_ _) | (refine Below.alloc ?_ (by (try simp only [World.size_alloc, World.size_drew, World.size_setCell]); omega) _) | (refine Below.trans ?_ (Below.mono (by assumption) (by (try simp only [World.size_alloc, World.size_drew, World.size_setCell]); omega)))))⟩
set_option maxHeartbeats 1000000 in
theorem rcount_any (c : Cnt) (w : World) : Calls Try.prog 15 #[cntV c] w (Ret (.bool (vcnt c)) w) := by
 obtain ⟨s, i, o⟩ := c
 have y1 := fun W => rin_any s 2 1001 W
 have y2 := fun W => rin_any i 0 2 W
 have y3 := fun W => rin_any o 0 2 W
 unfold vcnt cntV
 simp only []
 generalize inb 2 1001 s = A at *
 generalize inb 0 2 i = B at *
 generalize inb 0 2 o = C at *
 cases A <;> cases B <;> simp only [Bool.true_and, Bool.false_and]
 all_goals
  go_enter Try.func15, Try.ntmps15
  go_wp2_with (first | (go_at_call 42; (with_reducible refine (y1 _).mono ?_); rintro e w1 ⟨rfl, hb1⟩; (obtain ⟨hc1, hf1⟩ := bcell hb1; have z1 := hb1.size; (try simp only [World.size_alloc, World.size_drew, World.size_setCell] at z1); (try have q1a : w.heap.size < w1.heap.size := by omega); (try have q1b : w.heap.size + 1 < w1.heap.size := by omega); (try have q1c : w.heap.size + 1 + 1 < w1.heap.size := by omega); (try have q1d : w.heap.size + 1 + 1 + 1 < w1.heap.size := by omega); (try have q1e : wr.heap.size < w1.heap.size := by omega); (try have q1f : wr.heap.size + 1 < w1.heap.size := by omega))) | (go_at_call 42; (with_reducible refine (y2 _).mono ?_); rintro e w2 ⟨rfl, hb2⟩; (obtain ⟨hc2, hf2⟩ := bcell hb2; have z2 := hb2.size; (try simp only [World.size_alloc, World.size_drew, World.size_setCell] at z2); (try have q2a : w.heap.size < w2.heap.size := by omega); (try have q2b : w.heap.size + 1 < w2.heap.size := by omega); (try have q2c : w.heap.size + 1 + 1 < w2.heap.size := by omega); (try have q2d : w.heap.size + 1 + 1 + 1 < w2.heap.size := by omega); (try have q2e : wr.heap.size < w2.heap.size := by omega); (try have q2f : wr.heap.size + 1 < w2.heap.size := by omega); (try have q2g : w1.heap.size < w2.heap.size := by omega); (try have q2h : w1.heap.size + 1 < w2.heap.size := by omega))) | (go_at_call 42; (with_reducible refine (y3 _).mono ?_); rintro e w3 ⟨rfl, hb3⟩; (obtain ⟨hc3, hf3⟩ := bcell hb3; have z3 := hb3.size; (try simp only [World.size_alloc, World.size_drew, World.size_setCell] at z3); (try have q3a : w.heap.size < w3.heap.size := by omega); (try have q3b : w.heap.size + 1 < w3.heap.size := by omega); (try have q3c : w.heap.size + 1 + 1 < w3.heap.size := by omega); (try have q3d : w.heap.size + 1 + 1 + 1 < w3.heap.size := by omega); (try have q3e : wr.heap.size < w3.heap.size := by omega); (try have q3f : wr.heap.size + 1 < w3.heap.size := by omega); (try have q3g : w2.heap.size < w3.heap.size := by omega); (try have q3h : w2.heap.size + 1 < w3.heap.size := by omega))))
  go_ret
  exact ⟨rfl, by (repeat' (first | exact Below.refl _ _ | assumption | (with_reducible refine Below.drew ?_) | (with_reducible refine Below.setCell ?_ (by (first | (simp; done) | (simp; omega))) _) | (with_reducible refine below_drewN' ?_ _) | (refine Below.alloc ?_ (by (try simp only [World.size_alloc, World.size_drew, World.size_setCell]); omega) _) | (refine Below.trans ?_ (Below.mono (by assumption) (by (try simp only [World.size_alloc, World.size_drew, World.size_setCell]); omega)))))⟩
end
section
open Go.RowKit Go.Shelf
set_option maxRecDepth 100000 in
set_option maxHeartbeats 1000000 in
theorem rscore_any (b : Int) (w : World) (h0 : 0 ≤ b) (h1 : b ≤ 420) : Calls Try.prog 45 #[.int .i64 b] w (Ret (.int .i64 (sc b)) w) := by
 obtain ⟨s0, s1⟩ := sc_bd h0 h1
 have d1 : Int.tdiv b 100 = b / 100 := Int.tdiv_eq_ediv_of_nonneg h0
 have d2 : Int.tmod b 100 = b % 100 := Int.tmod_eq_emod_of_nonneg h0
 unfold sc at *
 have e1 : IntKind.i64.wrap (b / 100) = b / 100 := IntWalk.i64_in _ (by omega)
 have e2 : IntKind.i64.wrap (b / 100 * (b % 100)) = b / 100 * (b % 100) := IntWalk.i64_in _ (by omega)
 generalize b / 100 = f at *
 generalize b % 100 = g at *
 go_enter Try.func45, Try.ntmps45
 go_wp2
 go_ret
 exact ⟨rfl, by (repeat' (first | exact Below.refl _ _ | assumption | (with_reducible refine Below.drew ?_) | (with_reducible refine Below.setCell ?_ (by (first | (simp; done) | (simp; omega))) _) | (with_reducible refine below_drewN' ?_ _) | (refine Below.alloc ?_ (by (try simp only [World.size_alloc, World.size_drew, World.size_setCell]); omega) _) | (refine Below.trans ?_ (Below.mono (by assumption) (by (try simp only [World.size_alloc, World.size_drew, World.size_setCell]); omega)))))⟩
set_option maxRecDepth 100000 in
set_option maxHeartbeats 1000000 in
theorem rbed_any (b : Int) (w : World) (h1 : -9223372036854775808 ≤ b) (h2 : b ≤ 9223372036854775807) :
  Calls Try.prog 43 #[.int .i64 b] w (Ret (.bool (vbed b)) w) := by
 unfold vbed
 have y1 := fun W => rin_any (fac b) 1 4 W
 have y2 := fun W => rin_any (num b) 1 20 W
 by_cases c0 : b = 0
 ·subst c0
  simp only [decide_true, Bool.true_or]
  go_enter Try.func43, Try.ntmps43
  go_wp2
  go_ret
  exact ⟨rfl, by (repeat' (first | exact Below.refl _ _ | assumption | (with_reducible refine Below.drew ?_) | (with_reducible refine Below.setCell ?_ (by (first | (simp; done) | (simp; omega))) _) | (with_reducible refine below_drewN' ?_ _) | (refine Below.alloc ?_ (by (try simp only [World.size_alloc, World.size_drew, World.size_setCell]); omega) _) | (refine Below.trans ?_ (Below.mono (by assumption) (by (try simp only [World.size_alloc, World.size_drew, World.size_setCell]); omega)))))⟩
 by_cases c1 : b = 125
 ·subst c1
  simp only [decide_true, Bool.true_or, Bool.or_true]
  go_enter Try.func43, Try.ntmps43
  go_wp2
  go_ret
  exact ⟨rfl, by (repeat' (first | exact Below.refl _ _ | assumption | (with_reducible refine Below.drew ?_) | (with_reducible refine Below.setCell ?_ (by (first | (simp; done) | (simp; omega))) _) | (with_reducible refine below_drewN' ?_ _) | (refine Below.alloc ?_ (by (try simp only [World.size_alloc, World.size_drew, World.size_setCell]); omega) _) | (refine Below.trans ?_ (Below.mono (by assumption) (by (try simp only [World.size_alloc, World.size_drew, World.size_setCell]); omega)))))⟩
 by_cases c2 : b = 225
 ·subst c2
  simp only [decide_true, Bool.true_or, Bool.or_true]
  go_enter Try.func43, Try.ntmps43
  go_wp2
  go_ret
  exact ⟨rfl, by (repeat' (first | exact Below.refl _ _ | assumption | (with_reducible refine Below.drew ?_) | (with_reducible refine Below.setCell ?_ (by (first | (simp; done) | (simp; omega))) _) | (with_reducible refine below_drewN' ?_ _) | (refine Below.alloc ?_ (by (try simp only [World.size_alloc, World.size_drew, World.size_setCell]); omega) _) | (refine Below.trans ?_ (Below.mono (by assumption) (by (try simp only [World.size_alloc, World.size_drew, World.size_setCell]); omega)))))⟩
 simp only [c0, c1, c2, decide_false, Bool.false_or]
 have b0 : (b == 0) = false := by simpa using c0
 have b1 : (b == 125) = false := by simpa using c1
 have b2 : (b == 225) = false := by simpa using c2
 unfold fac num at *
 generalize inb 1 4 (b.tdiv 100) = r1 at *
 generalize inb 1 20 (b.tmod 100) = r2 at *
 cases r1 with
 | true =>
  rw [Bool.true_and]
  go_enter Try.func43, Try.ntmps43
  go_wp2_with (first | (go_at_call 42; (with_reducible refine (y1 _).mono ?_); rintro e w1 ⟨rfl, hb1⟩; (obtain ⟨hc1, hf1⟩ := bcell hb1; have z1 := hb1.size; (try simp only [World.size_alloc, World.size_drew, World.size_setCell] at z1); (try have q1a : w.heap.size < w1.heap.size := by omega); (try have q1b : w.heap.size + 1 < w1.heap.size := by omega); (try have q1c : w.heap.size + 1 + 1 < w1.heap.size := by omega); (try have q1d : w.heap.size + 1 + 1 + 1 < w1.heap.size := by omega); (try have q1e : wr.heap.size < w1.heap.size := by omega); (try have q1f : wr.heap.size + 1 < w1.heap.size := by omega))) | (go_at_call 42; (with_reducible refine (y2 _).mono ?_); rintro e w2 ⟨rfl, hb2⟩; (obtain ⟨hc2, hf2⟩ := bcell hb2; have z2 := hb2.size; (try simp only [World.size_alloc, World.size_drew, World.size_setCell] at z2); (try have q2a : w.heap.size < w2.heap.size := by omega); (try have q2b : w.heap.size + 1 < w2.heap.size := by omega); (try have q2c : w.heap.size + 1 + 1 < w2.heap.size := by omega); (try have q2d : w.heap.size + 1 + 1 + 1 < w2.heap.size := by omega); (try have q2e : wr.heap.size < w2.heap.size := by omega); (try have q2f : wr.heap.size + 1 < w2.heap.size := by omega); (try have q2g : w1.heap.size < w2.heap.size := by omega); (try have q2h : w1.heap.size + 1 < w2.heap.size := by omega))))
  go_ret
  exact ⟨rfl, by (repeat' (first | exact Below.refl _ _ | assumption | (with_reducible refine Below.drew ?_) | (with_reducible refine Below.setCell ?_ (by (first | (simp; done) | (simp; omega))) _) | (with_reducible refine below_drewN' ?_ _) | (refine Below.alloc ?_ (by (try simp only [World.size_alloc, World.size_drew, World.size_setCell]); omega) _) | (refine Below.trans ?_ (Below.mono (by assumption) (by (try simp only [World.size_alloc, World.size_drew, World.size_setCell]); omega)))))⟩
 | false =>
  rw [Bool.false_and]
  go_enter Try.func43, Try.ntmps43
  go_wp2_with (go_at_call 42; (with_reducible refine (y1 _).mono ?_); rintro e w1 ⟨rfl, hb1⟩; (obtain ⟨hc1, hf1⟩ := bcell hb1; have z1 := hb1.size; (try simp only [World.size_alloc, World.size_drew, World.size_setCell] at z1); (try have q1a : w.heap.size < w1.heap.size := by omega); (try have q1b : w.heap.size + 1 < w1.heap.size := by omega); (try have q1c : w.heap.size + 1 + 1 < w1.heap.size := by omega); (try have q1d : w.heap.size + 1 + 1 + 1 < w1.heap.size := by omega); (try have q1e : wr.heap.size < w1.heap.size := by omega); (try have q1f : wr.heap.size + 1 < w1.heap.size := by omega)))
  go_ret
  exact ⟨rfl, by (repeat' (first | exact Below.refl _ _ | assumption | (with_reducible refine Below.drew ?_) | (with_reducible refine Below.setCell ?_ (by (first | (simp; done) | (simp; omega))) _) | (with_reducible refine below_drewN' ?_ _) | (refine Below.alloc ?_ (by (try simp only [World.size_alloc, World.size_drew, World.size_setCell]); omega) _) | (refine Below.trans ?_ (Below.mono (by assumption) (by (try simp only [World.size_alloc, World.size_drew, World.size_setCell]); omega)))))⟩
end
section
open Go.RowKit Go.Shelf
theorem vbed_zero {b : Int} (h : vbed b = true) : decide (b ≠ 0) = decide (1 ≤ b / 100) := by
 obtain ⟨h0, h1⟩ := vbed_bd h
 unfold vbed inb at h
 rw [show fac b = b / 100 from Int.tdiv_eq_ediv_of_nonneg h0] at h
 simp only [Bool.or_eq_true, Bool.and_eq_true, decide_eq_true_eq] at h
 rw [decide_eq_decide]
 constructor
 ·intro hne; rcases h with ((h | h) | h) | h <;> omega
 ·intro hh hz; subst hz; simp at hh
set_option maxRecDepth 100000 in
set_option maxHeartbeats 1000000 in
theorem ropens_any (g b : Int) (w : World) (hb : vbed b = true) (hg : inb 0 2 g = true) : Calls Try.prog 44 #[.int .i64 g, .int .i64 b] w (Ret (.bool (opn g b)) w) := by
 have hz := vbed_zero hb
 obtain ⟨h0, h1⟩ := vbed_bd hb
 have d1 : Int.tdiv b 100 = b / 100 := Int.tdiv_eq_ediv_of_nonneg h0
 have e1 : IntKind.i64.wrap (b / 100) = b / 100 := IntWalk.i64_in _ (by omega)
 unfold inb at hg
 simp only [decide_eq_true_eq] at hg
 unfold opn
 rw [hz]
 clear hz hb
 generalize b / 100 = f at *
 have h3 : g = 0 ∨ g = 1 ∨ g = 2 := by omega
 rcases h3 with rfl | rfl | rfl
 ·rw [if_neg (by decide), if_neg (by decide)]
  by_cases hf : 1 ≤ f
  ·rw [show decide (1 ≤ f) = true by simp [hf]]
   go_enter Try.func44, Try.ntmps44
   go_wp2
   go_ret
   exact ⟨rfl, by (repeat' (first | exact Below.refl _ _ | assumption | (with_reducible refine Below.drew ?_) | (with_reducible refine Below.setCell ?_ (by (first | (simp; done) | (simp; omega))) _) | (with_reducible refine below_drewN' ?_ _) | (refine Below.alloc ?_ (by (try simp only [World.size_alloc, World.size_drew, World.size_setCell]); omega) _) | (refine Below.trans ?_ (Below.mono (by assumption) (by (try simp only [World.size_alloc, World.size_drew, World.size_setCell]); omega)))))⟩
  ·rw [show decide (1 ≤ f) = false by simp [hf]]
   go_enter Try.func44, Try.ntmps44
   go_wp2
   go_ret
   exact ⟨rfl, by (repeat' (first | exact Below.refl _ _ | assumption | (with_reducible refine Below.drew ?_) | (with_reducible refine Below.setCell ?_ (by (first | (simp; done) | (simp; omega))) _) | (with_reducible refine below_drewN' ?_ _) | (refine Below.alloc ?_ (by (try simp only [World.size_alloc, World.size_drew, World.size_setCell]); omega) _) | (refine Below.trans ?_ (Below.mono (by assumption) (by (try simp only [World.size_alloc, World.size_drew, World.size_setCell]); omega)))))⟩
 ·rw [if_pos rfl]
  by_cases hf : f = 2
  ·rw [show decide (f = 2) = true by simp [hf]]
   subst hf
   go_enter Try.func44, Try.ntmps44
   go_wp2
   go_ret
   exact ⟨rfl, by (repeat' (first | exact Below.refl _ _ | assumption | (with_reducible refine Below.drew ?_) | (with_reducible refine Below.setCell ?_ (by (first | (simp; done) | (simp; omega))) _) | (with_reducible refine below_drewN' ?_ _) | (refine Below.alloc ?_ (by (try simp only [World.size_alloc, World.size_drew, World.size_setCell]); omega) _) | (refine Below.trans ?_ (Below.mono (by assumption) (by (try simp only [World.size_alloc, World.size_drew, World.size_setCell]); omega)))))⟩
  ·rw [show decide (f = 2) = false by simp [hf]]
   have hf2 : (f == 2) = false := by simpa using hf
   go_enter Try.func44, Try.ntmps44
   go_wp2
   go_ret
   exact ⟨rfl, by (repeat' (first | exact Below.refl _ _ | assumption | (with_reducible refine Below.drew ?_) | (with_reducible refine Below.setCell ?_ (by (first | (simp; done) | (simp; omega))) _) | (with_reducible refine below_drewN' ?_ _) | (refine Below.alloc ?_ (by (try simp only [World.size_alloc, World.size_drew, World.size_setCell]); omega) _) | (refine Below.trans ?_ (Below.mono (by assumption) (by (try simp only [World.size_alloc, World.size_drew, World.size_setCell]); omega)))))⟩
 ·rw [if_neg (by decide), if_pos rfl]
  by_cases hf : 2 ≤ f
  ·rw [show decide (2 ≤ f) = true by simp [hf]]
   go_enter Try.func44, Try.ntmps44
   go_wp2
   go_ret
   exact ⟨rfl, by (repeat' (first | exact Below.refl _ _ | assumption | (with_reducible refine Below.drew ?_) | (with_reducible refine Below.setCell ?_ (by (first | (simp; done) | (simp; omega))) _) | (with_reducible refine below_drewN' ?_ _) | (refine Below.alloc ?_ (by (try simp only [World.size_alloc, World.size_drew, World.size_setCell]); omega) _) | (refine Below.trans ?_ (Below.mono (by assumption) (by (try simp only [World.size_alloc, World.size_drew, World.size_setCell]); omega)))))⟩
  ·rw [show decide (2 ≤ f) = false by simp [hf]]
   go_enter Try.func44, Try.ntmps44
   go_wp2
   go_ret
   exact ⟨rfl, by (repeat' (first | exact Below.refl _ _ | assumption | (with_reducible refine Below.drew ?_) | (with_reducible refine Below.setCell ?_ (by (first | (simp; done) | (simp; omega))) _) | (with_reducible refine below_drewN' ?_ _) | (refine Below.alloc ?_ (by (try simp only [World.size_alloc, World.size_drew, World.size_setCell]); omega) _) | (refine Below.trans ?_ (Below.mono (by assumption) (by (try simp only [World.size_alloc, World.size_drew, World.size_setCell]); omega)))))⟩
end
section
open Go.RowKit Go.Shelf
/-- What is left at least. -/
def lo (c : Cnt) : Int := if c.2.2 = 0 then 1 else 2
/-- The reference's visit: In may be behind at a bust. -/
def RvAt (w : World) (X : Nat) (t : Thr) (ui : Bool) : Prop := w.heap[X]? = some (.cells #[.int .i64 t.left, .int .i64 0, .int .i64 t.darts, .bool ui, .bool t.bust, .bool t.won] 30 (0, 0))
structure RvInv (c : Cnt) (in0 : Bool) (left : Int) (bs : List Int) (res : Thr × Int × Int) (w : World) (k : Nat) (t : Thr) (ui : Bool) (wr : World) : Prop where
 blk : RvAt wr (w.heap.size + 1 + 1) t ui
 inn : t.bust = false → ui = t.inn
 ok : t.Ok k
 low : t.won = false → lo c ≤ t.left
 res : thrL c in0 left t k (bs.drop k) = res
 bel : Below w.heap.size w wr
 zero : ZeroAt wr (w.heap.size + 1)
 box : wr.heap[w.heap.size]? = some (.cells #[.int .i64 c.1, .int .i64 c.2.1, .int .i64 c.2.2] 24 (0, 0))
theorem lo_pos (c : Cnt) : 0 < lo c := by unfold lo; split <;> omega
/-- The dart, case by case. -/
theorem step_wait {c : Cnt} {t : Thr} {b : Int} (h : (t.inn || opn c.2.1 b) = false) (hl : lo c ≤ t.left) : t.step c b = ⟨t.left, t.score, t.darts + 1, false, false, false⟩ := by
 have hp := lo_pos c
 unfold Thr.step; rw [if_neg (by rw [h]; simp)]
 have : decide (t.left = 0) = false := by simp; omega
 rw [this]
theorem step_miss {c : Cnt} {t : Thr} (h : (t.inn || opn c.2.1 0) = true) (hl : lo c ≤ t.left) : t.step c 0 = ⟨t.left, t.score, t.darts + 1, true, false, false⟩ := by
 unfold lo at hl
 have h1 : bst t.left c.2.2 0 = false := by
  unfold bst
  rw [show sc 0 = 0 from rfl]
  split at hl
  ·rename_i h0
   rw [if_neg (by omega)]
   split
   ·simp [h0]
   ·simp; omega
  ·rw [if_neg (by omega), if_neg (by omega)]
   simp; omega
 unfold Thr.step
 rw [if_pos h, if_neg (by rw [h1]; simp), show sc 0 = 0 from rfl, Int.sub_zero]
 have : decide (t.left = 0) = false := by simp; split at hl <;> omega
 rw [this]
theorem step_out {c : Cnt} {t : Thr} {b : Int} (h : (t.inn || opn c.2.1 b) = true) (hn : t.left - sc b = 0) (ho : opn c.2.2 b = true) : t.step c b = ⟨0, t.score, t.darts + 1, true, false, true⟩ := by
 unfold Thr.step bst
 rw [if_pos h, if_pos hn, ho, hn]
 simp
theorem step_on {c : Cnt} {t : Thr} {b : Int} (h : (t.inn || opn c.2.1 b) = true) (hn : 2 ≤ t.left - sc b ∨ (t.left - sc b = 1 ∧ c.2.2 = 0)) : t.step c b = ⟨t.left - sc b, t.score, t.darts + 1, true, false, false⟩ := by
 unfold Thr.step bst
 rw [if_pos h, if_neg (show ¬ t.left - sc b = 0 by omega)]
 by_cases h1 : t.left - sc b = 1
 ·have h0 : c.2.2 = 0 := by omega
  rw [if_pos h1, h0]
  simp [h1]
 ·rw [if_neg h1, if_neg (by simp; omega)]
  have : decide (t.left - sc b = 0) = false := by simp; omega
  rw [this]
theorem step_bust {c : Cnt} {t : Thr} {b : Int} (h : (t.inn || opn c.2.1 b) = true) (hl : lo c ≤ t.left) (hn : ¬ (t.left - sc b = 0 ∧ opn c.2.2 b = true)) (h2 : ¬ (2 ≤ t.left - sc b ∨ (t.left - sc b = 1 ∧ c.2.2 = 0))) : t.step c b = ⟨t.left, t.score, t.darts + 1, t.inn, true, false⟩ := by
 have hp := lo_pos c
 have hb : bst t.left c.2.2 b = true := by
  unfold bst
  split
  ·rename_i h0
   cases ho : opn c.2.2 b with
   | true => exact absurd ⟨h0, ho⟩ hn
   | false => rfl
  ·split
   ·simp; omega
   ·simp; omega
 unfold Thr.step
 rw [if_pos h, if_pos hb]
 have : decide (t.left = 0) = false := by simp; omega
 rw [this]
end
end Go.Proofs.Ytgmlcgifagbjmaa
