/- Leg, part G: a visit: whether a stand is valid, what beds come to. -/
import Derived.Test.YthcgbceapabikaaF
import Derived.Outline
set_option linter.unusedVariables false
set_option linter.unusedSimpArgs false
namespace Go.Proofs.Ythcgbceapabikaa
open Go.RowKit Go.Shelf

def thrV (t : Thr) : Value := .agg #[.int .i64 t.left, .int .i64 t.score, .int .i64 t.darts, .bool t.inn, .bool t.bust, .bool t.won]
def thrR (r : Thr × Int × Int) : Value := .tuple #[thrV r.1, .int .i64 r.2.1, .int .i64 r.2.2]
/-- The zero result in memory. -/
def ZeroAt (w : World) (R : Nat) : Prop := w.heap[R]? = some (.cells #[.int .i64 0, .int .i64 0, .int .i64 0, .bool false, .bool false, .bool false] 30 (0, 0))

theorem vis_below {w w' : World} {V : Nat} {t : Thr} {c : Cnt} (h : VisAt w V t c) (hB : Below w.heap.size w w') : VisAt w' V t c := (hB.block V (vis_size h)).trans h
theorem zero_below {w w' : World} {R : Nat} (h : ZeroAt w R) (hB : Below w.heap.size w w') : ZeroAt w' R := (hB.block R (Array.getElem?_eq_some_iff.1 h).1).trans h

theorem below_set6 {B R : Nat} {w w1 : World} (h : Below B w w1) (hR : B ≤ R) (x0 x1 x2 x3 x4 x5 : Value) :
    Below B w ((((((w1.setCell ⟨R, 0, none⟩ x0).setCell ⟨R, 1, none⟩ x1).setCell ⟨R, 2, none⟩ x2).setCell ⟨R, 3, none⟩ x3).setCell ⟨R, 4, none⟩ x4).setCell ⟨R, 5, none⟩ x5) :=
  (((((h.setCell (p := ⟨R, 0, none⟩) hR x0).setCell (p := ⟨R, 1, none⟩) hR x1).setCell (p := ⟨R, 2, none⟩) hR x2).setCell (p := ⟨R, 3, none⟩) hR x3).setCell (p := ⟨R, 4, none⟩) hR x4).setCell (p := ⟨R, 5, none⟩) hR x5

/-- What holds at the head of a round. -/
def ThrInv (c : Cnt) (in0 : Bool) (left : Int) (bs : List Int) (res : Thr × Int × Int) (w : World) (V R k : Nat) (wr : World) : Prop :=
  ∃ t : Thr, VisAt wr V t c ∧ t.Ok k ∧ thrL c in0 left t k (bs.drop k) = res ∧ Below w.heap.size w wr ∧ ZeroAt wr R

set_option maxRecDepth 100000 in
set_option maxHeartbeats 4000000 in
theorem thrown_any (c : Cnt) (in0 : Bool) (left : Int) (v : Value) (bs : List Int) (w : World) (hs : Sl w 1 eI v bs) (hc : vcnt c = true) (l0 : 0 ≤ left) (l1 : left ≤ 1001) (hbs : ∀ x ∈ bs, -9223372036854775808 ≤ x ∧ x ≤ 9223372036854775807) :
    Calls Try.prog 41 #[cntV c, .bool in0, .int .i64 left, v] w (Ret (thrR (thr c in0 left bs)) w) := by
  obtain ⟨a, cp, rfl, hl, hs⟩ := hs
  obtain ⟨n, hn⟩ : ∃ n, bs.length = n := ⟨_, rfl⟩
  have HN : Aside (bs.length = n) := hn
  have HS : Aside (bs ≠ [] → ∃ b off, a = some ⟨b, off, none⟩ ∧ b < w.heap.size ∧ ∀ j x, bs[j]? = some x → ∀ i y, (eI x)[i]? = some y → w.cell? ⟨b, off + j * 1 + i, none⟩ = some y) := hs
  have HB : Aside (∀ x ∈ bs, -9223372036854775808 ≤ x ∧ x ≤ 9223372036854775807) := hbs
  have HC : Aside (vcnt c = true) := hc
  rw [hn] at hl ⊢
  clear hn hs hbs hc
  obtain ⟨res, hres⟩ : ∃ res, thr c in0 left bs = res := ⟨_, rfl⟩
  have HRES : Aside (thr c in0 left bs = res) := hres
  rw [hres]
  clear hres
  have hcv : cntV c = .agg #[.int .i64 c.1, .int .i64 c.2.1, .int .i64 c.2.2] := rfl
  rw [hcv]
  clear hcv
  go_enter Try.func41, Try.ntmps41
  go_wp2_with fail
  obtain ⟨wa, hwa⟩ : ∃ u, u = ((w.alloc (.cells #[.int .i64 c.1, .int .i64 c.2.1, .int .i64 c.2.2] 24)).alloc (.cells #[.int .i64 0, .int .i64 0, .int .i64 0, .bool false, .bool false, .bool false] 30)).alloc (.cells #[.int .i64 left, .int .i64 0, .int .i64 0, .bool in0, .bool false, .bool false, .int .i64 c.1, .int .i64 c.2.1, .int .i64 c.2.2] 132) := ⟨_, rfl⟩
  have HI : Aside (ThrInv c in0 left bs res w (w.heap.size + 1 + 1) (w.heap.size + 1) 0 wa) := by
    refine ⟨⟨left, 0, 0, in0, false, false⟩, ?_, ⟨l0, l1, rfl, by omega⟩, HRES.out, by rw [hwa]; (repeat' (first | exact Below.refl _ _ | assumption | (with_reducible refine Below.drew ?_) | (with_reducible refine Below.setCell ?_ (by (first | (simp; done) | (simp; omega))) _) | (with_reducible refine below_drewN' ?_ _) | (refine Below.alloc ?_ (by (try simp only [World.size_alloc, World.size_drew, World.size_setCell]); omega) _) | (refine Below.trans ?_ (Below.mono (by assumption) (by (try simp only [World.size_alloc, World.size_drew, World.size_setCell]); omega))))), ?_⟩
    · rw [hwa]; exact World.alloc_heap_new' _ _ _ (by simp)
    · rw [hwa]; exact (Below.heap_alloc _ _ _ (by simp)).trans (World.alloc_heap_new' _ _ _ (by simp))
  rw [← hwa]
  clear hwa
  go_loopg [22] n (fun gg i wr => ∃ k : Nat, k ≤ n ∧ n - k ≤ gg ∧ i = .int .i64 k ∧ Aside (ThrInv c in0 left bs res w (w.heap.size + 1 + 1) (w.heap.size + 1) k wr))
  case atStart => exact ⟨0, Nat.zero_le _, by omega, rfl, HI.out⟩
  case round =>
    clear HI HRES
    obtain ⟨k, hk, hg, rfl, HI⟩ := hrel
    obtain ⟨t, hv, hok, hr, hB, hz⟩ := HI.out
    have hend := fun W h => ended_any (w.heap.size + 1 + 1) t c W h
    have hzlt : w.heap.size + 1 < wr.heap.size := (Array.getElem?_eq_some_iff.1 hz).1
    have hvlt := vis_size hv
    have HV : Aside (VisAt wr (w.heap.size + 1 + 1) t c) := hv
    have HZ : Aside (ZeroAt wr (w.heap.size + 1)) := hz
    have HOK : Aside (t.Ok k) := hok
    have HBW : Aside (Below w.heap.size w wr) := hB
    have HR : Aside (thrL c in0 left t k (bs.drop k) = res) := hr
    clear hv hz hok hB hr HI
    by_cases hlt : k < n
    · have hltz : (k : Int) < (n : Int) := by omega
      obtain ⟨b, hb⟩ : ∃ b, bs[k]? = some b := ⟨_, List.getElem?_eq_getElem (by rw [HN.out]; exact hlt)⟩
      obtain ⟨B, off, rfl, hBlt, hcl⟩ := HS.out (by intro e; rw [e] at hb; simp at hb)
      have kb : wr.cell? ⟨B, off + k, none⟩ = some (.int .i64 b) := keepc HBW.out (by have := hcl k b hb 0 (.int .i64 b) rfl; simpa using this)
      have HBB : Aside (-9223372036854775808 ≤ b ∧ b ≤ 9223372036854775807) := HB.out b (List.mem_of_getElem? hb)
      have HD : Aside (bs.drop k = b :: bs.drop (k + 1)) := by
        obtain ⟨h1, h2⟩ := List.getElem?_eq_some_iff.1 hb
        show _ = _
        rw [List.drop_eq_getElem_cons h1, h2]
      have HR2 : Aside (thrL c in0 left t k (b :: bs.drop (k + 1)) = res) := by
        show _ = _
        rw [← HD.out]; exact HR.out
      clear hcl hb HR HD
      cases he : t.ended with
      | true =>
        -- @@a
        rw [he] at hend
        have HR3 : Aside (res = (Thr.zero, (k : Int), 32)) := by
          show _ = _
          rw [← HR2.out, thrL, if_pos he]
        clear he HR2
        go_wp2_with fail
        refine (hend _ HV.out).mono ?_
        rintro e w1 ⟨rfl, hb1⟩
        have z1 := zero_below HZ.out hb1
        have r0 := blk_cell z1 (i := 0) rfl
        have r1 := blk_cell z1 (i := 1) rfl
        have r2 := blk_cell z1 (i := 2) rfl
        have r3 := blk_cell z1 (i := 3) rfl
        have r4 := blk_cell z1 (i := 4) rfl
        have r5 := blk_cell z1 (i := 5) rfl
        have rf := blk_free z1
        have BF : Aside (Below w.heap.size w w1) := HBW.out.trans (hb1.mono HBW.out.size)
        clear hb1 z1 hend kb
        go_wp2
        refine bodyPost_ret (v := .tuple #[.agg #[.int .i64 0, .int .i64 0, .int .i64 0, .bool false, .bool false, .bool false], .int .i64 (k : Int), .int .i64 32]) (by simp [results, Try.results41, go_sem, r0, r1, r2, r3, r4, r5]) rfl ⟨by rw [HR3.out]; rfl, ?_⟩
        exact below_set6 BF.out (by omega) _ _ _ _ _ _
      | false =>
        rw [he] at hend
        have x2 := fun W => valid_any b W HBB.out.1 HBB.out.2
        unfold hitV at x2
        go_wp2_with fail
        refine (hend _ HV.out).mono ?_
        rintro e w1 ⟨rfl, hb1⟩
        have HV1 : Aside (VisAt w1 (w.heap.size + 1 + 1) t c) := vis_below HV.out hb1
        have HZ1 : Aside (ZeroAt w1 (w.heap.size + 1)) := zero_below HZ.out hb1
        have BF : Aside (Below w.heap.size w w1) := HBW.out.trans (hb1.mono HBW.out.size)
        clear hb1 hend kb HV HZ HBW hzlt hvlt
        cases hvb : vbed b with
        | false =>
          -- @@b
          rw [hvb] at x2
          have HR3 : Aside (res = (Thr.zero, (k : Int), 2)) := by
            show _ = _
            rw [← HR2.out, thrL, if_neg (by rw [he]; simp), if_neg (by rw [hvb]; simp)]
          clear he hvb HR2
          go_wp2_with fail
          refine (x2 _).mono ?_
          rintro e w2 ⟨rfl, hb2⟩
          have ha : Below w1.heap.size w1 w2 := ((Below.refl _ w1).alloc (Nat.le_refl _) _).trans (hb2.mono (by simp))
          have z1 := zero_below HZ1.out ha
          have BF2 : Aside (Below w.heap.size w w2) := BF.out.trans (ha.mono BF.out.size)
          clear ha hb2 BF
          have BF := BF2
          clear BF2
          have r0 := blk_cell z1 (i := 0) rfl
          have r1 := blk_cell z1 (i := 1) rfl
          have r2 := blk_cell z1 (i := 2) rfl
          have r3 := blk_cell z1 (i := 3) rfl
          have r4 := blk_cell z1 (i := 4) rfl
          have r5 := blk_cell z1 (i := 5) rfl
          have rf := blk_free z1
          clear z1
          go_wp2
          refine bodyPost_ret (v := .tuple #[.agg #[.int .i64 0, .int .i64 0, .int .i64 0, .bool false, .bool false, .bool false], .int .i64 (k : Int), .int .i64 2]) (by simp [results, Try.results41, go_sem, r0, r1, r2, r3, r4, r5]) rfl ⟨by rw [HR3.out]; rfl, ?_⟩
          exact below_set6 BF.out (by omega) _ _ _ _ _ _
        | true =>
          -- @@c
          rw [hvb] at x2
          have HR3 : Aside (thrL c in0 left (t.step c b) (k + 1) (bs.drop (k + 1)) = res) := by
            show _ = _
            rw [← HR2.out, thrL, if_neg (by rw [he]; simp), if_pos hvb]
          have HOK2 : Aside ((t.step c b).Ok (k + 1)) := HOK.out.step he c hvb
          have x3 := fun W (h : VisAt W (w.heap.size + 1 + 1) t c) => take_any (w.heap.size + 1 + 1) t c b W h hvb HC.out HOK.out.l0 HOK.out.l1 (by rw [HOK.out.d]; omega) (by
            have h1 := HOK.out.d
            have h2 := HOK2.out.n3
            omega)
          unfold hitV at x3
          clear he hvb HR2
          go_wp2_with fail
          refine (x2 _).mono ?_
          rintro e w2 ⟨rfl, hb2⟩
          have ha : Below w1.heap.size w1 w2 := ((Below.refl _ w1).alloc (Nat.le_refl _) _).trans (hb2.mono (by simp))
          have HV2 : Aside (VisAt w2 (w.heap.size + 1 + 1) t c) := vis_below HV1.out ha
          have HZ2 : Aside (ZeroAt w2 (w.heap.size + 1)) := zero_below HZ1.out ha
          have BF2 : Aside (Below w.heap.size w w2) := BF.out.trans (ha.mono BF.out.size)
          have kh : w2.cell? ⟨w1.heap.size, 0, none⟩ = some (.int .i64 b) := keepc hb2 (by go_simp)
          clear ha hb2 BF HV1 HZ1 x2
          go_wp2_with fail
          refine (x3 _ HV2.out).mono ?_
          rintro e w3 ⟨⟨v3, rfl⟩, hv3, ho3⟩
          have HI3 : Aside (ThrInv c in0 left bs res w (w.heap.size + 1 + 1) (w.heap.size + 1) (k + 1) w3) := by
            have hz := vis_size HV2.out
            exact ⟨t.step c b, hv3, HOK2.out, HR3.out, BF2.out.trans ((ho3.below (by omega)).mono (by omega)), ho3.cells (by omega) HZ2.out⟩
          clear hv3 ho3 HV2 HZ2 x3 kh
          go_wp2_with fail
          go_roundg (n - (k + 1))
          case measure => omega
          case rel => exact ⟨k + 1, by omega, by omega, by go_num, HI3.out⟩
    · have hltz : ¬ (k : Int) < (n : Int) := by omega
      have : k = n := by omega
      subst this
      have HR2 : Aside (thrL c in0 left t k [] = res) := by
        have := HR.out
        rw [List.drop_of_length_le (by rw [HN.out]; exact Nat.le_refl _)] at this
        exact this
      clear HR
      cases he : t.ended with
      | false =>
        -- @@d
        rw [he] at hend
        have HR3 : Aside (res = (Thr.zero, -1, 31)) := by
          show _ = _
          rw [← HR2.out, thrL, if_neg (by rw [he]; simp)]
        clear he HR2
        go_wp2_with fail
        refine (hend _ HV.out).mono ?_
        rintro e w1 ⟨rfl, hb1⟩
        have z1 := zero_below HZ.out hb1
        have r0 := blk_cell z1 (i := 0) rfl
        have r1 := blk_cell z1 (i := 1) rfl
        have r2 := blk_cell z1 (i := 2) rfl
        have r3 := blk_cell z1 (i := 3) rfl
        have r4 := blk_cell z1 (i := 4) rfl
        have r5 := blk_cell z1 (i := 5) rfl
        have rf := blk_free z1
        have BF : Aside (Below w.heap.size w w1) := HBW.out.trans (hb1.mono HBW.out.size)
        clear hb1 z1 hend
        go_wp2
        refine bodyPost_ret (v := .tuple #[.agg #[.int .i64 0, .int .i64 0, .int .i64 0, .bool false, .bool false, .bool false], .int .i64 (-1), .int .i64 31]) (by simp [results, Try.results41, go_sem, r0, r1, r2, r3, r4, r5]) rfl ⟨by rw [HR3.out]; rfl, ?_⟩
        exact below_set6 BF.out (by omega) _ _ _ _ _ _
      | true =>
        rw [he] at hend
        have HR3 : Aside (res = (t.fin left in0, -1, 0)) := by
          show _ = _
          rw [← HR2.out, thrL, if_pos he]
        clear he HR2
        go_wp2_with fail
        refine (hend _ HV.out).mono ?_
        rintro e w1 ⟨rfl, hb1⟩
        have z1 := zero_below HZ.out hb1
        have r0 := blk_cell z1 (i := 0) rfl
        have r1 := blk_cell z1 (i := 1) rfl
        have r2 := blk_cell z1 (i := 2) rfl
        have r3 := blk_cell z1 (i := 3) rfl
        have r4 := blk_cell z1 (i := 4) rfl
        have r5 := blk_cell z1 (i := 5) rfl
        have rf := blk_free z1
        have BF : Aside (Below w.heap.size w w1) := HBW.out.trans (hb1.mono HBW.out.size)
        have v1 := vis_below HV.out hb1
        have HL : Aside (0 ≤ t.left ∧ t.left ≤ 1001) := ⟨HOK.out.l0, HOK.out.l1⟩
        obtain ⟨tl, ts, td, ti, tb, tw⟩ := t
        unfold VisAt at v1
        simp only [] at v1
        have k0 := blk_cell v1 (i := 0) rfl
        have k1 := blk_cell v1 (i := 1) rfl
        have k2 := blk_cell v1 (i := 2) rfl
        have k3 := blk_cell v1 (i := 3) rfl
        have k4 := blk_cell v1 (i := 4) rfl
        have k5 := blk_cell v1 (i := 5) rfl
        have kf := blk_free v1
        obtain ⟨tl0, tl1⟩ := HL.out
        simp only [] at tl0 tl1
        clear hb1 z1 v1 hend HV HZ HOK HL
        cases tb with
        | true =>
          -- @@e
          have HR4 : Aside (res = (⟨left, 0, td, in0, true, tw⟩, -1, 0)) := by
            show _ = _
            rw [HR3.out]
            simp [Thr.fin]
          clear HR3
          go_wp2
          refine bodyPost_ret (v := .tuple #[.agg #[.int .i64 left, .int .i64 0, .int .i64 td, .bool in0, .bool true, .bool tw], .int .i64 (-1), .int .i64 0]) (by simp [results, Try.results41, go_sem, r0, r1, r2, r3, r4, r5]) rfl ⟨by rw [HR4.out]; rfl, ?_⟩
          exact below_set6 (((BF.out.setCell (p := ⟨w.heap.size + 1 + 1, 0, none⟩) (show w.heap.size ≤ w.heap.size + 1 + 1 by omega) _).setCell (p := ⟨w.heap.size + 1 + 1, 3, none⟩) (show w.heap.size ≤ w.heap.size + 1 + 1 by omega) _).setCell (p := ⟨w.heap.size + 1 + 1, 1, none⟩) (show w.heap.size ≤ w.heap.size + 1 + 1 by omega) _) (by omega) _ _ _ _ _ _
        | false =>
          -- @@f
          have HR4 : Aside (res = (⟨tl, left - tl, td, ti, false, tw⟩, -1, 0)) := by
            show _ = _
            rw [HR3.out]; rfl
          clear HR3
          go_wp2
          refine bodyPost_ret (v := .tuple #[.agg #[.int .i64 tl, .int .i64 (left - tl), .int .i64 td, .bool ti, .bool false, .bool tw], .int .i64 (-1), .int .i64 0]) (by simp [results, Try.results41, go_sem, r0, r1, r2, r3, r4, r5]) rfl ⟨by rw [HR4.out]; rfl, ?_⟩
          exact below_set6 (BF.out.setCell (p := ⟨w.heap.size + 1 + 1, 1, none⟩) (show w.heap.size ≤ w.heap.size + 1 + 1 by omega) _) (by omega) _ _ _ _ _ _
end Go.Proofs.Ythcgbceapabikaa
