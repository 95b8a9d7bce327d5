/- Leg: parts K, S, T, Bf, Bi. -/
import Derived.Deep.RegionLaw
import Derived.Deep.OwnRows
import Derived.Test.YtnhjoebdmmelaaaMah
import Derived.Test.YtnhjoebdmmelaaaMag
import Derived.Test.YtnhjoebdmmelaaaMab
import Derived.Test.YtnhjoebdmmelaaaMaf
import Derived.Test.YtnhjoebdmmelaaaMae
set_option linter.unusedVariables false
set_option linter.unusedSimpArgs false
namespace Go.Proofs.Ytnhjoebdmmelaaa
section
open Go.RowKit Go.Shelf
def mtV (g : Mt) (f : Int) : Value := .agg #[.int .i64 g.s0, .int .i64 g.s1, .int .i64 g.l0, .int .i64 g.l1, .int .i64 f, .int .i64 g.win]
def matchF (m : MtL) (ws : List Int) : Mt × Int × Int × Int :=
 if vmt m = true then (let r := mtL m ⟨0, 0, 0, 0, -1⟩ 0 ws; (r.1, (if r.2.2 = 0 then r.1.next m else 0), r.2.1, r.2.2)) else (⟨0, 0, 0, 0, 0⟩, 0, 0, 2)
def matchR (r : Mt × Int × Int × Int) : Value := .tuple #[mtV r.1 r.2.1, .int .i64 r.2.2.1, .int .i64 r.2.2.2]
def ScAt (w : World) (R : Nat) : Prop := w.heap[R]? = some (.cells #[.int .i64 0, .int .i64 0, .int .i64 0, .int .i64 0, .int .i64 0, .int .i64 0] 71 (0, 0))
theorem sc_below {w w' : World} {R : Nat} (h : ScAt w R) (hB : Below w.heap.size w w') : ScAt w' R := (hB.block R (Array.getElem?_eq_some_iff.1 h).1).trans h
theorem mt_below {w w' : World} {V : Nat} {g : Mt} {f : Int} {m : MtL} (h : MtAt w V g f m) (hB : Below w.heap.size w w') : MtAt w' V g f m := (hB.block V (Array.getElem?_eq_some_iff.1 h).1).trans h
theorem mt_size {w : World} {V : Nat} {g : Mt} {f : Int} {m : MtL} (h : MtAt w V g f m) : V < w.heap.size := (Array.getElem?_eq_some_iff.1 h).1
theorem mtake_any (V : Nat) (g : Mt) (f : Int) (m : MtL) (i : Nat) (x : Int) (w : World) (hV : MtAt w V g f m) (hg : g.Ok i) (hi : (i : Int) < 1000000000000000000) (hm : vmt m = true) (hx : inb 0 1 x = true) :
  Calls Try.prog 60 #[.pointer (some ⟨V, 0, none⟩), .int .i64 x] w (MTakeOk V (g.step m x) f m w) := by
 obtain ⟨a0, a1, b0, b1, c0, c1, d0, d1⟩ := hg
 unfold vmt inb at hm
 simp at hm
 obtain ⟨legs, sets, clear, extra, first⟩ := m
 obtain ⟨s0, s1, l0, l1, win⟩ := g
 unfold MtAt at hV
 simp only [] at *
 have hx' : x = 0 ∨ x = 1 := by unfold inb at hx; simp at hx; omega
 rcases hx' with rfl | rfl
 ·exact mtake0 V s0 s1 l0 l1 f win legs sets clear extra first w hV c0 (by omega) d0 (by omega) a0 (by omega) b0 (by omega) (by omega) (by omega) (by omega) (by omega) (by omega) (by omega)
 ·exact mtake1 V s0 s1 l0 l1 f win legs sets clear extra first w hV c0 (by omega) d0 (by omega) a0 (by omega) b0 (by omega) (by omega) (by omega) (by omega) (by omega) (by omega) (by omega)
def MtInv (m : MtL) (ws : List Int) (res : Mt × Int × Int) (w : World) (V R k : Nat) (wr : World) : Prop :=
 ∃ g : Mt, MtAt wr V g 0 m ∧ g.Ok k ∧ mtL m g k (ws.drop k) = res ∧ Below w.heap.size w wr ∧ ScAt wr R
set_option maxRecDepth 100000 in
set_option maxHeartbeats 8000000 in
theorem Match_any (m : MtL) (v : Value) (ws : List Int) (w : World) (hs : Sl w 1 eI v ws) (hn : ws.length ≤ 1000000) :
  Calls Try.prog 31 #[mtlV m, v] w (Ret (matchR (matchF m ws)) w) := by
 have x1 := fun W => validMatch_any m W
 have HR : Aside (matchF m ws = if vmt m = true then (let r := mtL m ⟨0, 0, 0, 0, -1⟩ 0 ws; (r.1, (if r.2.2 = 0 then r.1.next m else 0), r.2.1, r.2.2)) else (⟨0, 0, 0, 0, 0⟩, 0, 0, 2)) := rfl
 have y1 := fun x W k hk t => within_any 0 1 _ [x] _ (sl_one W k hk t x)
 simp only [List.all_cons, List.all_nil, Bool.and_true] at y1
 obtain ⟨a, cp, rfl, hl, hs⟩ := hs
 obtain ⟨n, hnn⟩ : ∃ n, ws.length = n := ⟨_, rfl⟩
 have HN : Aside (ws.length = n) := hnn
 have HS : Aside (ws ≠ [] → ∃ b off, a = some ⟨b, off, none⟩ ∧ b < w.heap.size ∧ ∀ j x, ws[j]? = some x → ∀ i y, (eI x)[i]? = some y → w.cell? ⟨b, off + j * 1 + i, none⟩ = some y) := hs
 rw [hnn] at hl hn ⊢
 clear hnn hs
 have HY : Aside _ := y1
 clear y1
 obtain ⟨res, hres⟩ : ∃ res, matchF m ws = res := ⟨_, rfl⟩
 rw [hres] at HR ⊢
 clear hres
 have hmv : mtlV m = .agg #[.int .i64 m.legs, .int .i64 m.sets, .int .i64 m.clear, .int .i64 m.extra, .int .i64 m.first] := rfl
 rw [hmv] at *
 clear hmv
 cases hv : vmt m with
 | false =>
  rw [hv] at x1
  have HR2 : Aside (res = (⟨0, 0, 0, 0, 0⟩, 0, 0, 2)) := by
   show _ = _
   rw [HR.out, if_neg (by rw [hv]; simp)]
  clear HR hv
  go_enter Try.func31, Try.ntmps31
  go_wp2_with fail
  refine (x1 _).mono ?_
  rintro e w1 ⟨rfl, hb1⟩
  have z1 : ScAt w1 (w.heap.size + 1) := (hb1.block _ (by simp)).trans (World.alloc_heap_new' _ _ _ (by simp))
  have BF : Aside (Below w.heap.size w w1) := by (repeat' (first | exact Below.refl _ _ | assumption | (with_reducible refine Below.drew ?_) | (with_reducible refine Below.setCell ?_ (by (first | (simp; done) | (simp; omega))) _) | (with_reducible refine below_drewN' ?_ _) | (refine Below.alloc ?_ (by (try simp only [World.size_alloc, World.size_drew, World.size_setCell]); omega) _) | (refine Below.trans ?_ (Below.mono (by assumption) (by (try simp only [World.size_alloc, World.size_drew, World.size_setCell]); omega)))))
  have r0 := blk_cell z1 (i := 0) rfl
  have r1 := blk_cell z1 (i := 1) rfl
  have r2 := blk_cell z1 (i := 2) rfl
  have r3 := blk_cell z1 (i := 3) rfl
  have r4 := blk_cell z1 (i := 4) rfl
  have r5 := blk_cell z1 (i := 5) rfl
  have rf := blk_free z1
  clear hb1 z1
  go_wp2
  refine bodyPost_ret (v := .tuple #[.agg #[.int .i64 0, .int .i64 0, .int .i64 0, .int .i64 0, .int .i64 0, .int .i64 0], .int .i64 0, .int .i64 2]) (by simp [results, Try.results31, go_sem, r0, r1, r2, r3, r4, r5]) rfl ⟨by rw [HR2.out]; rfl, ?_⟩
  exact below_set6 BF.out (by omega) _ _ _ _ _ _
 | true =>
  rw [hv] at x1
  obtain ⟨r, hr⟩ : ∃ r, mtL m ⟨0, 0, 0, 0, -1⟩ 0 ws = r := ⟨_, rfl⟩
  have HR1 : Aside (mtL m ⟨0, 0, 0, 0, -1⟩ 0 ws = r) := hr
  have HR2 : Aside (res = (r.1, (if r.2.2 = 0 then r.1.next m else 0), r.2.1, r.2.2)) := by
   show _ = _
   rw [HR.out, if_pos hv, hr]
  have HV : Aside (vmt m = true) := hv
  clear HR hv hr
  go_enter Try.func31, Try.ntmps31
  go_wp2_with fail
  refine (x1 _).mono ?_
  rintro e w1 ⟨rfl, hb1⟩
  have Z1 : Aside (ScAt w1 (w.heap.size + 1)) := (hb1.block _ (by simp)).trans (World.alloc_heap_new' _ _ _ (by simp))
  have BF1 : Aside (Below w.heap.size w w1) := by (repeat' (first | exact Below.refl _ _ | assumption | (with_reducible refine Below.drew ?_) | (with_reducible refine Below.setCell ?_ (by (first | (simp; done) | (simp; omega))) _) | (with_reducible refine below_drewN' ?_ _) | (refine Below.alloc ?_ (by (try simp only [World.size_alloc, World.size_drew, World.size_setCell]); omega) _) | (refine Below.trans ?_ (Below.mono (by assumption) (by (try simp only [World.size_alloc, World.size_drew, World.size_setCell]); omega)))))
  have m0 : w1.cell? ⟨w.heap.size, 0, none⟩ = some (.int .i64 m.legs) := keepc hb1 (by go_simp)
  have m1 : w1.cell? ⟨w.heap.size, 1, none⟩ = some (.int .i64 m.sets) := keepc hb1 (by go_simp)
  have m2 : w1.cell? ⟨w.heap.size, 2, none⟩ = some (.int .i64 m.clear) := keepc hb1 (by go_simp)
  have m3 : w1.cell? ⟨w.heap.size, 3, none⟩ = some (.int .i64 m.extra) := keepc hb1 (by go_simp)
  have m4 : w1.cell? ⟨w.heap.size, 4, none⟩ = some (.int .i64 m.first) := keepc hb1 (by go_simp)
  clear hb1 x1
  go_wp2_with fail
  obtain ⟨wa, hwa⟩ : ∃ u, u = w1.alloc (.cells #[.int .i64 0, .int .i64 0, .int .i64 0, .int .i64 0, .int .i64 0, .int .i64 (-1), .int .i64 m.legs, .int .i64 m.sets, .int .i64 m.clear, .int .i64 m.extra, .int .i64 m.first] 125) := ⟨_, rfl⟩
  have HI : Aside (MtInv m ws r w w1.heap.size (w.heap.size + 1) 0 wa) := by
   have hb : Below w1.heap.size w1 wa := by rw [hwa]; exact (Below.refl _ _).alloc (Nat.le_refl _) _
   refine ⟨⟨0, 0, 0, 0, -1⟩, ?_, ⟨by simp, by simp, by simp, by simp, by simp, by simp, by simp, by simp⟩, HR1.out, BF1.out.trans (hb.mono BF1.out.size), sc_below Z1.out hb⟩
   rw [hwa]; exact World.alloc_heap_new _ _
  have zV : w.heap.size + 1 < w1.heap.size := (Array.getElem?_eq_some_iff.1 Z1.out).1
  rw [← hwa]
  clear hwa m0 m1 m2 m3 m4 Z1 HR1
  go_loopg [19] n (fun gg i wr => ∃ k : Nat, k ≤ n ∧ n - k ≤ gg ∧ i = .int .i64 k ∧ Aside (MtInv m ws r w w1.heap.size (w.heap.size + 1) k wr))
  case atStart => exact ⟨0, Nat.zero_le _, by omega, rfl, HI.out⟩
  case round =>
   clear HI
   obtain ⟨k, hk, hg, rfl, HI⟩ := hrel
   obtain ⟨g, hv, hok, hr, hB, hz⟩ := HI.out
   have hzlt : w.heap.size + 1 < wr.heap.size := (Array.getElem?_eq_some_iff.1 hz).1
   have hvlt := mt_size hv
   have k5 : wr.cell? ⟨w1.heap.size, 5, none⟩ = some (.int .i64 g.win) := blk_cell hv rfl
   have HVV : Aside (MtAt wr w1.heap.size g 0 m) := hv
   have HZ : Aside (ScAt wr (w.heap.size + 1)) := hz
   have HOK : Aside (g.Ok k) := hok
   have HBW : Aside (Below w.heap.size w wr) := hB
   have HR : Aside (mtL m g k (ws.drop k) = r) := hr
   clear hv hz hok hB hr HI
   by_cases hlt : k < n
   ·have hltz : (k : Int) < (n : Int) := by omega
    obtain ⟨x, hx⟩ : ∃ x, ws[k]? = some x := ⟨_, List.getElem?_eq_getElem (by rw [HN.out]; exact hlt)⟩
    obtain ⟨B, off, rfl, hBlt, hcl⟩ := HS.out (by intro e; rw [e] at hx; simp at hx)
    have kx : wr.cell? ⟨B, off + k, none⟩ = some (.int .i64 x) := keepc HBW.out (by have := hcl k x hx 0 (.int .i64 x) rfl; simpa using this)
    have HRx : Aside (mtL m g k (x :: ws.drop (k + 1)) = r) := by
     obtain ⟨h1, h2⟩ := List.getElem?_eq_some_iff.1 hx
     show _ = _
     have := HR.out
     rw [List.drop_eq_getElem_cons h1, h2] at this
     exact this
    clear hcl hx HR
    by_cases hw : g.win = -1
    ·have hwq : (g.win != -1) = false := by simpa using hw
     have y1 := HY.out x
     cases hvx : inb 0 1 x with
     | false =>
      rw [hvx] at y1
      have HR3 : Aside (r = (⟨0, 0, 0, 0, 0⟩, (k : Int), 2)) := by
       show _ = _
       rw [← HRx.out, mtL, if_pos hw, if_neg (by rw [hvx]; simp)]
      clear hvx HRx hw
      go_wp2_with fail
      refine (y1 _ _ (by simp) _).mono ?_
      rintro e w2 ⟨rfl, hb2⟩
      have ha : Below wr.heap.size wr w2 := ((Below.refl _ wr).alloc (Nat.le_refl _) _).trans (hb2.mono (by simp))
      have z1 := sc_below HZ.out ha
      have BF : Aside (Below w.heap.size w w2) := HBW.out.trans (ha.mono HBW.out.size)
      have r0 := blk_cell z1 (i := 0) rfl
      have r1 := blk_cell z1 (i := 1) rfl
      have r2 := blk_cell z1 (i := 2) rfl
      have r3 := blk_cell z1 (i := 3) rfl
      have r4 := blk_cell z1 (i := 4) rfl
      have r5 := blk_cell z1 (i := 5) rfl
      have rf := blk_free z1
      clear ha hb2 z1 k5 kx
      go_wp2
      refine bodyPost_ret (v := .tuple #[.agg #[.int .i64 0, .int .i64 0, .int .i64 0, .int .i64 0, .int .i64 0, .int .i64 0], .int .i64 k, .int .i64 2]) (by simp [results, Try.results31, go_sem, r0, r1, r2, r3, r4, r5]) rfl ⟨by rw [HR2.out, HR3.out]; rfl, ?_⟩
      exact below_set6 BF.out (by omega) _ _ _ _ _ _
     | true =>
      rw [hvx] at y1
      have HR3 : Aside (mtL m (g.step m x) (k + 1) (ws.drop (k + 1)) = r) := by
       show _ = _
       rw [← HRx.out, mtL, if_pos hw, if_pos hvx]
      have HOK2 : Aside ((g.step m x).Ok (k + 1)) := HOK.out.step m x
      have x3 := fun W (h : MtAt W w1.heap.size g 0 m) => mtake_any w1.heap.size g 0 m k x W h HOK.out (by omega) HV.out hvx
      clear hvx HRx hw
      go_wp2_with fail
      refine (y1 _ _ (by simp) _).mono ?_
      rintro e w2 ⟨rfl, hb2⟩
      have ha : Below wr.heap.size wr w2 := ((Below.refl _ wr).alloc (Nat.le_refl _) _).trans (hb2.mono (by simp))
      have HV2 : Aside (MtAt w2 w1.heap.size g 0 m) := mt_below HVV.out ha
      have HZ2 : Aside (ScAt w2 (w.heap.size + 1)) := sc_below HZ.out ha
      have BF2 : Aside (Below w.heap.size w w2) := HBW.out.trans (ha.mono HBW.out.size)
      clear ha hb2 HVV HZ k5 kx y1
      go_wp2_with fail
      refine (x3 _ HV2.out).mono ?_
      rintro e w3 ⟨⟨v3, rfl⟩, hv3, ho3⟩
      have HI3 : Aside (MtInv m ws r w w1.heap.size (w.heap.size + 1) (k + 1) w3) := by
       have hz := mt_size HV2.out
       have := BF1.out.size
       exact ⟨g.step m x, hv3, HOK2.out, HR3.out, BF2.out.trans ((ho3.below (by omega)).mono (by omega)), ho3.cells (by omega) HZ2.out⟩
      clear hv3 ho3 HV2 HZ2 x3
      go_wp2_with fail
      go_roundg (n - (k + 1))
      case measure => omega
      case rel => exact ⟨k + 1, by omega, by omega, by go_num, HI3.out⟩
    ·-- @@a
     have hwq : (g.win != -1) = true := by simpa using hw
     have HR3 : Aside (r = (⟨0, 0, 0, 0, 0⟩, (k : Int), 33)) := by
      show _ = _
      rw [← HRx.out, mtL, if_neg hw]
     have z1 := HZ.out
     have r0 := blk_cell z1 (i := 0) rfl
     have r1 := blk_cell z1 (i := 1) rfl
     have r2 := blk_cell z1 (i := 2) rfl
     have r3 := blk_cell z1 (i := 3) rfl
     have r4 := blk_cell z1 (i := 4) rfl
     have r5 := blk_cell z1 (i := 5) rfl
     have rf := blk_free z1
     clear HRx hw z1
     go_wp2
     refine bodyPost_ret (v := .tuple #[.agg #[.int .i64 0, .int .i64 0, .int .i64 0, .int .i64 0, .int .i64 0, .int .i64 0], .int .i64 k, .int .i64 33]) (by simp [results, Try.results31, go_sem, r0, r1, r2, r3, r4, r5]) rfl ⟨by rw [HR2.out, HR3.out]; rfl, ?_⟩
     exact below_set6 HBW.out (by omega) _ _ _ _ _ _
   ·-- @@d
    have hltz : ¬ (k : Int) < (n : Int) := by omega
    have : k = n := by omega
    subst this
    have HR3 : Aside (r = (g, 0, 0)) := by
     have := HR.out
     rw [List.drop_of_length_le (by rw [HN.out]; exact Nat.le_refl _)] at this
     exact this.symm
    have hok := HOK.out
    have hvm := HV.out
    have x4 := fun W (h : MtAt W w1.heap.size g 0 m) => mnext w1.heap.size g.s0 g.s1 g.l0 g.l1 0 g.win m.legs m.sets m.clear m.extra m.first W h hok.c0 (by have := hok.c1; omega) hok.d0 (by have := hok.d1; omega) hok.a0 (by have := hok.a1; omega) hok.b0 (by have := hok.b1; omega) (by unfold vmt inb at hvm; simp at hvm; omega) (by unfold vmt inb at hvm; simp at hvm; omega)
    have HR4 : Aside (res = (g, Mt.next m g, 0, 0)) := by
     show _ = _
     rw [HR2.out, HR3.out]; rfl
    have e4 : Mt.next ⟨m.legs, m.sets, m.clear, m.extra, m.first⟩ ⟨g.s0, g.s1, g.l0, g.l1, g.win⟩ = Mt.next m g := rfl
    rw [e4] at x4
    generalize Mt.next m g = nx at *
    clear HR hok hvm HR2 HR3 k5 e4
    go_wp2_with fail
    refine (x4 _ HVV.out).mono ?_
    rintro e w2 ⟨rfl, hb2⟩
    have z1 := sc_below HZ.out hb2
    have v1 := mt_below HVV.out hb2
    have BF : Aside (Below w.heap.size w w2) := HBW.out.trans (hb2.mono HBW.out.size)
    have r0 := blk_cell z1 (i := 0) rfl
    have r1 := blk_cell z1 (i := 1) rfl
    have r2 := blk_cell z1 (i := 2) rfl
    have r3 := blk_cell z1 (i := 3) rfl
    have r4 := blk_cell z1 (i := 4) rfl
    have r5 := blk_cell z1 (i := 5) rfl
    have rf := blk_free z1
    have k0 : w2.cell? ⟨w1.heap.size, 0, none⟩ = some (.int .i64 g.s0) := blk_cell v1 rfl
    have k1 : w2.cell? ⟨w1.heap.size, 1, none⟩ = some (.int .i64 g.s1) := blk_cell v1 rfl
    have k2 : w2.cell? ⟨w1.heap.size, 2, none⟩ = some (.int .i64 g.l0) := blk_cell v1 rfl
    have k3 : w2.cell? ⟨w1.heap.size, 3, none⟩ = some (.int .i64 g.l1) := blk_cell v1 rfl
    have k4 : w2.cell? ⟨w1.heap.size, 4, none⟩ = some (.int .i64 0) := blk_cell v1 rfl
    have k5 : w2.cell? ⟨w1.heap.size, 5, none⟩ = some (.int .i64 g.win) := blk_cell v1 rfl
    have kf := blk_free v1
    have hne : ¬ w1.heap.size = w.heap.size + 1 := by omega
    clear hb2 z1 v1 x4 HVV HZ HOK
    go_wp2
    refine bodyPost_ret (v := .tuple #[.agg #[.int .i64 g.s0, .int .i64 g.s1, .int .i64 g.l0, .int .i64 g.l1, .int .i64 nx, .int .i64 g.win], .int .i64 0, .int .i64 0]) (by simp [results, Try.results31, go_sem, r0, r1, r2, r3, r4, r5]) rfl ⟨by rw [HR4.out]; rfl, ?_⟩
    exact below_set6 (BF.out.setCell (p := ⟨w1.heap.size, 4, none⟩) (show w.heap.size ≤ w1.heap.size by omega) _) (by omega) _ _ _ _ _ _
end
section
open Go.RowKit Go.Maps Go.Sort Go.Shelf
structure LegR where
 counts : List Cnt
 first : Int
 rounds : Int
 equal : Bool
structure LegG where
 left : List Int
 darts : List Int
 inn : List Bool
 next : Int
 round : Int
 over : Bool
 wins : List Int
 ended : List (Int × Int)
def beginG (r : LegR) : LegG := ⟨r.counts.map (·.1), r.counts.map (fun _ => 0), r.counts.map (fun c => c.2.1 == 0), r.first, 0, false, [], []⟩
def Row (w : World) (g : Nat) (T : TypeId) (vs : List Value) : Prop := ∃ cur, w.heap[g]? = some (.cells cur T (0, 0)) ∧ vs.length ≤ cur.size ∧ cur.toList.take vs.length = vs
theorem Row.lt {w : World} {g : Nat} {T : TypeId} {vs : List Value} (h : Row w g T vs) : g < w.heap.size := by obtain ⟨cur, h, _⟩ := h; exact (Array.getElem?_eq_some_iff.1 h).1
theorem Row.cell {w : World} {g : Nat} {T : TypeId} {vs : List Value} (h : Row w g T vs) {i : Nat} {x : Value} (hx : vs[i]? = some x) : w.cell? ⟨g, i, none⟩ = some x := by
 obtain ⟨cur, h, h1, h2⟩ := h
 refine blk_cell h ?_
 rw [← h2] at hx
 rw [List.getElem?_take] at hx
 split at hx
 ·simpa using hx
 ·cases hx
theorem Row.free {w : World} {g : Nat} {T : TypeId} {vs : List Value} (h : Row w g T vs) (i : Nat) : w.frozen? ⟨g, i, none⟩ = false := by
 obtain ⟨cur, h, _⟩ := h
 exact blk_free h i
theorem Row.set {w : World} {g : Nat} {T : TypeId} {vs : List Value} (h : Row w g T vs) (i : Nat) (x : Value) (hi : i < vs.length) : Row (w.setCell ⟨g, i, none⟩ x) g T (vs.set i x) := by
 obtain ⟨cur, h, h1, h2⟩ := h
 refine ⟨cur.setIfInBounds i x, Go.Joins.block_setCell h x, by simpa using h1, ?_⟩
 rw [List.length_set, Array.toList_setIfInBounds, List.take_set, h2]
theorem Row.same {w w' : World} {g : Nat} {T : TypeId} {vs : List Value} (h : Row w g T vs) (hb : w'.heap[g]? = w.heap[g]?) : Row w' g T vs := by
 obtain ⟨cur, h, h1⟩ := h
 exact ⟨cur, hb.trans h, h1⟩
theorem Row.sl {α : Type} {w : World} {g : Nat} {T : TypeId} {enc : α → Value} {xs : List α} (h : Row w g T (xs.map enc)) (hl : xs.length ≤ 9223372036854775807) (c : Nat) : Sl w 1 (fun x => [enc x]) (.slice (some ⟨g, 0, none⟩) xs.length c) xs :=
 ⟨_, c, rfl, hl, fun _ => ⟨g, 0, rfl, h.lt, fun j x hx i y hy => by
  match i, hy with
  | 0, hy =>
   simp at hy; subst hy
   rw [Nat.mul_one, Nat.zero_add, Nat.add_zero]
   exact h.cell (by rw [List.getElem?_map, hx]; rfl)
  | i + 1, hy => simp at hy⟩⟩
structure Outs (S : List Nat) (w w' : World) : Prop where
 os : w'.os = w.os
 tape : w'.tape = w.tape
 output : w'.output = w.output
 size : w.heap.size ≤ w'.heap.size
 block : ∀ k, k ∉ S → k < w.heap.size → w'.heap[k]? = w.heap[k]?
theorem Outs.refl (S : List Nat) (w : World) : Outs S w w := ⟨rfl, rfl, rfl, Nat.le_refl _, fun _ _ _ => rfl⟩
theorem Outs.trans {S : List Nat} {a b c : World} (h : Outs S a b) (k : Outs S b c) : Outs S a c :=
 ⟨k.os.trans h.os, k.tape.trans h.tape, k.output.trans h.output, Nat.le_trans h.size k.size, fun i h1 h2 => (k.block i h1 (Nat.lt_of_lt_of_le h2 h.size)).trans (h.block i h1 h2)⟩
theorem Outs.of_below {S : List Nat} {w w' : World} (h : Below w.heap.size w w') : Outs S w w' := ⟨h.os, h.tape, h.output, h.size, fun k _ hk => h.block k hk⟩
theorem Outs.set {S : List Nat} {V : Nat} (hV : V ∈ S) (i : Nat) (w : World) (x : Value) : Outs S w (w.setCell ⟨V, i, none⟩ x) := ⟨rfl, rfl, rfl, by simp [World.setCell], fun k hk _ => Below.heap_setCell _ _ _ _ (fun e => hk (by rw [e]; exact hV))⟩
theorem Outs.grown {S : List Nat} {w w' : World} {V : Nat} (h : w.grownBy w' (some V)) (hV : V ∈ S) : Outs S w w' := ⟨h.os, h.tape, h.output, h.size, fun k hk hl => h.block k hl (fun e => hk (by cases e; exact hV))⟩
theorem Outs.mono {S T : List Nat} {w w' : World} (h : Outs S w w') (hs : ∀ k ∈ S, k ∈ T) : Outs T w w' := ⟨h.os, h.tape, h.output, h.size, fun k hk hl => h.block k (fun hm => hk (hs k hm)) hl⟩
theorem Outs.below {S : List Nat} {w w' : World} {B : Nat} (h : Outs S w w') (hS : ∀ k ∈ S, B ≤ k) (hB : B ≤ w.heap.size) : Below B w w' := ⟨h.os, h.tape, h.output, h.size, fun k hk => h.block k (fun hm => by have := hS k hm; omega) (by omega)⟩
theorem Only.outs {S : List Nat} {V : Nat} {w w' : World} (h : Only V w w') (hV : V ∈ S) : Outs S w w' := ⟨h.os, h.tape, h.output, h.size, fun k hk hl => h.block k (fun e => hk (by rw [e]; exact hV)) hl⟩
theorem Outs.sl {α : Type} {S : List Nat} {w w' : World} {k : Nat} {enc : α → List Value} {v : Value} {xs : List α} (h : Outs S w w') (hs : Sl w k enc v xs) (hS : ∀ g o n c, v = .slice (some ⟨g, o, none⟩) n c → g ∉ S) : Sl w' k enc v xs := by
 obtain ⟨a, c, rfl, hl, hs⟩ := hs
 refine ⟨a, c, rfl, hl, fun hne => ?_⟩
 obtain ⟨b, off, rfl, hb, hc⟩ := hs hne
 exact ⟨b, off, rfl, Nat.lt_of_lt_of_le hb h.size, fun j x hx i y hy => by
  have := hc j x hx i y hy
  exact (World.cell?_of_block (w := w) (a := ⟨b, off + j * k + i, none⟩) (h.block b (hS b off _ _ rfl) hb)).trans this⟩
abbrev rowV (g n c : Nat) : Value := .slice (some ⟨g, 0, none⟩) n c
structure LegW (w : World) (V gl gd gi M cl cd ci nn : Nat) (vc vw : Value) (D : DataW Unit) (r : LegR) (g : LegG) : Prop where
 blk : w.heap[V]? = some (.cells #[vc, .int .i64 r.first, .int .i64 r.rounds, .bool r.equal, rowV gl r.counts.length cl, rowV gd r.counts.length cd, rowV gi r.counts.length ci, .int .i64 g.next, .int .i64 g.round, .bool g.over, vw, .map (some M)] 118 (0, 0))
 left : Row w gl 3 (g.left.map (Value.int .i64))
 darts : Row w gd 3 (g.darts.map (Value.int .i64))
 inn : Row w gi 4 (g.inn.map Value.bool)
 own : OwnM w M nn D
 rep : Rep D g.ended
 counts : Sl w 3 encC vc r.counts
 wins : Sl w 1 eI vw g.wins
 l1 : g.left.length = r.counts.length
 l2 : g.darts.length = r.counts.length
 l3 : g.inn.length = r.counts.length
 d1 : V ∉ [gl, gd, gi, M]
 d2 : gl ∉ [gd, gi, M]
 d3 : gd ∉ [gi, M]
 d4 : gi ≠ M
 cout : ∀ b o n c, vc = .slice (some ⟨b, o, none⟩) n c → b ∉ [V, gl, gd, gi, M]
 wout : ∀ b o n c, vw = .slice (some ⟨b, o, none⟩) n c → b ∉ [V, gl, gd, gi, M]
end
section
open Go.RowKit Go.Maps Go.Sort Go.Shelf Go.Deep
theorem ownsRow_below {w w' : World} {b : Nat} {e : TypeId} {size : Nat} {v : Value} {n : Nat} {xs : List Value} (h : w.ownsRow b e size v n xs) (hB : Below w.heap.size w w') : w'.ownsRow b e size v n xs := by
 obtain ⟨h1, h2⟩ := h
 refine ⟨h1, ?_⟩
 rcases h2 with h2 | ⟨g, cap, cur, h3, h4, h5, h6⟩
 ·exact .inl h2
 ·exact .inr ⟨g, cap, cur, h3, h4, (hB.block g (Array.getElem?_eq_some_iff.1 h5).1).trans h5, h6⟩
theorem step_append_own {P : Program} {ops : Array Oper} {o : Oper} {a : Act} {w : World} {K : Act → World → Prop} {Q : Exit → Act → World → Prop} {E : Prop}
  (hg : o.guard = none) (s x : Operand) (t : TypeId) (ho : o.op = .call { callee := .builtin .append, args := #[s, x], argTypes := #[t, t] })
  (base : Nat) (e : TypeId) (i : TypeInfo) (z : Value) (size bytes : Nat) (ht : P.underlying t = some (.slice e)) (hi : P.info? e = some i) (hz : i.zero = some z)
  (hsize : i.size = size) (hby : i.bytes = bytes) (hzs : z.cells.size = size) (hsz : 0 < size)
  (v : Value) (n : Nat) (xs : List Value) (hs : a.eval s = v) (hown : w.ownsRow base e size v n xs)
  (ad : Addr) (m c : Nat) (news : List Value) (hx : a.eval x = .slice (some ad) m c) (hl : news.length = m * size) (hnews : ∀ j u, news[j]? = some u → w.cell? (ad.add j) = some u) (h1 : ∀ u ∈ news, u.oneCell' = true)
  (h63 : n + m ≤ maxLen) (hbytes : (n + m) * bytes ≤ 140737488355328) (hbase : base ≤ w.heap.size)
  (h : ∀ v' w', w'.ownsRow base e size v' (n + m) (xs ++ news) → w.grownBy w' v.ownBlock → (v' = .slice none 0 0 ↔ v = .slice none 0 0 ∧ m = 0) → K (a.put o.dst v') w') :
  if Region.wanted o (yielded ops a.tmps) = true then Oper.wp P o a w K Q else E := by
 rw [if_pos (by simp [Region.wanted, hg])]
 exact wp_append_own w s x t ho base e i z size bytes ht hi hz hsize hby hzs hsz v n xs hs hown ad m c news hx hl hnews h1 h63 hbytes hbase h
theorem info_bool : (Try.prog.info? 4).map (fun i => (i.zero, i.size, i.bytes)) = some (some (.bool false), 1, 1) := by kernel_rfl
def BeginOk (r : LegR) (w : World) (e : Ending) (w' : World) : Prop :=
 ∃ V gl gd gi M cl cd ci nn vc vw D, e = .returned (.pointer (some ⟨V, 0, none⟩)) ∧ LegW w' V gl gd gi M cl cd ci nn vc vw D r (beginG r) ∧ (∀ k ∈ [V, gl, gd, gi, M], w.heap.size ≤ k) ∧ nn = 0 ∧ Below w.heap.size w w'
def legRV (r : LegR) (vc : Value) : Value := .agg #[vc, .int .i64 r.first, .int .i64 r.rounds, .bool r.equal]
theorem owns_form {w : World} {b : Nat} {e : TypeId} {v : Value} {n : Nat} {xs : List Value} (h : w.ownsRow b e 1 v n xs) (hn : 0 < n) : ∃ g c, v = .slice (some ⟨g, 0, none⟩) n c := by
 rcases h.2 with ⟨_, h0⟩ | ⟨g, cap, cur, e, _⟩
 ·omega
 ·exact ⟨g, cap, e⟩
theorem keep_block {U w' : World} {v : Value} {Z n j : Nat} {e : TypeId} {xs : List Value} {o : Obj} (hrow : U.ownsRow Z e 1 v n xs) (hg : U.grownBy w' v.ownBlock) (hj : U.heap[j]? = some o) (hno : ∀ cur, o ≠ .cells cur e (0, 0)) : w'.heap[j]? = some o := by
 refine (hg.block j (Array.getElem?_eq_some_iff.1 hj).1 (fun h => ?_)).trans hj
 rcases ownsRow_ne_a hrow hj hno with h1 | h1
 ·rw [h1] at h; cases h
 ·exact h1 h.symm
theorem row_of_owns {w : World} {b g n c : Nat} {e : TypeId} {xs : List Value} (h : w.ownsRow b e 1 (.slice (some ⟨g, 0, none⟩) n c) n xs) : Row w g e xs ∧ b ≤ g := by
 have hx := h.1
 rcases h.2 with ⟨h0, _⟩ | ⟨g', cap, cur, e1, hb, hg, h1, _, h3, h4⟩
 ·cases h0
 ·simp only [Value.slice.injEq, Option.some.injEq, Addr.mk.injEq, and_true, true_and] at e1
  obtain ⟨rfl, rfl⟩ := e1
  refine ⟨⟨cur, hg, by omega, ?_⟩, hb⟩
  rw [hx]; exact h4
structure BegInv (r : LegR) (n : Nat) (w : World) (vc : Value) (V gd M Z kl ki : Nat) (vl vi : Value) (wr : World) : Prop where
 blk : wr.heap[V]? = some (.cells #[vc, .int .i64 r.first, .int .i64 r.rounds, .bool r.equal, vl, rowV gd n n, vi, .int .i64 r.first, .int .i64 0, .bool false, .slice none 0 0, .map (some M)] 118 (0, 0))
 left : wr.ownsRow Z 3 1 vl kl ((r.counts.take kl).map fun c => Value.int .i64 c.1)
 inn : wr.ownsRow Z 4 1 vi ki ((r.counts.take ki).map fun c => Value.bool (c.2.1 == 0))
 darts : Row wr gd 3 (List.replicate n (.int .i64 0))
 own : OwnM wr M 0 (.map [])
 bel : Below w.heap.size w wr
 siz : Z ≤ wr.heap.size
theorem BegInv.below {r : LegR} {n : Nat} {w : World} {vc : Value} {V gd M Z kl ki : Nat} {vl vi : Value} {wr w' : World} (h : BegInv r n w vc V gd M Z kl ki vl vi wr) (hB : Below wr.heap.size wr w') : BegInv r n w vc V gd M Z kl ki vl vi w' :=
 ⟨(hB.block V (Array.getElem?_eq_some_iff.1 h.blk).1).trans h.blk, ownsRow_below h.left hB, ownsRow_below h.inn hB, h.darts.same (hB.block gd h.darts.lt), ownsMap_below h.own hB, h.bel.trans (hB.mono h.bel.size), Nat.le_trans h.siz hB.size⟩
theorem ownsMap_sameT {w w' : World} {M n : Nat} {D : DataW Unit} (h : OwnM w M n D) (hb : w'.heap[M]? = w.heap[M]?) : OwnM w' M n D := by
 obtain ⟨es, clock, hbb, rest⟩ := h
 exact ⟨es, clock, hb.trans hbb, rest⟩
theorem BegInv.left_step {r : LegR} {n : Nat} {w : World} {vc : Value} {V gd M Z kl ki : Nat} {vl vi v' : Value} {U w' : World} (h : BegInv r n w vc V gd M Z kl ki vl vi U) (hg : U.grownBy w' vl.ownBlock) (hown : w'.ownsRow Z 3 1 v' (kl + 1) ((r.counts.take (kl + 1)).map fun c => Value.int .i64 c.1)) (hV : V < Z) (hgd : gd < Z) (hM : M < Z) (hwZ : w.heap.size ≤ V) (hd : V ≠ gd) (hm : V ≠ M) :
  BegInv r n w vc V gd M Z (kl + 1) ki v' vi (w'.setCell ⟨V, 4, none⟩ v') := by
 have hne : ∀ j, j < Z → some j ≠ vl.ownBlock := fun j hj e => by have := h.left.lt j e.symm; omega
 have hb : ∀ j, j < Z → w'.heap[j]? = U.heap[j]? := fun j hj => hg.block j (Nat.lt_of_lt_of_le hj h.siz) (hne j hj)
 have hs : ∀ j, j ≠ V → (w'.setCell ⟨V, 4, none⟩ v').heap[j]? = w'.heap[j]? := fun j hj => Below.heap_setCell _ _ _ _ hj
 refine ⟨Go.Joins.block_setCell ((hb V hV).trans h.blk) _, ownsRow_setCell_below hown (a := ⟨V, 4, none⟩) hV _, ownsRow_setCell_below (h.inn.kept hg ?_) (a := ⟨V, 4, none⟩) hV _, h.darts.same ((hs gd (Ne.symm hd)).trans (hb gd hgd)), ownsMap_sameT h.own ((hs M (Ne.symm hm)).trans (hb M hM)),
  (h.bel.grown hg h.bel.size (fun j e => by have := h.left.lt j e; omega)).setCell (p := ⟨V, 4, none⟩) hwZ _, ?_⟩
 ·rcases h.left.2 with ⟨rfl, _⟩ | ⟨g1, c1, cur1, rfl, _, hg1, _⟩
  ·rcases h.inn.2 with ⟨rfl, _⟩ | ⟨g2, c2, cur2, rfl, _⟩
   ·exact .inl rfl
   ·exact .inr (by simp [Value.ownBlock])
  ·exact ownsRow_ne_a h.inn hg1 (fun cur e => by cases e)
 ·have := hg.size; have := h.siz; simp only [World.size_setCell]; omega
theorem BegInv.inn_step {r : LegR} {n : Nat} {w : World} {vc : Value} {V gd M Z kl ki : Nat} {vl vi v' : Value} {U w' : World} (h : BegInv r n w vc V gd M Z kl ki vl vi U) (hg : U.grownBy w' vi.ownBlock) (hown : w'.ownsRow Z 4 1 v' (ki + 1) ((r.counts.take (ki + 1)).map fun c => Value.bool (c.2.1 == 0))) (hV : V < Z) (hgd : gd < Z) (hM : M < Z) (hwZ : w.heap.size ≤ V) (hd : V ≠ gd) (hm : V ≠ M) :
  BegInv r n w vc V gd M Z kl (ki + 1) vl v' (w'.setCell ⟨V, 6, none⟩ v') := by
 have hne : ∀ j, j < Z → some j ≠ vi.ownBlock := fun j hj e => by have := h.inn.lt j e.symm; omega
 have hb : ∀ j, j < Z → w'.heap[j]? = U.heap[j]? := fun j hj => hg.block j (Nat.lt_of_lt_of_le hj h.siz) (hne j hj)
 have hs : ∀ j, j ≠ V → (w'.setCell ⟨V, 6, none⟩ v').heap[j]? = w'.heap[j]? := fun j hj => Below.heap_setCell _ _ _ _ hj
 refine ⟨Go.Joins.block_setCell ((hb V hV).trans h.blk) _, ownsRow_setCell_below (h.left.kept hg ?_) (a := ⟨V, 6, none⟩) hV _, ownsRow_setCell_below hown (a := ⟨V, 6, none⟩) hV _, h.darts.same ((hs gd (Ne.symm hd)).trans (hb gd hgd)), ownsMap_sameT h.own ((hs M (Ne.symm hm)).trans (hb M hM)),
  (h.bel.grown hg h.bel.size (fun j e => by have := h.inn.lt j e; omega)).setCell (p := ⟨V, 6, none⟩) hwZ _, ?_⟩
 ·rcases h.inn.2 with ⟨rfl, _⟩ | ⟨g1, c1, cur1, rfl, _, hg1, _⟩
  ·rcases h.left.2 with ⟨rfl, _⟩ | ⟨g2, c2, cur2, rfl, _⟩
   ·exact .inl rfl
   ·exact .inr (by simp [Value.ownBlock])
  ·exact ownsRow_ne_a h.left hg1 (fun cur e => by cases e)
 ·have := hg.size; have := h.siz; simp only [World.size_setCell]; omega
theorem BegInv.pre {r : LegR} {n : Nat} {w : World} {vc : Value} {V gd M Z kl ki : Nat} {vl vi v : Value} {U w' : World} (h : BegInv r n w vc V gd M Z kl ki vl vi U) (hg : U.grownBy w' v.ownBlock) (hV : V < Z) (hv : v = vl ∨ v = vi) : w'.heap[V]? = U.heap[V]? := by
 refine hg.block V (Nat.lt_of_lt_of_le hV h.siz) (fun e => ?_)
 rcases hv with rfl | rfl
 ·have := h.left.lt V e.symm; omega
 ·have := h.inn.lt V e.symm; omega
set_option maxRecDepth 100000 in
set_option maxHeartbeats 8000000 in
theorem begin_any (r : LegR) (vc : Value) (w : World) (hc : Sl w 3 encC vc r.counts) (hne : r.counts ≠ []) (hl : r.counts.length ≤ 1000) :
  Calls Try.prog 52 #[legRV r vc] w (BeginOk r w) := by
 obtain ⟨i0, hi, hz0, hz1, hz2⟩ := info_parts info_int
 obtain ⟨j0, ji, jz0, jz1, jz2⟩ := info_parts info_bool
 have HC : Aside (Sl w 3 encC vc r.counts) := hc
 obtain ⟨a, cp, rfl, hl1, hs⟩ := hc
 obtain ⟨b, off, rfl, hblt, hcl⟩ := hs hne
 have HCL : Aside (∀ j x, r.counts[j]? = some x → ∀ i y, (encC x)[i]? = some y → w.cell? ⟨b, off + j * 3 + i, none⟩ = some y) := hcl
 obtain ⟨n, hn⟩ : ∃ n, r.counts.length = n := ⟨_, rfl⟩
 have HN : Aside (r.counts.length = n) := hn
 rw [hn] at hl hl1 ⊢
 clear hs hcl hn
 unfold legRV
 have hmm := @run_makeMap Try.prog
 have hmk := run_make_row' (P := Try.prog) 48 3 (.int .i64 0) 8 Try.underlying48 info_int rfl .i64 .i64 n (by omega) (by omega)
 go_enter Try.func52, Try.ntmps52
 go_wp2
 obtain ⟨wa, hwa⟩ : ∃ u, u = (((w.alloc (.cells #[.slice (some ⟨b, off, none⟩) n cp, .int .i64 r.first, .int .i64 r.rounds, .bool r.equal] 42)).alloc (.map #[] 0)).alloc (.cells #[.slice (some ⟨b, off, none⟩) n cp, .int .i64 r.first, .int .i64 r.rounds, .bool r.equal, .slice none 0 0, .slice (some ⟨w.heap.size + 1 + 1 + 1, 0, none⟩) n n, .slice none 0 0, .int .i64 r.first, .int .i64 0, .bool false, .slice none 0 0, .map (some (w.heap.size + 1))] 118)).alloc (.cells (madeCells #[.int .i64 0] n) 3) := ⟨_, rfl⟩
 have hsz : wa.heap.size = w.heap.size + 1 + 1 + 1 + 1 := by rw [hwa]; simp
 have HI : Aside (BegInv r n w (.slice (some ⟨b, off, none⟩) n cp) (w.heap.size + 1 + 1) (w.heap.size + 1 + 1 + 1) (w.heap.size + 1) (w.heap.size + 1 + 1 + 1 + 1) 0 0 (.slice none 0 0) (.slice none 0 0) wa) := by
  refine ⟨?_, ⟨by simp, .inl ⟨rfl, rfl⟩⟩, ⟨by simp, .inl ⟨rfl, rfl⟩⟩, ?_, ?_, ?_, by omega⟩
  ·rw [hwa]; exact (Below.heap_alloc _ _ _ (by simp)).trans (World.alloc_heap_new' _ _ _ (by simp))
  ·refine ⟨madeCells #[.int .i64 0] n, by rw [hwa]; exact World.alloc_heap_new' _ _ _ (by simp), by simp [size_madeCells], by rw [toList_madeCells_one]; simp⟩
  ·rw [hwa]
   have h0 : OwnM ((w.alloc (.cells #[.slice (some ⟨b, off, none⟩) n cp, .int .i64 r.first, .int .i64 r.rounds, .bool r.equal] 42)).alloc (.map #[] 0)) (w.heap.size + 1) 0 (.map []) := by
    have := World.ownsMap_made (H := Unit) (w.alloc (.cells #[.slice (some ⟨b, off, none⟩) n cp, .int .i64 r.first, .int .i64 r.rounds, .bool r.equal] 42)) Try.prog 3 (plainElem Try.prog 3)
    rw [World.size_alloc] at this
    exact this
   exact (h0.alloc _).alloc _
  ·rw [hwa]; (repeat' (first | exact Below.refl _ _ | assumption | (with_reducible refine Below.drew ?_) | (with_reducible refine Below.setCell ?_ (by (first | (simp; done) | (simp; omega))) _) | (with_reducible refine below_drewN' ?_ _) | (refine Below.alloc ?_ (by (try simp only [World.size_alloc, World.size_drew, World.size_setCell]); omega) _) | (refine Below.trans ?_ (Below.mono (by assumption) (by (try simp only [World.size_alloc, World.size_drew, World.size_setCell]); omega)))))
 rw [← hwa]
 clear hwa hmm hmk
 go_loopg [28] n (fun gg i wr => ∃ (k : Nat) (vl vi : Value), k ≤ n ∧ n - k ≤ gg ∧ i = .int .i64 k ∧ Aside (BegInv r n w (.slice (some ⟨b, off, none⟩) n cp) (w.heap.size + 1 + 1) (w.heap.size + 1 + 1 + 1) (w.heap.size + 1) (w.heap.size + 1 + 1 + 1 + 1) k k vl vi wr))
 case atStart => exact ⟨0, _, _, Nat.zero_le _, by omega, rfl, HI.out⟩
 case round =>
  clear HI
  obtain ⟨k, vl, vi, hk, hg, rfl, HI⟩ := hrel
  by_cases hlt : k < n
  ·have hltz : (k : Int) < (n : Int) := by omega
   obtain ⟨c, hx⟩ : ∃ c, r.counts[k]? = some c := ⟨_, List.getElem?_eq_getElem (by rw [HN.out]; exact hlt)⟩
   have kc0 : wr.cell? ⟨b, off + k * 3, none⟩ = some (.int .i64 c.1) := keepc HI.out.bel (by have := HCL.out k c hx 0 (.int .i64 c.1) rfl; simpa using this)
   have kc1 : wr.cell? ⟨b, off + k * 3 + 1, none⟩ = some (.int .i64 c.2.1) := keepc HI.out.bel (by have := HCL.out k c hx 1 (.int .i64 c.2.1) rfl; simpa using this)
   have kc2 : wr.cell? ⟨b, off + k * 3 + 2, none⟩ = some (.int .i64 c.2.2) := keepc HI.out.bel (by have := HCL.out k c hx 2 (.int .i64 c.2.2) rfl; simpa using this)
   have HT : Aside (r.counts.take (k + 1) = r.counts.take k ++ [c]) := take_snoc' hx
   obtain ⟨c1, c2, c3⟩ := c
   simp only [] at kc0 kc1 kc2
   clear hx
   have x0 := fun W => begin1_any (c1, c2, c3) W
   unfold cntV standV at x0
   simp only [] at x0
   go_wp2_with fail
   refine (x0 _).mono ?_
   rintro e w1 ⟨rfl, hb1⟩
   have hB1 : Below wr.heap.size wr w1 := ((Below.refl _ wr).alloc (Nat.le_refl _) _).trans (hb1.mono (by simp))
   have hS1 : wr.heap.size ≤ w1.heap.size := hB1.size
   clear hb1 x0
   go_wp2_with fail
   obtain ⟨wq, hwq⟩ : ∃ u, u = w1.alloc (.cells #[.int .i64 c1, .bool (c2 == 0)] 99) := ⟨_, rfl⟩
   have HQ : Aside (BegInv r n w (.slice (some ⟨b, off, none⟩) n cp) (w.heap.size + 1 + 1) (w.heap.size + 1 + 1 + 1) (w.heap.size + 1) (w.heap.size + 1 + 1 + 1 + 1) k k vl vi wq) := by rw [hwq]; exact HI.out.below (hB1.alloc hB1.size _)
   have q0 : wq.cell? ⟨w1.heap.size, 0, none⟩ = some (.int .i64 c1) := by rw [hwq]; go_simp
   have q1 : wq.cell? ⟨w1.heap.size, 1, none⟩ = some (.bool (c2 == 0)) := by rw [hwq]; go_simp
   have qV : wq.cell? ⟨w.heap.size + 1 + 1, 4, none⟩ = some vl := blk_cell HQ.out.blk rfl
   have QB : Aside (wq.heap[w1.heap.size]? = some (.cells #[.int .i64 c1, .bool (c2 == 0)] 99 (0, 0))) := by rw [hwq]; exact World.alloc_heap_new _ _
   have hVq : w.heap.size + 1 + 1 < wq.heap.size := (Array.getElem?_eq_some_iff.1 HQ.out.blk).1
   have hrq : w1.heap.size < wq.heap.size := by rw [hwq]; simp
   rw [← hwq]
   have HI0 : Aside (w.heap.size + 1 + 1 + 1 + 1 ≤ w1.heap.size) := Nat.le_trans HI.out.siz hS1
   clear hwq kc0 kc1 kc2 HI hB1 hS1
   go_region_law (refine step_append_own rfl (.tmp 39) (.tmp 42) 48 rfl (w.heap.size + 1 + 1 + 1 + 1) 3 i0 (.int .i64 0) 1 8 Try.underlying48 hi hz0 hz1 hz2 rfl (by decide) vl k ((r.counts.take k).map fun c => Value.int .i64 c.1) (by simp [Act.eval, Act.put]) (ownsRow_below HQ.out.left (by (repeat' (first | exact Below.refl _ _ | assumption | (with_reducible refine Below.drew ?_) | (with_reducible refine Below.setCell ?_ (by (first | (simp; done) | (simp; omega))) _) | (with_reducible refine below_drewN' ?_ _) | (refine Below.alloc ?_ (by (try simp only [World.size_alloc, World.size_drew, World.size_setCell]); omega) _) | (refine Below.trans ?_ (Below.mono (by assumption) (by (try simp only [World.size_alloc, World.size_drew, World.size_setCell]); omega))))))) ⟨wq.heap.size, 0, none⟩ 1 1 [.int .i64 c1] (by simp [Act.eval, Act.put]) rfl (by intro j u h; match j, h with | 0, h => (simp at h; subst h; go_simp) | j + 1, h => simp at h) (ints_oneCell .i64 [c1]) (by unfold maxLen; omega) (by omega) (by have := HQ.out.siz; simp; omega) ?_; intro v7 w7 hown7 hgrow7 hnil7; obtain ⟨g7, p7, rfl⟩ := owns_form hown7 (by omega); have hq7 := HQ.out.below (w' := (wq.alloc (.cells #[.int .i64 c1] 3)).drew) (by (repeat' (first | exact Below.refl _ _ | assumption | (with_reducible refine Below.drew ?_) | (with_reducible refine Below.setCell ?_ (by (first | (simp; done) | (simp; omega))) _) | (with_reducible refine below_drewN' ?_ _) | (refine Below.alloc ?_ (by (try simp only [World.size_alloc, World.size_drew, World.size_setCell]); omega) _) | (refine Below.trans ?_ (Below.mono (by assumption) (by (try simp only [World.size_alloc, World.size_drew, World.size_setCell]); omega)))))); have hb7 := (hq7.pre hgrow7 (by omega) (.inl rfl)).trans hq7.blk; have k7 : w7.cell? ⟨w.heap.size + 1 + 1, 4, none⟩ = some vl := blk_cell hb7 rfl; have f7 := blk_free hb7 4; have S7 : Aside (BegInv r n w (.slice (some ⟨b, off, none⟩) n cp) (w.heap.size + 1 + 1) (w.heap.size + 1 + 1 + 1) (w.heap.size + 1) (w.heap.size + 1 + 1 + 1 + 1) (k + 1) k (rowV g7 (k + 1) p7) vi (w7.setCell ⟨w.heap.size + 1 + 1, 4, none⟩ (rowV g7 (k + 1) p7))) := hq7.left_step hgrow7 (by rw [HT.out, List.map_append]; exact hown7) (by omega) (by omega) (by omega) (by omega) (by omega) (by omega); have C7 : Aside (w7.heap[w1.heap.size]? = some (.cells #[.int .i64 c1, .bool (c2 == 0)] 99 (0, 0))) := keep_block hq7.left hgrow7 ((Below.heap_alloc (wq.drew) _ _ hrq).trans QB.out) (fun cur e => by cases e); clear hown7 hb7 hgrow7 hnil7 hq7)
   all_goals
    obtain ⟨ws, hws⟩ : ∃ u, u = w7.setCell ⟨w.heap.size + 1 + 1, 4, none⟩ (rowV g7 (k + 1) p7) := ⟨_, rfl⟩
    have HS7 : Aside (BegInv r n w (.slice (some ⟨b, off, none⟩) n cp) (w.heap.size + 1 + 1) (w.heap.size + 1 + 1 + 1) (w.heap.size + 1) (w.heap.size + 1 + 1 + 1 + 1) (k + 1) k (rowV g7 (k + 1) p7) vi ws) := by rw [hws]; exact S7.out
    have hnV : w1.heap.size ≠ w.heap.size + 1 + 1 := by have := HI0.out; omega
    have CS : Aside (ws.heap[w1.heap.size]? = some (.cells #[.int .i64 c1, .bool (c2 == 0)] 99 (0, 0))) := by rw [hws]; exact (Below.heap_setCell _ _ _ _ hnV).trans C7.out
    have r1 : ws.cell? ⟨w1.heap.size, 1, none⟩ = some (.bool (c2 == 0)) := blk_cell CS.out rfl
    have rV : ws.cell? ⟨w.heap.size + 1 + 1, 6, none⟩ = some vi := blk_cell HS7.out.blk rfl
    have hVs : w.heap.size + 1 + 1 < ws.heap.size := (Array.getElem?_eq_some_iff.1 HS7.out.blk).1
    have hrs : w1.heap.size < ws.heap.size := (Array.getElem?_eq_some_iff.1 CS.out).1
    rw [← hws]
    clear hws S7 q0 q1 qV hVq hrq k7 f7 HQ C7 QB hnV
    go_wp2_with fail
    go_region_law (refine step_append_own rfl (.tmp 52) (.tmp 55) 49 rfl (w.heap.size + 1 + 1 + 1 + 1) 4 j0 (.bool false) 1 1 Try.underlying49 ji jz0 jz1 jz2 rfl (by decide) vi k ((r.counts.take k).map fun c => Value.bool (c.2.1 == 0)) (by simp [Act.eval, Act.put]) (ownsRow_below HS7.out.inn (by (repeat' (first | exact Below.refl _ _ | assumption | (with_reducible refine Below.drew ?_) | (with_reducible refine Below.setCell ?_ (by (first | (simp; done) | (simp; omega))) _) | (with_reducible refine below_drewN' ?_ _) | (refine Below.alloc ?_ (by (try simp only [World.size_alloc, World.size_drew, World.size_setCell]); omega) _) | (refine Below.trans ?_ (Below.mono (by assumption) (by (try simp only [World.size_alloc, World.size_drew, World.size_setCell]); omega))))))) ⟨ws.heap.size, 0, none⟩ 1 1 [.bool (c2 == 0)] (by simp [Act.eval, Act.put]) rfl (by intro j u h; match j, h with | 0, h => (simp at h; subst h; go_simp) | j + 1, h => simp at h) (by intro u hu; simp at hu; subst hu; rfl) (by unfold maxLen; omega) (by omega) (by have := HS7.out.siz; simp; omega) ?_; intro v8 w8 hown8 hgrow8 hnil8; obtain ⟨g8, p8, rfl⟩ := owns_form hown8 (by omega); have hq8 := HS7.out.below (w' := (ws.alloc (.cells #[.bool (c2 == 0)] 4)).drew) (by (repeat' (first | exact Below.refl _ _ | assumption | (with_reducible refine Below.drew ?_) | (with_reducible refine Below.setCell ?_ (by (first | (simp; done) | (simp; omega))) _) | (with_reducible refine below_drewN' ?_ _) | (refine Below.alloc ?_ (by (try simp only [World.size_alloc, World.size_drew, World.size_setCell]); omega) _) | (refine Below.trans ?_ (Below.mono (by assumption) (by (try simp only [World.size_alloc, World.size_drew, World.size_setCell]); omega)))))); have hb8 := (hq8.pre hgrow8 (by omega) (.inr rfl)).trans hq8.blk; have k8 : w8.cell? ⟨w.heap.size + 1 + 1, 6, none⟩ = some vi := blk_cell hb8 rfl; have f8 := blk_free hb8 6; have S8 : Aside (BegInv r n w (.slice (some ⟨b, off, none⟩) n cp) (w.heap.size + 1 + 1) (w.heap.size + 1 + 1 + 1) (w.heap.size + 1) (w.heap.size + 1 + 1 + 1 + 1) (k + 1) (k + 1) (rowV g7 (k + 1) p7) (rowV g8 (k + 1) p8) (w8.setCell ⟨w.heap.size + 1 + 1, 6, none⟩ (rowV g8 (k + 1) p8))) := hq8.inn_step hgrow8 (by rw [HT.out, List.map_append]; exact hown8) (by omega) (by omega) (by omega) (by omega) (by omega) (by omega); clear hown8 hb8 hgrow8 hnil8 hq8)
    all_goals
     obtain ⟨wt, hwt⟩ : ∃ u, u = w8.setCell ⟨w.heap.size + 1 + 1, 6, none⟩ (rowV g8 (k + 1) p8) := ⟨_, rfl⟩
     have HT8 : Aside (BegInv r n w (.slice (some ⟨b, off, none⟩) n cp) (w.heap.size + 1 + 1) (w.heap.size + 1 + 1 + 1) (w.heap.size + 1) (w.heap.size + 1 + 1 + 1 + 1) (k + 1) (k + 1) (rowV g7 (k + 1) p7) (rowV g8 (k + 1) p8) wt) := by rw [hwt]; exact S8.out
     rw [← hwt]
     clear hwt S8 r1 rV hVs hrs k8 f8 HS7
     go_wp2_with fail
     go_roundg (n - (k + 1))
     case measure => omega
     case rel => exact ⟨k + 1, _, _, by omega, by omega, by go_num, HT8.out⟩
  ·have hltz : ¬ (k : Int) < (n : Int) := by omega
   have : k = n := by omega
   subst this
   have hne0 : 0 < k := by have := HN.out; have := List.length_pos_iff.2 hne; omega
   obtain ⟨gl, cl, rfl⟩ := owns_form HI.out.left hne0
   obtain ⟨gi, ci, rfl⟩ := owns_form HI.out.inn hne0
   go_wp2
   go_ret
   have h := HI.out
   obtain ⟨rl, zl⟩ := row_of_owns h.left
   obtain ⟨ri, zi⟩ := row_of_owns h.inn
   have htk : r.counts.take k = r.counts := List.take_of_length_le (by rw [HN.out]; exact Nat.le_refl _)
   rw [htk] at rl ri
   have hgg : gl ≠ gi := by
    intro e
    obtain ⟨c1, e1, _⟩ := rl
    obtain ⟨c2, e2, _⟩ := ri
    rw [← e, e1] at e2
    cases e2
   refine ⟨w.heap.size + 1 + 1, gl, w.heap.size + 1 + 1 + 1, gi, w.heap.size + 1, cl, k, ci, 0, .slice (some ⟨b, off, none⟩) k cp, .slice none 0 0, .map [], rfl, ?_, ?_, rfl, h.bel⟩
   ·refine ⟨by rw [HN.out]; exact h.blk, by unfold beginG; rw [List.map_map]; exact rl, by unfold beginG; rw [List.map_map]; have := h.darts; rw [← HN.out] at this; rw [show (List.map (Value.int IntKind.i64 ∘ fun _ => (0 : Int)) r.counts) = List.replicate r.counts.length (.int .i64 0) from List.map_const' ..]; exact this, by unfold beginG; rw [List.map_map]; exact ri, h.own, Rep.empty, by have := HC.out.below h.bel; rw [HN.out] at this; exact this, ⟨none, 0, rfl, by simp [beginG], fun h => absurd rfl h⟩, by simp [beginG], by simp [beginG], by simp [beginG], ?_, ?_, ?_, ?_, ?_, ?_⟩
    ·simp only [List.mem_cons, List.not_mem_nil, or_false, not_or]; omega
    ·simp only [List.mem_cons, List.not_mem_nil, or_false, not_or]; omega
    ·simp only [List.mem_cons, List.not_mem_nil, or_false, not_or]; omega
    ·omega
    ·intro b' o' n' c' e
     simp only [Value.slice.injEq, Option.some.injEq, Addr.mk.injEq, and_true] at e
     obtain ⟨⟨rfl, _⟩, _⟩ := e
     simp only [List.mem_cons, List.not_mem_nil, or_false, not_or]; omega
    ·intro b' o' n' c' e; simp at e
   ·intro j hj
    simp only [List.mem_cons, List.not_mem_nil, or_false] at hj
    omega
end
section
open Go.RowKit Go.Maps Go.Sort Go.Shelf Go.Deep
theorem run_append_none {P : Program} (w : World) (base : Nat) (t ty e : TypeId) (i : TypeInfo) (size cp : Nat) (ht : P.underlying t = some (.slice e)) (hi : P.info? e = some i)
  (v : Value) (n : Nat) (xs : List Value) (hown : w.ownsRow base e size v n xs) :
  (Builtin.append_ #[t, t] ty #[v, .slice none 0 cp]).run P w = .ok v w := by
 rcases hown.2 with ⟨rfl, rfl⟩ | ⟨g, cap, cur, rfl, _, _, hnc, _⟩
 ·simp [Builtin.append_, run_underlying ht, sizeOf, typeInfo, hi, Builtin.lenOf, Builtin.firstCells]
 ·simp [Builtin.append_, run_underlying ht, sizeOf, typeInfo, hi, Builtin.lenOf, Builtin.firstCells, hnc, storeCells]
theorem nil_or_some {a : Option Addr} : a = none ∨ ∃ b, a = some b := by cases a with | none => exact .inl rfl | some b => exact .inr ⟨b, rfl⟩
theorem sl_owns {α : Type} {w : World} {base : Nat} {e : TypeId} {k : Nat} {enc : α → List Value} {xs : List α} {v : Value} (hk : ∀ x, (enc x).length = k) (hl : xs.length ≤ 9223372036854775807) (h : w.ownsRow base e k v xs.length ((xs.map enc).flatten)) : Sl w k enc v xs := by
 by_cases hne : xs = []
 ·subst hne
  rcases h.2 with ⟨rfl, _⟩ | ⟨g, cap, cur, rfl, hb, hg, _⟩
  ·exact ⟨none, 0, rfl, by simp, fun h => absurd rfl h⟩
  ·exact ⟨_, cap, rfl, by simp, fun h => absurd rfl h⟩
 ·obtain ⟨g, c, rfl, _, _, h2⟩ := sl_of_row hk hl hne h
  exact h2
end
section
open Go.RowKit Go.Maps Go.Sort Go.Shelf Go.Deep
def RowB {α : Type} (w : World) (size : Nat) (enc : α → List Value) (e : TypeId) (v : Value) (ys : List α) : Prop :=
 ∃ g c cs, v = .slice (some ⟨g, 0, none⟩) ys.length c ∧ ys.length ≤ 9223372036854775807 ∧ w.heap[g]? = some (.cells cs e (0, 0)) ∧ ∀ j y, ys[j]? = some y → ∀ i u, (enc y)[i]? = some u → cs[j * size + i]? = some u
theorem RowB.sl {α : Type} {w : World} {size : Nat} {enc : α → List Value} {e : TypeId} {v : Value} {ys : List α} (h : RowB w size enc e v ys) : Sl w size enc v ys := by
 obtain ⟨g, c, cs, rfl, hl, hg, hc⟩ := h
 exact ⟨_, c, rfl, hl, fun _ => ⟨g, 0, rfl, (Array.getElem?_eq_some_iff.1 hg).1, fun j y hj i u hu => by rw [Nat.zero_add]; exact blk_cell hg (hc j y hj i u hu)⟩⟩
def RTy (T : TypeId) (W W' : World) : Prop := W.heap.size ≤ W'.heap.size ∧ ∀ k, k < W.heap.size → (∀ cs, W.heap[k]? ≠ some (.cells cs T (0, 0))) → W'.heap[k]? = W.heap[k]?
theorem RTy.refl (T : TypeId) (W : World) : RTy T W W := ⟨Nat.le_refl _, fun _ _ _ => rfl⟩
theorem RTy.of_below {T : TypeId} {W W' : World} (h : Below W.heap.size W W') : RTy T W W' := ⟨h.size, fun k hk _ => h.block k hk⟩
theorem RTy.put {T : TypeId} {W W' : World} {g : Nat} {F : Obj} {cs : Array Value} (h : Put g F W W') (hg : W.heap[g]? = some (.cells cs T (0, 0))) : RTy T W W' := ⟨by rw [h.size]; exact Nat.le_refl _, fun k _ hk => h.block k (fun e => hk cs (e ▸ hg))⟩
theorem RTy.keep {T T' : TypeId} {W W' : World} {k : Nat} {cs : Array Value} (h : RTy T W W') (hT : T' ≠ T) (hk : W.heap[k]? = some (.cells cs T' (0, 0))) : W'.heap[k]? = some (.cells cs T' (0, 0)) :=
 (h.2 k (Array.getElem?_eq_some_iff.1 hk).1 (fun c e => by rw [hk] at e; injection e with e; injection e with _ e2; exact hT e2)).trans hk
theorem RowB.rt {α : Type} {T : TypeId} {W W' : World} {size : Nat} {enc : α → List Value} {e : TypeId} {v : Value} {ys : List α} (h : RowB W size enc e v ys) (hR : RTy T W W') (hT : e ≠ T) : RowB W' size enc e v ys := by
 obtain ⟨g, c, cs, h1, hl, hg, hc⟩ := h
 exact ⟨g, c, cs, h1, hl, hR.keep hT hg, hc⟩
theorem RowB.below {α : Type} {W W' : World} {size : Nat} {enc : α → List Value} {e : TypeId} {v : Value} {ys : List α} (h : RowB W size enc e v ys) (hB : Below W.heap.size W W') : RowB W' size enc e v ys := by
 obtain ⟨g, c, cs, h1, hl, hg, hc⟩ := h
 exact ⟨g, c, cs, h1, hl, (hB.block g (Array.getElem?_eq_some_iff.1 hg).1).trans hg, hc⟩
theorem run_append_fresh {α : Type} {P : Program} (w : World) (t ty e : TypeId) (i : TypeInfo) (z : Value) (size bytes : Nat) (ht : P.underlying t = some (.slice e)) (hi : P.info? e = some i) (hz : i.zero = some z)
  (hsize : i.size = size) (hby : i.bytes = bytes) (hzs : z.cells.size = size) (hsz : 0 < size) (g : Nat) (hg : w.heap[g]? = some (.cells #[] e (0, 0)))
  {enc : α → List Value} {ys : List α} {vy : Value} (hy : Sl w size enc vy ys) (henc : ∀ y, (enc y).length = size) (h1 : ∀ y ∈ ys, ∀ u ∈ enc y, u.oneCell' = true)
  (h63 : ys.length ≤ maxLen) (hbytes : ys.length * bytes ≤ 140737488355328) :
  ∃ v' w', (Builtin.append_ #[t, t] ty #[.slice (some ⟨g, 0, none⟩) 0 0, vy]).run P w = .ok v' w' ∧ RowB w' size enc e v' ys ∧ Below w.heap.size w w' := by
 have hglt := (Array.getElem?_eq_some_iff.1 hg).1
 obtain ⟨ad, cp, rfl, hl, hc⟩ := hy
 subst hsize
 have hfl := flat_len enc i.size henc ys
 by_cases h0 : ys = []
 ·subst h0
  rcases nil_or_some (a := ad) with rfl | ⟨ad, rfl⟩
  ·have hr := run_append_none (P := P) w 0 t ty e i i.size cp ht hi (.slice (some ⟨g, 0, none⟩) 0 0) 0 [] ⟨by simp, .inr ⟨g, 0, #[], rfl, Nat.zero_le _, hg, Nat.le_refl _, Nat.zero_le _, by simp, by simp⟩⟩
   exact ⟨_, w, hr, ⟨g, 0, #[], rfl, by simp, hg, fun j y h => by simp at h⟩, Below.refl _ _⟩
  ·have hr := run_append_room (P := P) w t ty e i ht hi g 0 0 #[] hg ad 0 cp [] (by simp) (by intro j u h; simp at h) (by simp) (Nat.le_refl _) (by simp)
   refine ⟨_, _, hr, ⟨g, 0, _, rfl, by simp, setRow_heap w g #[] _ e (0, 0) hg, fun j y h => by simp at h⟩, ⟨rfl, rfl, rfl, by simp [World.setRow], fun k hk => ?_⟩⟩
   by_cases hkg : k = g
   ·subst hkg; rw [setRow_heap w k #[] _ e (0, 0) hg, hg]; simp
   ·exact setRow_other w g k _ hkg
 ·obtain ⟨b, off, rfl, hb, hcl⟩ := hc h0
  have hpos : 0 < ys.length := List.length_pos_iff.2 h0
  have hnews : ∀ j u, ((ys.map enc).flatten)[j]? = some u → w.cell? ((⟨b, off, none⟩ : Addr).add j) = some u := by
   intro j u hu
   obtain ⟨q, y, i', hq, hi', rfl⟩ := flat_inv enc i.size henc ys j u hu
   have := hcl q y hq i' u hi'
   rw [Nat.add_assoc] at this
   unfold Addr.add
   split
   ·rename_i h0
    rw [h0, Nat.add_zero] at this
    exact this
   ·exact this
  have hr := run_append_grow (P := P) w t ty e i z ht hi hz ⟨g, 0, none⟩ 0 0 [] (by simp) (by intro j v h; simp at h) ⟨b, off, none⟩ ys.length cp ((ys.map enc).flatten) (by rw [hfl]) hnews (by omega) (by unfold maxLen at h63; omega) (growslice_fits (by omega) (by rw [Nat.zero_add, hby]; exact hbytes))
  refine ⟨_, _, hr, ?_, ((Below.refl _ w).drew).alloc (Nat.le_refl _) _⟩
  have hge := grownCap_ge w (0 + ys.length) 0 e
  refine ⟨w.heap.size, _, _, by rw [Nat.zero_add], hl, heap_alloc_new w.drew _, fun j y hj i' u hu => ?_⟩
  have hf := flat_get enc i.size henc ys j y i' u hj hu
  have hlt := (List.getElem?_eq_some_iff.1 hf).1
  rw [Array.getElem?_append_left (by simpa using hlt), Array.getElem?_append_right (by simp)]
  simpa using hf
theorem wp_append_fresh {α : Type} {P : Program} (w : World) {o : Oper} {a : Act} {K : Act → World → Prop} {Q : Exit → Act → World → Prop} (s x : Operand) (t : TypeId)
  (ho : o.op = .call { callee := .builtin .append, args := #[s, x], argTypes := #[t, t] })
  (e : TypeId) (i : TypeInfo) (z : Value) (size bytes : Nat) (ht : P.underlying t = some (.slice e)) (hi : P.info? e = some i) (hz : i.zero = some z)
  (hsize : i.size = size) (hby : i.bytes = bytes) (hzs : z.cells.size = size) (hsz : 0 < size) (g : Nat) (hg : w.heap[g]? = some (.cells #[] e (0, 0))) (hs : a.eval s = .slice (some ⟨g, 0, none⟩) 0 0)
  {enc : α → List Value} {ys : List α} {vy : Value} (hx : a.eval x = vy) (hy : Sl w size enc vy ys) (henc : ∀ y, (enc y).length = size) (h1 : ∀ y ∈ ys, ∀ u ∈ enc y, u.oneCell' = true)
  (h63 : ys.length ≤ maxLen) (hbytes : ys.length * bytes ≤ 140737488355328)
  (h : ∀ v' w', RowB w' size enc e v' ys → Below w.heap.size w w' → K (a.put o.dst v') w') : o.wp P a w K Q := by
 obtain ⟨v', w', hr, h2, h3⟩ := run_append_fresh (P := P) w t o.type e i z size bytes ht hi hz hsize hby hzs hsz g hg hy henc h1 h63 hbytes
 unfold Oper.wp execOp
 simp only [ho, resolve, invoke, builtin, Sem.run_bind, Sem.run_pure, Result.andThen_ok, List.map_toArray, List.map_cons, List.map_nil, hs, hx, hr]
 exact h v' w' h2 h3
theorem wpList_append_fresh {α : Type} {P : Program} (w : World) {ops : Array Oper} {rest : List Oper} {o : Oper} {a : Act} {Q : Exit → Act → World → Prop} (hgd : o.guard = none) (s x : Operand) (t : TypeId)
  (ho : o.op = .call { callee := .builtin .append, args := #[s, x], argTypes := #[t, t] })
  (e : TypeId) (i : TypeInfo) (z : Value) (size bytes : Nat) (ht : P.underlying t = some (.slice e)) (hi : P.info? e = some i) (hz : i.zero = some z)
  (hsize : i.size = size) (hby : i.bytes = bytes) (hzs : z.cells.size = size) (hsz : 0 < size) (g : Nat) (hg : w.heap[g]? = some (.cells #[] e (0, 0))) (hs : a.eval s = .slice (some ⟨g, 0, none⟩) 0 0)
  {enc : α → List Value} {ys : List α} {vy : Value} (hx : a.eval x = vy) (hy : Sl w size enc vy ys) (henc : ∀ y, (enc y).length = size) (h1 : ∀ y ∈ ys, ∀ u ∈ enc y, u.oneCell' = true)
  (h63 : ys.length ≤ maxLen) (hbytes : ys.length * bytes ≤ 140737488355328)
  (h : ∀ v' w', RowB w' size enc e v' ys → Below w.heap.size w w' → wpList P ops Q rest (a.put o.dst v') w') : wpList P ops Q (o :: rest) a w :=
 wpList_plain hgd fun _ hK => wp_append_fresh w s x t ho e i z size bytes ht hi hz hsize hby hzs hsz g hg hs hx hy henc h1 h63 hbytes fun v' w' h2 h3 => hK _ _ (h v' w' h2 h3)
end
end Go.Proofs.Ytnhjoebdmmelaaa
