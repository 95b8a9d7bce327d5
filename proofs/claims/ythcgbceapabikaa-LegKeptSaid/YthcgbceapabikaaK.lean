/- Leg, part K: the match after legs. -/
import Derived.Test.YthcgbceapabikaaJ
set_option linter.unusedVariables false
set_option linter.unusedSimpArgs false
namespace Go.Proofs.Ythcgbceapabikaa
open Go.RowKit Go.Shelf

/-- A match as a value. -/
def mtV (g : Mt) (f : Int) : Value := .agg #[.int .i64 g.s0, .int .i64 g.s1, .int .i64 g.l0, .int .i64 g.l1, .int .i64 f, .int .i64 g.win]
/-- What Match returns. -/
def matchF (m : MtL) (ws : List Int) : Mt × Int × Int × Int :=
  if vmt m = true then (let r := mtL m ⟨0, 0, 0, 0, -1⟩ 0 ws; (r.1, (if r.2.2 = 0 then r.1.next m else 0), r.2.1, r.2.2)) else (⟨0, 0, 0, 0, 0⟩, 0, 0, 2)
def matchR (r : Mt × Int × Int × Int) : Value := .tuple #[mtV r.1 r.2.1, .int .i64 r.2.2.1, .int .i64 r.2.2.2]
/-- The zero result in memory. -/
def ScAt (w : World) (R : Nat) : Prop := w.heap[R]? = some (.cells #[.int .i64 0, .int .i64 0, .int .i64 0, .int .i64 0, .int .i64 0, .int .i64 0] 71 (0, 0))
theorem sc_below {w w' : World} {R : Nat} (h : ScAt w R) (hB : Below w.heap.size w w') : ScAt w' R := (hB.block R (Array.getElem?_eq_some_iff.1 h).1).trans h
theorem mt_below {w w' : World} {V : Nat} {g : Mt} {f : Int} {m : MtL} (h : MtAt w V g f m) (hB : Below w.heap.size w w') : MtAt w' V g f m := (hB.block V (Array.getElem?_eq_some_iff.1 h).1).trans h
theorem mt_size {w : World} {V : Nat} {g : Mt} {f : Int} {m : MtL} (h : MtAt w V g f m) : V < w.heap.size := (Array.getElem?_eq_some_iff.1 h).1

theorem mtake_any (V : Nat) (g : Mt) (f : Int) (m : MtL) (i : Nat) (x : Int) (w : World) (hV : MtAt w V g f m) (hg : g.Ok i) (hi : (i : Int) < 1000000000000000000) (hm : vmt m = true) (hx : inb 0 1 x = true) :
    Calls Try.prog 60 #[.pointer (some ⟨V, 0, none⟩), .int .i64 x] w (MTakeOk V (g.step m x) f m w) := by
  obtain ⟨a0, a1, b0, b1, c0, c1, d0, d1⟩ := hg
  unfold vmt inb at hm
  simp at hm
  obtain ⟨legs, sets, clear, extra, first⟩ := m
  obtain ⟨s0, s1, l0, l1, win⟩ := g
  unfold MtAt at hV
  simp only [] at *
  have hx' : x = 0 ∨ x = 1 := by unfold inb at hx; simp at hx; omega
  rcases hx' with rfl | rfl
  · exact mtake0 V s0 s1 l0 l1 f win legs sets clear extra first w hV c0 (by omega) d0 (by omega) a0 (by omega) b0 (by omega) (by omega) (by omega) (by omega) (by omega) (by omega) (by omega)
  · exact mtake1 V s0 s1 l0 l1 f win legs sets clear extra first w hV c0 (by omega) d0 (by omega) a0 (by omega) b0 (by omega) (by omega) (by omega) (by omega) (by omega) (by omega) (by omega)

/-- What holds at the head of a round. -/
def MtInv (m : MtL) (ws : List Int) (res : Mt × Int × Int) (w : World) (V R k : Nat) (wr : World) : Prop :=
  ∃ g : Mt, MtAt wr V g 0 m ∧ g.Ok k ∧ mtL m g k (ws.drop k) = res ∧ Below w.heap.size w wr ∧ ScAt wr R

set_option maxRecDepth 100000 in
set_option maxHeartbeats 8000000 in
theorem Match_any (m : MtL) (v : Value) (ws : List Int) (w : World) (hs : Sl w 1 eI v ws) (hn : ws.length ≤ 1000000) :
    Calls Try.prog 31 #[mtlV m, v] w (Ret (matchR (matchF m ws)) w) := by
  have x1 := fun W => validMatch_any m W
  have HR : Aside (matchF m ws = if vmt m = true then (let r := mtL m ⟨0, 0, 0, 0, -1⟩ 0 ws; (r.1, (if r.2.2 = 0 then r.1.next m else 0), r.2.1, r.2.2)) else (⟨0, 0, 0, 0, 0⟩, 0, 0, 2)) := rfl
  have y1 := fun x W k hk t => within_any 0 1 _ [x] _ (sl_one W k hk t x)
  simp only [List.all_cons, List.all_nil, Bool.and_true] at y1
  obtain ⟨a, cp, rfl, hl, hs⟩ := hs
  obtain ⟨n, hnn⟩ : ∃ n, ws.length = n := ⟨_, rfl⟩
  have HN : Aside (ws.length = n) := hnn
  have HS : Aside (ws ≠ [] → ∃ b off, a = some ⟨b, off, none⟩ ∧ b < w.heap.size ∧ ∀ j x, ws[j]? = some x → ∀ i y, (eI x)[i]? = some y → w.cell? ⟨b, off + j * 1 + i, none⟩ = some y) := hs
  rw [hnn] at hl hn ⊢
  clear hnn hs
  have HY : Aside _ := y1
  clear y1
  obtain ⟨res, hres⟩ : ∃ res, matchF m ws = res := ⟨_, rfl⟩
  rw [hres] at HR ⊢
  clear hres
  have hmv : mtlV m = .agg #[.int .i64 m.legs, .int .i64 m.sets, .int .i64 m.clear, .int .i64 m.extra, .int .i64 m.first] := rfl
  rw [hmv] at *
  clear hmv
  cases hv : vmt m with
  | false =>
    rw [hv] at x1
    have HR2 : Aside (res = (⟨0, 0, 0, 0, 0⟩, 0, 0, 2)) := by
      show _ = _
      rw [HR.out, if_neg (by rw [hv]; simp)]
    clear HR hv
    go_enter Try.func31, Try.ntmps31
    go_wp2_with fail
    refine (x1 _).mono ?_
    rintro e w1 ⟨rfl, hb1⟩
    have z1 : ScAt w1 (w.heap.size + 1) := (hb1.block _ (by simp)).trans (World.alloc_heap_new' _ _ _ (by simp))
    have BF : Aside (Below w.heap.size w w1) := by (repeat' (first | exact Below.refl _ _ | assumption | (with_reducible refine Below.drew ?_) | (with_reducible refine Below.setCell ?_ (by (first | (simp; done) | (simp; omega))) _) | (with_reducible refine below_drewN' ?_ _) | (refine Below.alloc ?_ (by (try simp only [World.size_alloc, World.size_drew, World.size_setCell]); omega) _) | (refine Below.trans ?_ (Below.mono (by assumption) (by (try simp only [World.size_alloc, World.size_drew, World.size_setCell]); omega)))))
    have r0 := blk_cell z1 (i := 0) rfl
    have r1 := blk_cell z1 (i := 1) rfl
    have r2 := blk_cell z1 (i := 2) rfl
    have r3 := blk_cell z1 (i := 3) rfl
    have r4 := blk_cell z1 (i := 4) rfl
    have r5 := blk_cell z1 (i := 5) rfl
    have rf := blk_free z1
    clear hb1 z1
    go_wp2
    refine bodyPost_ret (v := .tuple #[.agg #[.int .i64 0, .int .i64 0, .int .i64 0, .int .i64 0, .int .i64 0, .int .i64 0], .int .i64 0, .int .i64 2]) (by simp [results, Try.results31, go_sem, r0, r1, r2, r3, r4, r5]) rfl ⟨by rw [HR2.out]; rfl, ?_⟩
    exact below_set6 BF.out (by omega) _ _ _ _ _ _
  | true =>
    rw [hv] at x1
    obtain ⟨r, hr⟩ : ∃ r, mtL m ⟨0, 0, 0, 0, -1⟩ 0 ws = r := ⟨_, rfl⟩
    have HR1 : Aside (mtL m ⟨0, 0, 0, 0, -1⟩ 0 ws = r) := hr
    have HR2 : Aside (res = (r.1, (if r.2.2 = 0 then r.1.next m else 0), r.2.1, r.2.2)) := by
      show _ = _
      rw [HR.out, if_pos hv, hr]
    have HV : Aside (vmt m = true) := hv
    clear HR hv hr
    go_enter Try.func31, Try.ntmps31
    go_wp2_with fail
    refine (x1 _).mono ?_
    rintro e w1 ⟨rfl, hb1⟩
    have Z1 : Aside (ScAt w1 (w.heap.size + 1)) := (hb1.block _ (by simp)).trans (World.alloc_heap_new' _ _ _ (by simp))
    have BF1 : Aside (Below w.heap.size w w1) := by (repeat' (first | exact Below.refl _ _ | assumption | (with_reducible refine Below.drew ?_) | (with_reducible refine Below.setCell ?_ (by (first | (simp; done) | (simp; omega))) _) | (with_reducible refine below_drewN' ?_ _) | (refine Below.alloc ?_ (by (try simp only [World.size_alloc, World.size_drew, World.size_setCell]); omega) _) | (refine Below.trans ?_ (Below.mono (by assumption) (by (try simp only [World.size_alloc, World.size_drew, World.size_setCell]); omega)))))
    have m0 : w1.cell? ⟨w.heap.size, 0, none⟩ = some (.int .i64 m.legs) := keepc hb1 (by go_simp)
    have m1 : w1.cell? ⟨w.heap.size, 1, none⟩ = some (.int .i64 m.sets) := keepc hb1 (by go_simp)
    have m2 : w1.cell? ⟨w.heap.size, 2, none⟩ = some (.int .i64 m.clear) := keepc hb1 (by go_simp)
    have m3 : w1.cell? ⟨w.heap.size, 3, none⟩ = some (.int .i64 m.extra) := keepc hb1 (by go_simp)
    have m4 : w1.cell? ⟨w.heap.size, 4, none⟩ = some (.int .i64 m.first) := keepc hb1 (by go_simp)
    clear hb1 x1
    go_wp2_with fail
    obtain ⟨wa, hwa⟩ : ∃ u, u = w1.alloc (.cells #[.int .i64 0, .int .i64 0, .int .i64 0, .int .i64 0, .int .i64 0, .int .i64 (-1), .int .i64 m.legs, .int .i64 m.sets, .int .i64 m.clear, .int .i64 m.extra, .int .i64 m.first] 125) := ⟨_, rfl⟩
    have HI : Aside (MtInv m ws r w w1.heap.size (w.heap.size + 1) 0 wa) := by
      have hb : Below w1.heap.size w1 wa := by rw [hwa]; exact (Below.refl _ _).alloc (Nat.le_refl _) _
      refine ⟨⟨0, 0, 0, 0, -1⟩, ?_, ⟨by simp, by simp, by simp, by simp, by simp, by simp, by simp, by simp⟩, HR1.out, BF1.out.trans (hb.mono BF1.out.size), sc_below Z1.out hb⟩
      rw [hwa]; exact World.alloc_heap_new _ _
    have zV : w.heap.size + 1 < w1.heap.size := (Array.getElem?_eq_some_iff.1 Z1.out).1
    rw [← hwa]
    clear hwa m0 m1 m2 m3 m4 Z1 HR1
    go_loopg [19] n (fun gg i wr => ∃ k : Nat, k ≤ n ∧ n - k ≤ gg ∧ i = .int .i64 k ∧ Aside (MtInv m ws r w w1.heap.size (w.heap.size + 1) k wr))
    case atStart => exact ⟨0, Nat.zero_le _, by omega, rfl, HI.out⟩
    case round =>
      clear HI
      obtain ⟨k, hk, hg, rfl, HI⟩ := hrel
      obtain ⟨g, hv, hok, hr, hB, hz⟩ := HI.out
      have hzlt : w.heap.size + 1 < wr.heap.size := (Array.getElem?_eq_some_iff.1 hz).1
      have hvlt := mt_size hv
      have k5 : wr.cell? ⟨w1.heap.size, 5, none⟩ = some (.int .i64 g.win) := blk_cell hv rfl
      have HVV : Aside (MtAt wr w1.heap.size g 0 m) := hv
      have HZ : Aside (ScAt wr (w.heap.size + 1)) := hz
      have HOK : Aside (g.Ok k) := hok
      have HBW : Aside (Below w.heap.size w wr) := hB
      have HR : Aside (mtL m g k (ws.drop k) = r) := hr
      clear hv hz hok hB hr HI
      by_cases hlt : k < n
      · have hltz : (k : Int) < (n : Int) := by omega
        obtain ⟨x, hx⟩ : ∃ x, ws[k]? = some x := ⟨_, List.getElem?_eq_getElem (by rw [HN.out]; exact hlt)⟩
        obtain ⟨B, off, rfl, hBlt, hcl⟩ := HS.out (by intro e; rw [e] at hx; simp at hx)
        have kx : wr.cell? ⟨B, off + k, none⟩ = some (.int .i64 x) := keepc HBW.out (by have := hcl k x hx 0 (.int .i64 x) rfl; simpa using this)
        have HRx : Aside (mtL m g k (x :: ws.drop (k + 1)) = r) := by
          obtain ⟨h1, h2⟩ := List.getElem?_eq_some_iff.1 hx
          show _ = _
          have := HR.out
          rw [List.drop_eq_getElem_cons h1, h2] at this
          exact this
        clear hcl hx HR
        by_cases hw : g.win = -1
        · have hwq : (g.win != -1) = false := by simpa using hw
          have y1 := HY.out x
          cases hvx : inb 0 1 x with
          | false =>
            -- @@b
            rw [hvx] at y1
            have HR3 : Aside (r = (⟨0, 0, 0, 0, 0⟩, (k : Int), 2)) := by
              show _ = _
              rw [← HRx.out, mtL, if_pos hw, if_neg (by rw [hvx]; simp)]
            clear hvx HRx hw
            go_wp2_with fail
            refine (y1 _ _ (by simp) _).mono ?_
            rintro e w2 ⟨rfl, hb2⟩
            have ha : Below wr.heap.size wr w2 := ((Below.refl _ wr).alloc (Nat.le_refl _) _).trans (hb2.mono (by simp))
            have z1 := sc_below HZ.out ha
            have BF : Aside (Below w.heap.size w w2) := HBW.out.trans (ha.mono HBW.out.size)
            have r0 := blk_cell z1 (i := 0) rfl
            have r1 := blk_cell z1 (i := 1) rfl
            have r2 := blk_cell z1 (i := 2) rfl
            have r3 := blk_cell z1 (i := 3) rfl
            have r4 := blk_cell z1 (i := 4) rfl
            have r5 := blk_cell z1 (i := 5) rfl
            have rf := blk_free z1
            clear ha hb2 z1 k5 kx
            go_wp2
            refine bodyPost_ret (v := .tuple #[.agg #[.int .i64 0, .int .i64 0, .int .i64 0, .int .i64 0, .int .i64 0, .int .i64 0], .int .i64 k, .int .i64 2]) (by simp [results, Try.results31, go_sem, r0, r1, r2, r3, r4, r5]) rfl ⟨by rw [HR2.out, HR3.out]; rfl, ?_⟩
            exact below_set6 BF.out (by omega) _ _ _ _ _ _
          | true =>
            -- @@c
            rw [hvx] at y1
            have HR3 : Aside (mtL m (g.step m x) (k + 1) (ws.drop (k + 1)) = r) := by
              show _ = _
              rw [← HRx.out, mtL, if_pos hw, if_pos hvx]
            have HOK2 : Aside ((g.step m x).Ok (k + 1)) := HOK.out.step m x
            have x3 := fun W (h : MtAt W w1.heap.size g 0 m) => mtake_any w1.heap.size g 0 m k x W h HOK.out (by omega) HV.out hvx
            clear hvx HRx hw
            go_wp2_with fail
            refine (y1 _ _ (by simp) _).mono ?_
            rintro e w2 ⟨rfl, hb2⟩
            have ha : Below wr.heap.size wr w2 := ((Below.refl _ wr).alloc (Nat.le_refl _) _).trans (hb2.mono (by simp))
            have HV2 : Aside (MtAt w2 w1.heap.size g 0 m) := mt_below HVV.out ha
            have HZ2 : Aside (ScAt w2 (w.heap.size + 1)) := sc_below HZ.out ha
            have BF2 : Aside (Below w.heap.size w w2) := HBW.out.trans (ha.mono HBW.out.size)
            clear ha hb2 HVV HZ k5 kx y1
            go_wp2_with fail
            refine (x3 _ HV2.out).mono ?_
            rintro e w3 ⟨⟨v3, rfl⟩, hv3, ho3⟩
            have HI3 : Aside (MtInv m ws r w w1.heap.size (w.heap.size + 1) (k + 1) w3) := by
              have hz := mt_size HV2.out
              have := BF1.out.size
              exact ⟨g.step m x, hv3, HOK2.out, HR3.out, BF2.out.trans ((ho3.below (by omega)).mono (by omega)), ho3.cells (by omega) HZ2.out⟩
            clear hv3 ho3 HV2 HZ2 x3
            go_wp2_with fail
            go_roundg (n - (k + 1))
            case measure => omega
            case rel => exact ⟨k + 1, by omega, by omega, by go_num, HI3.out⟩
        · -- @@a
          have hwq : (g.win != -1) = true := by simpa using hw
          have HR3 : Aside (r = (⟨0, 0, 0, 0, 0⟩, (k : Int), 33)) := by
            show _ = _
            rw [← HRx.out, mtL, if_neg hw]
          have z1 := HZ.out
          have r0 := blk_cell z1 (i := 0) rfl
          have r1 := blk_cell z1 (i := 1) rfl
          have r2 := blk_cell z1 (i := 2) rfl
          have r3 := blk_cell z1 (i := 3) rfl
          have r4 := blk_cell z1 (i := 4) rfl
          have r5 := blk_cell z1 (i := 5) rfl
          have rf := blk_free z1
          clear HRx hw z1
          go_wp2
          refine bodyPost_ret (v := .tuple #[.agg #[.int .i64 0, .int .i64 0, .int .i64 0, .int .i64 0, .int .i64 0, .int .i64 0], .int .i64 k, .int .i64 33]) (by simp [results, Try.results31, go_sem, r0, r1, r2, r3, r4, r5]) rfl ⟨by rw [HR2.out, HR3.out]; rfl, ?_⟩
          exact below_set6 HBW.out (by omega) _ _ _ _ _ _
      · -- @@d
        have hltz : ¬ (k : Int) < (n : Int) := by omega
        have : k = n := by omega
        subst this
        have HR3 : Aside (r = (g, 0, 0)) := by
          have := HR.out
          rw [List.drop_of_length_le (by rw [HN.out]; exact Nat.le_refl _)] at this
          exact this.symm
        have hok := HOK.out
        have hvm := HV.out
        have x4 := fun W (h : MtAt W w1.heap.size g 0 m) => mnext w1.heap.size g.s0 g.s1 g.l0 g.l1 0 g.win m.legs m.sets m.clear m.extra m.first W h hok.c0 (by have := hok.c1; omega) hok.d0 (by have := hok.d1; omega) hok.a0 (by have := hok.a1; omega) hok.b0 (by have := hok.b1; omega) (by unfold vmt inb at hvm; simp at hvm; omega) (by unfold vmt inb at hvm; simp at hvm; omega)
        have HR4 : Aside (res = (g, Mt.next m g, 0, 0)) := by
          show _ = _
          rw [HR2.out, HR3.out]; rfl
        have e4 : Mt.next ⟨m.legs, m.sets, m.clear, m.extra, m.first⟩ ⟨g.s0, g.s1, g.l0, g.l1, g.win⟩ = Mt.next m g := rfl
        rw [e4] at x4
        generalize Mt.next m g = nx at *
        clear HR hok hvm HR2 HR3 k5 e4
        go_wp2_with fail
        refine (x4 _ HVV.out).mono ?_
        rintro e w2 ⟨rfl, hb2⟩
        have z1 := sc_below HZ.out hb2
        have v1 := mt_below HVV.out hb2
        have BF : Aside (Below w.heap.size w w2) := HBW.out.trans (hb2.mono HBW.out.size)
        have r0 := blk_cell z1 (i := 0) rfl
        have r1 := blk_cell z1 (i := 1) rfl
        have r2 := blk_cell z1 (i := 2) rfl
        have r3 := blk_cell z1 (i := 3) rfl
        have r4 := blk_cell z1 (i := 4) rfl
        have r5 := blk_cell z1 (i := 5) rfl
        have rf := blk_free z1
        have k0 : w2.cell? ⟨w1.heap.size, 0, none⟩ = some (.int .i64 g.s0) := blk_cell v1 rfl
        have k1 : w2.cell? ⟨w1.heap.size, 1, none⟩ = some (.int .i64 g.s1) := blk_cell v1 rfl
        have k2 : w2.cell? ⟨w1.heap.size, 2, none⟩ = some (.int .i64 g.l0) := blk_cell v1 rfl
        have k3 : w2.cell? ⟨w1.heap.size, 3, none⟩ = some (.int .i64 g.l1) := blk_cell v1 rfl
        have k4 : w2.cell? ⟨w1.heap.size, 4, none⟩ = some (.int .i64 0) := blk_cell v1 rfl
        have k5 : w2.cell? ⟨w1.heap.size, 5, none⟩ = some (.int .i64 g.win) := blk_cell v1 rfl
        have kf := blk_free v1
        have hne : ¬ w1.heap.size = w.heap.size + 1 := by omega
        clear hb2 z1 v1 x4 HVV HZ HOK
        go_wp2
        refine bodyPost_ret (v := .tuple #[.agg #[.int .i64 g.s0, .int .i64 g.s1, .int .i64 g.l0, .int .i64 g.l1, .int .i64 nx, .int .i64 g.win], .int .i64 0, .int .i64 0]) (by simp [results, Try.results31, go_sem, r0, r1, r2, r3, r4, r5]) rfl ⟨by rw [HR4.out]; rfl, ?_⟩
        exact below_set6 (BF.out.setCell (p := ⟨w1.heap.size, 4, none⟩) (show w.heap.size ≤ w1.heap.size by omega) _) (by omega) _ _ _ _ _ _
end Go.Proofs.Ythcgbceapabikaa
