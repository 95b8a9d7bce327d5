/- Leg: parts Eb, Ce. -/
import Derived.Test.YtgmlcgifagbjmaaJap
import Derived.Test.YtgmlcgifagbjmaaJai
import Derived.Test.YtgmlcgifagbjmaaJaf
import Derived.Test.YtgmlcgifagbjmaaJak
set_option linter.unusedVariables false
set_option linter.unusedSimpArgs false
namespace Go.Proofs.Ytgmlcgifagbjmaa
section
open Go.RowKit Go.Maps Go.Sort Go.Shelf Go.Deep
/-- What Same looks at. -/
structure SameL where
 left : List Int
 darts : List Int
 inn : List Bool
 next : Int
 round : Int
 over : Bool
 wins : List Int
deriving DecidableEq
def SameAt (w : World) (v : Value) (g : SameL) : Prop := ∃ vl vd vi vw, v = .agg #[vl, vd, vi, .int .i64 g.next, .int .i64 g.round, .bool g.over, vw] ∧ Sl w 1 eI vl g.left ∧ Sl w 1 eI vd g.darts ∧ Sl w 1 eB vi g.inn ∧ Sl w 1 eI vw g.wins
def sameF (a b : SameL) : Bool := decide (a.inn = b.inn) && (decide (a.left = b.left) && (decide (a.darts = b.darts) && (decide (a.wins = b.wins) && (decide (a.next = b.next) && (decide (a.round = b.round) && decide (a.over = b.over))))))
theorem sameF_eq (a b : SameL) : sameF a b = decide (a = b) := by
 obtain ⟨a1, a2, a3, a4, a5, a6, a7⟩ := a
 obtain ⟨b1, b2, b3, b4, b5, b6, b7⟩ := b
 unfold sameF
 rw [Bool.eq_iff_iff]
 simp only [Bool.and_eq_true, decide_eq_true_eq, SameL.mk.injEq]
 constructor
 ·rintro ⟨h1, h2, h3, h4, h5, h6, h7⟩; exact ⟨h2, h3, h1, h5, h6, h7, h4⟩
 ·rintro ⟨h1, h2, h3, h4, h5, h6, h7⟩; exact ⟨h3, h1, h2, h7, h4, h5, h6⟩
set_option maxRecDepth 100000 in
set_option maxHeartbeats 4000000 in
theorem rsame_any (g h : SameL) (v u : Value) (w : World) (hv : SameAt w v g) (hu : SameAt w u h) :
  Calls Try.prog 26 #[v, u] w (Ret (.bool (sameF g h)) w) := by
 obtain ⟨vl, vd, vi, vw, rfl, sl, sd, si, sw⟩ := hv
 obtain ⟨ul, ud, ui, uw, rfl, tl, td, ti, tw⟩ := hu
 obtain ⟨res, hres⟩ : ∃ res, sameF g h = res := ⟨_, rfl⟩
 have HR : Aside (sameF g h = res) := hres
 have SL : Aside (Sl w 1 eI vl g.left ∧ Sl w 1 eI ul h.left) := ⟨sl, tl⟩
 have SD : Aside (Sl w 1 eI vd g.darts ∧ Sl w 1 eI ud h.darts) := ⟨sd, td⟩
 have SW : Aside (Sl w 1 eI vw g.wins ∧ Sl w 1 eI uw h.wins) := ⟨sw, tw⟩
 have KL : Aside (vl ≠ .bool true) := fun e => by obtain ⟨_, _, e1, _⟩ := sl; rw [e1] at e; cases e
 obtain ⟨a, cp, rfl, hl, hs⟩ := si
 obtain ⟨a2, cp2, rfl, hl2, hs2⟩ := ti
 obtain ⟨m, hm⟩ : ∃ m, g.inn.length = m := ⟨_, rfl⟩
 obtain ⟨m2, hm2⟩ : ∃ m, h.inn.length = m := ⟨_, rfl⟩
 have HN : Aside (g.inn.length = m) := hm
 have HN2 : Aside (h.inn.length = m2) := hm2
 have HS : Aside (g.inn ≠ [] → ∃ b off, a = some ⟨b, off, none⟩ ∧ b < w.heap.size ∧ ∀ j x, g.inn[j]? = some x → ∀ i y, (eB x)[i]? = some y → w.cell? ⟨b, off + j * 1 + i, none⟩ = some y) := hs
 have HS2 : Aside (h.inn ≠ [] → ∃ b off, a2 = some ⟨b, off, none⟩ ∧ b < w.heap.size ∧ ∀ j x, h.inn[j]? = some x → ∀ i y, (eB x)[i]? = some y → w.cell? ⟨b, off + j * 1 + i, none⟩ = some y) := hs2
 rw [hm] at hl ⊢
 rw [hm2] at hl2 ⊢
 rw [hres]
 clear hs hs2 hm hm2 hres sl tl sd td sw tw
 have e1 : Aside ((evL 0).length = 0) := rfl
 obtain ⟨gn, hgn⟩ : ∃ x, g.next = x := ⟨_, rfl⟩
 obtain ⟨gr, hgr⟩ : ∃ x, g.round = x := ⟨_, rfl⟩
 obtain ⟨go, hgo⟩ : ∃ x, g.over = x := ⟨_, rfl⟩
 obtain ⟨hn, hhn⟩ : ∃ x, h.next = x := ⟨_, rfl⟩
 obtain ⟨hr, hhr⟩ : ∃ x, h.round = x := ⟨_, rfl⟩
 obtain ⟨ho, hho⟩ : ∃ x, h.over = x := ⟨_, rfl⟩
 have G : Aside (g.next = gn ∧ g.round = gr ∧ g.over = go ∧ h.next = hn ∧ h.round = hr ∧ h.over = ho) := ⟨hgn, hgr, hgo, hhn, hhr, hho⟩
 rw [hgn, hgr, hgo, hhn, hhr, hho]
 clear hgn hgr hgo hhn hhr hho
 by_cases hmm : m ≠ m2
 ·have hmz : ¬ (m : Int) = (m2 : Int) := by omega
  have HT : Aside (res = false) := by
   show _ = _
   rw [← HR.out]
   unfold sameF
   rw [decide_eq_false (fun e => by have h1 := HN.out; have h2 := HN2.out; rw [e] at h1; omega)]
   rfl
  have h9 := HT.out
  clear HR HT
  subst h9
  go_enter Try.func26, Try.ntmps26
  go_wp2
  go_ret
  exact ⟨rfl, by (repeat' (first | exact Below.refl _ _ | assumption | (with_reducible refine Below.drew ?_) | (with_reducible refine Below.setCell ?_ (by (first | (simp; done) | (simp; omega))) _) | (with_reducible refine below_drewN' ?_ _) | (refine Below.alloc ?_ (by (try simp only [World.size_alloc, World.size_drew, World.size_setCell]); omega) _) | (refine Below.trans ?_ (Below.mono (by assumption) (by (try simp only [World.size_alloc, World.size_drew, World.size_setCell]); omega)))))⟩
 obtain rfl : m = m2 := by omega
 clear hmm
 go_enter Try.func26, Try.ntmps26
 go_wp2_with fail
 obtain ⟨wa, hwa⟩ : ∃ u, u = (w.alloc (.cells #[vl, vd, .slice a m cp, .int .i64 gn, .int .i64 gr, .bool go, vw] 51)).alloc (.cells #[ul, ud, .slice a2 m cp2, .int .i64 hn, .int .i64 hr, .bool ho, uw] 51) := ⟨_, rfl⟩
 have hb0 : wa.heap[w.heap.size]? = some (.cells #[vl, vd, .slice a m cp, .int .i64 gn, .int .i64 gr, .bool go, vw] 51 (0, 0)) := by rw [hwa]; exact (Below.heap_alloc _ _ _ (by simp)).trans (World.alloc_heap_new _ _)
 have hb1 : wa.heap[w.heap.size + 1]? = some (.cells #[ul, ud, .slice a2 m cp2, .int .i64 hn, .int .i64 hr, .bool ho, uw] 51 (0, 0)) := by rw [hwa]; exact World.alloc_heap_new' _ _ _ (by simp)
 have BA : Aside (Below w.heap.size w wa) := by rw [hwa]; (repeat' (first | exact Below.refl _ _ | assumption | (with_reducible refine Below.drew ?_) | (with_reducible refine Below.setCell ?_ (by (first | (simp; done) | (simp; omega))) _) | (with_reducible refine below_drewN' ?_ _) | (refine Below.alloc ?_ (by (try simp only [World.size_alloc, World.size_drew, World.size_setCell]); omega) _) | (refine Below.trans ?_ (Below.mono (by assumption) (by (try simp only [World.size_alloc, World.size_drew, World.size_setCell]); omega)))))
 have k00 := blk_cell hb0 (i := 0) (x := vl) rfl
 have k01 := blk_cell hb0 (i := 1) (x := vd) rfl
 have k02 := blk_cell hb0 (i := 2) (x := .slice a m cp) rfl
 have k03 := blk_cell hb0 (i := 3) (x := .int .i64 gn) rfl
 have k04 := blk_cell hb0 (i := 4) (x := .int .i64 gr) rfl
 have k05 := blk_cell hb0 (i := 5) (x := .bool go) rfl
 have k06 := blk_cell hb0 (i := 6) (x := vw) rfl
 have k10 := blk_cell hb1 (i := 0) (x := ul) rfl
 have k11 := blk_cell hb1 (i := 1) (x := ud) rfl
 have k12 := blk_cell hb1 (i := 2) (x := .slice a2 m cp2) rfl
 have k13 := blk_cell hb1 (i := 3) (x := .int .i64 hn) rfl
 have k14 := blk_cell hb1 (i := 4) (x := .int .i64 hr) rfl
 have k15 := blk_cell hb1 (i := 5) (x := .bool ho) rfl
 have k16 := blk_cell hb1 (i := 6) (x := uw) rfl
 rw [← hwa]
 clear hwa hb0 hb1
 go_loopg [5] m (fun gg i wr => ∃ k : Nat, k ≤ m ∧ m - k ≤ gg ∧ i = .int .i64 k ∧ Below wa.heap.size wa wr ∧ Aside (∀ j, j < k → g.inn[j]? = h.inn[j]?))
 case atStart => exact ⟨0, Nat.zero_le _, by omega, rfl, Below.refl _ _, fun j h => absurd h (Nat.not_lt_zero j)⟩
 case round =>
  obtain ⟨k, hk, hg, rfl, hbr, HA⟩ := hrel
  have BW : Aside (Below w.heap.size w wr) := Below.trans BA.out (hbr.mono (Below.size BA.out))
  replace k00 := keepc hbr k00; replace k01 := keepc hbr k01; replace k02 := keepc hbr k02; replace k03 := keepc hbr k03; replace k04 := keepc hbr k04; replace k05 := keepc hbr k05; replace k06 := keepc hbr k06; replace k10 := keepc hbr k10; replace k11 := keepc hbr k11; replace k12 := keepc hbr k12; replace k13 := keepc hbr k13; replace k14 := keepc hbr k14; replace k15 := keepc hbr k15; replace k16 := keepc hbr k16
  by_cases hlt : k < m
  ·have hltz : (k : Int) < (m : Int) := by omega
   obtain ⟨x, hx⟩ : ∃ x, g.inn[k]? = some x := ⟨_, List.getElem?_eq_getElem (by rw [HN.out]; exact hlt)⟩
   obtain ⟨y, hy⟩ : ∃ x, h.inn[k]? = some x := ⟨_, List.getElem?_eq_getElem (by rw [HN2.out]; exact hlt)⟩
   obtain ⟨B, off, rfl, hBlt, hcl⟩ := HS.out (by intro e; rw [e] at hx; simp at hx)
   obtain ⟨B2, off2, rfl, hBlt2, hcl2⟩ := HS2.out (by intro e; rw [e] at hy; simp at hy)
   have kx : wr.cell? ⟨B, off + k, none⟩ = some (.bool x) := by have := hcl k x hx 0 _ rfl; exact keepc hbr (keepc BA.out (by simpa using this))
   have ky : wr.cell? ⟨B2, off2 + k, none⟩ = some (.bool y) := by have := hcl2 k y hy 0 _ rfl; exact keepc hbr (keepc BA.out (by simpa using this))
   have HXK : Aside (g.inn[k]? = some x) := hx
   have HYK : Aside (h.inn[k]? = some y) := hy
   clear hcl hx hcl2 hy
   by_cases h6 : x = y
   ·have HA2 : Aside (∀ j, j < k + 1 → g.inn[j]? = h.inn[j]?) := by
     intro j hj
     by_cases hjk : j = k
     ·subst hjk; rw [HXK.out, HYK.out, h6]
     ·exact HA.out j (by omega)
    subst h6
    go_wp2_with fail
    go_region
    go_wp2_with fail
    go_roundg (m - (k + 1))
    case measure => omega
    case rel => exact ⟨k + 1, by omega, by omega, by go_num, by (repeat' (first | exact Below.refl _ _ | assumption | (with_reducible refine Below.drew ?_) | (with_reducible refine Below.setCell ?_ (by (first | (simp; done) | (simp; omega))) _) | (with_reducible refine below_drewN' ?_ _) | (refine Below.alloc ?_ (by (try simp only [World.size_alloc, World.size_drew, World.size_setCell]); omega) _) | (refine Below.trans ?_ (Below.mono (by assumption) (by (try simp only [World.size_alloc, World.size_drew, World.size_setCell]); omega))))), HA2.out⟩
   ·have HT : Aside (res = false) := by
     show _ = _
     rw [← HR.out]
     unfold sameF
     rw [decide_eq_false (fun e => h6 (by
      have h1 := HXK.out
      rw [e, HYK.out] at h1
      exact (Option.some.inj h1).symm))]
     rfl
    have h9 := HT.out
    clear HR HT
    subst h9
    have h6b : (x == y) = false := beq_false_of_ne h6
    have h6c : (x != y) = true := bne_iff_ne.2 h6
    go_wp2_with fail
    go_region
    go_wp2
    go_ret
    exact ⟨rfl, BW.out.trans (by (repeat' (first | exact Below.refl _ _ | assumption | (with_reducible refine Below.drew ?_) | (with_reducible refine Below.setCell ?_ (by (first | (simp; done) | (simp; omega))) _) | (with_reducible refine below_drewN' ?_ _) | (refine Below.alloc ?_ (by (try simp only [World.size_alloc, World.size_drew, World.size_setCell]); omega) _) | (refine Below.trans ?_ (Below.mono (by assumption) (by (try simp only [World.size_alloc, World.size_drew, World.size_setCell]); omega))))))⟩
  ·have hltz : ¬ (k : Int) < (m : Int) := by omega
   have hke : k = m := by omega
   subst hke
   have HI : g.inn = h.inn := by
    refine List.ext_getElem? fun j => ?_
    by_cases hj : j < k
    ·exact HA.out j hj
    ·rw [List.getElem?_eq_none (by have := HN.out; omega), List.getElem?_eq_none (by have := HN2.out; omega)]
   have HT : Aside ((decide (g.left = h.left) && (decide (g.darts = h.darts) && (decide (g.wins = h.wins) && (decide (gn = hn) && (decide (gr = hr) && decide (go = ho)))))) = res) := by
    show _ = _
    obtain ⟨g1, g2, g3, g4, g5, g6⟩ := G.out
    rw [← HR.out]
    unfold sameF
    rw [decide_eq_true HI, g1, g2, g3, g4, g5, g6]
    rfl
   clear HR HI HA G hg hk
   have C1 : ∀ W, Below w.heap.size w W → Calls Try.prog 51 #[vl, ul] W (Ret (.bool (decide (g.left = h.left))) W) := fun W hW => rints_any _ _ _ _ _ (SL.out.1.below hW) (SL.out.2.below hW)
   have C2 : ∀ W, Below w.heap.size w W → Calls Try.prog 51 #[vd, ud] W (Ret (.bool (decide (g.darts = h.darts))) W) := fun W hW => rints_any _ _ _ _ _ (SD.out.1.below hW) (SD.out.2.below hW)
   have C3 : ∀ W, Below w.heap.size w W → Calls Try.prog 51 #[vw, uw] W (Ret (.bool (decide (g.wins = h.wins))) W) := fun W hW => rints_any _ _ _ _ _ (SW.out.1.below hW) (SW.out.2.below hW)
   generalize decide (g.left = h.left) = b1 at C1 HT
   generalize decide (g.darts = h.darts) = b2 at C2 HT
   generalize decide (g.wins = h.wins) = b3 at C3 HT
   have X1 : Aside (∀ W, Below w.heap.size w W → Calls Try.prog 51 #[vl, ul] W (Ret (.bool b1) W)) := C1
   have X2 : Aside (∀ W, Below w.heap.size w W → Calls Try.prog 51 #[vd, ud] W (Ret (.bool b2) W)) := C2
   have X3 : Aside (∀ W, Below w.heap.size w W → Calls Try.prog 51 #[vw, uw] W (Ret (.bool b3) W)) := C3
   clear C1 C2 C3 SL SD SW HS HS2 hbr BA KL e1
   cases b1 with
   | false =>
    go_wp2_with fail
    refine (X1.out _ BW.out).mono ?_
    rintro e w1 ⟨rfl, hbw1⟩
    replace BW : Aside (Below w.heap.size w w1) := BW.out.trans (hbw1.mono (Below.size BW.out))
    replace k00 := keepc hbw1 k00; replace k01 := keepc hbw1 k01; replace k02 := keepc hbw1 k02; replace k03 := keepc hbw1 k03; replace k04 := keepc hbw1 k04; replace k05 := keepc hbw1 k05; replace k06 := keepc hbw1 k06; replace k10 := keepc hbw1 k10; replace k11 := keepc hbw1 k11; replace k12 := keepc hbw1 k12; replace k13 := keepc hbw1 k13; replace k14 := keepc hbw1 k14; replace k15 := keepc hbw1 k15; replace k16 := keepc hbw1 k16
    clear hbw1
    have h9 := HT.out
    clear HT
    replace h9 : false = res := h9
    subst h9
    go_wp2
    go_ret
    exact ⟨rfl, BW.out⟩
   | true =>
    go_wp2_with fail
    refine (X1.out _ BW.out).mono ?_
    rintro e w1 ⟨rfl, hbw1⟩
    replace BW : Aside (Below w.heap.size w w1) := BW.out.trans (hbw1.mono (Below.size BW.out))
    replace k00 := keepc hbw1 k00; replace k01 := keepc hbw1 k01; replace k02 := keepc hbw1 k02; replace k03 := keepc hbw1 k03; replace k04 := keepc hbw1 k04; replace k05 := keepc hbw1 k05; replace k06 := keepc hbw1 k06; replace k10 := keepc hbw1 k10; replace k11 := keepc hbw1 k11; replace k12 := keepc hbw1 k12; replace k13 := keepc hbw1 k13; replace k14 := keepc hbw1 k14; replace k15 := keepc hbw1 k15; replace k16 := keepc hbw1 k16
    clear hbw1
    cases b2 with
    | false =>
     go_wp2_with fail
     refine (X2.out _ BW.out).mono ?_
     rintro e w2 ⟨rfl, hbw2⟩
     replace BW : Aside (Below w.heap.size w w2) := BW.out.trans (hbw2.mono (Below.size BW.out))
     replace k00 := keepc hbw2 k00; replace k01 := keepc hbw2 k01; replace k02 := keepc hbw2 k02; replace k03 := keepc hbw2 k03; replace k04 := keepc hbw2 k04; replace k05 := keepc hbw2 k05; replace k06 := keepc hbw2 k06; replace k10 := keepc hbw2 k10; replace k11 := keepc hbw2 k11; replace k12 := keepc hbw2 k12; replace k13 := keepc hbw2 k13; replace k14 := keepc hbw2 k14; replace k15 := keepc hbw2 k15; replace k16 := keepc hbw2 k16
     clear hbw2
     have h9 := HT.out
     clear HT
     replace h9 : false = res := h9
     subst h9
     go_wp2
     go_ret
     exact ⟨rfl, BW.out⟩
    | true =>
     go_wp2_with fail
     refine (X2.out _ BW.out).mono ?_
     rintro e w2 ⟨rfl, hbw2⟩
     replace BW : Aside (Below w.heap.size w w2) := BW.out.trans (hbw2.mono (Below.size BW.out))
     replace k00 := keepc hbw2 k00; replace k01 := keepc hbw2 k01; replace k02 := keepc hbw2 k02; replace k03 := keepc hbw2 k03; replace k04 := keepc hbw2 k04; replace k05 := keepc hbw2 k05; replace k06 := keepc hbw2 k06; replace k10 := keepc hbw2 k10; replace k11 := keepc hbw2 k11; replace k12 := keepc hbw2 k12; replace k13 := keepc hbw2 k13; replace k14 := keepc hbw2 k14; replace k15 := keepc hbw2 k15; replace k16 := keepc hbw2 k16
     clear hbw2
     cases b3 with
     | false =>
      go_wp2_with fail
      refine (X3.out _ BW.out).mono ?_
      rintro e w3 ⟨rfl, hbw3⟩
      replace BW : Aside (Below w.heap.size w w3) := BW.out.trans (hbw3.mono (Below.size BW.out))
      replace k00 := keepc hbw3 k00; replace k01 := keepc hbw3 k01; replace k02 := keepc hbw3 k02; replace k03 := keepc hbw3 k03; replace k04 := keepc hbw3 k04; replace k05 := keepc hbw3 k05; replace k06 := keepc hbw3 k06; replace k10 := keepc hbw3 k10; replace k11 := keepc hbw3 k11; replace k12 := keepc hbw3 k12; replace k13 := keepc hbw3 k13; replace k14 := keepc hbw3 k14; replace k15 := keepc hbw3 k15; replace k16 := keepc hbw3 k16
      clear hbw3
      have h9 := HT.out
      clear HT
      replace h9 : false = res := h9
      subst h9
      go_wp2
      go_ret
      exact ⟨rfl, BW.out⟩
     | true =>
      go_wp2_with fail
      refine (X3.out _ BW.out).mono ?_
      rintro e w3 ⟨rfl, hbw3⟩
      replace BW : Aside (Below w.heap.size w w3) := BW.out.trans (hbw3.mono (Below.size BW.out))
      replace k00 := keepc hbw3 k00; replace k01 := keepc hbw3 k01; replace k02 := keepc hbw3 k02; replace k03 := keepc hbw3 k03; replace k04 := keepc hbw3 k04; replace k05 := keepc hbw3 k05; replace k06 := keepc hbw3 k06; replace k10 := keepc hbw3 k10; replace k11 := keepc hbw3 k11; replace k12 := keepc hbw3 k12; replace k13 := keepc hbw3 k13; replace k14 := keepc hbw3 k14; replace k15 := keepc hbw3 k15; replace k16 := keepc hbw3 k16
      clear hbw3
      by_cases h4 : gn = hn
      ·have h4d : Aside (decide (gn = hn) = true) := decide_eq_true h4
       by_cases h5 : gr = hr
       ·have h5d : Aside (decide (gr = hr) = true) := decide_eq_true h5
        by_cases h6 : go = ho
        ·replace HT : Aside (true = res) := by show _ = _; rw [← HT.out, h4d.out, h5d.out, decide_eq_true h6]; rfl
         clear h4d h5d
         have h9 := HT.out
         clear HT
         subst h9
         subst h4
         subst h5
         subst h6
         go_wp2
         go_ret
         exact ⟨rfl, BW.out⟩
        ·replace HT : Aside (false = res) := by show _ = _; rw [← HT.out, h4d.out, h5d.out, decide_eq_false h6]; rfl
         have h6b : (go == ho) = false := beq_false_of_ne h6
         clear h4d h5d
         have h9 := HT.out
         clear HT
         subst h9
         subst h4
         subst h5
         go_wp2
         go_ret
         exact ⟨rfl, BW.out⟩
       ·replace HT : Aside (false = res) := by show _ = _; rw [← HT.out, h4d.out, decide_eq_false h5]; rfl
        clear h4d
        have h9 := HT.out
        clear HT
        subst h9
        subst h4
        go_wp2
        go_ret
        exact ⟨rfl, BW.out⟩
      ·replace HT : Aside (false = res) := by show _ = _; rw [← HT.out, decide_eq_false h4]; rfl
       have h9 := HT.out
       clear HT
       subst h9
       go_wp2
       go_ret
       exact ⟨rfl, BW.out⟩
end
section
open Go.RowKit Go.Maps Go.Sort Go.Shelf Go.Deep
theorem flat_eI (xs : List Int) : (xs.map eI).flatten = xs.map (Value.int .i64) := by
 induction xs with
 | nil => rfl
 | cons x xs ih => simp only [List.map_cons, List.flatten_cons, ih]; rfl
theorem mn_fold {d : Int} {l : List Int} (h : l[0]? = some d) : l.foldl min d = mn l := by
 cases l with
 | nil => simp at h
 | cons x xs => simp at h; subst h; simp [mn]
end
end Go.Proofs.Ytgmlcgifagbjmaa
