/- Leg: parts Q, I. -/
import Derived.Test.YtgmlcgifagbjmaaPah
import Derived.Test.YtgmlcgifagbjmaaPaf
set_option linter.unusedVariables false
set_option linter.unusedSimpArgs false
namespace Go.Proofs.Ytgmlcgifagbjmaa
section
open Go.RowKit Go.Maps Go.Sort Go.Shelf
def eRow {α : Type} (x : Value × List α) : List Value := [x.1]
def offL : List Int → List (List (Int × Int)) → Int × Int
 | st, [] => if 1 < st.length then (0, 31) else (st[0]?.getD 0, 0)
 | st, ds :: rest => if st.length = 1 then (0, 33) else if ds.length ≠ st.length then (0, 4) else if (ds.any fun d => !offOk d) = true then (0, 2) else offL (nearL st ds) rest
def offF (n : Int) (rows : List (List (Int × Int))) : Int × Int :=
 if inb 1 8 n = true then (if 50 < rows.length then (0, 5) else offL (evL n.toNat) rows) else (0, 3)
/-- Players who are still in question. -/
structure Stay (st : List Int) : Prop where
 nodup : st.Nodup
 ne : st ≠ []
 len : st.length ≤ 8
 bd : ∀ p ∈ st, 0 ≤ p ∧ p ≤ 1000
theorem stay_ev {n : Nat} (h1 : 1 ≤ n) (h8 : n ≤ 8) : Stay (evL n) := by
 refine ⟨?_, by intro e; have := evL_length n; rw [e] at this; simp at this; omega, by rw [evL_length]; exact h8, fun p hp => ?_⟩
 ·unfold evL
  exact List.pairwise_map.2 ((List.nodup_range).imp (fun hne e => hne (Int.ofNat.inj e)))
 ·obtain ⟨k, hk, rfl⟩ := List.mem_map.1 hp
  have := List.mem_range.1 hk
  constructor
  ·exact Int.natCast_nonneg k
  ·show ((k : Nat) : Int) ≤ 1000; omega
theorem stay_near {st : List Int} {ds : List (Int × Int)} (h : Stay st) (hl : ds.length = st.length) : Stay (nearL st ds) := by
 have hk := farP_keys hl
 have hln := farP_length hl
 have hsub : (leastU (mn ((farP st ds).map (·.2))) (farP st ds)).Sublist st := by
  rw [← hk]
  unfold leastU
  rw [hk]
  have := (List.filter_sublist (l := farP st ds) (p := fun p => p.2 == mn ((farP st ds).map (·.2)))).map (fun p => p.1)
  rw [hk] at this
  exact this
 have hp : (nearL st ds).Perm (leastU (mn ((farP st ds).map (·.2))) (farP st ds)) := List.mergeSort_perm _ _
 refine ⟨hp.symm.nodup (h.nodup.sublist hsub), fun e => ?_, by rw [hp.length_eq]; exact Nat.le_trans hsub.length_le h.len, fun p hpp => h.bd p (hsub.subset (hp.mem_iff.1 hpp))⟩
 rw [e] at hp
 refine leastU_ne (ps := farP st ds) (fun e2 => ?_) hp.symm.eq_nil
 rw [e2] at hln
 have := h.ne
 exact this (List.eq_nil_of_length_eq_zero (by simpa using hln.symm))
/-- What holds at the head of a round. -/
def OffInv (st : List Int) (rest : List (List (Int × Int))) (res : Int × Int) (w : World) (v : Value) (wr : World) : Prop :=
 Stay st ∧ offL st rest = res ∧ Sl wr 1 eI v st ∧ Below w.heap.size w wr
set_option maxRecDepth 100000 in
set_option maxHeartbeats 8000000 in
theorem Off_any (n : Int) (v : Value) (rows : List (Value × List (Int × Int))) (w : World) (hv : Sl w 1 eRow v rows) (hr : ∀ x ∈ rows, Sl w 2 encP x.1 x.2)
  (hb : ∀ x ∈ rows, ∀ d ∈ x.2, (-9223372036854775808 ≤ d.1 ∧ d.1 ≤ 9223372036854775807) ∧ -9223372036854775808 ≤ d.2 ∧ d.2 ≤ 9223372036854775807) :
  Calls Try.prog 29 #[.int .i64 n, v] w (Ret (.tuple #[.int .i64 (offF n (rows.map (·.2))).1, .int .i64 (offF n (rows.map (·.2))).2]) w) := by
 have y1 := fun W k hk t => within_any 1 8 _ [n] _ (sl_one W k hk t n)
 simp only [List.all_cons, List.all_nil, Bool.and_true] at y1
 have HF : Aside (offF n (rows.map (·.2)) = if inb 1 8 n = true then (if 50 < rows.length then (0, 5) else offL (evL n.toNat) (rows.map (·.2))) else (0, 3)) := by
  show _ = _
  unfold offF; rw [List.length_map]
 generalize offF n (rows.map (·.2)) = res at *
 obtain ⟨a, cp, rfl, hl, hs⟩ := hv
 obtain ⟨m, hm⟩ : ∃ m, rows.length = m := ⟨_, rfl⟩
 have HN : Aside (rows.length = m) := hm
 have HS : Aside (rows ≠ [] → ∃ b off, a = some ⟨b, off, none⟩ ∧ b < w.heap.size ∧ ∀ j x, rows[j]? = some x → ∀ i y, (eRow x)[i]? = some y → w.cell? ⟨b, off + j * 1 + i, none⟩ = some y) := hs
 have HX : Aside ((∀ x ∈ rows, Sl w 2 encP x.1 x.2) ∧ ∀ x ∈ rows, ∀ d ∈ x.2, (-9223372036854775808 ≤ d.1 ∧ d.1 ≤ 9223372036854775807) ∧ -9223372036854775808 ≤ d.2 ∧ d.2 ≤ 9223372036854775807) := ⟨hr, hb⟩
 rw [hm] at hl HF ⊢
 clear hs hr hb hm
 cases hi : inb 1 8 n with
 | false =>
  rw [hi] at y1
  have HR : Aside (res = (0, 3)) := by
   show _ = _
   rw [HF.out, if_neg (by rw [hi]; simp)]
  clear HF hi
  go_enter Try.func29, Try.ntmps29
  go_wp2_with (go_at_call 47; (with_reducible refine (y1 _ _ (by simp) _).mono ?_); rintro e w1 ⟨rfl, hb1⟩; (obtain ⟨hc1, hf1⟩ := bcell hb1; have z1 := hb1.size; (try simp only [World.size_alloc, World.size_drew, World.size_setCell] at z1); (try have q1a : w.heap.size < w1.heap.size := by omega); (try have q1b : w.heap.size + 1 < w1.heap.size := by omega); (try have q1c : w.heap.size + 1 + 1 < w1.heap.size := by omega); (try have q1d : w.heap.size + 1 + 1 + 1 < w1.heap.size := by omega); (try have q1e : wr.heap.size < w1.heap.size := by omega); (try have q1f : wr.heap.size + 1 < w1.heap.size := by omega)))
  go_ret2
  exact ⟨by rw [HR.out]; rfl, by (repeat' (first | exact Below.refl _ _ | assumption | (with_reducible refine Below.drew ?_) | (with_reducible refine Below.setCell ?_ (by (first | (simp; done) | (simp; omega))) _) | (with_reducible refine below_drewN' ?_ _) | (refine Below.alloc ?_ (by (try simp only [World.size_alloc, World.size_drew, World.size_setCell]); omega) _) | (refine Below.trans ?_ (Below.mono (by assumption) (by (try simp only [World.size_alloc, World.size_drew, World.size_setCell]); omega)))))⟩
 | true =>
  rw [hi] at y1
  have hn : 1 ≤ n ∧ n ≤ 8 := by unfold inb at hi; simpa using hi
  obtain ⟨k0, rfl⟩ : ∃ k : Nat, n = k := ⟨n.toNat, by omega⟩
  by_cases h50 : 50 < m
  ·have HR : Aside (res = (0, 5)) := by
    show _ = _
    rw [HF.out, if_pos hi, if_pos h50]
   have hz : (50 : Int) < (m : Int) := by omega
   clear HF hi hn
   go_enter Try.func29, Try.ntmps29
   go_wp2_with (go_at_call 47; (with_reducible refine (y1 _ _ (by simp) _).mono ?_); rintro e w1 ⟨rfl, hb1⟩; (obtain ⟨hc1, hf1⟩ := bcell hb1; have z1 := hb1.size; (try simp only [World.size_alloc, World.size_drew, World.size_setCell] at z1); (try have q1a : w.heap.size < w1.heap.size := by omega); (try have q1b : w.heap.size + 1 < w1.heap.size := by omega); (try have q1c : w.heap.size + 1 + 1 < w1.heap.size := by omega); (try have q1d : w.heap.size + 1 + 1 + 1 < w1.heap.size := by omega); (try have q1e : wr.heap.size < w1.heap.size := by omega); (try have q1f : wr.heap.size + 1 < w1.heap.size := by omega)))
   go_ret2
   exact ⟨by rw [HR.out]; rfl, by (repeat' (first | exact Below.refl _ _ | assumption | (with_reducible refine Below.drew ?_) | (with_reducible refine Below.setCell ?_ (by (first | (simp; done) | (simp; omega))) _) | (with_reducible refine below_drewN' ?_ _) | (refine Below.alloc ?_ (by (try simp only [World.size_alloc, World.size_drew, World.size_setCell]); omega) _) | (refine Below.trans ?_ (Below.mono (by assumption) (by (try simp only [World.size_alloc, World.size_drew, World.size_setCell]); omega)))))⟩
  ·have HR : Aside (offL (evL k0) (rows.map (·.2)) = res) := by
    show _ = _
    rw [HF.out, if_pos hi, if_neg h50]; simp
   have hz : ¬ ((50 : Int) < (m : Int)) := by omega
   have HST : Aside (Stay (evL k0)) := stay_ev (by omega) (by omega)
   have x2 := fun W => everyone_any k0 W (by omega)
   clear HF hi
   go_enter Try.func29, Try.ntmps29
   go_wp2_with (go_at_call 47; (with_reducible refine (y1 _ _ (by simp) _).mono ?_); rintro e w1 ⟨rfl, hb1⟩; (obtain ⟨hc1, hf1⟩ := bcell hb1; have z1 := hb1.size; (try simp only [World.size_alloc, World.size_drew, World.size_setCell] at z1); (try have q1a : w.heap.size < w1.heap.size := by omega); (try have q1b : w.heap.size + 1 < w1.heap.size := by omega); (try have q1c : w.heap.size + 1 + 1 < w1.heap.size := by omega); (try have q1d : w.heap.size + 1 + 1 + 1 < w1.heap.size := by omega); (try have q1e : wr.heap.size < w1.heap.size := by omega); (try have q1f : wr.heap.size + 1 < w1.heap.size := by omega)))
   refine (x2 _).mono ?_
   rintro e w2 ⟨v2, rfl, hrow2, hnil2, hb2⟩
   have B1 : Aside (Below w.heap.size w w1) := by (repeat' (first | exact Below.refl _ _ | assumption | (with_reducible refine Below.drew ?_) | (with_reducible refine Below.setCell ?_ (by (first | (simp; done) | (simp; omega))) _) | (with_reducible refine below_drewN' ?_ _) | (refine Below.alloc ?_ (by (try simp only [World.size_alloc, World.size_drew, World.size_setCell]); omega) _) | (refine Below.trans ?_ (Below.mono (by assumption) (by (try simp only [World.size_alloc, World.size_drew, World.size_setCell]); omega)))))
   have HI : Aside (OffInv (evL k0) (rows.map (·.2)) res w v2 w2) := ⟨HST.out, HR.out, sl_of_owns (by rw [evL_length]; omega) hrow2 rfl (fun e => hnil2.2 e), B1.out.trans (hb2.mono B1.out.size)⟩
   clear hrow2 hnil2 hb2 hb1 hc1 hf1 x2 y1 HR HST B1
   go_wp2_with fail
   go_loopg [6, 20] m (fun gg sv i wr => ∃ (k : Nat) (st : List Int) (a1 : Option Addr) (c1 : Nat), k ≤ m ∧ m - k ≤ gg ∧ i = .int .i64 k ∧ sv = .slice a1 st.length c1 ∧ Aside (OffInv st ((rows.map (·.2)).drop k) res w (.slice a1 st.length c1) wr))
   case atStart =>
    obtain ⟨h1, h2, ⟨a1, c1, rfl, h3⟩, h4⟩ := HI.out
    exact ⟨0, evL k0, a1, c1, Nat.zero_le _, by omega, rfl, rfl, h1, by rw [List.drop_zero]; exact h2, ⟨a1, c1, rfl, h3⟩, h4⟩
   case round =>
    clear HI
    obtain ⟨k, st, a1, c1, hk, hg, rfl, rfl, HI⟩ := hrel
    obtain ⟨hst, hre, hsl, hbw⟩ := HI.out
    have HST : Aside (Stay st) := hst
    have HRE : Aside (offL st ((rows.map (·.2)).drop k) = res) := hre
    have HSL : Aside (Sl wr 1 eI (.slice a1 st.length c1) st) := hsl
    have HBW : Aside (Below w.heap.size w wr) := hbw
    have hq1 : 1 ≤ st.length := List.length_pos_iff.2 hst.ne
    have hq8 := hst.len
    clear hst hre hbw HI
    by_cases hlt : k < m
    ·have hltz : (k : Int) < (m : Int) := by omega
     obtain ⟨x, hx⟩ : ∃ x, rows[k]? = some x := ⟨_, List.getElem?_eq_getElem (by rw [HN.out]; exact hlt)⟩
     obtain ⟨B, off, rfl, hBlt, hcl⟩ := HS.out (by intro e; rw [e] at hx; simp at hx)
     have kx : wr.cell? ⟨B, off + k, none⟩ = some x.1 := keepc HBW.out (by have := hcl k x hx 0 x.1 rfl; simpa using this)
     have hxm := List.mem_of_getElem? hx
     have HXS : Aside (Sl wr 2 encP x.1 x.2) := (HX.out.1 x hxm).below HBW.out
     have HXB : Aside (∀ d ∈ x.2, (-9223372036854775808 ≤ d.1 ∧ d.1 ≤ 9223372036854775807) ∧ -9223372036854775808 ≤ d.2 ∧ d.2 ≤ 9223372036854775807) := HX.out.2 x hxm
     have HRE2 : Aside (offL st (x.2 :: (rows.map (·.2)).drop (k + 1)) = res) := by
      obtain ⟨h1, h2⟩ := List.getElem?_eq_some_iff.1 hx
      have := HRE.out
      rw [List.drop_eq_getElem_cons (by rw [List.length_map]; exact h1), List.getElem_map, h2] at this
      exact this
     obtain ⟨vd, ds⟩ := x
     simp only [] at kx HXS HXB HRE2
     obtain ⟨a3, c3, rfl, hl3, _⟩ := HXS.out
     clear hcl hx hxm HRE hsl
     by_cases hone : st.length = 1
     ·-- @@a
      have HR : Aside (res = (0, 33)) := by
       show _ = _
       rw [← HRE2.out, offL, if_pos hone]
      have hoz : ((st.length : Int) == 1) = true := by rw [beq_iff_eq]; omega
      clear HRE2 hone
      generalize st.length = sl at *
      generalize ds.length = dl at *
      go_wp2
      go_ret2
      exact ⟨by rw [HR.out]; rfl, HBW.out⟩
     ·have hoz : ((st.length : Int) == 1) = false := by rw [beq_eq_false_iff_ne]; omega
      by_cases hlen : ds.length = st.length
      ·have hlz : ((ds.length : Int) != (st.length : Int)) = false := by simp [hlen]
       have x4 := fun W hW => offs_any (fun d => !offOk d) 56 #[] (enters_of Try.func56 (by kernel_rfl) rfl) (.slice a3 ds.length c3) ds W (HXS.out.below hW) (fun W' hW' d hd => wrongOff_any d W' (HXB.out d hd).1.1 (HXB.out d hd).1.2)
       cases hany : (ds.any fun d => !offOk d) with
       | true =>
        rw [hany] at x4
        have HR : Aside (res = (0, 2)) := by
         show _ = _
         rw [← HRE2.out, offL, if_neg hone, if_neg (by simp [hlen]), if_pos hany]
        clear HRE2 hone hlen hany
        generalize st.length = sl at *
        generalize ds.length = dl at *
        go_wp2_with (go_at_call 55; (with_reducible refine (x4 _ (Below.refl _ _)).mono ?_); rintro e w3 ⟨rfl, hb3⟩)
        go_ret2
        exact ⟨by rw [HR.out]; rfl, HBW.out.trans (hb3.mono HBW.out.size)⟩
       | false =>
        rw [hany] at x4
        have HR : Aside (offL (nearL st ds) ((rows.map (·.2)).drop (k + 1)) = res) := by
         show _ = _
         rw [← HRE2.out, offL, if_neg hone, if_neg (by simp [hlen]), if_neg (by rw [hany]; simp)]
        have HST2 : Aside (Stay (nearL st ds)) := stay_near HST.out hlen
        have x5 := fun W hW => nearest_any (.slice a1 st.length c1) (.slice a3 ds.length c3) st ds W (HSL.out.below hW) (HXS.out.below hW) hlen HST.out.nodup HST.out.ne (by omega) HST.out.bd (fun d hd => (HXB.out d hd).2)
        generalize nearL st ds = ns at *
        clear HRE2 hone hlen hany
        generalize st.length = sl at *
        generalize ds.length = dl at *
        go_wp2_with (go_at_call 55; (with_reducible refine (x4 _ (Below.refl _ _)).mono ?_); rintro e w3 ⟨rfl, hb3⟩)
        refine (x5 _ hb3).mono ?_
        rintro e w4 ⟨v4, rfl, hrow4, hnil4, hb4⟩
        have B4 : Aside (Below w.heap.size w w4) := (HBW.out.trans (hb3.mono HBW.out.size)).trans (hb4.mono (Nat.le_trans HBW.out.size hb3.size))
        have S4 : Aside (Sl w4 1 eI v4 ns) := sl_of_owns (by have := HST2.out.len; omega) hrow4 rfl (fun e => hnil4.2 e)
        obtain ⟨a4, c4, rfl, _, _⟩ := S4.out
        clear hrow4 hnil4 hb4 hb3 x4 x5 kx
        go_wp2_with fail
        go_roundg (m - (k + 1))
        case measure => omega
        case rel => exact ⟨k + 1, ns, a4, c4, by omega, by omega, by go_num, rfl, HST2.out, HR.out, S4.out, B4.out⟩
      ·-- @@d
       have HR : Aside (res = (0, 4)) := by
        show _ = _
        rw [← HRE2.out, offL, if_neg hone, if_pos hlen]
       have hlz : ((ds.length : Int) != (st.length : Int)) = true := by simpa using (by omega : ¬ (ds.length : Int) = st.length)
       clear HRE2 hone hlen
       generalize st.length = sl at *
       generalize ds.length = dl at *
       go_wp2
       go_ret2
       exact ⟨by rw [HR.out]; rfl, HBW.out⟩
    ·-- @@e
     have hltz : ¬ (k : Int) < (m : Int) := by omega
     have : k = m := by omega
     subst this
     have HRE2 : Aside (offL st [] = res) := by
      have := HRE.out
      rw [List.drop_of_length_le (by rw [List.length_map, HN.out]; exact Nat.le_refl _)] at this
      exact this
     by_cases hmore : 1 < st.length
     ·have HR : Aside (res = (0, 31)) := by
       show _ = _
       rw [← HRE2.out, offL, if_pos hmore]
      have hmz : (1 : Int) < (st.length : Int) := by omega
      clear HRE HRE2 hmore hsl
      generalize st.length = sl at *
      go_wp2
      go_ret2
      exact ⟨by rw [HR.out]; rfl, HBW.out⟩
     ·obtain ⟨p, hp⟩ : ∃ p, st[0]? = some p := ⟨_, List.getElem?_eq_getElem (by omega)⟩
      have HR : Aside (res = (p, 0)) := by
       show _ = _
       rw [← HRE2.out, offL, if_neg hmore, hp]; rfl
      have hmz : ¬ (1 : Int) < (st.length : Int) := by omega
      obtain ⟨a5, c5, e5, _, hs5⟩ := hsl
      simp only [Value.slice.injEq] at e5
      obtain ⟨rfl, _, rfl⟩ := e5
      obtain ⟨B5, o5, rfl, hB5, hc5⟩ := hs5 HST.out.ne
      have k5 : wr.cell? ⟨B5, o5, none⟩ = some (.int .i64 p) := by have := hc5 0 p hp 0 (.int .i64 p) rfl; simpa using this
      have hl5 : (0 : Int) < (st.length : Int) := by omega
      clear HRE HRE2 hmore hs5 hc5 hp HSL
      generalize st.length = sl at *
      go_wp2
      go_ret2
      exact ⟨by rw [HR.out]; rfl, HBW.out⟩
end
section
open Go.RowKit Go.Shelf
def mtlV (m : MtL) : Value := .agg #[.int .i64 m.legs, .int .i64 m.sets, .int .i64 m.clear, .int .i64 m.extra, .int .i64 m.first]
/-- A match and its laws in block V. -/
def MtAt (w : World) (V : Nat) (g : Mt) (f : Int) (m : MtL) : Prop :=
 w.heap[V]? = some (.cells #[.int .i64 g.s0, .int .i64 g.s1, .int .i64 g.l0, .int .i64 g.l1, .int .i64 f, .int .i64 g.win, .int .i64 m.legs, .int .i64 m.sets, .int .i64 m.clear, .int .i64 m.extra, .int .i64 m.first] 125 (0, 0))
set_option maxRecDepth 100000 in
set_option maxHeartbeats 2000000 in
theorem validMatch_any (m : MtL) (w : World) : Calls Try.prog 59 #[mtlV m] w (Ret (.bool (vmt m)) w) := by
 obtain ⟨a, b, c, d, e⟩ := m
 have y := fun lo hi x W k hk t => within_any lo hi _ [x] _ (sl_one W k hk t x)
 simp only [List.all_cons, List.all_nil, Bool.and_true] at y
 have y1 := y 1 25 a
 have y2 := y 1 25 b
 have y3 := y 1 2 c
 have y4 := y 0 25 d
 have y5 := y 0 1 e
 clear y
 unfold vmt mtlV
 simp only []
 generalize inb 1 25 a = r1 at *
 generalize inb 1 25 b = r2 at *
 generalize inb 1 2 c = r3 at *
 generalize inb 0 25 d = r4 at *
 generalize inb 0 1 e = r5 at *
 cases r1 with
 | false =>
  rw [Bool.false_and]
  go_enter Try.func59, Try.ntmps59
  go_wp2_with (first | (go_at_call 47; (with_reducible refine (y1 _ _ (by simp) _).mono ?_); rintro e w1 ⟨rfl, hb1⟩; (obtain ⟨hc1, hf1⟩ := bcell hb1; have z1 := hb1.size; (try simp only [World.size_alloc, World.size_drew, World.size_setCell] at z1); (try have q1a : w.heap.size < w1.heap.size := by omega); (try have q1b : w.heap.size + 1 < w1.heap.size := by omega); (try have q1c : w.heap.size + 1 + 1 < w1.heap.size := by omega); (try have q1d : w.heap.size + 1 + 1 + 1 < w1.heap.size := by omega); (try have q1e : wr.heap.size < w1.heap.size := by omega); (try have q1f : wr.heap.size + 1 < w1.heap.size := by omega))))
  go_ret
  exact ⟨rfl, by (repeat' (first | exact Below.refl _ _ | assumption | (with_reducible refine Below.drew ?_) | (with_reducible refine Below.setCell ?_ (by (first | (simp; done) | (simp; omega))) _) | (with_reducible refine below_drewN' ?_ _) | (refine Below.alloc ?_ (by (try simp only [World.size_alloc, World.size_drew, World.size_setCell]); omega) _) | (refine Below.trans ?_ (Below.mono (by assumption) (by (try simp only [World.size_alloc, World.size_drew, World.size_setCell]); omega)))))⟩
 | true =>
  rw [Bool.true_and]
  cases r2 with
  | false =>
   rw [Bool.false_and]
   go_enter Try.func59, Try.ntmps59
   go_wp2_with (first | (go_at_call 47; (with_reducible refine (y1 _ _ (by simp) _).mono ?_); rintro e w1 ⟨rfl, hb1⟩; (obtain ⟨hc1, hf1⟩ := bcell hb1; have z1 := hb1.size; (try simp only [World.size_alloc, World.size_drew, World.size_setCell] at z1); (try have q1a : w.heap.size < w1.heap.size := by omega); (try have q1b : w.heap.size + 1 < w1.heap.size := by omega); (try have q1c : w.heap.size + 1 + 1 < w1.heap.size := by omega); (try have q1d : w.heap.size + 1 + 1 + 1 < w1.heap.size := by omega); (try have q1e : wr.heap.size < w1.heap.size := by omega); (try have q1f : wr.heap.size + 1 < w1.heap.size := by omega))) | (go_at_call 47; (with_reducible refine (y2 _ _ (by simp) _).mono ?_); rintro e w2 ⟨rfl, hb2⟩; (obtain ⟨hc2, hf2⟩ := bcell hb2; have z2 := hb2.size; (try simp only [World.size_alloc, World.size_drew, World.size_setCell] at z2); (try have q2a : w.heap.size < w2.heap.size := by omega); (try have q2b : w.heap.size + 1 < w2.heap.size := by omega); (try have q2c : w.heap.size + 1 + 1 < w2.heap.size := by omega); (try have q2d : w.heap.size + 1 + 1 + 1 < w2.heap.size := by omega); (try have q2e : wr.heap.size < w2.heap.size := by omega); (try have q2f : wr.heap.size + 1 < w2.heap.size := by omega); (try have q2g : w1.heap.size < w2.heap.size := by omega); (try have q2h : w1.heap.size + 1 < w2.heap.size := by omega))))
   go_ret
   exact ⟨rfl, by (repeat' (first | exact Below.refl _ _ | assumption | (with_reducible refine Below.drew ?_) | (with_reducible refine Below.setCell ?_ (by (first | (simp; done) | (simp; omega))) _) | (with_reducible refine below_drewN' ?_ _) | (refine Below.alloc ?_ (by (try simp only [World.size_alloc, World.size_drew, World.size_setCell]); omega) _) | (refine Below.trans ?_ (Below.mono (by assumption) (by (try simp only [World.size_alloc, World.size_drew, World.size_setCell]); omega)))))⟩
  | true =>
   rw [Bool.true_and]
   cases r3 with
   | false =>
    rw [Bool.false_and]
    go_enter Try.func59, Try.ntmps59
    go_wp2_with (first | (go_at_call 47; (with_reducible refine (y1 _ _ (by simp) _).mono ?_); rintro e w1 ⟨rfl, hb1⟩; (obtain ⟨hc1, hf1⟩ := bcell hb1; have z1 := hb1.size; (try simp only [World.size_alloc, World.size_drew, World.size_setCell] at z1); (try have q1a : w.heap.size < w1.heap.size := by omega); (try have q1b : w.heap.size + 1 < w1.heap.size := by omega); (try have q1c : w.heap.size + 1 + 1 < w1.heap.size := by omega); (try have q1d : w.heap.size + 1 + 1 + 1 < w1.heap.size := by omega); (try have q1e : wr.heap.size < w1.heap.size := by omega); (try have q1f : wr.heap.size + 1 < w1.heap.size := by omega))) | (go_at_call 47; (with_reducible refine (y2 _ _ (by simp) _).mono ?_); rintro e w2 ⟨rfl, hb2⟩; (obtain ⟨hc2, hf2⟩ := bcell hb2; have z2 := hb2.size; (try simp only [World.size_alloc, World.size_drew, World.size_setCell] at z2); (try have q2a : w.heap.size < w2.heap.size := by omega); (try have q2b : w.heap.size + 1 < w2.heap.size := by omega); (try have q2c : w.heap.size + 1 + 1 < w2.heap.size := by omega); (try have q2d : w.heap.size + 1 + 1 + 1 < w2.heap.size := by omega); (try have q2e : wr.heap.size < w2.heap.size := by omega); (try have q2f : wr.heap.size + 1 < w2.heap.size := by omega); (try have q2g : w1.heap.size < w2.heap.size := by omega); (try have q2h : w1.heap.size + 1 < w2.heap.size := by omega))) | (go_at_call 47; (with_reducible refine (y3 _ _ (by simp) _).mono ?_); rintro e w3 ⟨rfl, hb3⟩; (obtain ⟨hc3, hf3⟩ := bcell hb3; have z3 := hb3.size; (try simp only [World.size_alloc, World.size_drew, World.size_setCell] at z3); (try have q3a : w.heap.size < w3.heap.size := by omega); (try have q3b : w.heap.size + 1 < w3.heap.size := by omega); (try have q3c : w.heap.size + 1 + 1 < w3.heap.size := by omega); (try have q3d : w.heap.size + 1 + 1 + 1 < w3.heap.size := by omega); (try have q3e : wr.heap.size < w3.heap.size := by omega); (try have q3f : wr.heap.size + 1 < w3.heap.size := by omega); (try have q3g : w2.heap.size < w3.heap.size := by omega); (try have q3h : w2.heap.size + 1 < w3.heap.size := by omega))))
    go_ret
    exact ⟨rfl, by (repeat' (first | exact Below.refl _ _ | assumption | (with_reducible refine Below.drew ?_) | (with_reducible refine Below.setCell ?_ (by (first | (simp; done) | (simp; omega))) _) | (with_reducible refine below_drewN' ?_ _) | (refine Below.alloc ?_ (by (try simp only [World.size_alloc, World.size_drew, World.size_setCell]); omega) _) | (refine Below.trans ?_ (Below.mono (by assumption) (by (try simp only [World.size_alloc, World.size_drew, World.size_setCell]); omega)))))⟩
   | true =>
    rw [Bool.true_and]
    cases r4 with
    | false =>
     rw [Bool.false_and]
     go_enter Try.func59, Try.ntmps59
     go_wp2_with (first | (go_at_call 47; (with_reducible refine (y1 _ _ (by simp) _).mono ?_); rintro e w1 ⟨rfl, hb1⟩; (obtain ⟨hc1, hf1⟩ := bcell hb1; have z1 := hb1.size; (try simp only [World.size_alloc, World.size_drew, World.size_setCell] at z1); (try have q1a : w.heap.size < w1.heap.size := by omega); (try have q1b : w.heap.size + 1 < w1.heap.size := by omega); (try have q1c : w.heap.size + 1 + 1 < w1.heap.size := by omega); (try have q1d : w.heap.size + 1 + 1 + 1 < w1.heap.size := by omega); (try have q1e : wr.heap.size < w1.heap.size := by omega); (try have q1f : wr.heap.size + 1 < w1.heap.size := by omega))) | (go_at_call 47; (with_reducible refine (y2 _ _ (by simp) _).mono ?_); rintro e w2 ⟨rfl, hb2⟩; (obtain ⟨hc2, hf2⟩ := bcell hb2; have z2 := hb2.size; (try simp only [World.size_alloc, World.size_drew, World.size_setCell] at z2); (try have q2a : w.heap.size < w2.heap.size := by omega); (try have q2b : w.heap.size + 1 < w2.heap.size := by omega); (try have q2c : w.heap.size + 1 + 1 < w2.heap.size := by omega); (try have q2d : w.heap.size + 1 + 1 + 1 < w2.heap.size := by omega); (try have q2e : wr.heap.size < w2.heap.size := by omega); (try have q2f : wr.heap.size + 1 < w2.heap.size := by omega); (try have q2g : w1.heap.size < w2.heap.size := by omega); (try have q2h : w1.heap.size + 1 < w2.heap.size := by omega))) | (go_at_call 47; (with_reducible refine (y3 _ _ (by simp) _).mono ?_); rintro e w3 ⟨rfl, hb3⟩; (obtain ⟨hc3, hf3⟩ := bcell hb3; have z3 := hb3.size; (try simp only [World.size_alloc, World.size_drew, World.size_setCell] at z3); (try have q3a : w.heap.size < w3.heap.size := by omega); (try have q3b : w.heap.size + 1 < w3.heap.size := by omega); (try have q3c : w.heap.size + 1 + 1 < w3.heap.size := by omega); (try have q3d : w.heap.size + 1 + 1 + 1 < w3.heap.size := by omega); (try have q3e : wr.heap.size < w3.heap.size := by omega); (try have q3f : wr.heap.size + 1 < w3.heap.size := by omega); (try have q3g : w2.heap.size < w3.heap.size := by omega); (try have q3h : w2.heap.size + 1 < w3.heap.size := by omega))) | (go_at_call 47; (with_reducible refine (y4 _ _ (by simp) _).mono ?_); rintro e w4 ⟨rfl, hb4⟩; (obtain ⟨hc4, hf4⟩ := bcell hb4; have z4 := hb4.size; (try simp only [World.size_alloc, World.size_drew, World.size_setCell] at z4); (try have q4a : w.heap.size < w4.heap.size := by omega); (try have q4b : w.heap.size + 1 < w4.heap.size := by omega); (try have q4c : w.heap.size + 1 + 1 < w4.heap.size := by omega); (try have q4d : w.heap.size + 1 + 1 + 1 < w4.heap.size := by omega); (try have q4e : wr.heap.size < w4.heap.size := by omega); (try have q4f : wr.heap.size + 1 < w4.heap.size := by omega); (try have q4g : w3.heap.size < w4.heap.size := by omega); (try have q4h : w3.heap.size + 1 < w4.heap.size := by omega))))
     go_ret
     exact ⟨rfl, by (repeat' (first | exact Below.refl _ _ | assumption | (with_reducible refine Below.drew ?_) | (with_reducible refine Below.setCell ?_ (by (first | (simp; done) | (simp; omega))) _) | (with_reducible refine below_drewN' ?_ _) | (refine Below.alloc ?_ (by (try simp only [World.size_alloc, World.size_drew, World.size_setCell]); omega) _) | (refine Below.trans ?_ (Below.mono (by assumption) (by (try simp only [World.size_alloc, World.size_drew, World.size_setCell]); omega)))))⟩
    | true =>
     rw [Bool.true_and]
     go_enter Try.func59, Try.ntmps59
     go_wp2_with (first | (go_at_call 47; (with_reducible refine (y1 _ _ (by simp) _).mono ?_); rintro e w1 ⟨rfl, hb1⟩; (obtain ⟨hc1, hf1⟩ := bcell hb1; have z1 := hb1.size; (try simp only [World.size_alloc, World.size_drew, World.size_setCell] at z1); (try have q1a : w.heap.size < w1.heap.size := by omega); (try have q1b : w.heap.size + 1 < w1.heap.size := by omega); (try have q1c : w.heap.size + 1 + 1 < w1.heap.size := by omega); (try have q1d : w.heap.size + 1 + 1 + 1 < w1.heap.size := by omega); (try have q1e : wr.heap.size < w1.heap.size := by omega); (try have q1f : wr.heap.size + 1 < w1.heap.size := by omega))) | (go_at_call 47; (with_reducible refine (y2 _ _ (by simp) _).mono ?_); rintro e w2 ⟨rfl, hb2⟩; (obtain ⟨hc2, hf2⟩ := bcell hb2; have z2 := hb2.size; (try simp only [World.size_alloc, World.size_drew, World.size_setCell] at z2); (try have q2a : w.heap.size < w2.heap.size := by omega); (try have q2b : w.heap.size + 1 < w2.heap.size := by omega); (try have q2c : w.heap.size + 1 + 1 < w2.heap.size := by omega); (try have q2d : w.heap.size + 1 + 1 + 1 < w2.heap.size := by omega); (try have q2e : wr.heap.size < w2.heap.size := by omega); (try have q2f : wr.heap.size + 1 < w2.heap.size := by omega); (try have q2g : w1.heap.size < w2.heap.size := by omega); (try have q2h : w1.heap.size + 1 < w2.heap.size := by omega))) | (go_at_call 47; (with_reducible refine (y3 _ _ (by simp) _).mono ?_); rintro e w3 ⟨rfl, hb3⟩; (obtain ⟨hc3, hf3⟩ := bcell hb3; have z3 := hb3.size; (try simp only [World.size_alloc, World.size_drew, World.size_setCell] at z3); (try have q3a : w.heap.size < w3.heap.size := by omega); (try have q3b : w.heap.size + 1 < w3.heap.size := by omega); (try have q3c : w.heap.size + 1 + 1 < w3.heap.size := by omega); (try have q3d : w.heap.size + 1 + 1 + 1 < w3.heap.size := by omega); (try have q3e : wr.heap.size < w3.heap.size := by omega); (try have q3f : wr.heap.size + 1 < w3.heap.size := by omega); (try have q3g : w2.heap.size < w3.heap.size := by omega); (try have q3h : w2.heap.size + 1 < w3.heap.size := by omega))) | (go_at_call 47; (with_reducible refine (y4 _ _ (by simp) _).mono ?_); rintro e w4 ⟨rfl, hb4⟩; (obtain ⟨hc4, hf4⟩ := bcell hb4; have z4 := hb4.size; (try simp only [World.size_alloc, World.size_drew, World.size_setCell] at z4); (try have q4a : w.heap.size < w4.heap.size := by omega); (try have q4b : w.heap.size + 1 < w4.heap.size := by omega); (try have q4c : w.heap.size + 1 + 1 < w4.heap.size := by omega); (try have q4d : w.heap.size + 1 + 1 + 1 < w4.heap.size := by omega); (try have q4e : wr.heap.size < w4.heap.size := by omega); (try have q4f : wr.heap.size + 1 < w4.heap.size := by omega); (try have q4g : w3.heap.size < w4.heap.size := by omega); (try have q4h : w3.heap.size + 1 < w4.heap.size := by omega))) | (go_at_call 47; (with_reducible refine (y5 _ _ (by simp) _).mono ?_); rintro e w5 ⟨rfl, hb5⟩; (obtain ⟨hc5, hf5⟩ := bcell hb5; have z5 := hb5.size; (try simp only [World.size_alloc, World.size_drew, World.size_setCell] at z5); (try have q5a : w.heap.size < w5.heap.size := by omega); (try have q5b : w.heap.size + 1 < w5.heap.size := by omega); (try have q5c : w.heap.size + 1 + 1 < w5.heap.size := by omega); (try have q5d : w.heap.size + 1 + 1 + 1 < w5.heap.size := by omega); (try have q5e : wr.heap.size < w5.heap.size := by omega); (try have q5f : wr.heap.size + 1 < w5.heap.size := by omega); (try have q5g : w4.heap.size < w5.heap.size := by omega); (try have q5h : w4.heap.size + 1 < w5.heap.size := by omega))))
     go_ret
     exact ⟨rfl, by (repeat' (first | exact Below.refl _ _ | assumption | (with_reducible refine Below.drew ?_) | (with_reducible refine Below.setCell ?_ (by (first | (simp; done) | (simp; omega))) _) | (with_reducible refine below_drewN' ?_ _) | (refine Below.alloc ?_ (by (try simp only [World.size_alloc, World.size_drew, World.size_setCell]); omega) _) | (refine Below.trans ?_ (Below.mono (by assumption) (by (try simp only [World.size_alloc, World.size_drew, World.size_setCell]); omega)))))⟩
theorem eqArr (d : Nat) (a b c e : Int) (w : World) : (Op.equalIn (d + 1 + 1) 69 (.agg #[.int .i64 a, .int .i64 b]) (.agg #[.int .i64 c, .int .i64 e])).run Try.prog w = .ok (a == c && b == e) w := by
 unfold Op.equalIn
 simp only [Sem.run_bind, run_underlying Try.underlying69, Result.andThen_ok]
 have h3 : ∀ x y w, (Op.equalIn (d + 1) 3 (.int .i64 x) (.int .i64 y)).run Try.prog w = .ok (x == y) w := fun x y w => run_equalIn_int w d 3 .i64 .i64 x y Try.underlying3
 have hs : ∀ w, (sizeOf 3).run Try.prog w = .ok 1 w := fun w => Try.sizeOf3 w
 simp only [hs, Result.andThen_ok]
 have hp0 : ∀ (x y : Int) w, (part 3 #[Value.int IntKind.i64 x, Value.int IntKind.i64 y] (0 * 1)).run Try.prog w = .ok (.int .i64 x) w := fun _ _ _ => by kernel_rfl
 have hp1 : ∀ (x y : Int) w, (part 3 #[Value.int IntKind.i64 x, Value.int IntKind.i64 y] (1 * 1)).run Try.prog w = .ok (.int .i64 y) w := fun _ _ _ => by kernel_rfl
 have hr : ∀ {β : Type} (f : Nat → β → Sem (ForInStep β)) (z : β), forIn [:2] z f = forIn (m := Sem) [0, 1] z f := by
  intro β f z
  rw [Std.Legacy.Range.forIn_eq_forIn_range']
  rfl
 rw [hr]
 simp only [List.forIn_cons, List.forIn_nil, Sem.run_bind, hp0, h3, Result.andThen_ok]
 cases h1 : (a == c) <;> cases h2 : (b == e) <;> simp [Sem.run_pure, Sem.run_bind, hp1, h3, h2, Result.andThen]
theorem eqArr2 (a b c e : Int) (w : World) : (Op.equalIn 10000 69 (.agg #[.int .i64 a, .int .i64 b]) (.agg #[.int .i64 c, .int .i64 e])).run Try.prog w = .ok (a == c && b == e) w := eqArr 9998 a b c e w
set_option maxRecDepth 100000 in
set_option maxHeartbeats 4000000 in
theorem winsSet0 (V : Nat) (s0 s1 l0 l1 f win : Int) (legs sets clear extra first : Int) (w : World)
  (hV : w.heap[V]? = some (.cells #[.int .i64 s0, .int .i64 s1, .int .i64 l0, .int .i64 l1, .int .i64 f, .int .i64 win, .int .i64 legs, .int .i64 sets, .int .i64 clear, .int .i64 extra, .int .i64 first] 125 (0, 0)))
  (a0 : 0 ≤ l0) (a1 : l0 ≤ 9000000000000000000) (b0 : 0 ≤ l1) (b1 : l1 ≤ 9000000000000000000) (c0 : 0 ≤ sets) (c1 : sets ≤ 25) (d0 : 0 ≤ legs) (d1 : legs ≤ 25) (e0 : 0 ≤ extra) (e1 : extra ≤ 25) :
  Calls Try.prog 80 #[.pointer (some ⟨V, 0, none⟩), .int .i64 0] w (Ret (.bool (setWon ⟨legs, sets, clear, extra, first⟩ s0 s1 l0 l1)) w) := by
 have k0 : w.cell? ⟨V, 0, none⟩ = some (.int .i64 s0) := blk_cell hV rfl
 have k1 : w.cell? ⟨V, 1, none⟩ = some (.int .i64 s1) := blk_cell hV rfl
 have k2 : w.cell? ⟨V, 2, none⟩ = some (.int .i64 l0) := blk_cell hV rfl
 have k3 : w.cell? ⟨V, 3, none⟩ = some (.int .i64 l1) := blk_cell hV rfl
 have k6 : w.cell? ⟨V, 6, none⟩ = some (.int .i64 legs) := blk_cell hV rfl
 have k7 : w.cell? ⟨V, 7, none⟩ = some (.int .i64 sets) := blk_cell hV rfl
 have k8 : w.cell? ⟨V, 8, none⟩ = some (.int .i64 clear) := blk_cell hV rfl
 have k9 : w.cell? ⟨V, 9, none⟩ = some (.int .i64 extra) := blk_cell hV rfl
 clear hV
 have MK : Aside (∀ w', Below w.heap.size w w' → (Below w.heap.size w w' ∧ w'.cell? ⟨V, 2, none⟩ = some (.int .i64 l0) ∧ w'.cell? ⟨V, 3, none⟩ = some (.int .i64 l1))) := fun w' hB => ⟨hB, keepc hB k2, keepc hB k3⟩
 have ew : IntKind.i64.wrap (l0 - l1) = l0 - l1 := IntWalk.i64_in _ (by omega)
 have ew1 : IntKind.i64.wrap 1 = 1 := by decide
 have ew0 : IntKind.i64.wrap 0 = 0 := by decide
 have HS : Aside (setWon ⟨legs, sets, clear, extra, first⟩ s0 s1 l0 l1 = if s0 = sets - 1 ∧ s1 = sets - 1 then (decide (legs ≤ l0) && decide (clear ≤ l0 - l1)) || decide (l0 = legs + extra) else decide (l0 = legs)) := rfl
 generalize setWon ⟨legs, sets, clear, extra, first⟩ s0 s1 l0 l1 = res at *
 have hq := eqArr2 s0 s1 (sets - 1) (sets - 1)
 go_enter Try.func80, Try.ntmps80
 go_wp2_with fail
 refine region_class (fun w' => Below w.heap.size w w' ∧ w'.cell? ⟨V, 2, none⟩ = some (.int .i64 l0) ∧ w'.cell? ⟨V, 3, none⟩ = some (.int .i64 l1)) (by kernel_rfl) (by kernel_rfl) (MK.out _ ((Below.refl _ _).drew)) ?_
 iterate 25 (first | go_big_quiet_skip | (go_big_quiet_want; unfold Oper.quiet; apply Exists.intro; refine ⟨fun W hW => ?_, ?_⟩; (go_split_ands; unfold Oper.quietAt; go_simp; first | rfl | exact ⟨rfl, rfl⟩ | fail); go_big_quiet_on; (try simp only [Act.put, List.setIfInBounds_toArray, List.set_cons_zero, List.set_cons_succ])))
 refine wpQuiet_nil ?_
 intro wa hwa
 have ba : Below w.heap.size w wa := hwa.1
 have j0 := keepc ba k0
 have j1 := keepc ba k1
 have j6 := keepc ba k6
 have j7 := keepc ba k7
 have j8 := keepc ba k8
 have j9 := keepc ba k9
 have BA : Aside (Below w.heap.size w wa) := ba
 clear hwa MK k0 k1 k2 k3 k6 k7 k8 k9 ba ew ew1 ew0
 by_cases hA : s0 = sets - 1 ∧ s1 = sets - 1
 ·have HR : Aside (res = ((decide (legs ≤ l0) && decide (clear ≤ l0 - l1)) || decide (l0 = legs + extra))) := by
   show _ = _
   rw [HS.out, if_pos hA]
  have q0 : (s0 == sets - 1) = true := by simpa using hA.1
  have q1 : (s1 == sets - 1) = true := by simpa using hA.2
  clear hA HS
  go_wp2_with fail
  clear hq q0 q1
  have MK : Aside (∀ w', Below wa.heap.size wa w' → (Below wa.heap.size wa w' ∧ w'.cell? ⟨V, 6, none⟩ = some (.int .i64 legs) ∧ w'.cell? ⟨V, 8, none⟩ = some (.int .i64 clear) ∧ w'.cell? ⟨V, 9, none⟩ = some (.int .i64 extra))) := fun w' hB => ⟨hB, keepc hB j6, keepc hB j8, keepc hB j9⟩
  have ew : IntKind.i64.wrap (legs + extra) = legs + extra := IntWalk.i64_in _ (by omega)
  have e3 : decide (l0 = legs + extra) = (l0 == legs + extra) := by rw [Bool.eq_iff_iff]; simp
  cases hp : decide (legs ≤ l0) with
  | false =>
   have HR2 : Aside (res = (l0 == legs + extra)) := by
    show _ = _
    rw [HR.out, hp, Bool.false_and, Bool.false_or, e3]
   clear HR e3
   refine region_class (fun w' => Below wa.heap.size wa w' ∧ w'.cell? ⟨V, 6, none⟩ = some (.int .i64 legs) ∧ w'.cell? ⟨V, 8, none⟩ = some (.int .i64 clear) ∧ w'.cell? ⟨V, 9, none⟩ = some (.int .i64 extra)) (by kernel_rfl) (by kernel_rfl) (MK.out _ ((Below.refl _ _).drew)) ?_
   iterate 32 (first | go_big_quiet_skip | (go_big_quiet_want; unfold Oper.quiet; apply Exists.intro; refine ⟨fun W hW => ?_, ?_⟩; (go_split_ands; unfold Oper.quietAt; go_simp; first | rfl | exact ⟨rfl, rfl⟩ | fail); go_big_quiet_on; (try simp only [Act.put, List.setIfInBounds_toArray, List.set_cons_zero, List.set_cons_succ])))
   refine wpQuiet_nil ?_
   intro w2 hw2
   clear ew
   go_wp2
   go_ret
   exact ⟨by rw [HR2.out]; rfl, BA.out.trans (hw2.1.mono BA.out.size)⟩
  | true =>
   cases hc : decide (clear ≤ l0 - l1) with
   | false =>
    have HR2 : Aside (res = (l0 == legs + extra)) := by
     show _ = _
     rw [HR.out, hp, hc, Bool.true_and, Bool.false_or, e3]
    clear HR e3
    refine region_class (fun w' => Below wa.heap.size wa w' ∧ w'.cell? ⟨V, 6, none⟩ = some (.int .i64 legs) ∧ w'.cell? ⟨V, 8, none⟩ = some (.int .i64 clear) ∧ w'.cell? ⟨V, 9, none⟩ = some (.int .i64 extra)) (by kernel_rfl) (by kernel_rfl) (MK.out _ ((Below.refl _ _).drew)) ?_
    iterate 32 (first | go_big_quiet_skip | (go_big_quiet_want; unfold Oper.quiet; apply Exists.intro; refine ⟨fun W hW => ?_, ?_⟩; (go_split_ands; unfold Oper.quietAt; go_simp; first | rfl | exact ⟨rfl, rfl⟩ | fail); go_big_quiet_on; (try simp only [Act.put, List.setIfInBounds_toArray, List.set_cons_zero, List.set_cons_succ])))
    refine wpQuiet_nil ?_
    intro w2 hw2
    clear ew
    go_wp2
    go_ret
    exact ⟨by rw [HR2.out]; rfl, BA.out.trans (hw2.1.mono BA.out.size)⟩
   | true =>
    have HR2 : Aside (res = true) := by
     show _ = _
     rw [HR.out, hp, hc, Bool.true_and, Bool.true_or]
    clear HR e3
    refine region_class (fun w' => Below wa.heap.size wa w' ∧ w'.cell? ⟨V, 6, none⟩ = some (.int .i64 legs) ∧ w'.cell? ⟨V, 8, none⟩ = some (.int .i64 clear) ∧ w'.cell? ⟨V, 9, none⟩ = some (.int .i64 extra)) (by kernel_rfl) (by kernel_rfl) (MK.out _ ((Below.refl _ _).drew)) ?_
    iterate 32 (first | go_big_quiet_skip | (go_big_quiet_want; unfold Oper.quiet; apply Exists.intro; refine ⟨fun W hW => ?_, ?_⟩; (go_split_ands; unfold Oper.quietAt; go_simp; first | rfl | exact ⟨rfl, rfl⟩ | fail); go_big_quiet_on; (try simp only [Act.put, List.setIfInBounds_toArray, List.set_cons_zero, List.set_cons_succ])))
    refine wpQuiet_nil ?_
    intro w2 hw2
    clear ew
    go_wp2
    go_ret
    exact ⟨by rw [HR2.out]; rfl, BA.out.trans (hw2.1.mono BA.out.size)⟩
 ·have HR : Aside (res = (l0 == legs)) := by
   show _ = _
   rw [HS.out, if_neg hA]
   rw [Bool.eq_iff_iff]; simp
  clear HS
  cases q0 : (s0 == sets - 1) with
  | false =>
   clear hA
   go_wp2
   go_ret
   exact ⟨by rw [HR.out]; rfl, BA.out⟩
  | true =>
   have q1 : (s1 == sets - 1) = false := by
    simp only [beq_iff_eq] at q0
    simpa [q0] using hA
   clear hA
   go_wp2
   go_ret
   exact ⟨by rw [HR.out]; rfl, BA.out⟩
set_option maxRecDepth 100000 in
set_option maxHeartbeats 4000000 in
theorem winsSet1 (V : Nat) (s0 s1 l0 l1 f win : Int) (legs sets clear extra first : Int) (w : World)
  (hV : w.heap[V]? = some (.cells #[.int .i64 s0, .int .i64 s1, .int .i64 l0, .int .i64 l1, .int .i64 f, .int .i64 win, .int .i64 legs, .int .i64 sets, .int .i64 clear, .int .i64 extra, .int .i64 first] 125 (0, 0)))
  (a0 : 0 ≤ l0) (a1 : l0 ≤ 9000000000000000000) (b0 : 0 ≤ l1) (b1 : l1 ≤ 9000000000000000000) (c0 : 0 ≤ sets) (c1 : sets ≤ 25) (d0 : 0 ≤ legs) (d1 : legs ≤ 25) (e0 : 0 ≤ extra) (e1 : extra ≤ 25) :
  Calls Try.prog 80 #[.pointer (some ⟨V, 0, none⟩), .int .i64 1] w (Ret (.bool (setWon ⟨legs, sets, clear, extra, first⟩ s0 s1 l1 l0)) w) := by
 have k0 : w.cell? ⟨V, 0, none⟩ = some (.int .i64 s0) := blk_cell hV rfl
 have k1 : w.cell? ⟨V, 1, none⟩ = some (.int .i64 s1) := blk_cell hV rfl
 have k2 : w.cell? ⟨V, 2, none⟩ = some (.int .i64 l0) := blk_cell hV rfl
 have k3 : w.cell? ⟨V, 3, none⟩ = some (.int .i64 l1) := blk_cell hV rfl
 have k6 : w.cell? ⟨V, 6, none⟩ = some (.int .i64 legs) := blk_cell hV rfl
 have k7 : w.cell? ⟨V, 7, none⟩ = some (.int .i64 sets) := blk_cell hV rfl
 have k8 : w.cell? ⟨V, 8, none⟩ = some (.int .i64 clear) := blk_cell hV rfl
 have k9 : w.cell? ⟨V, 9, none⟩ = some (.int .i64 extra) := blk_cell hV rfl
 clear hV
 have MK : Aside (∀ w', Below w.heap.size w w' → (Below w.heap.size w w' ∧ w'.cell? ⟨V, 2, none⟩ = some (.int .i64 l0) ∧ w'.cell? ⟨V, 3, none⟩ = some (.int .i64 l1))) := fun w' hB => ⟨hB, keepc hB k2, keepc hB k3⟩
 have ew : IntKind.i64.wrap (l1 - l0) = l1 - l0 := IntWalk.i64_in _ (by omega)
 have ew1 : IntKind.i64.wrap 1 = 1 := by decide
 have ew0 : IntKind.i64.wrap 0 = 0 := by decide
 have HS : Aside (setWon ⟨legs, sets, clear, extra, first⟩ s0 s1 l1 l0 = if s0 = sets - 1 ∧ s1 = sets - 1 then (decide (legs ≤ l1) && decide (clear ≤ l1 - l0)) || decide (l1 = legs + extra) else decide (l1 = legs)) := rfl
 generalize setWon ⟨legs, sets, clear, extra, first⟩ s0 s1 l1 l0 = res at *
 have hq := eqArr2 s0 s1 (sets - 1) (sets - 1)
 go_enter Try.func80, Try.ntmps80
 go_wp2_with fail
 refine region_class (fun w' => Below w.heap.size w w' ∧ w'.cell? ⟨V, 2, none⟩ = some (.int .i64 l0) ∧ w'.cell? ⟨V, 3, none⟩ = some (.int .i64 l1)) (by kernel_rfl) (by kernel_rfl) (MK.out _ ((Below.refl _ _).drew)) ?_
 iterate 25 (first | go_big_quiet_skip | (go_big_quiet_want; unfold Oper.quiet; apply Exists.intro; refine ⟨fun W hW => ?_, ?_⟩; (go_split_ands; unfold Oper.quietAt; go_simp; first | rfl | exact ⟨rfl, rfl⟩ | fail); go_big_quiet_on; (try simp only [Act.put, List.setIfInBounds_toArray, List.set_cons_zero, List.set_cons_succ])))
 refine wpQuiet_nil ?_
 intro wa hwa
 have ba : Below w.heap.size w wa := hwa.1
 have j0 := keepc ba k0
 have j1 := keepc ba k1
 have j6 := keepc ba k6
 have j7 := keepc ba k7
 have j8 := keepc ba k8
 have j9 := keepc ba k9
 have BA : Aside (Below w.heap.size w wa) := ba
 clear hwa MK k0 k1 k2 k3 k6 k7 k8 k9 ba ew ew1 ew0
 by_cases hA : s0 = sets - 1 ∧ s1 = sets - 1
 ·have HR : Aside (res = ((decide (legs ≤ l1) && decide (clear ≤ l1 - l0)) || decide (l1 = legs + extra))) := by
   show _ = _
   rw [HS.out, if_pos hA]
  have q0 : (s0 == sets - 1) = true := by simpa using hA.1
  have q1 : (s1 == sets - 1) = true := by simpa using hA.2
  clear hA HS
  go_wp2_with fail
  clear hq q0 q1
  have MK : Aside (∀ w', Below wa.heap.size wa w' → (Below wa.heap.size wa w' ∧ w'.cell? ⟨V, 6, none⟩ = some (.int .i64 legs) ∧ w'.cell? ⟨V, 8, none⟩ = some (.int .i64 clear) ∧ w'.cell? ⟨V, 9, none⟩ = some (.int .i64 extra))) := fun w' hB => ⟨hB, keepc hB j6, keepc hB j8, keepc hB j9⟩
  have ew : IntKind.i64.wrap (legs + extra) = legs + extra := IntWalk.i64_in _ (by omega)
  have e3 : decide (l1 = legs + extra) = (l1 == legs + extra) := by rw [Bool.eq_iff_iff]; simp
  cases hp : decide (legs ≤ l1) with
  | false =>
   have HR2 : Aside (res = (l1 == legs + extra)) := by
    show _ = _
    rw [HR.out, hp, Bool.false_and, Bool.false_or, e3]
   clear HR e3
   refine region_class (fun w' => Below wa.heap.size wa w' ∧ w'.cell? ⟨V, 6, none⟩ = some (.int .i64 legs) ∧ w'.cell? ⟨V, 8, none⟩ = some (.int .i64 clear) ∧ w'.cell? ⟨V, 9, none⟩ = some (.int .i64 extra)) (by kernel_rfl) (by kernel_rfl) (MK.out _ ((Below.refl _ _).drew)) ?_
   iterate 32 (first | go_big_quiet_skip | (go_big_quiet_want; unfold Oper.quiet; apply Exists.intro; refine ⟨fun W hW => ?_, ?_⟩; (go_split_ands; unfold Oper.quietAt; go_simp; first | rfl | exact ⟨rfl, rfl⟩ | fail); go_big_quiet_on; (try simp only [Act.put, List.setIfInBounds_toArray, List.set_cons_zero, List.set_cons_succ])))
   refine wpQuiet_nil ?_
   intro w2 hw2
   clear ew
   go_wp2
   go_ret
   exact ⟨by rw [HR2.out]; rfl, BA.out.trans (hw2.1.mono BA.out.size)⟩
  | true =>
   cases hc : decide (clear ≤ l1 - l0) with
   | false =>
    have HR2 : Aside (res = (l1 == legs + extra)) := by
     show _ = _
     rw [HR.out, hp, hc, Bool.true_and, Bool.false_or, e3]
    clear HR e3
    refine region_class (fun w' => Below wa.heap.size wa w' ∧ w'.cell? ⟨V, 6, none⟩ = some (.int .i64 legs) ∧ w'.cell? ⟨V, 8, none⟩ = some (.int .i64 clear) ∧ w'.cell? ⟨V, 9, none⟩ = some (.int .i64 extra)) (by kernel_rfl) (by kernel_rfl) (MK.out _ ((Below.refl _ _).drew)) ?_
    iterate 32 (first | go_big_quiet_skip | (go_big_quiet_want; unfold Oper.quiet; apply Exists.intro; refine ⟨fun W hW => ?_, ?_⟩; (go_split_ands; unfold Oper.quietAt; go_simp; first | rfl | exact ⟨rfl, rfl⟩ | fail); go_big_quiet_on; (try simp only [Act.put, List.setIfInBounds_toArray, List.set_cons_zero, List.set_cons_succ])))
    refine wpQuiet_nil ?_
    intro w2 hw2
    clear ew
    go_wp2
    go_ret
    exact ⟨by rw [HR2.out]; rfl, BA.out.trans (hw2.1.mono BA.out.size)⟩
   | true =>
    have HR2 : Aside (res = true) := by
     show _ = _
     rw [HR.out, hp, hc, Bool.true_and, Bool.true_or]
    clear HR e3
    refine region_class (fun w' => Below wa.heap.size wa w' ∧ w'.cell? ⟨V, 6, none⟩ = some (.int .i64 legs) ∧ w'.cell? ⟨V, 8, none⟩ = some (.int .i64 clear) ∧ w'.cell? ⟨V, 9, none⟩ = some (.int .i64 extra)) (by kernel_rfl) (by kernel_rfl) (MK.out _ ((Below.refl _ _).drew)) ?_
    iterate 32 (first | go_big_quiet_skip | (go_big_quiet_want; unfold Oper.quiet; apply Exists.intro; refine ⟨fun W hW => ?_, ?_⟩; (go_split_ands; unfold Oper.quietAt; go_simp; first | rfl | exact ⟨rfl, rfl⟩ | fail); go_big_quiet_on; (try simp only [Act.put, List.setIfInBounds_toArray, List.set_cons_zero, List.set_cons_succ])))
    refine wpQuiet_nil ?_
    intro w2 hw2
    clear ew
    go_wp2
    go_ret
    exact ⟨by rw [HR2.out]; rfl, BA.out.trans (hw2.1.mono BA.out.size)⟩
 ·have HR : Aside (res = (l1 == legs)) := by
   show _ = _
   rw [HS.out, if_neg hA]
   rw [Bool.eq_iff_iff]; simp
  clear HS
  cases q0 : (s0 == sets - 1) with
  | false =>
   clear hA
   go_wp2
   go_ret
   exact ⟨by rw [HR.out]; rfl, BA.out⟩
  | true =>
   have q1 : (s1 == sets - 1) = false := by
    simp only [beq_iff_eq] at q0
    simpa [q0] using hA
   clear hA
   go_wp2
   go_ret
   exact ⟨by rw [HR.out]; rfl, BA.out⟩
end
end Go.Proofs.Ytgmlcgifagbjmaa
