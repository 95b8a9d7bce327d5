/- Leg, part Ce: the reference's throw at the bull. -/
import Derived.Test.YthcgbceapabikaaQ
import Derived.Test.YthcgbceapabikaaBb
import Derived.Test.YthcgbceapabikaaBf
set_option linter.unusedVariables false
set_option linter.unusedSimpArgs false
namespace Go.Proofs.Ythcgbceapabikaa
open Go.RowKit Go.Maps Go.Sort Go.Shelf Go.Deep

set_option maxHeartbeats 1000000 in
theorem rfar_any (d : Int × Int) (w : World) : Calls Try.prog 58 #[pt d] w (Ret (.int .i64 (distF d)) w) := by
  obtain ⟨b, f⟩ := d
  unfold pt distF
  simp only []
  by_cases c1 : b = 225
  · rw [if_pos c1]; subst c1
    go_enter Try.func58, Try.ntmps58
    go_wp2
    go_ret
    exact ⟨rfl, by (repeat' (first | exact Below.refl _ _ | assumption | (with_reducible refine Below.drew ?_) | (with_reducible refine Below.setCell ?_ (by (first | (simp; done) | (simp; omega))) _) | (with_reducible refine below_drewN' ?_ _) | (refine Below.alloc ?_ (by (try simp only [World.size_alloc, World.size_drew, World.size_setCell]); omega) _) | (refine Below.trans ?_ (Below.mono (by assumption) (by (try simp only [World.size_alloc, World.size_drew, World.size_setCell]); omega)))))⟩
  rw [if_neg c1]
  have b1 : (b == 225) = false := by simpa using c1
  by_cases c2 : b = 125
  · rw [if_pos c2]; subst c2
    go_enter Try.func58, Try.ntmps58
    go_wp2
    go_ret
    exact ⟨rfl, by (repeat' (first | exact Below.refl _ _ | assumption | (with_reducible refine Below.drew ?_) | (with_reducible refine Below.setCell ?_ (by (first | (simp; done) | (simp; omega))) _) | (with_reducible refine below_drewN' ?_ _) | (refine Below.alloc ?_ (by (try simp only [World.size_alloc, World.size_drew, World.size_setCell]); omega) _) | (refine Below.trans ?_ (Below.mono (by assumption) (by (try simp only [World.size_alloc, World.size_drew, World.size_setCell]); omega)))))⟩
  rw [if_neg c2]
  have b2 : (b == 125) = false := by simpa using c2
  by_cases c3 : b = 0
  · rw [if_pos c3]; subst c3
    go_enter Try.func58, Try.ntmps58
    go_wp2
    go_ret
    exact ⟨rfl, by (repeat' (first | exact Below.refl _ _ | assumption | (with_reducible refine Below.drew ?_) | (with_reducible refine Below.setCell ?_ (by (first | (simp; done) | (simp; omega))) _) | (with_reducible refine below_drewN' ?_ _) | (refine Below.alloc ?_ (by (try simp only [World.size_alloc, World.size_drew, World.size_setCell]); omega) _) | (refine Below.trans ?_ (Below.mono (by assumption) (by (try simp only [World.size_alloc, World.size_drew, World.size_setCell]); omega)))))⟩
  rw [if_neg c3]
  have b3 : (b == 0) = false := by simpa using c3
  clear c1 c2 c3
  go_enter Try.func58, Try.ntmps58
  go_wp2
  go_ret
  exact ⟨rfl, by (repeat' (first | exact Below.refl _ _ | assumption | (with_reducible refine Below.drew ?_) | (with_reducible refine Below.setCell ?_ (by (first | (simp; done) | (simp; omega))) _) | (with_reducible refine below_drewN' ?_ _) | (refine Below.alloc ?_ (by (try simp only [World.size_alloc, World.size_drew, World.size_setCell]); omega) _) | (refine Below.trans ?_ (Below.mono (by assumption) (by (try simp only [World.size_alloc, World.size_drew, World.size_setCell]); omega)))))⟩

theorem flat_eI (xs : List Int) : (xs.map eI).flatten = xs.map (Value.int .i64) := by
  induction xs with
  | nil => rfl
  | cons x xs ih => simp only [List.map_cons, List.flatten_cons, ih]; rfl
theorem ev_sorted (n : Nat) : (evL n).Pairwise (· ≤ ·) := by
  unfold evL
  refine List.pairwise_map.2 ((List.pairwise_lt_range).imp (fun h => ?_))
  exact Int.ofNat_le.2 (Nat.le_of_lt h)
theorem far_snd {st : List Int} {ds : List (Int × Int)} (h : ds.length = st.length) : (farP st ds).map (·.2) = ds.map distF := by
  unfold farP
  rw [List.map_map]
  have : ((fun p : Int × Int => p.2) ∘ fun p : Int × (Int × Int) => (p.1, distF p.2)) = fun p => distF p.2 := rfl
  have e2 : (fun p : Int × (Int × Int) => distF p.2) = distF ∘ Prod.snd := rfl
  rw [this, e2, ← List.map_map, List.map_snd_zip (by omega)]
theorem least_sub {st : List Int} {ds : List (Int × Int)} (m : Int) (hl : ds.length = st.length) : (leastU m (farP st ds)).Sublist st := by
  have hk := farP_keys hl
  have := (List.filter_sublist (l := farP st ds) (p := fun p => p.2 == m)).map (fun p => p.1)
  rw [hk] at this
  exact this
theorem near_plain {st : List Int} {ds : List (Int × Int)} (hs : st.Pairwise (· ≤ ·)) (hl : ds.length = st.length) : nearL st ds = leastU (mn (ds.map distF)) (farP st ds) ∧ (nearL st ds).Pairwise (· ≤ ·) := by
  have h1 : nearL st ds = leastU (mn (ds.map distF)) (farP st ds) := by
    unfold nearL leastL
    rw [far_snd hl]
    exact List.mergeSort_of_pairwise ((hs.sublist (least_sub _ hl)).imp (fun h => by simpa using h))
  exact ⟨h1, by rw [h1]; exact hs.sublist (least_sub _ hl)⟩
theorem mn_fold {d : Int} {l : List Int} (h : l[0]? = some d) : l.foldl min d = mn l := by
  cases l with
  | nil => simp at h
  | cons x xs => simp at h; subst h; simp [mn]

set_option maxRecDepth 100000 in
set_option maxHeartbeats 8000000 in
theorem roff_any (n : Int) (v : Value) (rows : List (Value × List (Int × Int))) (w : World) (hv : Sl w 1 eRow v rows) (hr : ∀ x ∈ rows, Sl w 2 encP x.1 x.2)
    (hb : ∀ x ∈ rows, ∀ d ∈ x.2, (-9223372036854775808 ≤ d.1 ∧ d.1 ≤ 9223372036854775807) ∧ -9223372036854775808 ≤ d.2 ∧ d.2 ≤ 9223372036854775807) :
    Calls Try.prog 30 #[.int .i64 n, v] w (Ret (.tuple #[.int .i64 (offF n (rows.map (·.2))).1, .int .i64 (offF n (rows.map (·.2))).2]) w) := by
  obtain ⟨i0, hi0, hz0, hz1, hz2⟩ := info_parts info_int
  have y1 := fun W => rin_any n 1 8 W
  have HF : Aside (offF n (rows.map (·.2)) = if inb 1 8 n = true then (if 50 < rows.length then (0, 5) else offL (evL n.toNat) (rows.map (·.2))) else (0, 3)) := by
    show _ = _
    unfold offF; rw [List.length_map]
  generalize offF n (rows.map (·.2)) = res at *
  obtain ⟨a, cp, rfl, hl, hs⟩ := hv
  obtain ⟨m, hm⟩ : ∃ m, rows.length = m := ⟨_, rfl⟩
  have HN : Aside (rows.length = m) := hm
  have HS : Aside (rows ≠ [] → ∃ b off, a = some ⟨b, off, none⟩ ∧ b < w.heap.size ∧ ∀ j x, rows[j]? = some x → ∀ i y, (eRow x)[i]? = some y → w.cell? ⟨b, off + j * 1 + i, none⟩ = some y) := hs
  have HX : Aside ((∀ x ∈ rows, Sl w 2 encP x.1 x.2) ∧ ∀ x ∈ rows, ∀ d ∈ x.2, (-9223372036854775808 ≤ d.1 ∧ d.1 ≤ 9223372036854775807) ∧ -9223372036854775808 ≤ d.2 ∧ d.2 ≤ 9223372036854775807) := ⟨hr, hb⟩
  rw [hm] at hl HF ⊢
  clear hs hr hb hm
  cases hi : inb 1 8 n with
  | false =>
    rw [hi] at y1
    have HR : Aside (res = (0, 3)) := by
      show _ = _
      rw [HF.out, if_neg (by rw [hi]; simp)]
    clear HF hi
    go_enter Try.func30, Try.ntmps30
    go_wp2_with fail
    refine (y1 _).mono ?_
    rintro e w1 ⟨rfl, hb1⟩
    go_wp2
    go_ret2
    exact ⟨by rw [HR.out]; rfl, by (repeat' (first | exact Below.refl _ _ | assumption | (with_reducible refine Below.drew ?_) | (with_reducible refine Below.setCell ?_ (by (first | (simp; done) | (simp; omega))) _) | (with_reducible refine below_drewN' ?_ _) | (refine Below.alloc ?_ (by (try simp only [World.size_alloc, World.size_drew, World.size_setCell]); omega) _) | (refine Below.trans ?_ (Below.mono (by assumption) (by (try simp only [World.size_alloc, World.size_drew, World.size_setCell]); omega)))))⟩
  | true =>
    rw [hi] at y1
    have hn : 1 ≤ n ∧ n ≤ 8 := by unfold inb at hi; simpa using hi
    obtain ⟨k0, rfl⟩ : ∃ k : Nat, n = k := ⟨n.toNat, by omega⟩
    by_cases h50 : 50 < m
    · have HR : Aside (res = (0, 5)) := by
        show _ = _
        rw [HF.out, if_pos hi, if_pos h50]
      have hz : (50 : Int) < (m : Int) := by omega
      clear HF hi hn
      go_enter Try.func30, Try.ntmps30
      go_wp2_with fail
      refine (y1 _).mono ?_
      rintro e w1 ⟨rfl, hb1⟩
      go_wp2
      go_ret2
      exact ⟨by rw [HR.out]; rfl, by (repeat' (first | exact Below.refl _ _ | assumption | (with_reducible refine Below.drew ?_) | (with_reducible refine Below.setCell ?_ (by (first | (simp; done) | (simp; omega))) _) | (with_reducible refine below_drewN' ?_ _) | (refine Below.alloc ?_ (by (try simp only [World.size_alloc, World.size_drew, World.size_setCell]); omega) _) | (refine Below.trans ?_ (Below.mono (by assumption) (by (try simp only [World.size_alloc, World.size_drew, World.size_setCell]); omega)))))⟩
    · have HR : Aside (offL (evL k0) (rows.map (·.2)) = res) := by
        show _ = _
        rw [HF.out, if_pos hi, if_neg h50]; simp
      have hz : ¬ ((50 : Int) < (m : Int)) := by omega
      have HST : Aside (Stay (evL k0)) := stay_ev (by omega) (by omega)
      have hk8 : k0 ≤ 8 := by omega
      clear HF hi
      go_enter Try.func30, Try.ntmps30
      go_wp2_with fail
      refine (y1 _).mono ?_
      rintro e w1 ⟨rfl, hb1⟩
      go_wp2_with fail
      obtain ⟨wa, hwa⟩ : ∃ u, u = w1.alloc (.cells #[] 3) := ⟨_, rfl⟩
      have hown : wa.ownsRow w1.heap.size 3 1 (.slice (some ⟨w1.heap.size, 0, none⟩) 0 0) 0 [] := by rw [hwa]; exact owns_empty _ _ _
      have BA : Aside (Below w.heap.size w wa ∧ w1.heap.size ≤ wa.heap.size) := ⟨by rw [hwa]; exact hb1.alloc hb1.size _, by rw [hwa]; simp⟩
      have HZ : Aside (w.heap.size ≤ w1.heap.size) := hb1.size
      rw [← hwa]
      clear hwa hb1 y1
      go_loopw [6, 7] (fun v i wr => ∃ k : Nat, k ≤ k0 ∧ i = .int .i64 k ∧ wr.ownsRow w1.heap.size 3 1 v (evL k).length ((evL k).map (Value.int .i64)) ∧ Aside (Below w.heap.size w wr ∧ w1.heap.size ≤ wr.heap.size)) (fun _ i _ => k0 - (intOf i).toNat)
      case atStart => exact ⟨0, Nat.zero_le _, rfl, by simpa [evL] using hown, BA.out⟩
      case round =>
        clear hown BA
        obtain ⟨k, hk, rfl, hown, HA⟩ := hrel
        by_cases hlt : k < k0
        · have hltz : (k : Int) < (k0 : Int) := by omega
          have hel := evL_length k
          have HSV : Aside (evL (k + 1) = evL k ++ [(k : Int)]) := evL_succ k
          have HB0 : Aside (w1.heap.size ≤ wr.heap.size) := HA.out.2
          go_wp2_with (at_builtin; refine wpList_append_own _ rfl _ _ 48 rfl w1.heap.size 3 i0 (.int .i64 0) 1 8 Try.underlying48 hi0 hz0 hz1 hz2 rfl (by decide) _ _ _ rfl (hown.alloc _) ⟨wr.heap.size, 0, none⟩ 1 1 [.int .i64 k] rfl rfl (cell_one_new _ _ _) (ints_oneCell .i64 [(k : Int)]) (by unfold maxLen; omega) (by omega) (by have := HB0.out; simp; omega) ?_; intro v' w2 hown1 hgrow1 hnil1)
          go_roundw
          case rel =>
            refine ⟨k + 1, by omega, by go_num, ?_, ?_, ?_⟩
            · rw [HSV.out]; simpa using hown1
            · exact (HA.out.1.alloc HA.out.1.size _).grown hgrow1 (by have := HA.out.1.size; simp; omega) (fun j hj => by have := (hown.lt j hj).1; have := HZ.out; omega)
            · have := hgrow1.size; have := HB0.out; simp at *; omega
          case measure => simp [intOf]; omega
        · have hltz : ¬ (k : Int) < (k0 : Int) := by omega
          have hke : k = k0 := by omega
          subst hke
          have HI : Aside (OffInv (evL k) (rows.map (·.2)) res w _ wr) := ⟨HST.out, HR.out, sl_owns (fun _ => rfl) (by rw [evL_length]; omega) (by rw [flat_eI]; exact hown), HA.out.1⟩
          clear hown HA HST HR HZ
          go_wp2_with fail
          go_loopg [6, 8] m (fun gg sv i wr => ∃ (k : Nat) (st : List Int) (a1 : Option Addr) (c1 : Nat), k ≤ m ∧ m - k ≤ gg ∧ i = .int .i64 k ∧ sv = .slice a1 st.length c1 ∧ Aside (OffInv st ((rows.map (·.2)).drop k) res w (.slice a1 st.length c1) wr ∧ st.Pairwise (· ≤ ·)))
          case atStart =>
            obtain ⟨h1, h2, ⟨a1, c1, rfl, h3⟩, h4⟩ := HI.out
            exact ⟨0, evL k, a1, c1, Nat.zero_le _, by omega, rfl, rfl, ⟨h1, by rw [List.drop_zero]; exact h2, ⟨a1, c1, rfl, h3⟩, h4⟩, ev_sorted k⟩
          case round =>
            clear HI
            obtain ⟨k9, st, a1, c1, hk9, hg, rfl, rfl, HI⟩ := hrel
            obtain ⟨⟨hst, hre, hsl, hbw⟩, hsrt⟩ := HI.out
            have HST : Aside (Stay st ∧ st.Pairwise (· ≤ ·)) := ⟨hst, hsrt⟩
            have HRE : Aside (offL st ((rows.map (·.2)).drop k9) = res) := hre
            have HSL : Aside (Sl wr 1 eI (.slice a1 st.length c1) st) := hsl
            have HBW : Aside (Below w.heap.size w wr) := hbw
            have hq1 : 1 ≤ st.length := List.length_pos_iff.2 hst.ne
            have hq8 := hst.len
            clear hst hre hbw hsrt HI
            by_cases hlt9 : k9 < m
            · have hltz9 : (k9 : Int) < (m : Int) := by omega
              obtain ⟨x, hx⟩ : ∃ x, rows[k9]? = some x := ⟨_, List.getElem?_eq_getElem (by rw [HN.out]; exact hlt9)⟩
              obtain ⟨B, off, rfl, hBlt, hcl⟩ := HS.out (by intro e; rw [e] at hx; simp at hx)
              have kx : wr.cell? ⟨B, off + k9, none⟩ = some x.1 := keepc HBW.out (by have := hcl k9 x hx 0 x.1 rfl; simpa using this)
              have hxm := List.mem_of_getElem? hx
              have HXS : Aside (Sl wr 2 encP x.1 x.2) := (HX.out.1 x hxm).below HBW.out
              have HXB : Aside (∀ d ∈ x.2, (-9223372036854775808 ≤ d.1 ∧ d.1 ≤ 9223372036854775807) ∧ -9223372036854775808 ≤ d.2 ∧ d.2 ≤ 9223372036854775807) := HX.out.2 x hxm
              have HRE2 : Aside (offL st (x.2 :: (rows.map (·.2)).drop (k9 + 1)) = res) := by
                obtain ⟨h1, h2⟩ := List.getElem?_eq_some_iff.1 hx
                have := HRE.out
                rw [List.drop_eq_getElem_cons (by rw [List.length_map]; exact h1), List.getElem_map, h2] at this
                exact this
              obtain ⟨vd, ds⟩ := x
              simp only [] at kx HXS HXB HRE2
              obtain ⟨a3, c3, rfl, hl3, hs3⟩ := HXS.out
              clear hcl hx hxm HRE hsl
              by_cases hone : st.length = 1
              · skip
                -- @@a
                have HR : Aside (res = (0, 33)) := by
                  show _ = _
                  rw [← HRE2.out, offL, if_pos hone]
                have hoz : ((st.length : Int) == 1) = true := by rw [beq_iff_eq]; omega
                clear HRE2 hone
                generalize st.length = sl at *
                generalize ds.length = dl at *
                go_wp2
                go_ret2
                exact ⟨by rw [HR.out]; rfl, HBW.out⟩
              · have hoz : ((st.length : Int) == 1) = false := by rw [beq_eq_false_iff_ne]; omega
                by_cases hlen : ds.length = st.length
                · skip
                  -- @@b
                  have hlz : ((ds.length : Int) != (st.length : Int)) = false := by simp [hlen]
                  have HONE : Aside (¬ st.length = 1) := hone
                  obtain ⟨q, hq⟩ : ∃ q, st.length = q := ⟨_, rfl⟩
                  have HQ : Aside (st.length = q ∧ ds.length = q) := ⟨hq, by omega⟩
                  have hdq : ds.length = q := by omega
                  rw [hq] at HSL hq1 hq8 hoz hlz ⊢
                  rw [hdq] at HXS hl3 hlz kx
                  clear hone hlen hq hdq
                  obtain ⟨d0, hd0⟩ : ∃ d0, ds[0]? = some d0 := ⟨_, List.getElem?_eq_getElem (by rw [HQ.out.2]; omega)⟩
                  have HD0 : Aside (ds[0]? = some d0) := hd0
                  have hdne : ds ≠ [] := by intro e; rw [e] at hd0; simp at hd0
                  obtain ⟨B3, o3, rfl, hB3, hc3⟩ := hs3 hdne
                  have HC3 : Aside (∀ j d, ds[j]? = some d → wr.cell? ⟨B3, o3 + j * 2, none⟩ = some (.int .i64 d.1) ∧ wr.cell? ⟨B3, o3 + j * 2 + 1, none⟩ = some (.int .i64 d.2)) := fun j d hd => ⟨by have := hc3 j d hd 0 (.int .i64 d.1) rfl; simpa using this, hc3 j d hd 1 (.int .i64 d.2) rfl⟩
                  obtain ⟨a1', c1', e1, _, hs1⟩ := HSL.out
                  simp only [Value.slice.injEq] at e1
                  obtain ⟨rfl, hqq, rfl⟩ := e1
                  clear hqq
                  obtain ⟨B1, o1, rfl, hB1, hc1⟩ := hs1 (by intro e; have := HQ.out.1; rw [e] at this; simp at this; omega)
                  have HC1 : Aside (∀ j p, st[j]? = some p → wr.cell? ⟨B1, o1 + j, none⟩ = some (.int .i64 p)) := fun j p hp => by have := hc1 j p hp 0 (.int .i64 p) rfl; simpa using this
                  have hB : B < wr.heap.size := World.block_lt_of_cell? wr _ kx
                  clear hd0 hdne hc3 hs3 hs1 hc1 hl3
                  obtain ⟨wo, rfl⟩ : ∃ W, W = wr := ⟨_, rfl⟩
                  go_wp2_with fail
                  go_loopg [9] q (fun gg i wr => ∃ j : Nat, j ≤ q ∧ q - j ≤ gg ∧ i = .int .i64 j ∧ Aside ((∀ p, p < j → ∀ d, ds[p]? = some d → offOk d = true) ∧ Below wo.heap.size wo wr))
                  case atStart => exact ⟨0, Nat.zero_le _, by omega, rfl, fun p hp => absurd hp (Nat.not_lt_zero p), Below.refl _ _⟩
                  case round =>
                    obtain ⟨j, hj, hgj, rfl, HJ⟩ := hrel
                    have kx2 := keepc HJ.out.2 kx
                    by_cases hltj : j < q
                    · have hltzj : (j : Int) < (q : Int) := by omega
                      obtain ⟨d, hd⟩ : ∃ d, ds[j]? = some d := ⟨_, List.getElem?_eq_getElem (by rw [HQ.out.2]; exact hltj)⟩
                      have HD : Aside (ds[j]? = some d) := hd
                      have kd0 := keepc HJ.out.2 (HC3.out j d hd).1
                      have kd1 := keepc HJ.out.2 (HC3.out j d hd).2
                      have hbd := HXB.out d (List.mem_of_getElem? hd)
                      have yb := fun W => rbed_any d.1 W hbd.1.1 hbd.1.2
                      have yi := fun W => rin_any d.2 0 10000 W
                      have HOK : Aside (offOk d = (vbed d.1 && inb 0 10000 d.2)) := rfl
                      obtain ⟨db, df⟩ := d
                      simp only [] at kd0 kd1 yb yi HOK
                      clear hd hbd kx
                      generalize vbed db = r1 at *
                      generalize inb 0 10000 df = r2 at *
                      have HBAD : Aside ((r1 && r2) = false → res = (0, 2)) := by
                        intro h
                        have hany : (ds.any fun d => !offOk d) = true := List.any_eq_true.2 ⟨(db, df), List.mem_of_getElem? HD.out, by rw [HOK.out, h]; rfl⟩
                        rw [← HRE2.out, offL, if_neg HONE.out, if_neg (by rw [HQ.out.1, HQ.out.2]; simp), if_pos hany]
                      go_wp2_with fail
                      refine (yb _).mono ?_
                      rintro e w5 ⟨rfl, hb5⟩
                      replace kx2 := keepc hb5 kx2
                      replace kd1 := keepc hb5 kd1
                      have B5 : Aside (Below wo.heap.size wo w5) := HJ.out.2.trans (hb5.mono HJ.out.2.size)
                      clear hb5 kd0 yb
                      cases r1 with
                      | false =>
                        have HR : Aside (res = (0, 2)) := HBAD.out rfl
                        clear HBAD HOK
                        go_wp2
                        go_ret2
                        exact ⟨by rw [HR.out]; rfl, HBW.out.trans (B5.out.mono HBW.out.size)⟩
                      | true =>
                        go_wp2_with fail
                        refine (yi _).mono ?_
                        rintro e w6 ⟨rfl, hb6⟩
                        replace B5 : Aside (Below wo.heap.size wo w6) := B5.out.trans (hb6.mono B5.out.size)
                        clear hb6 yi kx2 kd1
                        cases r2 with
                        | false =>
                          have HR : Aside (res = (0, 2)) := HBAD.out rfl
                          clear HBAD HOK
                          go_wp2
                          go_ret2
                          exact ⟨by rw [HR.out]; rfl, HBW.out.trans (B5.out.mono HBW.out.size)⟩
                        | true =>
                          have HOK2 : Aside (offOk (db, df) = true) := HOK.out
                          clear HBAD HOK
                          go_wp2_with fail
                          go_roundg (q - (j + 1))
                          case measure => omega
                          case rel =>
                            refine ⟨j + 1, by omega, by omega, by go_num, fun p hp d hd => ?_, B5.out⟩
                            by_cases hpj : p = j
                            · subst hpj; rw [HD.out] at hd; cases hd; exact HOK2.out
                            · exact HJ.out.1 p (by omega) d hd
                    · have hltzj : ¬ (j : Int) < (q : Int) := by omega
                      have hje : j = q := by omega
                      subst hje
                      have hany : (ds.any fun d => !offOk d) = false := by
                        rw [List.any_eq_false]
                        intro d hd
                        obtain ⟨p, hp⟩ := List.mem_iff_getElem?.1 hd
                        have hpl := (List.getElem?_eq_some_iff.1 hp).1
                        rw [HJ.out.1 p (by have := HQ.out.2; omega) d hp]; simp
                      have HR : Aside (offL (nearL st ds) ((rows.map (·.2)).drop (k9 + 1)) = res) := by
                        show _ = _
                        rw [← HRE2.out, offL, if_neg HONE.out, if_neg (by rw [HQ.out.1, HQ.out.2]; simp), if_neg (by rw [hany]; simp)]
                      have hl2 : ds.length = st.length := by rw [HQ.out.1, HQ.out.2]
                      have HNP : Aside (nearL st ds = leastU (mn (ds.map distF)) (farP st ds) ∧ (nearL st ds).Pairwise (· ≤ ·)) := near_plain HST.out.2 hl2
                      have HST2 : Aside (Stay (nearL st ds)) := stay_near HST.out.1 hl2
                      have HG : Aside (∀ k p d, st[k]? = some p → ds[k]? = some d → (farP st ds)[k]? = some (p, distF d)) := fun k p d => farP_get
                      have kd0 := keepc HJ.out.2 (HC3.out 0 d0 HD0.out).1
                      have kd1 := keepc HJ.out.2 (HC3.out 0 d0 HD0.out).2
                      simp only [Nat.zero_mul, Nat.add_zero] at kd0 kd1
                      have hq0 : (0 : Int) < (j : Int) := by omega
                      have BJ : Aside (Below wo.heap.size wo wr) := HJ.out.2
                      have yf := fun W => rfar_any d0 W
                      unfold pt at yf
                      obtain ⟨D0, hD0⟩ : ∃ D0, distF d0 = D0 := ⟨_, rfl⟩
                      have HDD : Aside (distF d0 = D0) := hD0
                      rw [hD0] at yf
                      obtain ⟨db, df⟩ := d0
                      simp only [] at kd0 kd1 yf
                      clear hany hl2 HRE2 HONE HJ hD0 hgj hj
                      go_wp2_with fail
                      refine (yf _).mono ?_
                      rintro e w6 ⟨rfl, hb6⟩
                      replace BJ : Aside (Below wo.heap.size wo w6) := BJ.out.trans (hb6.mono BJ.out.size)
                      clear hb6 yf kd0 kd1 kx2
                      go_wp2_with fail
                      obtain ⟨wb, hwb⟩ : ∃ u, u = w6.alloc (.cells #[] 3) := ⟨_, rfl⟩
                      have HOWN : Aside (wb.ownsRow w6.heap.size 3 1 (.slice (some ⟨w6.heap.size, 0, none⟩) 0 0) 0 []) := by rw [hwb]; exact owns_empty _ _ _
                      have BB : Aside (Below w6.heap.size w6 wb) := by rw [hwb]; exact (Below.refl _ _).alloc (Nat.le_refl _) _
                      rw [← hwb]
                      clear hwb
                      have kx6 := keepc BB.out (keepc BJ.out kx)
                      have yf := fun d W => rfar_any d W
                      unfold pt at yf
                      have HYF : Aside (∀ d W, Calls Try.prog 58 #[.agg #[.int .i64 d.1, .int .i64 d.2]] W (Ret (.int .i64 (distF d)) W)) := yf
                      clear yf
                      go_loopg [10, 12] j (fun gg b i wr => ∃ p : Nat, p ≤ j ∧ j - p ≤ gg ∧ i = .int .i64 p ∧ b = .int .i64 (((ds.take p).map distF).foldl min D0) ∧ Aside (Below wb.heap.size wb wr))
                      case atStart => exact ⟨0, Nat.zero_le _, by omega, rfl, rfl, Below.refl _ _⟩
                      case round =>
                        obtain ⟨p, hp, hgp, rfl, rfl, HP⟩ := hrel
                        by_cases hltp : p < j
                        · have hltzp : (p : Int) < (j : Int) := by omega
                          obtain ⟨d, hd⟩ : ∃ d, ds[p]? = some d := ⟨_, List.getElem?_eq_getElem (by rw [HQ.out.2]; exact hltp)⟩
                          have kx7 := keepc HP.out kx6
                          have kd0 := keepc HP.out (keepc BB.out (keepc BJ.out (HC3.out p d hd).1))
                          have kd1 := keepc HP.out (keepc BB.out (keepc BJ.out (HC3.out p d hd).2))
                          have yf := fun W => HYF.out d W
                          have HM : Aside (((ds.take (p + 1)).map distF).foldl min D0 = min (((ds.take p).map distF).foldl min D0) (distF d)) := by
                            show _ = _
                            rw [take_snoc' hd, List.map_append, List.foldl_append]; rfl
                          generalize ((ds.take p).map distF).foldl min D0 = M at *
                          generalize distF d = dd at *
                          obtain ⟨db, df⟩ := d
                          simp only [] at kd0 kd1 yf
                          clear hd kx6
                          go_wp2_with fail
                          refine (yf _).mono ?_
                          rintro e w7 ⟨rfl, hb7⟩
                          have B7 : Aside (Below wb.heap.size wb w7) := HP.out.trans (hb7.mono HP.out.size)
                          clear hb7 yf kx7 kd0 kd1
                          go_wp2_with fail
                          go_roundg (j - (p + 1))
                          case measure => omega
                          case rel => exact ⟨p + 1, by omega, by omega, by go_num, by rw [HM.out], B7.out⟩
                        · have hltzp : ¬ (p : Int) < (j : Int) := by omega
                          have hpe : p = j := by omega
                          subst hpe
                          have HM : Aside (((ds.take p).map distF).foldl min D0 = mn (ds.map distF)) := by
                            show _ = _
                            rw [List.take_of_length_le (by rw [HQ.out.2]; exact Nat.le_refl _)]
                            exact mn_fold (by rw [List.getElem?_map, HD0.out]; simp [HDD.out])
                          rw [HM.out]
                          generalize mn (ds.map distF) = M at *
                          have HOW : Aside (wr.ownsRow w6.heap.size 3 1 (.slice (some ⟨w6.heap.size, 0, none⟩) 0 0) 0 []) := ownsRow_below HOWN.out HP.out
                          have B6 : Aside (Below w6.heap.size w6 wr ∧ w6.heap.size ≤ wr.heap.size) := ⟨BB.out.trans (HP.out.mono BB.out.size), Nat.le_trans BB.out.size HP.out.size⟩
                          clear HM HOWN BB HP kx6 hgp hp
                          have kx6 := keepc BJ.out kx
                          go_wp2_with fail
                          go_loopg [11, 13] p (fun gg v i wr => ∃ u : Nat, u ≤ p ∧ p - u ≤ gg ∧ i = .int .i64 u ∧ wr.ownsRow w6.heap.size 3 1 v (leastU M ((farP st ds).take u)).length ((leastU M ((farP st ds).take u)).map (Value.int .i64)) ∧ Aside (Below w6.heap.size w6 wr ∧ w6.heap.size ≤ wr.heap.size))
                          case atStart => exact ⟨0, Nat.zero_le _, by omega, rfl, by simpa [leastU] using HOW.out, B6.out⟩
                          case round =>
                            clear HOW B6
                            obtain ⟨u, hu, hgu, rfl, hown, HU⟩ := hrel
                            by_cases hltu : u < p
                            · have hltzu : (u : Int) < (p : Int) := by omega
                              obtain ⟨d, hd⟩ : ∃ d, ds[u]? = some d := ⟨_, List.getElem?_eq_getElem (by rw [HQ.out.2]; exact hltu)⟩
                              obtain ⟨pl, hpl⟩ : ∃ pl, st[u]? = some pl := ⟨_, List.getElem?_eq_getElem (by rw [HQ.out.1]; exact hltu)⟩
                              have kx7 := keepc HU.out.1 kx6
                              have kd0 := keepc HU.out.1 (keepc BJ.out (HC3.out u d hd).1)
                              have kd1 := keepc HU.out.1 (keepc BJ.out (HC3.out u d hd).2)
                              have ks := keepc HU.out.1 (keepc BJ.out (HC1.out u pl hpl))
                              have yf := fun W => HYF.out d W
                              have HL : Aside (leastU M ((farP st ds).take (u + 1)) = leastU M ((farP st ds).take u) ++ (if distF d == M then [pl] else [])) := by
                                show _ = _
                                rw [take_snoc' (HG.out u pl d hpl hd)]
                                exact leastU_snoc _ _ _
                              have hln : (leastU M ((farP st ds).take u)).length ≤ 8 := by
                                have h1 := leastU_len M ((farP st ds).take u)
                                rw [List.length_take] at h1
                                omega
                              generalize leastU M ((farP st ds).take u) = lu at *
                              generalize distF d = dd at *
                              obtain ⟨db, df⟩ := d
                              simp only [] at kd0 kd1 yf
                              clear hd hpl kx6
                              go_wp2_with fail
                              refine (yf _).mono ?_
                              rintro e w7 ⟨rfl, hb7⟩
                              have hown7 := ownsRow_below hown hb7
                              have B7 : Aside (Below w6.heap.size w6 w7 ∧ w6.heap.size ≤ w7.heap.size) := ⟨HU.out.1.trans (hb7.mono HU.out.2), Nat.le_trans HU.out.2 hb7.size⟩
                              replace ks := keepc hb7 ks
                              clear hb7 yf kx7 kd0 kd1 hown HU
                              cases hdm : (dd == M) with
                              | true =>
                                rw [hdm] at HL
                                have HB0 : Aside (w6.heap.size ≤ w7.heap.size) := B7.out.2
                                go_wp2_with (at_builtin; refine wpList_append_own _ rfl _ _ 48 rfl w6.heap.size 3 i0 (.int .i64 0) 1 8 Try.underlying48 hi0 hz0 hz1 hz2 rfl (by decide) _ _ _ rfl (hown7.alloc _) ⟨w7.heap.size, 0, none⟩ 1 1 [.int .i64 pl] rfl rfl (cell_one_new _ _ _) (ints_oneCell .i64 [pl]) (by unfold maxLen; omega) (by omega) (by have := HB0.out; simp; omega) ?_; intro v' w8 hown8 hgrow8 hnil8)
                                go_roundg (p - (u + 1))
                                case measure => omega
                                case rel =>
                                  refine ⟨u + 1, by omega, by omega, by go_num, ?_, ?_, ?_⟩
                                  · rw [HL.out]; simpa using hown8
                                  · exact (B7.out.1.alloc B7.out.1.size _).grown hgrow8 (by have := B7.out.2; simp; omega) (fun j hj => (hown7.lt j hj).1)
                                  · have h8 := hgrow8.size; have h7 := B7.out.2; rw [World.size_alloc] at h8; omega
                              | false =>
                                rw [hdm] at HL
                                go_wp2_with fail
                                go_roundg (p - (u + 1))
                                case measure => omega
                                case rel => exact ⟨u + 1, by omega, by omega, by go_num, by rw [HL.out]; simpa using hown7, B7.out⟩
                            · have hltzu : ¬ (u : Int) < (p : Int) := by omega
                              have hue : u = p := by omega
                              subst hue
                              have hfl : (farP st ds).length = u := by rw [farP_length (by rw [HQ.out.1, HQ.out.2])]; exact HQ.out.1
                              rw [List.take_of_length_le (by rw [hfl]; exact Nat.le_refl _), ← HNP.out.1] at hown
                              have S4 : Aside (Sl wr 1 eI _ (nearL st ds)) := sl_owns (fun _ => rfl) (by have := HST2.out.len; omega) (by rw [flat_eI]; exact hown)
                              have B4 : Aside (Below w.heap.size w wr) := HBW.out.trans ((BJ.out.trans (HU.out.1.mono BJ.out.size)).mono HBW.out.size)
                              have HSO : Aside ((nearL st ds).Pairwise (· ≤ ·)) := HNP.out.2
                              generalize nearL st ds = ns at *
                              obtain ⟨a4, c4, rfl, _, _⟩ := S4.out
                              clear hown HU HNP hfl kx6
                              go_wp2_with fail
                              go_roundg (m - (k9 + 1))
                              case measure => omega
                              case rel => exact ⟨k9 + 1, ns, a4, c4, by omega, by omega, by go_num, rfl, ⟨HST2.out, HR.out, S4.out, B4.out⟩, HSO.out⟩
                · skip
                  -- @@c
                  have HR : Aside (res = (0, 4)) := by
                    show _ = _
                    rw [← HRE2.out, offL, if_neg hone, if_pos hlen]
                  have hlz : ((ds.length : Int) != (st.length : Int)) = true := by simpa using (by omega : ¬ (ds.length : Int) = st.length)
                  clear HRE2 hone hlen
                  generalize st.length = sl at *
                  generalize ds.length = dl at *
                  go_wp2
                  go_ret2
                  exact ⟨by rw [HR.out]; rfl, HBW.out⟩
            · skip
              -- @@d
              have hltz9 : ¬ (k9 : Int) < (m : Int) := by omega
              have hke : k9 = m := by omega
              subst hke
              have HRE2 : Aside (offL st [] = res) := by
                have := HRE.out
                rw [List.drop_of_length_le (by rw [List.length_map, HN.out]; exact Nat.le_refl _)] at this
                exact this
              by_cases hmore : 1 < st.length
              · have HR : Aside (res = (0, 31)) := by
                  show _ = _
                  rw [← HRE2.out, offL, if_pos hmore]
                have hmz : (1 : Int) < (st.length : Int) := by omega
                clear HRE HRE2 hmore hsl
                generalize st.length = sl at *
                go_wp2
                go_ret2
                exact ⟨by rw [HR.out]; rfl, HBW.out⟩
              · obtain ⟨p, hp⟩ : ∃ p, st[0]? = some p := ⟨_, List.getElem?_eq_getElem (by omega)⟩
                have HR : Aside (res = (p, 0)) := by
                  show _ = _
                  rw [← HRE2.out, offL, if_neg hmore, hp]; rfl
                have hmz : ¬ (1 : Int) < (st.length : Int) := by omega
                obtain ⟨a5, c5, e5, _, hs5⟩ := hsl
                simp only [Value.slice.injEq] at e5
                obtain ⟨rfl, _, rfl⟩ := e5
                obtain ⟨B5, o5, rfl, hB5, hc5⟩ := hs5 HST.out.1.ne
                have k5 : wr.cell? ⟨B5, o5, none⟩ = some (.int .i64 p) := by have := hc5 0 p hp 0 (.int .i64 p) rfl; simpa using this
                have hl5 : (0 : Int) < (st.length : Int) := by omega
                clear HRE HRE2 hmore hs5 hc5 hp HSL
                generalize st.length = sl at *
                go_wp2
                go_ret2
                exact ⟨by rw [HR.out]; rfl, HBW.out⟩
end Go.Proofs.Ythcgbceapabikaa
