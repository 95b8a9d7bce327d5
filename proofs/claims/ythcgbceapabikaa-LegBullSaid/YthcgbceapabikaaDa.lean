/- Leg, part Da: LegBull's darts, their classes, and what follows of the best ones. -/
import Derived.Test.YthcgbceapabikaaCe
set_option linter.unusedVariables false
set_option linter.unusedSimpArgs false
namespace Go.Proofs.Ythcgbceapabikaa
open Go.RowKit Go.Maps Go.Sort Go.Shelf Go.Deep

def dartF (x : Int) : Int × Int := if x % 10001 < 65 then (225, x % 10001) else if x % 10001 < 160 then (125, x % 10001) else if 1700 < x % 10001 then (0, x % 10001) else (101, x % 10001)
theorem dart_ok (x : Int) : offOk (dartF x) = true := by
  have h0 := Int.emod_nonneg x (b := 10001) (by decide)
  have h1 := Int.emod_lt_of_pos x (b := 10001) (by decide)
  unfold dartF offOk
  generalize x % 10001 = f at *
  have hi : inb 0 10000 f = true := by unfold inb; simp; omega
  split
  · show (vbed 225 && inb 0 10000 f) = true; rw [hi]; rfl
  · split
    · show (vbed 125 && inb 0 10000 f) = true; rw [hi]; rfl
    · split
      · show (vbed 0 && inb 0 10000 f) = true; rw [hi]; rfl
      · show (vbed 101 && inb 0 10000 f) = true; rw [hi]; rfl
theorem dart_bd (x : Int) : ((-9223372036854775808 ≤ (dartF x).1 ∧ (dartF x).1 ≤ 9223372036854775807) ∧ -9223372036854775808 ≤ (dartF x).2 ∧ (dartF x).2 ≤ 9223372036854775807) ∧ 0 ≤ (dartF x).2 ∧ (dartF x).2 ≤ 10000 := by
  have h0 := Int.emod_nonneg x (b := 10001) (by decide)
  have h1 := Int.emod_lt_of_pos x (b := 10001) (by decide)
  unfold dartF
  generalize x % 10001 = f at *
  split
  · simp only []; omega
  · split
    · simp only []; omega
    · split <;> (simp only []; omega)

set_option maxHeartbeats 1000000 in
theorem dart_any (x : Int) (w : World) (h0 : 0 ≤ x) (h1 : x ≤ 65535) : Calls Try.prog 35 #[.int .u16 x] w (Ret (pt (dartF x)) w) := by
  have e1 : IntKind.i64.wrap x = x := IntWalk.i64_in _ (by omega)
  have e2 : Int.tmod x 10001 = x % 10001 := Int.tmod_eq_emod_of_nonneg h0
  have b0 := Int.emod_nonneg x (b := 10001) (by decide)
  have b1 := Int.emod_lt_of_pos x (b := 10001) (by decide)
  unfold dartF pt
  generalize x % 10001 = f at *
  have e3 : IntKind.i64.wrap f = f := IntWalk.i64_in _ (by omega)
  by_cases c1 : f < 65
  · rw [if_pos c1]
    go_enter Try.func35, Try.ntmps35
    go_wp2
    refine bodyPost_ret (v := .agg #[.int .i64 225, .int .i64 f]) (by simp [results, Try.results35, go_sem]) rfl ⟨rfl, ?_⟩
    (repeat' (first | exact Below.refl _ _ | assumption | (with_reducible refine Below.drew ?_) | (with_reducible refine Below.setCell ?_ (by (first | (simp; done) | (simp; omega))) _) | (with_reducible refine below_drewN' ?_ _) | (refine Below.alloc ?_ (by (try simp only [World.size_alloc, World.size_drew, World.size_setCell]); omega) _) | (refine Below.trans ?_ (Below.mono (by assumption) (by (try simp only [World.size_alloc, World.size_drew, World.size_setCell]); omega)))))
  rw [if_neg c1]
  by_cases c2 : f < 160
  · rw [if_pos c2]
    go_enter Try.func35, Try.ntmps35
    go_wp2
    refine bodyPost_ret (v := .agg #[.int .i64 125, .int .i64 f]) (by simp [results, Try.results35, go_sem]) rfl ⟨rfl, ?_⟩
    (repeat' (first | exact Below.refl _ _ | assumption | (with_reducible refine Below.drew ?_) | (with_reducible refine Below.setCell ?_ (by (first | (simp; done) | (simp; omega))) _) | (with_reducible refine below_drewN' ?_ _) | (refine Below.alloc ?_ (by (try simp only [World.size_alloc, World.size_drew, World.size_setCell]); omega) _) | (refine Below.trans ?_ (Below.mono (by assumption) (by (try simp only [World.size_alloc, World.size_drew, World.size_setCell]); omega)))))
  rw [if_neg c2]
  by_cases c3 : 1700 < f
  · rw [if_pos c3]
    go_enter Try.func35, Try.ntmps35
    go_wp2
    refine bodyPost_ret (v := .agg #[.int .i64 0, .int .i64 f]) (by simp [results, Try.results35, go_sem]) rfl ⟨rfl, ?_⟩
    (repeat' (first | exact Below.refl _ _ | assumption | (with_reducible refine Below.drew ?_) | (with_reducible refine Below.setCell ?_ (by (first | (simp; done) | (simp; omega))) _) | (with_reducible refine below_drewN' ?_ _) | (refine Below.alloc ?_ (by (try simp only [World.size_alloc, World.size_drew, World.size_setCell]); omega) _) | (refine Below.trans ?_ (Below.mono (by assumption) (by (try simp only [World.size_alloc, World.size_drew, World.size_setCell]); omega)))))
  rw [if_neg c3]
  go_enter Try.func35, Try.ntmps35
  go_wp2
  refine bodyPost_ret (v := .agg #[.int .i64 101, .int .i64 f]) (by simp [results, Try.results35, go_sem]) rfl ⟨rfl, ?_⟩
  (repeat' (first | exact Below.refl _ _ | assumption | (with_reducible refine Below.drew ?_) | (with_reducible refine Below.setCell ?_ (by (first | (simp; done) | (simp; omega))) _) | (with_reducible refine below_drewN' ?_ _) | (refine Below.alloc ?_ (by (try simp only [World.size_alloc, World.size_drew, World.size_setCell]); omega) _) | (refine Below.trans ?_ (Below.mono (by assumption) (by (try simp only [World.size_alloc, World.size_drew, World.size_setCell]); omega)))))

set_option maxHeartbeats 1000000 in
theorem class_any (d : Int × Int) (w : World) (h0 : 0 ≤ d.2) (h1 : d.2 ≤ 10000) : Calls Try.prog 36 #[pt d] w (Ret (.int .i64 (distF d + 2)) w) := by
  obtain ⟨b, f⟩ := d
  simp only [] at h0 h1
  have e1 : IntKind.i64.wrap (2 + f) = 2 + f := IntWalk.i64_in _ (by omega)
  unfold pt distF
  simp only []
  by_cases c1 : b = 225
  · rw [if_pos c1]; subst c1
    go_enter Try.func36, Try.ntmps36
    go_wp2
    go_ret
    exact ⟨rfl, by (repeat' (first | exact Below.refl _ _ | assumption | (with_reducible refine Below.drew ?_) | (with_reducible refine Below.setCell ?_ (by (first | (simp; done) | (simp; omega))) _) | (with_reducible refine below_drewN' ?_ _) | (refine Below.alloc ?_ (by (try simp only [World.size_alloc, World.size_drew, World.size_setCell]); omega) _) | (refine Below.trans ?_ (Below.mono (by assumption) (by (try simp only [World.size_alloc, World.size_drew, World.size_setCell]); omega)))))⟩
  rw [if_neg c1]
  have b1 : (b == 225) = false := by simpa using c1
  by_cases c2 : b = 125
  · rw [if_pos c2]; subst c2
    go_enter Try.func36, Try.ntmps36
    go_wp2
    go_ret
    exact ⟨rfl, by (repeat' (first | exact Below.refl _ _ | assumption | (with_reducible refine Below.drew ?_) | (with_reducible refine Below.setCell ?_ (by (first | (simp; done) | (simp; omega))) _) | (with_reducible refine below_drewN' ?_ _) | (refine Below.alloc ?_ (by (try simp only [World.size_alloc, World.size_drew, World.size_setCell]); omega) _) | (refine Below.trans ?_ (Below.mono (by assumption) (by (try simp only [World.size_alloc, World.size_drew, World.size_setCell]); omega)))))⟩
  rw [if_neg c2]
  have b2 : (b == 125) = false := by simpa using c2
  by_cases c3 : b = 0
  · rw [if_pos c3]; subst c3
    go_enter Try.func36, Try.ntmps36
    go_wp2
    go_ret
    exact ⟨rfl, by (repeat' (first | exact Below.refl _ _ | assumption | (with_reducible refine Below.drew ?_) | (with_reducible refine Below.setCell ?_ (by (first | (simp; done) | (simp; omega))) _) | (with_reducible refine below_drewN' ?_ _) | (refine Below.alloc ?_ (by (try simp only [World.size_alloc, World.size_drew, World.size_setCell]); omega) _) | (refine Below.trans ?_ (Below.mono (by assumption) (by (try simp only [World.size_alloc, World.size_drew, World.size_setCell]); omega)))))⟩
  rw [if_neg c3, Int.add_comm]
  have b3 : (b == 0) = false := by simpa using c3
  clear c1 c2 c3
  go_enter Try.func36, Try.ntmps36
  go_wp2
  go_ret
  exact ⟨rfl, by (repeat' (first | exact Below.refl _ _ | assumption | (with_reducible refine Below.drew ?_) | (with_reducible refine Below.setCell ?_ (by (first | (simp; done) | (simp; omega))) _) | (with_reducible refine below_drewN' ?_ _) | (refine Below.alloc ?_ (by (try simp only [World.size_alloc, World.size_drew, World.size_setCell]); omega) _) | (refine Below.trans ?_ (Below.mono (by assumption) (by (try simp only [World.size_alloc, World.size_drew, World.size_setCell]); omega)))))⟩

/-- The players of the best darts. -/
def bestL (ds : List (Int × Int)) : List Int := leastU (mn (ds.map distF)) (farP (evL ds.length) ds)
theorem least_map (m : Int) (g : Int → Int) (ps : List (Int × Int)) : leastU m (ps.map fun p => (g p.1, p.2)) = (leastU m ps).map g := by
  unfold leastU
  rw [List.filter_map, List.map_map, List.map_map]
  rfl
theorem zip_map_l {α β γ : Type} (g : α → γ) : ∀ (xs : List α) (ys : List β), (xs.map g).zip ys = (xs.zip ys).map fun p => (g p.1, p.2) := by
  intro xs
  induction xs with
  | nil => intro ys; rfl
  | cons x xs ih => intro ys; cases ys with
    | nil => rfl
    | cons y ys => simp [ih]
theorem st_map {st : List Int} : st = (evL st.length).map fun i => st.getD i.toNat 0 := by
  apply List.ext_getElem?
  intro j
  unfold evL
  rw [List.map_map, List.getElem?_map]
  by_cases hj : j < st.length
  · rw [List.getElem?_range hj, List.getElem?_eq_getElem hj]
    simp [hj]
  · rw [List.getElem?_eq_none (by omega), List.getElem?_eq_none (by simp; omega)]
    rfl
theorem near_map {st : List Int} {ds : List (Int × Int)} (hs : st.Pairwise (· ≤ ·)) (hl : ds.length = st.length) : nearL st ds = (bestL ds).map fun i => st.getD i.toNat 0 := by
  rw [(near_plain hs hl).1]
  unfold bestL
  rw [← least_map, hl]
  congr 1
  unfold farP
  conv => lhs; rw [st_map (st := st)]
  rw [zip_map_l, List.map_map, List.map_map]
  rfl
theorem best_near (ds : List (Int × Int)) : nearL (evL ds.length) ds = bestL ds := (near_plain (ev_sorted _) (by rw [evL_length])).1
theorem best_bd {ds : List (Int × Int)} : ∀ p ∈ bestL ds, ∃ i : Nat, i < ds.length ∧ p = (i : Int) := by
  intro p hp
  have hsub := (least_sub (mn (ds.map distF)) (show ds.length = (evL ds.length).length by rw [evL_length])).subset hp
  obtain ⟨i, hi, rfl⟩ := List.mem_map.1 hsub
  exact ⟨i, List.mem_range.1 hi, rfl⟩
theorem any_ok {ds : List (Int × Int)} (h : ∀ d ∈ ds, offOk d = true) : (ds.any fun d => !offOk d) = false := by
  rw [List.any_eq_false]
  intro d hd
  rw [h d hd]; simp
/-- A round: who is left of it. -/
theorem off_one {ds : List (Int × Int)} (h : ∀ d ∈ ds, offOk d = true) (h1 : 2 ≤ ds.length) (h8 : ds.length ≤ 8) : offF (ds.length : Int) [ds] = if 1 < (bestL ds).length then (0, 31) else ((bestL ds)[0]?.getD 0, 0) := by
  unfold offF
  rw [if_pos (by unfold inb; simp; omega), if_neg (by simp)]
  rw [Int.toNat_natCast, offL, if_neg (by rw [evL_length]; omega), if_neg (by rw [evL_length]; simp), if_neg (by rw [any_ok h]; simp), best_near, offL]
theorem off_two {ds es : List (Int × Int)} (h : ∀ d ∈ ds, offOk d = true) (h2 : ∀ d ∈ es, offOk d = true) (h1 : 2 ≤ ds.length) (h8 : ds.length ≤ 8) (hb : 2 ≤ (bestL ds).length) :
    offF (ds.length : Int) [ds, es] = if es.length ≠ (bestL ds).length then (0, 4) else if 1 < (bestL es).length then (0, 31) else ((bestL ds).getD ((bestL es)[0]?.getD 0).toNat 0, 0) := by
  unfold offF
  rw [if_pos (by unfold inb; simp; omega), if_neg (by simp)]
  rw [Int.toNat_natCast, offL, if_neg (by rw [evL_length]; omega), if_neg (by rw [evL_length]; simp), if_neg (by rw [any_ok h]; simp), best_near, offL, if_neg (by omega)]
  split
  · rfl
  · rename_i hl
    have hl' : es.length = (bestL ds).length := by omega
    rw [if_neg (by rw [any_ok h2]; simp)]
    have hs : (bestL ds).Pairwise (· ≤ ·) := by rw [← best_near]; exact (near_plain (ev_sorted _) (by rw [evL_length])).2
    rw [near_map hs hl', offL, List.length_map]
    split
    · rfl
    · have hne : (bestL es) ≠ [] := by
        intro e
        have hl2 : es.length = (evL es.length).length := by rw [evL_length]
        have := leastU_ne (ps := farP (evL es.length) es) (by intro e2; have := farP_length hl2; rw [e2, evL_length] at this; simp at this; omega)
        rw [far_snd hl2] at this
        exact this e
      cases hb2 : bestL es with
      | nil => exact absurd hb2 hne
      | cons p ps => simp
theorem best_ne {ds : List (Int × Int)} (h : ds ≠ []) : bestL ds ≠ [] := by
  have hl2 : ds.length = (evL ds.length).length := by rw [evL_length]
  have := leastU_ne (ps := farP (evL ds.length) ds) (by intro e2; have := farP_length hl2; rw [e2, evL_length] at this; simp at this; exact h (List.eq_nil_of_length_eq_zero this.symm))
  rw [far_snd hl2] at this
  exact this
theorem mn_le : ∀ {l : List Int} {x : Int}, x ∈ l → mn l ≤ x := by
  intro l x hx
  have hne : l ≠ [] := by intro e; rw [e] at hx; cases hx
  exact (mn_spec l hne).2 x hx
/-- A dart is one of the best just if none is better. -/
theorem most_best {ds : List (Int × Int)} {d : Int × Int} (hd : d ∈ ds) : (ds.all fun e => decide (distF d + 2 ≤ distF e + 2)) = (distF d == mn (ds.map distF)) := by
  have hne : ds.map distF ≠ [] := by intro e; have := List.map_eq_nil_iff.1 e; rw [this] at hd; cases hd
  obtain ⟨h1, h2⟩ := mn_spec (ds.map distF) hne
  rw [Bool.eq_iff_iff]
  simp only [List.all_eq_true, decide_eq_true_eq, beq_iff_eq]
  constructor
  · intro h
    obtain ⟨e, he, e1⟩ := List.mem_map.1 h1
    have := h e he
    have := h2 (distF d) (List.mem_map.2 ⟨d, hd, rfl⟩)
    omega
  · intro h e he
    have := h2 (distF e) (List.mem_map.2 ⟨e, he, rfl⟩)
    omega
end Go.Proofs.Ythcgbceapabikaa
