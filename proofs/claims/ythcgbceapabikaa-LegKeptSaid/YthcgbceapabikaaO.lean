/- Leg, part O: the players who have the least number. -/
import Derived.Test.YthcgbceapabikaaN
set_option linter.unusedVariables false
set_option linter.unusedSimpArgs false
namespace Go.Proofs.Ythcgbceapabikaa
open Go.RowKit Go.Maps Go.Sort Go.Shelf

theorem ownsRow_base {w : World} {b b' : Nat} {e : TypeId} {size : Nat} {v : Value} {n : Nat} {xs : List Value} (h : w.ownsRow b e size v n xs) (hb : b' ≤ b) : w.ownsRow b' e size v n xs := by
  obtain ⟨h1, h2⟩ := h
  refine ⟨h1, ?_⟩
  rcases h2 with h2 | ⟨g, cap, cur, h3, h4, h5⟩
  · exact .inl h2
  · exact .inr ⟨g, cap, cur, h3, Nat.le_trans hb h4, h5⟩

set_option maxHeartbeats 400000 in
theorem values_any (mb : Option Nat) (w : World) :
    Calls Try.prog 92 #[.map mb] w fun e w' => e = .returned (.func (.func 99) #[] #[.pointer (some ⟨w.heap.size, 0, none⟩)]) ∧ w' = w.alloc (.cells #[.map mb] 116) := by
  go_enter Try.func92, Try.ntmps92
  go_wp2
  go_ret
  exact ⟨rfl, rfl⟩

/-- What collecting the values leaves. -/
def CollOk (ps : List (Int × Int)) (w : World) (e : Ending) (w' : World) : Prop :=
  ∃ v ss, e = .returned v ∧ ss.Perm (ps.map (·.2)) ∧ Sl w' 1 eI v ss ∧ Below w.heap.size w w'

theorem collect_any (Bm M nn : Nat) (D : DataW Unit) (ps : List (Int × Int)) (w : World) (hB : Bm < w.heap.size) (hm : w.cell? ⟨Bm, 0, none⟩ = some (.map (some M))) (hown : OwnM w M nn D) (hr : Rep D ps) (hl : ps.length ≤ 1000) :
    Calls Try.prog 91 #[.func (.func 99) #[] #[.pointer (some ⟨Bm, 0, none⟩)]] w (CollOk ps w) := by
  have hseq : SeqGives Fence.wide 7 Try.prog 99 #[.pointer (some ⟨Bm, 0, none⟩)] encZ (fun ss => ss.Perm (ps.map (·.2))) (Maps.size D) w := fun l J W hW hJ hY h0 =>
    values1_in 7 (by omega) l Bm M nn D ps hr J hY W hJ ((hW.cell (p := ⟨Bm, 0, none⟩) hB).trans hm) (ownsMap_below hown hW) h0
  have hsz := hr.size
  have h := AnyZI.collect_in collA Fence.wide 9 trivial trivial rfl (by omega) 99 #[.pointer (some ⟨Bm, 0, none⟩)] trivial (enters_of Try.func99 (by kernel_rfl) rfl) _ _ (by unfold maxLen; omega) (by omega) w hseq
  change CallsIn _ _ Try.prog 91 _ _ _ at h
  refine (callsIn_wide.1 h).mono ?_
  rintro e w' ⟨v, ss, rfl, hS, hrow, hnil, hb⟩
  exact ⟨v, ss, rfl, hS, sl_of_owns (by rw [hS.length_eq]; simp; omega) hrow rfl (fun h => hnil.2 h), hb⟩

/-- What sorting leaves of a row of the call's own. -/
def SortOk (base : Nat) (v : Value) (ss : List Int) (w : World) (e : Ending) (w' : World) : Prop :=
  e = .returned (.tuple #[]) ∧ w'.ownsRow base 3 1 v ss.length ((ss.mergeSort fun x y => decide (x ≤ y)).map (Value.int .i64)) ∧ Below base w w'
theorem sort_any (base : Nat) (v : Value) (ss : List Int) (w : World) (hrow : w.ownsRow base 3 1 v ss.length (ss.map (Value.int .i64))) (hne : ss ≠ []) (hl : ss.length ≤ 100000) (hb : base ≤ w.heap.size) :
    Calls Try.prog 93 #[v] w (SortOk base v ss w) := by
  rcases hrow.2 with ⟨_, h0⟩ | ⟨g, cap, cur, rfl, hbase, hg, r1, r2, r3, r4⟩
  · exact absurd (List.length_eq_zero_iff.1 h0) hne
  · have hH : Holds encZ w g 0 ss.toArray := holds_of_block_i hg (by simpa using r4)
    have hgl : g < w.heap.size := (Array.getElem?_eq_some_iff.1 hg).1
    have h := AnyM.slices_Sort_int sortA g 0 cap ss w hH hgl (by omega)
    change Calls Try.prog 93 _ _ _ at h
    refine h.mono ?_
    rintro e w' ⟨rfl, nn, os, rfl⟩
    exact ⟨rfl, ownsRow_sorted_i (by simp) hbase hg r1 r2 r3, (Below.refl base w).grown (grownBy_sorted_i _) hb (fun j hj => by cases hj; exact hbase)⟩

/-- What holds at the head of a round. -/
def LeastInv (m : Int) (w : World) (r : Nat) (v : Value) (qs : List (Int × Int)) (wr : World) : Prop :=
  (v = .slice none 0 0 ↔ leastU m qs = []) ∧ Below w.heap.size w wr ∧ r + 1 ≤ wr.heap.size
theorem leastU_len (m : Int) (qs : List (Int × Int)) : (leastU m qs).length ≤ qs.length := by
  unfold leastU; rw [List.length_map]; exact List.length_filter_le _ _
theorem leastU_ne {ps : List (Int × Int)} (hne : ps ≠ []) : leastU (mn (ps.map (·.2))) ps ≠ [] := by
  obtain ⟨h1, _⟩ := mn_spec (ps.map (·.2)) (by simpa using hne)
  obtain ⟨p, hp, e⟩ := List.mem_map.1 h1
  intro h
  have : p.1 ∈ leastU (mn (ps.map (·.2))) ps := List.mem_map.2 ⟨p, List.mem_filter.2 ⟨hp, by simp [e]⟩, rfl⟩
  rw [h] at this; cases this

set_option maxRecDepth 100000 in
set_option maxHeartbeats 4000000 in
theorem least_any (M nn : Nat) (D : DataW Unit) (ps : List (Int × Int)) (w : World) (hown : OwnM w M nn D) (hr : Rep D ps) (hne : ps ≠ []) (hl : ps.length ≤ 1000) :
    Calls Try.prog 79 #[.map (some M)] w (RetOwn (leastL ps) w) := by
  obtain ⟨i0, hi, hz0, hz1, hz2⟩ := info_parts info_int
  have hMl := hown.lt
  have HO : Aside (OwnM w M nn D) := hown
  have HR : Aside (Rep D ps) := hr
  have HNE : Aside (ps ≠ [] ∧ ps.length ≤ 1000) := ⟨hne, hl⟩
  obtain ⟨m, hm⟩ : ∃ m, mn (ps.map (·.2)) = m := ⟨_, rfl⟩
  have HM : Aside (mn (ps.map (·.2)) = m) := hm
  clear hown hr hne hl hm
  go_enter Try.func79, Try.ntmps79
  go_wp2_with fail
  refine (values_any _ _).mono ?_
  rintro e w1 ⟨rfl, rfl⟩
  have hB1 : Below w.heap.size w (w.alloc (.cells #[.map (some M)] 116)) := (Below.refl _ _).alloc (Nat.le_refl _) _
  have xc := collect_any w.heap.size M nn D ps (w.alloc (.cells #[.map (some M)] 116)) (by simp) (by go_simp) (ownsMap_below HO.out hB1) HR.out HNE.out.2
  go_wp2_with fail
  refine xc.mono ?_
  rintro e w2 ⟨v2, ss, rfl, hp, hs2, hb2⟩
  have B2 : Aside (Below w.heap.size w w2) := hB1.trans (hb2.mono (by simp))
  have xm := min_any v2 ss w2 hs2 (by intro e; rw [e] at hp; exact HNE.out.1 (by simpa using hp.symm.eq_nil))
  have hmn : mn ss = m := (mn_perm hp (by intro e; rw [e] at hp; exact HNE.out.1 (by simpa using hp.symm.eq_nil))).trans HM.out
  rw [hmn] at xm
  clear hp hs2 hb2 hmn xc hB1
  go_wp2_with fail
  refine xm.mono ?_
  rintro e w3 ⟨rfl, hb3⟩
  have B3 : Aside (Below w.heap.size w w3) := B2.out.trans (hb3.mono B2.out.size)
  have ho3 : OwnM w3 M nn D := ownsMap_below HO.out B3.out
  clear xm hb3 B2
  go_wp2_with (at_range; refine wpList_range_own _ rfl _ 116 rfl 3 3 int_k Try.underlying116 _ M nn _ rfl ho3 ?_; intro w4 hrg0 hg0 hs0)
  go_frame
  have B4 : Aside (Below w.heap.size w w4) := B3.out.grown hg0 B3.out.size (fun j hj => by cases hj)
  have Z4 : Aside (w3.heap.size + 1 ≤ w4.heap.size ∧ w.heap.size ≤ w3.heap.size) := ⟨by omega, B3.out.size⟩
  clear hg0 hs0 ho3
  go_loopw [4] (fun v wr => ∃ (left : Lit → Bool) (cnt : Nat) (qs : List (Int × Int)), wr.ranges Try.prog 3 (plainElem Try.prog 3) M w3.heap.size nn D left cnt ∧ wr.ownsRow (w3.heap.size + 1) 3 1 v (leastU m qs).length ((leastU m qs).map (Value.int .i64)) ∧ Aside (SeenP D left qs ∧ qs.length + cnt ≤ Maps.size D) ∧ Aside (LeastInv m w w3.heap.size v qs wr))
    (fun _ wr => wr.rangeLeft M w3.heap.size)
  case atStart => exact ⟨_, _, [], hrg0, ⟨by simp [leastU], .inl ⟨rfl, rfl⟩⟩, ⟨⟨CollectedI.start D, by simp⟩, by simp⟩, ⟨by simp [leastU], B4.out, Z4.out.1⟩⟩
  case round =>
    obtain ⟨left, cnt, qs, hrg, hrow, HS, HI⟩ := hrel
    clear hrg0
    go_wp2_with (at_next; refine wpList_next_ranges_ii _ rfl _ rfl 3 3 .i64 .i64 int_k Try.underlying3 Try.underlying3 M w3.heap.size nn D left cnt rfl hrg ?_ ?_)
    · intro hc0 hl0
      have HP : Aside (qs.Perm ps) := seen_perm HR.out HS.out.1 hl0
      have hnl : leastU m qs ≠ [] := by
        have h1 := leastU_ne HNE.out.1
        rw [HM.out] at h1
        intro e
        have : (leastU m qs).Perm (leastU m ps) := (HP.out.filter _).map _
        rw [e] at this
        exact h1 this.symm.eq_nil
      have xs := sort_any (w3.heap.size + 1) _ _ wr hrow hnl (by
        have := leastU_len m qs; have h2 := HP.out.length_eq; have h3 := HNE.out.2; omega) HI.out.2.2
      have HQ : Aside ((leastU m qs).mergeSort (fun x y => decide (x ≤ y)) = leastL ps) := by
        show _ = _
        unfold leastL
        rw [HM.out]
        exact mergeSort_of_perm_i ((HP.out.filter _).map _)
      have HL : Aside ((leastU m qs).length = (leastL ps).length) := by
        show _ = _
        rw [← HQ.out]; simp
      clear hl0 hc0 hrg hrow
      go_wp2_with fail
      refine xs.mono ?_
      rintro e w5 ⟨rfl, hown5, hb5⟩
      have HO5 : Aside _ := hown5
      clear hown5 xs
      go_wp2
      go_ret
      have hnn : leastL ps ≠ [] := by
        intro e; rw [e] at HL; exact hnl (List.eq_nil_of_length_eq_zero (by simpa using HL.out))
      refine ⟨_, rfl, ?_, ⟨fun e => ?_, fun e => absurd e hnn⟩, HI.out.2.1.trans (hb5.mono (by have := Z4.out.2; omega))⟩
      · have := ownsRow_base HO5.out (show w.heap.size ≤ w3.heap.size + 1 by have := Z4.out.2; omega)
        rw [HQ.out, HL.out] at this
        exact this
      · exact absurd (HI.out.1.1 e) hnl
    · intro x c w5 cnt5 hwx hwc hlx hat hrg1 hlt hg1 hs1 hen
      have hrow5 : w5.ownsRow (w3.heap.size + 1) 3 1 _ _ _ := ownsRow_abides_a hrow hg1 (fun r e => by cases e; exact hrg.iter_walk)
      have HS2 : Aside (SeenP D (fun z => left z && !z.sameKey (.int .i64 x)) (qs ++ [(x, c)]) ∧ (qs ++ [(x, c)]).length + cnt5 ≤ Maps.size D) :=
        ⟨⟨by simpa using HS.out.1.1.step hlx hat, fun p hp => (List.mem_append.1 hp).elim (HS.out.1.2 p) (fun e => by simp at e; subst e; exact hat)⟩, by have := HS.out.2; simp; omega⟩
      have B5 : Aside (Below w.heap.size w w5 ∧ w3.heap.size + 1 ≤ w5.heap.size) := ⟨HI.out.2.1.grown hg1 HI.out.2.1.size (fun j hj => by cases hj; exact Z4.out.2), Nat.le_trans HI.out.2.2 hg1.size⟩
      have HM5 : Aside (cnt5 < wr.rangeLeft M w3.heap.size) := by
        show _ < _
        rw [hrg.left_eq]; exact hlt
      have HU : Aside (leastU m (qs ++ [(x, c)]) = leastU m qs ++ (if c == m then [x] else [])) := leastU_snoc m qs (x, c)
      have hln : (leastU m qs).length ≤ 1000 := by
        have h1 := leastU_len m qs
        have h2 := HS.out.2
        have h3 := HR.out.size
        have h4 := HNE.out.2
        omega
      clear hrow hrg hg1 hs1 hat hlx hwx hwc hlt
      cases hcm : (c == m) with
      | true =>
        rw [hcm] at HU
        have HZ : Aside (w3.heap.size + 1 ≤ w5.heap.size) := B5.out.2
        go_wp2_with (at_builtin; refine wpList_append_own _ rfl _ _ 48 rfl (w3.heap.size + 1) 3 i0 (.int .i64 0) 1 8 Try.underlying48 hi hz0 hz1 hz2 rfl (by decide) _ _ _ rfl (hrow5.alloc _) ⟨w5.heap.size, 0, none⟩ 1 1 [.int .i64 x] rfl rfl (cell_one_new _ _ _) (ints_oneCell .i64 [x]) (by unfold maxLen; omega) (by omega) (by have := HZ.out; simp; omega) ?_; intro v' w6 hown6 hgrow6 hnil6)
        have hall : w5.grownBy w6 _ := (World.grownBy_alloc w5 _ _).trans hgrow6
        have hrg6 := (hrg1.alloc (.cells #[.int .i64 x] 3)).kept hgrow6 (fun e => by have := hrow5.lt _ e.symm; have := Z4.out; omega) (fun e => by have := hrow5.lt _ e.symm; omega)
        go_roundw
        case rel =>
          refine ⟨_, cnt5, qs ++ [(x, c)], hrg6, ?_, HS2.out, ?_, ?_, ?_⟩
          · rw [HU.out]; simpa using hown6
          · rw [HU.out]
            constructor
            · intro e; subst e
              rcases hown6.2 with ⟨_, h0⟩ | ⟨g, cap, cur, e2, _⟩
              · omega
              · cases e2
            · intro e; simp at e
          · exact (B5.out.1.alloc B5.out.1.size _).grown hgrow6 (by have := B5.out.1.size; simp; omega) (fun j hj => by have := hrow5.lt j hj; have := Z4.out.2; omega)
          · have := hgrow6.size; have := B5.out.2; simp at *; omega
        case measure => rw [hrg6.left_eq]; exact HM5.out
      | false =>
        rw [hcm] at HU
        go_wp2
        go_roundw
        case rel =>
          refine ⟨_, cnt5, qs ++ [(x, c)], hrg1, ?_, HS2.out, ?_, B5.out.1, B5.out.2⟩
          · rw [HU.out]; simpa using hrow5
          · rw [HU.out]; simpa using HI.out.1
        case measure => rw [hrg1.left_eq]; exact HM5.out
end Go.Proofs.Ythcgbceapabikaa
