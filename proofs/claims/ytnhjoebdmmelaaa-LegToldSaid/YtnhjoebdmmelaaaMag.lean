/- Leg: parts O, P, Q. -/
import Derived.Test.YtnhjoebdmmelaaaMaf
set_option linter.unusedVariables false
set_option linter.unusedSimpArgs false
namespace Go.Proofs.Ytnhjoebdmmelaaa
section
open Go.RowKit Go.Maps Go.Sort Go.Shelf
theorem ownsRow_base {w : World} {b b' : Nat} {e : TypeId} {size : Nat} {v : Value} {n : Nat} {xs : List Value} (h : w.ownsRow b e size v n xs) (hb : b' ≤ b) : w.ownsRow b' e size v n xs := by
 obtain ⟨h1, h2⟩ := h
 refine ⟨h1, ?_⟩
 rcases h2 with h2 | ⟨g, cap, cur, h3, h4, h5⟩
 ·exact .inl h2
 ·exact .inr ⟨g, cap, cur, h3, Nat.le_trans hb h4, h5⟩
set_option maxHeartbeats 400000 in
theorem values_any (mb : Option Nat) (w : World) :
  Calls Try.prog 92 #[.map mb] w fun e w' => e = .returned (.func (.func 99) #[] #[.pointer (some ⟨w.heap.size, 0, none⟩)]) ∧ w' = w.alloc (.cells #[.map mb] 116) := by
 go_enter Try.func92, Try.ntmps92
 go_wp2
 go_ret
 exact ⟨rfl, rfl⟩
def CollOk (ps : List (Int × Int)) (w : World) (e : Ending) (w' : World) : Prop :=
 ∃ v ss, e = .returned v ∧ ss.Perm (ps.map (·.2)) ∧ Sl w' 1 eI v ss ∧ Below w.heap.size w w'
theorem collect_any (Bm M nn : Nat) (D : DataW Unit) (ps : List (Int × Int)) (w : World) (hB : Bm < w.heap.size) (hm : w.cell? ⟨Bm, 0, none⟩ = some (.map (some M))) (hown : OwnM w M nn D) (hr : Rep D ps) (hl : ps.length ≤ 1000) :
  Calls Try.prog 91 #[.func (.func 99) #[] #[.pointer (some ⟨Bm, 0, none⟩)]] w (CollOk ps w) := by
 have hseq : SeqGives Fence.wide 7 Try.prog 99 #[.pointer (some ⟨Bm, 0, none⟩)] encZ (fun ss => ss.Perm (ps.map (·.2))) (Maps.size D) w := fun l J W hW hJ hY h0 =>
  values1_in 7 (by omega) l Bm M nn D ps hr J hY W hJ ((hW.cell (p := ⟨Bm, 0, none⟩) hB).trans hm) (ownsMap_below hown hW) h0
 have hsz := hr.size
 have h := AnyZI.collect_in collA Fence.wide 9 trivial trivial rfl (by omega) 99 #[.pointer (some ⟨Bm, 0, none⟩)] trivial (enters_of Try.func99 (by kernel_rfl) rfl) _ _ (by unfold maxLen; omega) (by omega) w hseq
 change CallsIn _ _ Try.prog 91 _ _ _ at h
 refine (callsIn_wide.1 h).mono ?_
 rintro e w' ⟨v, ss, rfl, hS, hrow, hnil, hb⟩
 exact ⟨v, ss, rfl, hS, sl_of_owns (by rw [hS.length_eq]; simp; omega) hrow rfl (fun h => hnil.2 h), hb⟩
def SortOk (base : Nat) (v : Value) (ss : List Int) (w : World) (e : Ending) (w' : World) : Prop :=
 e = .returned (.tuple #[]) ∧ w'.ownsRow base 3 1 v ss.length ((ss.mergeSort fun x y => decide (x ≤ y)).map (Value.int .i64)) ∧ Below base w w'
theorem sort_any (base : Nat) (v : Value) (ss : List Int) (w : World) (hrow : w.ownsRow base 3 1 v ss.length (ss.map (Value.int .i64))) (hne : ss ≠ []) (hl : ss.length ≤ 100000) (hb : base ≤ w.heap.size) :
  Calls Try.prog 93 #[v] w (SortOk base v ss w) := by
 rcases hrow.2 with ⟨_, h0⟩ | ⟨g, cap, cur, rfl, hbase, hg, r1, r2, r3, r4⟩
 ·exact absurd (List.length_eq_zero_iff.1 h0) hne
 ·have hH : Holds encZ w g 0 ss.toArray := holds_of_block_i hg (by simpa using r4)
  have hgl : g < w.heap.size := (Array.getElem?_eq_some_iff.1 hg).1
  have h := AnyM.slices_Sort_int sortA g 0 cap ss w hH hgl (by omega)
  change Calls Try.prog 93 _ _ _ at h
  refine h.mono ?_
  rintro e w' ⟨rfl, nn, os, rfl⟩
  exact ⟨rfl, ownsRow_sorted_i (by simp) hbase hg r1 r2 r3, (Below.refl base w).grown (grownBy_sorted_i _) hb (fun j hj => by cases hj; exact hbase)⟩
def LeastInv (m : Int) (w : World) (r : Nat) (v : Value) (qs : List (Int × Int)) (wr : World) : Prop :=
 (v = .slice none 0 0 ↔ leastU m qs = []) ∧ Below w.heap.size w wr ∧ r + 1 ≤ wr.heap.size
theorem leastU_len (m : Int) (qs : List (Int × Int)) : (leastU m qs).length ≤ qs.length := by
 unfold leastU; rw [List.length_map]; exact List.length_filter_le _ _
theorem leastU_ne {ps : List (Int × Int)} (hne : ps ≠ []) : leastU (mn (ps.map (·.2))) ps ≠ [] := by
 obtain ⟨h1, _⟩ := mn_spec (ps.map (·.2)) (by simpa using hne)
 obtain ⟨p, hp, e⟩ := List.mem_map.1 h1
 intro h
 have : p.1 ∈ leastU (mn (ps.map (·.2))) ps := List.mem_map.2 ⟨p, List.mem_filter.2 ⟨hp, by simp [e]⟩, rfl⟩
 rw [h] at this; cases this
set_option maxRecDepth 100000 in
set_option maxHeartbeats 4000000 in
theorem least_any (M nn : Nat) (D : DataW Unit) (ps : List (Int × Int)) (w : World) (hown : OwnM w M nn D) (hr : Rep D ps) (hne : ps ≠ []) (hl : ps.length ≤ 1000) :
  Calls Try.prog 79 #[.map (some M)] w (RetOwn (leastL ps) w) := by
 obtain ⟨i0, hi, hz0, hz1, hz2⟩ := info_parts info_int
 have hMl := hown.lt
 have HO : Aside (OwnM w M nn D) := hown
 have HR : Aside (Rep D ps) := hr
 have HNE : Aside (ps ≠ [] ∧ ps.length ≤ 1000) := ⟨hne, hl⟩
 obtain ⟨m, hm⟩ : ∃ m, mn (ps.map (·.2)) = m := ⟨_, rfl⟩
 have HM : Aside (mn (ps.map (·.2)) = m) := hm
 clear hown hr hne hl hm
 go_enter Try.func79, Try.ntmps79
 go_wp2_with fail
 refine (values_any _ _).mono ?_
 rintro e w1 ⟨rfl, rfl⟩
 have hB1 : Below w.heap.size w (w.alloc (.cells #[.map (some M)] 116)) := (Below.refl _ _).alloc (Nat.le_refl _) _
 have xc := collect_any w.heap.size M nn D ps (w.alloc (.cells #[.map (some M)] 116)) (by simp) (by go_simp) (ownsMap_below HO.out hB1) HR.out HNE.out.2
 go_wp2_with fail
 refine xc.mono ?_
 rintro e w2 ⟨v2, ss, rfl, hp, hs2, hb2⟩
 have B2 : Aside (Below w.heap.size w w2) := hB1.trans (hb2.mono (by simp))
 have xm := min_any v2 ss w2 hs2 (by intro e; rw [e] at hp; exact HNE.out.1 (by simpa using hp.symm.eq_nil))
 have hmn : mn ss = m := (mn_perm hp (by intro e; rw [e] at hp; exact HNE.out.1 (by simpa using hp.symm.eq_nil))).trans HM.out
 rw [hmn] at xm
 clear hp hs2 hb2 hmn xc hB1
 go_wp2_with fail
 refine xm.mono ?_
 rintro e w3 ⟨rfl, hb3⟩
 have B3 : Aside (Below w.heap.size w w3) := B2.out.trans (hb3.mono B2.out.size)
 have ho3 : OwnM w3 M nn D := ownsMap_below HO.out B3.out
 clear xm hb3 B2
 go_wp2_with (at_range; refine wpList_range_own _ rfl _ 116 rfl 3 3 int_k Try.underlying116 _ M nn _ rfl ho3 ?_; intro w4 hrg0 hg0 hs0)
 go_frame
 have B4 : Aside (Below w.heap.size w w4) := B3.out.grown hg0 B3.out.size (fun j hj => by cases hj)
 have Z4 : Aside (w3.heap.size + 1 ≤ w4.heap.size ∧ w.heap.size ≤ w3.heap.size) := ⟨by omega, B3.out.size⟩
 clear hg0 hs0 ho3
 go_loopw [4] (fun v wr => ∃ (left : Lit → Bool) (cnt : Nat) (qs : List (Int × Int)), wr.ranges Try.prog 3 (plainElem Try.prog 3) M w3.heap.size nn D left cnt ∧ wr.ownsRow (w3.heap.size + 1) 3 1 v (leastU m qs).length ((leastU m qs).map (Value.int .i64)) ∧ Aside (SeenP D left qs ∧ qs.length + cnt ≤ Maps.size D) ∧ Aside (LeastInv m w w3.heap.size v qs wr))
  (fun _ wr => wr.rangeLeft M w3.heap.size)
 case atStart => exact ⟨_, _, [], hrg0, ⟨by simp [leastU], .inl ⟨rfl, rfl⟩⟩, ⟨⟨CollectedI.start D, by simp⟩, by simp⟩, ⟨by simp [leastU], B4.out, Z4.out.1⟩⟩
 case round =>
  obtain ⟨left, cnt, qs, hrg, hrow, HS, HI⟩ := hrel
  clear hrg0
  go_wp2_with (at_next; refine wpList_next_ranges_ii _ rfl _ rfl 3 3 .i64 .i64 int_k Try.underlying3 Try.underlying3 M w3.heap.size nn D left cnt rfl hrg ?_ ?_)
  ·intro hc0 hl0
   have HP : Aside (qs.Perm ps) := seen_perm HR.out HS.out.1 hl0
   have hnl : leastU m qs ≠ [] := by
    have h1 := leastU_ne HNE.out.1
    rw [HM.out] at h1
    intro e
    have : (leastU m qs).Perm (leastU m ps) := (HP.out.filter _).map _
    rw [e] at this
    exact h1 this.symm.eq_nil
   have xs := sort_any (w3.heap.size + 1) _ _ wr hrow hnl (by
    have := leastU_len m qs; have h2 := HP.out.length_eq; have h3 := HNE.out.2; omega) HI.out.2.2
   have HQ : Aside ((leastU m qs).mergeSort (fun x y => decide (x ≤ y)) = leastL ps) := by
    show _ = _
    unfold leastL
    rw [HM.out]
    exact mergeSort_of_perm_i ((HP.out.filter _).map _)
   have HL : Aside ((leastU m qs).length = (leastL ps).length) := by
    show _ = _
    rw [← HQ.out]; simp
   clear hl0 hc0 hrg hrow
   go_wp2_with fail
   refine xs.mono ?_
   rintro e w5 ⟨rfl, hown5, hb5⟩
   have HO5 : Aside _ := hown5
   clear hown5 xs
   go_wp2
   go_ret
   have hnn : leastL ps ≠ [] := by
    intro e; rw [e] at HL; exact hnl (List.eq_nil_of_length_eq_zero (by simpa using HL.out))
   refine ⟨_, rfl, ?_, ⟨fun e => ?_, fun e => absurd e hnn⟩, HI.out.2.1.trans (hb5.mono (by have := Z4.out.2; omega))⟩
   ·have := ownsRow_base HO5.out (show w.heap.size ≤ w3.heap.size + 1 by have := Z4.out.2; omega)
    rw [HQ.out, HL.out] at this
    exact this
   ·exact absurd (HI.out.1.1 e) hnl
  ·intro x c w5 cnt5 hwx hwc hlx hat hrg1 hlt hg1 hs1 hen
   have hrow5 : w5.ownsRow (w3.heap.size + 1) 3 1 _ _ _ := ownsRow_abides_a hrow hg1 (fun r e => by cases e; exact hrg.iter_walk)
   have HS2 : Aside (SeenP D (fun z => left z && !z.sameKey (.int .i64 x)) (qs ++ [(x, c)]) ∧ (qs ++ [(x, c)]).length + cnt5 ≤ Maps.size D) :=
    ⟨⟨by simpa using HS.out.1.1.step hlx hat, fun p hp => (List.mem_append.1 hp).elim (HS.out.1.2 p) (fun e => by simp at e; subst e; exact hat)⟩, by have := HS.out.2; simp; omega⟩
   have B5 : Aside (Below w.heap.size w w5 ∧ w3.heap.size + 1 ≤ w5.heap.size) := ⟨HI.out.2.1.grown hg1 HI.out.2.1.size (fun j hj => by cases hj; exact Z4.out.2), Nat.le_trans HI.out.2.2 hg1.size⟩
   have HM5 : Aside (cnt5 < wr.rangeLeft M w3.heap.size) := by
    show _ < _
    rw [hrg.left_eq]; exact hlt
   have HU : Aside (leastU m (qs ++ [(x, c)]) = leastU m qs ++ (if c == m then [x] else [])) := leastU_snoc m qs (x, c)
   have hln : (leastU m qs).length ≤ 1000 := by
    have h1 := leastU_len m qs
    have h2 := HS.out.2
    have h3 := HR.out.size
    have h4 := HNE.out.2
    omega
   clear hrow hrg hg1 hs1 hat hlx hwx hwc hlt
   cases hcm : (c == m) with
   | true =>
    rw [hcm] at HU
    have HZ : Aside (w3.heap.size + 1 ≤ w5.heap.size) := B5.out.2
    go_wp2_with (at_builtin; refine wpList_append_own _ rfl _ _ 48 rfl (w3.heap.size + 1) 3 i0 (.int .i64 0) 1 8 Try.underlying48 hi hz0 hz1 hz2 rfl (by decide) _ _ _ rfl (hrow5.alloc _) ⟨w5.heap.size, 0, none⟩ 1 1 [.int .i64 x] rfl rfl (cell_one_new _ _ _) (ints_oneCell .i64 [x]) (by unfold maxLen; omega) (by omega) (by have := HZ.out; simp; omega) ?_; intro v' w6 hown6 hgrow6 hnil6)
    have hall : w5.grownBy w6 _ := (World.grownBy_alloc w5 _ _).trans hgrow6
    have hrg6 := (hrg1.alloc (.cells #[.int .i64 x] 3)).kept hgrow6 (fun e => by have := hrow5.lt _ e.symm; have := Z4.out; omega) (fun e => by have := hrow5.lt _ e.symm; omega)
    go_roundw
    case rel =>
     refine ⟨_, cnt5, qs ++ [(x, c)], hrg6, ?_, HS2.out, ?_, ?_, ?_⟩
     ·rw [HU.out]; simpa using hown6
     ·rw [HU.out]
      constructor
      ·intro e; subst e
       rcases hown6.2 with ⟨_, h0⟩ | ⟨g, cap, cur, e2, _⟩
       ·omega
       ·cases e2
      ·intro e; simp at e
     ·exact (B5.out.1.alloc B5.out.1.size _).grown hgrow6 (by have := B5.out.1.size; simp; omega) (fun j hj => by have := hrow5.lt j hj; have := Z4.out.2; omega)
     ·have := hgrow6.size; have := B5.out.2; simp at *; omega
    case measure => rw [hrg6.left_eq]; exact HM5.out
   | false =>
    rw [hcm] at HU
    go_wp2
    go_roundw
    case rel =>
     refine ⟨_, cnt5, qs ++ [(x, c)], hrg1, ?_, HS2.out, ?_, B5.out.1, B5.out.2⟩
     ·rw [HU.out]; simpa using hrow5
     ·rw [HU.out]; simpa using HI.out.1
    case measure => rw [hrg1.left_eq]; exact HM5.out
end
section
open Go.RowKit Go.Maps Go.Sort Go.Shelf
def farP (ps : List Int) (ds : List (Int × Int)) : List (Int × Int) := (ps.zip ds).map fun p => (p.1, distF p.2)
def nearL (ps : List Int) (ds : List (Int × Int)) : List Int := leastL (farP ps ds)
theorem farP_length {ps : List Int} {ds : List (Int × Int)} (h : ds.length = ps.length) : (farP ps ds).length = ps.length := by simp [farP]; omega
theorem farP_keys {ps : List Int} {ds : List (Int × Int)} (h : ds.length = ps.length) : (farP ps ds).map (·.1) = ps := by
 unfold farP
 rw [List.map_map]
 have : ((fun p : Int × Int => p.1) ∘ fun p : Int × (Int × Int) => (p.1, distF p.2)) = fun p => p.1 := rfl
 rw [this]
 exact List.map_fst_zip (by omega)
theorem farP_get {ps : List Int} {ds : List (Int × Int)} {k : Nat} {p : Int} {d : Int × Int} (h1 : ps[k]? = some p) (h2 : ds[k]? = some d) : (farP ps ds)[k]? = some (p, distF d) := by
 unfold farP
 rw [List.getElem?_map, (List.getElem?_zip_eq_some (z := (p, d))).2 ⟨h1, h2⟩]; rfl
theorem take_snoc' {α : Type} {l : List α} {k : Nat} {x : α} (h : l[k]? = some x) : l.take (k + 1) = l.take k ++ [x] := by
 obtain ⟨h1, h2⟩ := List.getElem?_eq_some_iff.1 h
 rw [List.take_succ_eq_append_getElem h1, h2]
set_option maxRecDepth 100000 in
set_option maxHeartbeats 4000000 in
theorem nearest_any (v vd : Value) (ps : List Int) (ds : List (Int × Int)) (w : World) (hv : Sl w 1 eI v ps) (hd : Sl w 2 encP vd ds) (hlen : ds.length = ps.length) (hnd : ps.Nodup) (hne : ps ≠ []) (hl : ps.length ≤ 1000) (hb : ∀ p ∈ ps, 0 ≤ p ∧ p ≤ 1000) (hf : ∀ d ∈ ds, -9223372036854775808 ≤ d.2 ∧ d.2 ≤ 9223372036854775807) :
  Calls Try.prog 57 #[v, vd] w (RetOwn (nearL ps ds) w) := by
 have HK : Aside ((farP ps ds).map (·.1) = ps) := farP_keys hlen
 have HL : Aside ((farP ps ds).length = ps.length) := farP_length hlen
 have HG : Aside (∀ k p d, ps[k]? = some p → ds[k]? = some d → (farP ps ds)[k]? = some (p, distF d)) := fun k p d => farP_get
 unfold nearL
 generalize farP ps ds = fs at *
 obtain ⟨a, cp, rfl, hl1, hs⟩ := hv
 obtain ⟨a2, cp2, rfl, hl2, hs2⟩ := hd
 have HS : Aside (ps ≠ [] → ∃ b off, a = some ⟨b, off, none⟩ ∧ b < w.heap.size ∧ ∀ j x, ps[j]? = some x → ∀ i y, (eI x)[i]? = some y → w.cell? ⟨b, off + j * 1 + i, none⟩ = some y) := hs
 have HS2 : Aside (ds ≠ [] → ∃ b off, a2 = some ⟨b, off, none⟩ ∧ b < w.heap.size ∧ ∀ j x, ds[j]? = some x → ∀ i y, (encP x)[i]? = some y → w.cell? ⟨b, off + j * 2 + i, none⟩ = some y) := hs2
 have HB : Aside ((∀ p ∈ ps, 0 ≤ p ∧ p ≤ 1000) ∧ (∀ d ∈ ds, -9223372036854775808 ≤ d.2 ∧ d.2 ≤ 9223372036854775807) ∧ ps.Nodup ∧ ps ≠ []) := ⟨hb, hf, hnd, hne⟩
 obtain ⟨n, hn⟩ : ∃ n, ps.length = n := ⟨_, rfl⟩
 have HN : Aside (ps.length = n ∧ ds.length = n) := ⟨hn, by omega⟩
 have hdn : ds.length = n := by omega
 rw [hn] at hl hl1
 rw [hdn, hn]
 clear hs hs2 hb hf hnd hne hlen hn hl2 hdn
 have hmm := @run_makeMap Try.prog
 go_enter Try.func57, Try.ntmps57
 go_wp2
 clear hmm
 go_loopw [11] (fun i wr => ∃ (k : Nat) (D : DataW Unit), k ≤ n ∧ i = .int .i64 k ∧ OwnM wr w.heap.size k D ∧ Aside (Rep D (fs.take k)) ∧ Aside (Below w.heap.size w wr)) (fun i _ => n - (intOf i).toNat)
 case atStart => exact ⟨0, _, Nat.zero_le _, rfl, World.ownsMap_made _ _ _ _, by rw [List.take_zero]; exact Rep.empty, (Below.refl _ _).alloc (Nat.le_refl _) _⟩
 case round =>
  obtain ⟨k, D, hk, rfl, hown, HR, HBW⟩ := hrel
  by_cases hlt : k < n
  ·have hltz : (k : Int) < (n : Int) := by omega
   obtain ⟨p, hp⟩ : ∃ p, ps[k]? = some p := ⟨_, List.getElem?_eq_getElem (by rw [HN.out.1]; exact hlt)⟩
   obtain ⟨d, hd⟩ : ∃ d, ds[k]? = some d := ⟨_, List.getElem?_eq_getElem (by rw [HN.out.2]; exact hlt)⟩
   obtain ⟨B, off, rfl, hBlt, hcl⟩ := HS.out HB.out.2.2.2
   obtain ⟨B2, off2, rfl, hBlt2, hcl2⟩ := HS2.out (by intro e; rw [e] at hd; simp at hd)
   have kp : wr.cell? ⟨B, off + k, none⟩ = some (.int .i64 p) := keepc HBW.out (by have := hcl k p hp 0 (.int .i64 p) rfl; simpa using this)
   have kd0 : wr.cell? ⟨B2, off2 + k * 2, none⟩ = some (.int .i64 d.1) := keepc HBW.out (by have := hcl2 k d hd 0 (.int .i64 d.1) rfl; simpa using this)
   have kd1 : wr.cell? ⟨B2, off2 + k * 2 + 1, none⟩ = some (.int .i64 d.2) := keepc HBW.out (by have := hcl2 k d hd 1 (.int .i64 d.2) rfl; simpa using this)
   have hg := HG.out k p d hp hd
   have HT : Aside (fs.take (k + 1) = fs.take k ++ [(p, distF d)]) := take_snoc' hg
   have HF : Aside (p ∉ (fs.take k).map (·.1)) := by
    intro hm
    rw [List.map_take, HK.out] at hm
    obtain ⟨j, hj, e⟩ := List.getElem_of_mem hm
    have hjk : j < k := by simp at hj; omega
    rw [List.getElem_take] at e
    obtain ⟨h1, h2⟩ := List.getElem?_eq_some_iff.1 hp
    exact (List.pairwise_iff_getElem.1 HB.out.2.2.1) j k (by omega) h1 hjk (e.trans h2.symm)
   have hpb := HB.out.1 p (List.mem_of_getElem? hp)
   have hdb := HB.out.2.1 d (List.mem_of_getElem? hd)
   have hdist : -9223372036854775808 ≤ distF d ∧ distF d ≤ 9223372036854775807 := by unfold distF; split <;> (try split) <;> (try split) <;> omega
   have x1 := fun W => distance_any d W
   unfold pt at x1
   have hkey : keyOf Try.prog 3 (.int .i64 p) = some (.int .i64 p) := keyOf_int_mk Try.underlying3 (WalkArith.wf_i64 (by omega))
   have hwf : (Lit.int .i64 (distF d)).wf = true := WalkArith.wf_i64 (by omega)
   generalize distF d = dd at *
   clear hcl hcl2 hp hd hg hpb hdb hdist
   have hkn : k + 1 ≤ 1000 := by omega
   go_wp2_with (first | (go_at_call 78; (with_reducible refine (x1 _).mono ?_); rintro e w1 ⟨rfl, hb1⟩; have hown1 := ownsMap_below hown hb1) | (at_mapUpdate; refine wpList_mapUpdate_own _ rfl _ _ _ 116 rfl 3 3 int_k Try.underlying116 (plainElem (H := Unit) Try.prog 3) w.heap.size k _ rfl hown1 (by unfold maxLen; omega) _ _ _ rfl rfl hkey _ [] (plainElem_int Try.underlying3 hwf) ?_; intro w3 hown3 hgrow3))
   go_roundw
   case rel => exact ⟨k + 1, _, by omega, by go_num, hown3, by rw [HT.out]; exact HR.out.put HF.out, (HBW.out.trans (hb1.mono HBW.out.size)).grown hgrow3 (by have := HBW.out.size; have := hb1.size; omega) (fun j hj => by cases hj; exact Nat.le_refl _)⟩
   case measure => simp [intOf]; omega
  ·have hltz : ¬ (k : Int) < (n : Int) := by omega
   have : k = n := by omega
   subst this
   have HR2 : Aside (Rep D fs) := by
    have h1 := HR.out
    rw [List.take_of_length_le (by rw [HL.out, HN.out.1]; exact Nat.le_refl _)] at h1
    exact h1
   have x2 := least_any w.heap.size k D fs wr hown HR2.out (by
    intro e
    have h1 := HK.out
    rw [e] at h1
    exact HB.out.2.2.2 h1.symm) (by rw [HL.out, HN.out.1]; exact hl)
   clear hown HR
   go_wp2_with fail
   refine x2.mono ?_
   rintro e w4 ⟨v4, rfl, hrow4, hnil4, hb4⟩
   have H4 : Aside _ := hrow4
   have H5 : Aside (v4 = .slice none 0 0 ↔ leastL fs = []) := hnil4
   clear hrow4 hnil4 x2
   go_wp2
   go_ret
   exact ⟨_, rfl, ownsRow_base H4.out HBW.out.size, H5.out, HBW.out.trans (hb4.mono HBW.out.size)⟩
end
section
open Go.RowKit Go.Maps Go.Sort Go.Shelf
def eRow {α : Type} (x : Value × List α) : List Value := [x.1]
def offL : List Int → List (List (Int × Int)) → Int × Int
 | st, [] => if 1 < st.length then (0, 31) else (st[0]?.getD 0, 0)
 | st, ds :: rest => if st.length = 1 then (0, 33) else if ds.length ≠ st.length then (0, 4) else if (ds.any fun d => !offOk d) = true then (0, 2) else offL (nearL st ds) rest
def offF (n : Int) (rows : List (List (Int × Int))) : Int × Int :=
 if inb 1 8 n = true then (if 50 < rows.length then (0, 5) else offL (evL n.toNat) rows) else (0, 3)
structure Stay (st : List Int) : Prop where
 nodup : st.Nodup
 ne : st ≠ []
 len : st.length ≤ 8
 bd : ∀ p ∈ st, 0 ≤ p ∧ p ≤ 1000
theorem stay_ev {n : Nat} (h1 : 1 ≤ n) (h8 : n ≤ 8) : Stay (evL n) := by
 refine ⟨?_, by intro e; have := evL_length n; rw [e] at this; simp at this; omega, by rw [evL_length]; exact h8, fun p hp => ?_⟩
 ·unfold evL
  exact List.pairwise_map.2 ((List.nodup_range).imp (fun hne e => hne (Int.ofNat.inj e)))
 ·obtain ⟨k, hk, rfl⟩ := List.mem_map.1 hp
  have := List.mem_range.1 hk
  constructor
  ·exact Int.natCast_nonneg k
  ·show ((k : Nat) : Int) ≤ 1000; omega
theorem stay_near {st : List Int} {ds : List (Int × Int)} (h : Stay st) (hl : ds.length = st.length) : Stay (nearL st ds) := by
 have hk := farP_keys hl
 have hln := farP_length hl
 have hsub : (leastU (mn ((farP st ds).map (·.2))) (farP st ds)).Sublist st := by
  rw [← hk]
  unfold leastU
  rw [hk]
  have := (List.filter_sublist (l := farP st ds) (p := fun p => p.2 == mn ((farP st ds).map (·.2)))).map (fun p => p.1)
  rw [hk] at this
  exact this
 have hp : (nearL st ds).Perm (leastU (mn ((farP st ds).map (·.2))) (farP st ds)) := List.mergeSort_perm _ _
 refine ⟨hp.symm.nodup (h.nodup.sublist hsub), fun e => ?_, by rw [hp.length_eq]; exact Nat.le_trans hsub.length_le h.len, fun p hpp => h.bd p (hsub.subset (hp.mem_iff.1 hpp))⟩
 rw [e] at hp
 refine leastU_ne (ps := farP st ds) (fun e2 => ?_) hp.symm.eq_nil
 rw [e2] at hln
 have := h.ne
 exact this (List.eq_nil_of_length_eq_zero (by simpa using hln.symm))
def OffInv (st : List Int) (rest : List (List (Int × Int))) (res : Int × Int) (w : World) (v : Value) (wr : World) : Prop :=
 Stay st ∧ offL st rest = res ∧ Sl wr 1 eI v st ∧ Below w.heap.size w wr
set_option maxRecDepth 100000 in
set_option maxHeartbeats 8000000 in
theorem Off_any (n : Int) (v : Value) (rows : List (Value × List (Int × Int))) (w : World) (hv : Sl w 1 eRow v rows) (hr : ∀ x ∈ rows, Sl w 2 encP x.1 x.2)
  (hb : ∀ x ∈ rows, ∀ d ∈ x.2, (-9223372036854775808 ≤ d.1 ∧ d.1 ≤ 9223372036854775807) ∧ -9223372036854775808 ≤ d.2 ∧ d.2 ≤ 9223372036854775807) :
  Calls Try.prog 29 #[.int .i64 n, v] w (Ret (.tuple #[.int .i64 (offF n (rows.map (·.2))).1, .int .i64 (offF n (rows.map (·.2))).2]) w) := by
 have y1 := fun W k hk t => within_any 1 8 _ [n] _ (sl_one W k hk t n)
 simp only [List.all_cons, List.all_nil, Bool.and_true] at y1
 have HF : Aside (offF n (rows.map (·.2)) = if inb 1 8 n = true then (if 50 < rows.length then (0, 5) else offL (evL n.toNat) (rows.map (·.2))) else (0, 3)) := by
  show _ = _
  unfold offF; rw [List.length_map]
 generalize offF n (rows.map (·.2)) = res at *
 obtain ⟨a, cp, rfl, hl, hs⟩ := hv
 obtain ⟨m, hm⟩ : ∃ m, rows.length = m := ⟨_, rfl⟩
 have HN : Aside (rows.length = m) := hm
 have HS : Aside (rows ≠ [] → ∃ b off, a = some ⟨b, off, none⟩ ∧ b < w.heap.size ∧ ∀ j x, rows[j]? = some x → ∀ i y, (eRow x)[i]? = some y → w.cell? ⟨b, off + j * 1 + i, none⟩ = some y) := hs
 have HX : Aside ((∀ x ∈ rows, Sl w 2 encP x.1 x.2) ∧ ∀ x ∈ rows, ∀ d ∈ x.2, (-9223372036854775808 ≤ d.1 ∧ d.1 ≤ 9223372036854775807) ∧ -9223372036854775808 ≤ d.2 ∧ d.2 ≤ 9223372036854775807) := ⟨hr, hb⟩
 rw [hm] at hl HF ⊢
 clear hs hr hb hm
 cases hi : inb 1 8 n with
 | false =>
  rw [hi] at y1
  have HR : Aside (res = (0, 3)) := by
   show _ = _
   rw [HF.out, if_neg (by rw [hi]; simp)]
  clear HF hi
  go_enter Try.func29, Try.ntmps29
  go_wp2_with (go_at_call 47; (with_reducible refine (y1 _ _ (by simp) _).mono ?_); rintro e w1 ⟨rfl, hb1⟩; (obtain ⟨hc1, hf1⟩ := bcell hb1; have z1 := hb1.size; (try simp only [World.size_alloc, World.size_drew, World.size_setCell] at z1); (try have q1a : w.heap.size < w1.heap.size := by omega); (try have q1b : w.heap.size + 1 < w1.heap.size := by omega); (try have q1c : w.heap.size + 1 + 1 < w1.heap.size := by omega); (try have q1d : w.heap.size + 1 + 1 + 1 < w1.heap.size := by omega); (try have q1e : wr.heap.size < w1.heap.size := by omega); (try have q1f : wr.heap.size + 1 < w1.heap.size := by omega)))
  go_ret2
  exact ⟨by rw [HR.out]; rfl, by (repeat' (first | exact Below.refl _ _ | assumption | (with_reducible refine Below.drew ?_) | (with_reducible refine Below.setCell ?_ (by (first | (simp; done) | (simp; omega))) _) | (with_reducible refine below_drewN' ?_ _) | (refine Below.alloc ?_ (by (try simp only [World.size_alloc, World.size_drew, World.size_setCell]); omega) _) | (refine Below.trans ?_ (Below.mono (by assumption) (by (try simp only [World.size_alloc, World.size_drew, World.size_setCell]); omega)))))⟩
 | true =>
  rw [hi] at y1
  have hn : 1 ≤ n ∧ n ≤ 8 := by unfold inb at hi; simpa using hi
  obtain ⟨k0, rfl⟩ : ∃ k : Nat, n = k := ⟨n.toNat, by omega⟩
  by_cases h50 : 50 < m
  ·have HR : Aside (res = (0, 5)) := by
    show _ = _
    rw [HF.out, if_pos hi, if_pos h50]
   have hz : (50 : Int) < (m : Int) := by omega
   clear HF hi hn
   go_enter Try.func29, Try.ntmps29
   go_wp2_with (go_at_call 47; (with_reducible refine (y1 _ _ (by simp) _).mono ?_); rintro e w1 ⟨rfl, hb1⟩; (obtain ⟨hc1, hf1⟩ := bcell hb1; have z1 := hb1.size; (try simp only [World.size_alloc, World.size_drew, World.size_setCell] at z1); (try have q1a : w.heap.size < w1.heap.size := by omega); (try have q1b : w.heap.size + 1 < w1.heap.size := by omega); (try have q1c : w.heap.size + 1 + 1 < w1.heap.size := by omega); (try have q1d : w.heap.size + 1 + 1 + 1 < w1.heap.size := by omega); (try have q1e : wr.heap.size < w1.heap.size := by omega); (try have q1f : wr.heap.size + 1 < w1.heap.size := by omega)))
   go_ret2
   exact ⟨by rw [HR.out]; rfl, by (repeat' (first | exact Below.refl _ _ | assumption | (with_reducible refine Below.drew ?_) | (with_reducible refine Below.setCell ?_ (by (first | (simp; done) | (simp; omega))) _) | (with_reducible refine below_drewN' ?_ _) | (refine Below.alloc ?_ (by (try simp only [World.size_alloc, World.size_drew, World.size_setCell]); omega) _) | (refine Below.trans ?_ (Below.mono (by assumption) (by (try simp only [World.size_alloc, World.size_drew, World.size_setCell]); omega)))))⟩
  ·have HR : Aside (offL (evL k0) (rows.map (·.2)) = res) := by
    show _ = _
    rw [HF.out, if_pos hi, if_neg h50]; simp
   have hz : ¬ ((50 : Int) < (m : Int)) := by omega
   have HST : Aside (Stay (evL k0)) := stay_ev (by omega) (by omega)
   have x2 := fun W => everyone_any k0 W (by omega)
   clear HF hi
   go_enter Try.func29, Try.ntmps29
   go_wp2_with (go_at_call 47; (with_reducible refine (y1 _ _ (by simp) _).mono ?_); rintro e w1 ⟨rfl, hb1⟩; (obtain ⟨hc1, hf1⟩ := bcell hb1; have z1 := hb1.size; (try simp only [World.size_alloc, World.size_drew, World.size_setCell] at z1); (try have q1a : w.heap.size < w1.heap.size := by omega); (try have q1b : w.heap.size + 1 < w1.heap.size := by omega); (try have q1c : w.heap.size + 1 + 1 < w1.heap.size := by omega); (try have q1d : w.heap.size + 1 + 1 + 1 < w1.heap.size := by omega); (try have q1e : wr.heap.size < w1.heap.size := by omega); (try have q1f : wr.heap.size + 1 < w1.heap.size := by omega)))
   refine (x2 _).mono ?_
   rintro e w2 ⟨v2, rfl, hrow2, hnil2, hb2⟩
   have B1 : Aside (Below w.heap.size w w1) := by (repeat' (first | exact Below.refl _ _ | assumption | (with_reducible refine Below.drew ?_) | (with_reducible refine Below.setCell ?_ (by (first | (simp; done) | (simp; omega))) _) | (with_reducible refine below_drewN' ?_ _) | (refine Below.alloc ?_ (by (try simp only [World.size_alloc, World.size_drew, World.size_setCell]); omega) _) | (refine Below.trans ?_ (Below.mono (by assumption) (by (try simp only [World.size_alloc, World.size_drew, World.size_setCell]); omega)))))
   have HI : Aside (OffInv (evL k0) (rows.map (·.2)) res w v2 w2) := ⟨HST.out, HR.out, sl_of_owns (by rw [evL_length]; omega) hrow2 rfl (fun e => hnil2.2 e), B1.out.trans (hb2.mono B1.out.size)⟩
   clear hrow2 hnil2 hb2 hb1 hc1 hf1 x2 y1 HR HST B1
   go_wp2_with fail
   go_loopg [6, 20] m (fun gg sv i wr => ∃ (k : Nat) (st : List Int) (a1 : Option Addr) (c1 : Nat), k ≤ m ∧ m - k ≤ gg ∧ i = .int .i64 k ∧ sv = .slice a1 st.length c1 ∧ Aside (OffInv st ((rows.map (·.2)).drop k) res w (.slice a1 st.length c1) wr))
   case atStart =>
    obtain ⟨h1, h2, ⟨a1, c1, rfl, h3⟩, h4⟩ := HI.out
    exact ⟨0, evL k0, a1, c1, Nat.zero_le _, by omega, rfl, rfl, h1, by rw [List.drop_zero]; exact h2, ⟨a1, c1, rfl, h3⟩, h4⟩
   case round =>
    clear HI
    obtain ⟨k, st, a1, c1, hk, hg, rfl, rfl, HI⟩ := hrel
    obtain ⟨hst, hre, hsl, hbw⟩ := HI.out
    have HST : Aside (Stay st) := hst
    have HRE : Aside (offL st ((rows.map (·.2)).drop k) = res) := hre
    have HSL : Aside (Sl wr 1 eI (.slice a1 st.length c1) st) := hsl
    have HBW : Aside (Below w.heap.size w wr) := hbw
    have hq1 : 1 ≤ st.length := List.length_pos_iff.2 hst.ne
    have hq8 := hst.len
    clear hst hre hbw HI
    by_cases hlt : k < m
    ·have hltz : (k : Int) < (m : Int) := by omega
     obtain ⟨x, hx⟩ : ∃ x, rows[k]? = some x := ⟨_, List.getElem?_eq_getElem (by rw [HN.out]; exact hlt)⟩
     obtain ⟨B, off, rfl, hBlt, hcl⟩ := HS.out (by intro e; rw [e] at hx; simp at hx)
     have kx : wr.cell? ⟨B, off + k, none⟩ = some x.1 := keepc HBW.out (by have := hcl k x hx 0 x.1 rfl; simpa using this)
     have hxm := List.mem_of_getElem? hx
     have HXS : Aside (Sl wr 2 encP x.1 x.2) := (HX.out.1 x hxm).below HBW.out
     have HXB : Aside (∀ d ∈ x.2, (-9223372036854775808 ≤ d.1 ∧ d.1 ≤ 9223372036854775807) ∧ -9223372036854775808 ≤ d.2 ∧ d.2 ≤ 9223372036854775807) := HX.out.2 x hxm
     have HRE2 : Aside (offL st (x.2 :: (rows.map (·.2)).drop (k + 1)) = res) := by
      obtain ⟨h1, h2⟩ := List.getElem?_eq_some_iff.1 hx
      have := HRE.out
      rw [List.drop_eq_getElem_cons (by rw [List.length_map]; exact h1), List.getElem_map, h2] at this
      exact this
     obtain ⟨vd, ds⟩ := x
     simp only [] at kx HXS HXB HRE2
     obtain ⟨a3, c3, rfl, hl3, _⟩ := HXS.out
     clear hcl hx hxm HRE hsl
     by_cases hone : st.length = 1
     ·-- @@a
      have HR : Aside (res = (0, 33)) := by
       show _ = _
       rw [← HRE2.out, offL, if_pos hone]
      have hoz : ((st.length : Int) == 1) = true := by rw [beq_iff_eq]; omega
      clear HRE2 hone
      generalize st.length = sl at *
      generalize ds.length = dl at *
      go_wp2
      go_ret2
      exact ⟨by rw [HR.out]; rfl, HBW.out⟩
     ·have hoz : ((st.length : Int) == 1) = false := by rw [beq_eq_false_iff_ne]; omega
      by_cases hlen : ds.length = st.length
      ·have hlz : ((ds.length : Int) != (st.length : Int)) = false := by simp [hlen]
       have x4 := fun W hW => offs_any (fun d => !offOk d) 56 #[] (enters_of Try.func56 (by kernel_rfl) rfl) (.slice a3 ds.length c3) ds W (HXS.out.below hW) (fun W' hW' d hd => wrongOff_any d W' (HXB.out d hd).1.1 (HXB.out d hd).1.2)
       cases hany : (ds.any fun d => !offOk d) with
       | true =>
        rw [hany] at x4
        have HR : Aside (res = (0, 2)) := by
         show _ = _
         rw [← HRE2.out, offL, if_neg hone, if_neg (by simp [hlen]), if_pos hany]
        clear HRE2 hone hlen hany
        generalize st.length = sl at *
        generalize ds.length = dl at *
        go_wp2_with (go_at_call 55; (with_reducible refine (x4 _ (Below.refl _ _)).mono ?_); rintro e w3 ⟨rfl, hb3⟩)
        go_ret2
        exact ⟨by rw [HR.out]; rfl, HBW.out.trans (hb3.mono HBW.out.size)⟩
       | false =>
        rw [hany] at x4
        have HR : Aside (offL (nearL st ds) ((rows.map (·.2)).drop (k + 1)) = res) := by
         show _ = _
         rw [← HRE2.out, offL, if_neg hone, if_neg (by simp [hlen]), if_neg (by rw [hany]; simp)]
        have HST2 : Aside (Stay (nearL st ds)) := stay_near HST.out hlen
        have x5 := fun W hW => nearest_any (.slice a1 st.length c1) (.slice a3 ds.length c3) st ds W (HSL.out.below hW) (HXS.out.below hW) hlen HST.out.nodup HST.out.ne (by omega) HST.out.bd (fun d hd => (HXB.out d hd).2)
        generalize nearL st ds = ns at *
        clear HRE2 hone hlen hany
        generalize st.length = sl at *
        generalize ds.length = dl at *
        go_wp2_with (go_at_call 55; (with_reducible refine (x4 _ (Below.refl _ _)).mono ?_); rintro e w3 ⟨rfl, hb3⟩)
        refine (x5 _ hb3).mono ?_
        rintro e w4 ⟨v4, rfl, hrow4, hnil4, hb4⟩
        have B4 : Aside (Below w.heap.size w w4) := (HBW.out.trans (hb3.mono HBW.out.size)).trans (hb4.mono (Nat.le_trans HBW.out.size hb3.size))
        have S4 : Aside (Sl w4 1 eI v4 ns) := sl_of_owns (by have := HST2.out.len; omega) hrow4 rfl (fun e => hnil4.2 e)
        obtain ⟨a4, c4, rfl, _, _⟩ := S4.out
        clear hrow4 hnil4 hb4 hb3 x4 x5 kx
        go_wp2_with fail
        go_roundg (m - (k + 1))
        case measure => omega
        case rel => exact ⟨k + 1, ns, a4, c4, by omega, by omega, by go_num, rfl, HST2.out, HR.out, S4.out, B4.out⟩
      ·-- @@d
       have HR : Aside (res = (0, 4)) := by
        show _ = _
        rw [← HRE2.out, offL, if_neg hone, if_pos hlen]
       have hlz : ((ds.length : Int) != (st.length : Int)) = true := by simpa using (by omega : ¬ (ds.length : Int) = st.length)
       clear HRE2 hone hlen
       generalize st.length = sl at *
       generalize ds.length = dl at *
       go_wp2
       go_ret2
       exact ⟨by rw [HR.out]; rfl, HBW.out⟩
    ·-- @@e
     have hltz : ¬ (k : Int) < (m : Int) := by omega
     have : k = m := by omega
     subst this
     have HRE2 : Aside (offL st [] = res) := by
      have := HRE.out
      rw [List.drop_of_length_le (by rw [List.length_map, HN.out]; exact Nat.le_refl _)] at this
      exact this
     by_cases hmore : 1 < st.length
     ·have HR : Aside (res = (0, 31)) := by
       show _ = _
       rw [← HRE2.out, offL, if_pos hmore]
      have hmz : (1 : Int) < (st.length : Int) := by omega
      clear HRE HRE2 hmore hsl
      generalize st.length = sl at *
      go_wp2
      go_ret2
      exact ⟨by rw [HR.out]; rfl, HBW.out⟩
     ·obtain ⟨p, hp⟩ : ∃ p, st[0]? = some p := ⟨_, List.getElem?_eq_getElem (by omega)⟩
      have HR : Aside (res = (p, 0)) := by
       show _ = _
       rw [← HRE2.out, offL, if_neg hmore, hp]; rfl
      have hmz : ¬ (1 : Int) < (st.length : Int) := by omega
      obtain ⟨a5, c5, e5, _, hs5⟩ := hsl
      simp only [Value.slice.injEq] at e5
      obtain ⟨rfl, _, rfl⟩ := e5
      obtain ⟨B5, o5, rfl, hB5, hc5⟩ := hs5 HST.out.ne
      have k5 : wr.cell? ⟨B5, o5, none⟩ = some (.int .i64 p) := by have := hc5 0 p hp 0 (.int .i64 p) rfl; simpa using this
      have hl5 : (0 : Int) < (st.length : Int) := by omega
      clear HRE HRE2 hmore hs5 hc5 hp HSL
      generalize st.length = sl at *
      go_wp2
      go_ret2
      exact ⟨by rw [HR.out]; rfl, HBW.out⟩
end
end Go.Proofs.Ytnhjoebdmmelaaa
