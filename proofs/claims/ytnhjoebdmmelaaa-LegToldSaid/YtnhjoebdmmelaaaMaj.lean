/- Leg: parts U. -/
import Derived.Test.YtnhjoebdmmelaaaMai
set_option linter.unusedVariables false
set_option linter.unusedSimpArgs false
namespace Go.Proofs.Ytnhjoebdmmelaaa
section
open Go.RowKit Go.Maps Go.Sort Go.Shelf Go.Deep
def leftP (ls : List Int) : List (Int × Int) := (evL ls.length).zip ls
def winL (g : LegG) : List Int := if g.ended = [] then leastL (leftP g.left) else leastL g.ended
theorem leftP_length (ls : List Int) : (leftP ls).length = ls.length := by simp [leftP, evL_length]
theorem evL_get {n k : Nat} (h : k < n) : (evL n)[k]? = some (k : Int) := by
 unfold evL
 rw [List.getElem?_map, List.getElem?_range h]; rfl
theorem leftP_get {ls : List Int} {k : Nat} {x : Int} (h : ls[k]? = some x) : (leftP ls)[k]? = some ((k : Int), x) := by
 have hk := (List.getElem?_eq_some_iff.1 h).1
 exact (List.getElem?_zip_eq_some (z := ((k : Int), x))).2 ⟨evL_get hk, h⟩
theorem leftP_fresh (ls : List Int) (k : Nat) : (k : Int) ∉ ((leftP ls).take k).map (·.1) := by
 intro hm
 rw [List.map_take] at hm
 have h1 : (leftP ls).map (·.1) = evL ls.length := by
  unfold leftP
  exact List.map_fst_zip (by rw [evL_length]; exact Nat.le_refl _)
 rw [h1] at hm
 obtain ⟨j, hj, e⟩ := List.getElem_of_mem hm
 have hjk : j < k := by simp at hj; omega
 rw [List.getElem_take] at e
 have h2 : (evL ls.length)[j]? = some (k : Int) := by rw [List.getElem?_eq_getElem (by simp at hj; omega), e]
 have hjl : j < ls.length := by simp [evL_length] at hj; omega
 rw [evL_get hjl] at h2
 simp at h2
 omega
theorem leastL_ne {ps : List (Int × Int)} (h : ps ≠ []) : leastL ps ≠ [] := by
 intro e
 have hp : (leastL ps).Perm (leastU (mn (ps.map (·.2))) ps) := List.mergeSort_perm _ _
 rw [e] at hp
 exact leastU_ne h hp.symm.eq_nil
theorem winL_ne {g : LegG} (h : g.left ≠ []) : winL g ≠ [] := by
 unfold winL
 split
 ·refine leastL_ne (fun e => ?_)
  have := leftP_length g.left
  rw [e] at this
  exact h (List.eq_nil_of_length_eq_zero (by simpa using this.symm))
 ·rename_i hne
  exact leastL_ne hne
set_option maxRecDepth 100000 in
set_option maxHeartbeats 4000000 in
theorem winners_any {V gl gd gi M cl cd ci nn : Nat} {vc vw : Value} {D : DataW Unit} {r : LegR} {g : LegG} (w : World) (h : LegW w V gl gd gi M cl cd ci nn vc vw D r g) (hne : r.counts ≠ []) (hn : r.counts.length ≤ 1000) (he : g.ended.length ≤ 1000) (hl : ∀ x ∈ g.left, -9223372036854775808 ≤ x ∧ x ≤ 9223372036854775807) :
  Calls Try.prog 88 #[.pointer (some ⟨V, 0, none⟩)] w (RetOwn (winL g) w) := by
 have HW : Aside (winL g = if g.ended = [] then leastL (leftP g.left) else leastL g.ended) := rfl
 have hl1 := h.l1
 have HO : Aside (OwnM w M nn D ∧ Rep D g.ended) := ⟨h.own, h.rep⟩
 have HL : Aside (Row w gl 3 (g.left.map (Value.int .i64)) ∧ ∀ x ∈ g.left, -9223372036854775808 ≤ x ∧ x ≤ 9223372036854775807) := ⟨h.left, hl⟩
 have hblk := h.blk
 have hVl : V < w.heap.size := (Array.getElem?_eq_some_iff.1 hblk).1
 obtain ⟨a, cp, rfl, hlc, _⟩ := h.counts
 have k11 : w.cell? ⟨V, 11, none⟩ = some (.map (some M)) := blk_cell hblk rfl
 have k0 : w.cell? ⟨V, 0, none⟩ = some (.slice a r.counts.length cp) := blk_cell hblk rfl
 have k4 : w.cell? ⟨V, 4, none⟩ = some (rowV gl r.counts.length cl) := blk_cell hblk rfl
 have HRL : Aside (winL g = winL g) := rfl
 generalize winL g = res at *
 have hsize := h.rep.size
 have hown := h.own
 have hgne : g.left ≠ [] := by intro e; rw [e] at hl1; exact hne (List.eq_nil_of_length_eq_zero (by simpa using hl1.symm))
 have HGN : Aside (g.left ≠ []) := hgne
 clear h hblk hl hgne
 obtain ⟨n, hnn⟩ : ∃ n, r.counts.length = n := ⟨_, rfl⟩
 have HN : Aside (g.left.length = n) := by rw [← hnn]; exact hl1
 rw [hnn] at hn hlc k0 k4
 clear hnn hl1 hne
 by_cases hz : g.ended = []
 ·have hs0 : Maps.size D = 0 := by rw [hsize, hz]; rfl
  have HR : Aside (res = leastL (leftP g.left)) := by
   show _ = _
   rw [HW.out, if_pos hz]
  clear HW hz hsize he
  have hmm := @run_makeMap Try.prog
  go_enter Try.func88, Try.ntmps88
  go_wp2_with (at_len; refine wpList_len_own _ rfl _ 116 rfl 3 3 Try.underlying116 _ M nn _ rfl hown ?_)
  have B1 : Aside (Below w.heap.size w (w.alloc (.map #[] 0))) := (Below.refl _ _).alloc (Nat.le_refl _) _
  clear hmm hown
  go_loopw [23] (fun i wr => ∃ (k : Nat) (D2 : DataW Unit), k ≤ n ∧ i = .int .i64 k ∧ OwnM wr w.heap.size k D2 ∧ Aside (Rep D2 ((leftP g.left).take k)) ∧ Aside (Below w.heap.size w wr)) (fun i _ => n - (intOf i).toNat)
  case atStart => exact ⟨0, _, Nat.zero_le _, rfl, World.ownsMap_made _ _ _ _, by rw [List.take_zero]; exact Rep.empty, B1.out⟩
  case round =>
   obtain ⟨k, D2, hk, rfl, hown2, HR2, HBW⟩ := hrel
   by_cases hlt : k < n
   ·have hltz : (k : Int) < (n : Int) := by omega
    obtain ⟨x, hx⟩ : ∃ x, g.left[k]? = some x := ⟨_, List.getElem?_eq_getElem (by rw [HN.out]; exact hlt)⟩
    have j4 : wr.cell? ⟨V, 4, none⟩ = some (rowV gl n cl) := keepc HBW.out k4
    have jx : wr.cell? ⟨gl, k, none⟩ = some (.int .i64 x) := keepc HBW.out (HL.out.1.cell (by rw [List.getElem?_map, hx]; rfl))
    have hxb := HL.out.2 x (List.mem_of_getElem? hx)
    have HT : Aside ((leftP g.left).take (k + 1) = (leftP g.left).take k ++ [((k : Int), x)]) := take_snoc' (leftP_get hx)
    have HF : Aside ((k : Int) ∉ ((leftP g.left).take k).map (·.1)) := leftP_fresh _ _
    have hkey : keyOf Try.prog 3 (.int .i64 (k : Int)) = some (.int .i64 k) := keyOf_int_mk Try.underlying3 (WalkArith.wf_i64 (by omega))
    have hwf : (Lit.int .i64 x).wf = true := WalkArith.wf_i64 (by omega)
    have hkn : k + 1 ≤ 1000 := by omega
    clear hx hxb
    go_wp2_with (at_mapUpdate; refine wpList_mapUpdate_own _ rfl _ _ _ 116 rfl 3 3 int_k Try.underlying116 (plainElem (H := Unit) Try.prog 3) w.heap.size k _ rfl hown2 (by unfold maxLen; omega) _ _ _ rfl rfl hkey _ [] (plainElem_int Try.underlying3 hwf) ?_; intro w3 hown3 hgrow3)
    go_roundw
    case rel => exact ⟨k + 1, _, by omega, by go_num, hown3, by rw [HT.out]; exact HR2.out.put HF.out, HBW.out.grown hgrow3 (by have := HBW.out.size; omega) (fun j hj => by cases hj; exact Nat.le_refl _)⟩
    case measure => simp [intOf]; omega
   ·have hltz : ¬ (k : Int) < (n : Int) := by omega
    have : k = n := by omega
    subst this
    have HR3 : Aside (Rep D2 (leftP g.left)) := by
     have h1 := HR2.out
     rw [List.take_of_length_le (by rw [leftP_length, HN.out]; exact Nat.le_refl _)] at h1
     exact h1
    have x2 := least_any w.heap.size k D2 (leftP g.left) wr hown2 HR3.out (by
     intro e
     have := leftP_length g.left
     rw [e] at this
     exact HGN.out (List.eq_nil_of_length_eq_zero (by simpa using this.symm))) (by rw [leftP_length, HN.out]; exact hn)
    clear hown2 HR2
    go_wp2_with fail
    refine x2.mono ?_
    rintro e w4 ⟨v4, rfl, hrow4, hnil4, hb4⟩
    have H4 : Aside _ := hrow4
    have H5 : Aside (v4 = .slice none 0 0 ↔ leastL (leftP g.left) = []) := hnil4
    clear hrow4 hnil4 x2
    go_wp2
    go_ret
    exact ⟨_, rfl, by rw [HR.out]; exact ownsRow_base H4.out HBW.out.size, by rw [HR.out]; exact H5.out, HBW.out.trans (hb4.mono HBW.out.size)⟩
 ·have hs0 : (0 : Int) < ((Maps.size D : Nat) : Int) := by
   rw [hsize]; have := List.length_pos_iff.2 hz; omega
  have HR : Aside (res = leastL g.ended) := by
   show _ = _
   rw [HW.out, if_neg hz]
  have x2 := least_any M nn D g.ended w HO.out.1 HO.out.2 hz he
  clear HW hz hsize
  go_enter Try.func88, Try.ntmps88
  go_wp2_with (first | (at_len; refine wpList_len_own _ rfl _ 116 rfl 3 3 Try.underlying116 _ M nn _ rfl hown ?_) | (go_at_call 79; refine x2.mono ?_; rintro e w4 ⟨v4, rfl, hrow4, hnil4, hb4⟩; have H4 : Aside _ := hrow4; have H5 : Aside (v4 = .slice none 0 0 ↔ leastL g.ended = []) := hnil4; clear hrow4 hnil4))
  go_ret
  exact ⟨_, rfl, by rw [HR.out]; exact H4.out, by rw [HR.out]; exact H5.out, hb4⟩
end
end Go.Proofs.Ytnhjoebdmmelaaa
