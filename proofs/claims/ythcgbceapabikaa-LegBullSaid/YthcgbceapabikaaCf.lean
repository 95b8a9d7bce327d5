/- Leg, part Cf: the walk of LegOffs. -/
import Derived.Test.YthcgbceapabikaaCe
import Derived.Test.YthcgbceapabikaaBi
import Derived.Test.YthcgbceapabikaaAg
set_option linter.unusedVariables false
set_option linter.unusedSimpArgs false
namespace Go.Proofs.Ythcgbceapabikaa
open Go.RowKit Go.Maps Go.Sort Go.Shelf Go.Deep

theorem info_row : (Try.prog.info? 63).map (fun i => (i.zero, i.size, i.bytes)) = some (some (.slice none 0 0), 1, 24) := by kernel_rfl
theorem info_off : (Try.prog.info? 91).map (fun i => (i.zero, i.size, i.bytes)) = some (some (.agg #[.int .i64 0, .int .i64 0]), 2, 16) := by kernel_rfl
theorem encP_one (ds : List (Int × Int)) : ∀ y ∈ ds, ∀ u ∈ encP y, u.oneCell' = true := by
  intro y _ u hu
  simp [encP] at hu
  rcases hu with rfl | rfl <;> rfl
theorem RowB.grown {α : Type} {w w' : World} {size : Nat} {enc : α → List Value} {e e' : TypeId} {v vr : Value} {ys : List α} {b sz n : Nat} {xs : List Value} (h : RowB w size enc e v ys) (hown : w.ownsRow b e' sz vr n xs) (hg : w.grownBy w' vr.ownBlock) (hne : e ≠ e') : RowB w' size enc e v ys := by
  obtain ⟨g, c, cs, h1, hl, hb, hc⟩ := h
  refine ⟨g, c, cs, h1, hl, (hg.block g (Array.getElem?_eq_some_iff.1 hb).1 (fun h => ?_)).trans hb, hc⟩
  rcases ownsRow_ne_a hown hb (fun cur e => by injection e with _ e2; exact hne e2) with h2 | h2
  · rw [h2] at h; cases h
  · exact h2 h.symm
/-- What holds at the head of a round: the copies of the first rows. -/
structure OcInv (rows : List (Value × List (Int × Int))) (w : World) (k : Nat) (vs : List Value) (wr : World) : Prop where
  len : vs.length = k
  bel : Below w.heap.size w wr
  rows : ∀ (j : Nat) (x : Value × List (Int × Int)), j < k → rows[j]? = some x → ∃ u, vs[j]? = some u ∧ RowB wr 2 encP 91 u x.2

set_option maxRecDepth 100000 in
set_option maxHeartbeats 8000000 in
theorem offs_law (n : Int) (v : Value) (rows : List (Value × List (Int × Int))) (w : World) (hv : Sl w 1 eRow v rows) (hr : ∀ x ∈ rows, Sl w 2 encP x.1 x.2)
    (hb : ∀ x ∈ rows, ∀ d ∈ x.2, (-9223372036854775808 ≤ d.1 ∧ d.1 ≤ 9223372036854775807) ∧ -9223372036854775808 ≤ d.2 ∧ d.2 ≤ 9223372036854775807) :
    Calls Try.prog 6 #[.int .i64 n, v] w (Ret (.bool true) w) := by
  obtain ⟨i0, hi0, hz0, hz1, hz2⟩ := info_parts info_row
  obtain ⟨j0, hj0, jz0, jz1, jz2⟩ := info_parts info_off
  have HK : Aside (∀ W, Calls Try.prog 13 #[] W (Ret (.bool true) W)) := fun W => known_any W
  have X1 : Aside (∀ W v' (rows' : List (Value × List (Int × Int))), Sl W 1 eRow v' rows' → (∀ x ∈ rows', Sl W 2 encP x.1 x.2) → rows'.map (·.2) = rows.map (·.2) → Calls Try.prog 29 #[.int .i64 n, v'] W (Ret (.tuple #[.int .i64 (offF n (rows.map (·.2))).1, .int .i64 (offF n (rows.map (·.2))).2]) W)) := by
    intro W v' rows' h1 h2 h3
    rw [← h3]
    refine Off_any n v' rows' W h1 h2 ?_
    intro x hx d hd
    have : x.2 ∈ rows.map (·.2) := by rw [← h3]; exact List.mem_map.2 ⟨x, hx, rfl⟩
    obtain ⟨y, hy, e⟩ := List.mem_map.1 this
    exact hb y hy d (by rw [e]; exact hd)
  have X2 : Aside (∀ W, Sl W 1 eRow v rows → (∀ x ∈ rows, Sl W 2 encP x.1 x.2) → Calls Try.prog 30 #[.int .i64 n, v] W (Ret (.tuple #[.int .i64 (offF n (rows.map (·.2))).1, .int .i64 (offF n (rows.map (·.2))).2]) W)) := fun W h1 h2 => roff_any n v rows W h1 h2 hb
  generalize offF n (rows.map (·.2)) = res at *
  obtain ⟨r1, r2⟩ := res
  simp only [] at X1 X2
  have HV : Aside (Sl w 1 eRow v rows) := hv
  obtain ⟨a, cp, rfl, hl, hs⟩ := hv
  obtain ⟨m, hm⟩ : ∃ m, rows.length = m := ⟨_, rfl⟩
  have HN : Aside (rows.length = m) := hm
  have HS : Aside (rows ≠ [] → ∃ b off, a = some ⟨b, off, none⟩ ∧ b < w.heap.size ∧ ∀ j x, rows[j]? = some x → ∀ i y, (eRow x)[i]? = some y → w.cell? ⟨b, off + j * 1 + i, none⟩ = some y) := hs
  have HX : Aside (∀ x ∈ rows, Sl w 2 encP x.1 x.2) := hr
  rw [hm] at hl X2 HV ⊢
  clear hs hr hb hm
  go_enter Try.func6, Try.ntmps6
  go_wp2_with fail
  obtain ⟨wa, hwa⟩ : ∃ u, u = w.alloc (.cells #[] 63) := ⟨_, rfl⟩
  have HOWN : Aside (wa.ownsRow w.heap.size 63 1 (.slice (some ⟨w.heap.size, 0, none⟩) 0 0) 0 []) := by rw [hwa]; exact owns_empty _ _ _
  have BA : Aside (Below w.heap.size w wa) := by rw [hwa]; exact (Below.refl _ _).alloc (Nat.le_refl _) _
  rw [← hwa]
  clear hwa
  go_loopg [5, 6] m (fun gg v i wr => ∃ k : Nat, k ≤ m ∧ m - k ≤ gg ∧ i = .int .i64 k ∧ (k ≤ 55 ∧ Aside (∃ vs, wr.ownsRow w.heap.size 63 1 v k vs ∧ OcInv rows w k vs wr)))
  case atStart => exact ⟨0, Nat.zero_le _, by omega, rfl, by omega, [], HOWN.out, rfl, BA.out, fun j x h => absurd h (Nat.not_lt_zero j)⟩
  case round =>
    clear HOWN BA
    obtain ⟨k, hk, hg, rfl, hk55, HA⟩ := hrel
    obtain ⟨vs, hown, hoc⟩ := HA.out
    have HOC : Aside (OcInv rows w k vs wr) := hoc
    clear hoc HA
    by_cases hlt : k < m
    · have hltz : (k : Int) < (m : Int) := by omega
      obtain ⟨x, hx⟩ : ∃ x, rows[k]? = some x := ⟨_, List.getElem?_eq_getElem (by rw [HN.out]; exact hlt)⟩
      obtain ⟨B, off, rfl, hBlt, hcl⟩ := HS.out (by intro e; rw [e] at hx; simp at hx)
      have kx : wr.cell? ⟨B, off + k, none⟩ = some x.1 := keepc HOC.out.bel (by have := hcl k x hx 0 x.1 rfl; simpa using this)
      have HXS : Aside (Sl wr 2 encP x.1 x.2) := (HX.out x (List.mem_of_getElem? hx)).below HOC.out.bel
      have HXK : Aside (rows[k]? = some x) := hx
      obtain ⟨vd, ds⟩ := x
      simp only [] at kx HXS
      obtain ⟨a3, c3, rfl, hl3, _⟩ := HXS.out
      clear hcl hx
      by_cases h55 : 55 < m
      · have h55z : (55 : Int) < (m : Int) := by omega
        have BB : Aside (Below w.heap.size w wr) := HOC.out.bel
        clear HOC HXS HXK hown
        generalize ds.length = dl at *
        go_wp2_with fail
        refine (HK.out _).mono ?_
        rintro e w9 ⟨rfl, hb9⟩
        go_wp2
        go_ret
        exact ⟨rfl, BB.out.trans (hb9.mono BB.out.size)⟩
      · have h55z : ¬ (55 : Int) < (m : Int) := by omega
        by_cases h10 : 10 < ds.length
        · have h10z : (10 : Int) < (ds.length : Int) := by omega
          have BB : Aside (Below w.heap.size w wr) := HOC.out.bel
          clear HOC HXS HXK hown
          generalize ds.length = dl at *
          go_wp2_with fail
          refine (HK.out _).mono ?_
          rintro e w9 ⟨rfl, hb9⟩
          go_wp2
          go_ret
          exact ⟨rfl, BB.out.trans (hb9.mono BB.out.size)⟩
        · have h10z : ¬ (10 : Int) < (ds.length : Int) := by omega
          obtain ⟨dl, hdl⟩ : ∃ dl, ds.length = dl := ⟨_, rfl⟩
          have HDL : Aside (ds.length = dl) := hdl
          have hBw : B < wr.heap.size := World.block_lt_of_cell? wr _ kx
          rw [hdl] at HXS kx hl3 h10z h10
          clear hdl
          have HOWN : Aside (wr.ownsRow w.heap.size 63 1 _ k vs) := hown
          clear hown
          go_wp2_with (first | (at_builtin; (refine wpList_append_fresh _ rfl _ _ 63 rfl 91 j0 (.agg #[.int .i64 0, .int .i64 0]) 2 16 Try.underlying63 hj0 jz0 jz1 jz2 rfl (by decide) wr.heap.size (World.alloc_heap_new _ _) rfl (vy := .slice a3 dl c3) (ys := ds) (enc := encP) rfl (HXS.out.below ((Below.refl _ _).alloc (Nat.le_refl _) _)) (fun _ => rfl) (encP_one ds) (by rw [HDL.out]; unfold maxLen; omega) (by rw [HDL.out]; omega) ?_); intro v2 w2 hrow2 hB2; (obtain ⟨g2, c2, cs2, rfl, hl2, hg2, hc2⟩ := hrow2); (have hown2 : w2.ownsRow w.heap.size 63 1 _ _ _ := ownsRow_below HOWN.out (((Below.refl _ _).alloc (Nat.le_refl _) _).trans (hB2.mono (by simp)))); (have hle : w.heap.size ≤ w2.heap.size := Nat.le_trans HOC.out.bel.size (Nat.le_trans (by simp) hB2.size))) | (at_builtin; (refine wpList_append_own _ rfl _ _ 62 rfl w.heap.size 63 i0 (.slice none 0 0) 1 24 Try.underlying62 hi0 hz0 hz1 hz2 rfl (by decide) _ _ _ rfl (hown2.alloc _) ⟨w2.heap.size, 0, none⟩ 1 1 [.slice (some ⟨g2, 0, none⟩) ds.length c2] rfl rfl (cell_one_new _ _ _) (by intro u hu; simp at hu; subst hu; rfl) (by unfold maxLen; omega) (by omega) (by simp; omega) ?_); intro v3 w3 hown3 hgrow3 hnil3))
          have HF : Aside (∃ vs, w3.ownsRow w.heap.size 63 1 v3 (k + 1) vs ∧ OcInv rows w (k + 1) vs w3) := by
            have hB : Below wr.heap.size wr w2 := ((Below.refl _ wr).alloc (Nat.le_refl _) _).trans (hB2.mono (by simp))
            have hA2 : RowB (w2.alloc (.cells #[.slice (some ⟨g2, 0, none⟩) ds.length c2] 63)) 2 encP 91 (.slice (some ⟨g2, 0, none⟩) ds.length c2) ds := RowB.below ⟨g2, c2, cs2, rfl, hl2, hg2, hc2⟩ ((Below.refl _ _).alloc (Nat.le_refl _) _)
            refine ⟨_, hown3, ?_, ?_, ?_⟩
            · rw [List.length_append, HOC.out.len]; rfl
            · exact ((HOC.out.bel.trans (hB.mono HOC.out.bel.size)).alloc (by omega) _).grown hgrow3 (by simp; omega) (fun j hj => (hown2.lt j hj).1)
            · intro j x hj hx
              by_cases hjk : j = k
              · subst hjk
                rw [HXK.out] at hx; cases hx
                exact ⟨_, by rw [List.getElem?_append_right (by rw [HOC.out.len]; exact Nat.le_refl _), HOC.out.len]; simp, hA2.grown (hown2.alloc _) hgrow3 (by decide)⟩
              · obtain ⟨u, hu, hrb⟩ := HOC.out.rows j x (by omega) hx
                refine ⟨u, by rw [List.getElem?_append_left (by rw [HOC.out.len]; omega)]; exact hu, ?_⟩
                exact ((hrb.below hB).below ((Below.refl _ _).alloc (Nat.le_refl _) _)).grown (hown2.alloc _) hgrow3 (by decide)
          clear hown2 hown3 hgrow3 hnil3 hB2 hg2 hc2 hl2 hle HOC HXS HOWN kx
          go_wp2_with fail
          go_roundg (m - (k + 1))
          case measure => omega
          case rel => exact ⟨k + 1, by omega, by omega, by go_num, by omega, HF.out⟩
    · have hltz : ¬ (k : Int) < (m : Int) := by omega
      have hke : k = m := by omega
      subst hke
      have hzl : (vs.zip (rows.map (·.2))).length = k := by rw [List.length_zip, List.length_map, HN.out, HOC.out.len]; exact Nat.min_self k
      have HZ1 : Aside (Sl wr 1 eRow u5 (vs.zip (rows.map (·.2)))) := by
        have h1 : (vs.zip (rows.map (·.2))).map (·.1) = vs := List.map_fst_zip (by rw [List.length_map, HN.out, HOC.out.len]; exact Nat.le_refl _)
        have h2 : ((vs.zip (rows.map (·.2))).map eRow).flatten = vs := by
          have : ∀ l : List (Value × List (Int × Int)), (l.map eRow).flatten = l.map (·.1) := by
            intro l
            induction l with
            | nil => rfl
            | cons y l ih => simp only [List.map_cons, List.flatten_cons, ih]; rfl
          rw [this, h1]
        exact sl_owns (fun _ => rfl) (by rw [hzl]; omega) (by rw [hzl, h2]; exact hown)
      have HZ2 : Aside (∀ x ∈ vs.zip (rows.map (·.2)), Sl wr 2 encP x.1 x.2) := by
        intro x hx
        obtain ⟨j, hj⟩ := List.mem_iff_getElem?.1 hx
        obtain ⟨h1, h2⟩ := List.getElem?_zip_eq_some.1 hj
        rw [List.getElem?_map] at h2
        cases hrj : rows[j]? with
        | none => rw [hrj] at h2; cases h2
        | some y =>
          rw [hrj] at h2
          simp at h2
          obtain ⟨u, hu, hrb⟩ := HOC.out.rows j y (by have := (List.getElem?_eq_some_iff.1 h1).1; rw [HOC.out.len] at this; exact this) hrj
          rw [hu] at h1
          simp at h1
          rw [← h1, ← h2]
          exact hrb.sl
      have HZ3 : Aside ((vs.zip (rows.map (·.2))).map (·.2) = rows.map (·.2)) := List.map_snd_zip (by rw [List.length_map, HN.out, HOC.out.len]; exact Nat.le_refl _)
      have BB : Aside (Below w.heap.size w wr) := HOC.out.bel
      obtain ⟨a4, c4, rfl, _, _⟩ := HZ1.out
      rw [hzl] at HZ1
      rw [hzl]
      clear hown HOC hzl
      go_wp2_with fail
      refine (X1.out _ _ _ HZ1.out HZ2.out HZ3.out).mono ?_
      rintro e w5 ⟨rfl, hb5⟩
      replace BB : Aside (Below w.heap.size w w5) := BB.out.trans (hb5.mono BB.out.size)
      clear hb5 HZ1 HZ2 HZ3 X1
      go_wp2_with fail
      refine (X2.out _ (HV.out.below BB.out) (fun x hx => (HX.out x hx).below BB.out)).mono ?_
      rintro e w6 ⟨rfl, hb6⟩
      replace BB : Aside (Below w.heap.size w w6) := BB.out.trans (hb6.mono BB.out.size)
      clear hb6 X2
      go_wp2_with fail
      refine (HK.out _).mono ?_
      rintro e w9 ⟨rfl, hb9⟩
      go_wp2
      go_ret
      exact ⟨rfl, BB.out.trans (hb9.mono BB.out.size)⟩
end Go.Proofs.Ythcgbceapabikaa
