/- Board, part Vm: the reference's beds out of an array of bools. -/
import Derived.Test.YtgceffpkhmjmkaaGreatVe
import Derived.Deep.WholeRow
set_option linter.unusedVariables false
set_option linter.unusedSimpArgs false
namespace Go.Proofs.YtgceffpkhmjmkaaGreat
open Go.RowKit Go.Shelf

/-- The beds that are marked. -/
def bedL (f : Nat → Bool) (k : Nat) : List Int := ((List.range k).filter f).map Int.ofNat
theorem bedL_succ (f : Nat → Bool) (k : Nat) : bedL f (k + 1) = if f k then bedL f k ++ [(k : Int)] else bedL f k := by
  unfold bedL
  rw [List.range_succ, List.filter_append, List.map_append]
  cases h : f k with
  | true => rw [List.filter_cons_of_pos h]; rfl
  | false => rw [List.filter_cons_of_neg (by rw [h]; simp)]; simp
theorem bedL_len (f : Nat → Bool) (k : Nat) : (bedL f k).length ≤ k := by
  unfold bedL
  rw [List.length_map]
  have := List.length_filter_le f (List.range k)
  rwa [List.length_range] at this
theorem sl_of_own2 {w : World} {base n : Nat} {e : TypeId} {v : Value} {xs : List Int} (hl : xs.length ≤ 9223372036854775807) (h : w.ownsRow base e 1 v n (xs.map encZ)) (hn : n = xs.length) : Sl w 1 eI v xs := by
  subst hn
  rcases h.2 with ⟨h0, h1⟩ | ⟨g, cap, cur, rfl, h1, hg, h2⟩
  · have hx : xs = [] := List.eq_nil_of_length_eq_zero h1
    subst hx
    exact ⟨none, 0, h0, by simp, fun h => absurd rfl h⟩
  · refine ⟨_, _, rfl, hl, fun hne => ⟨g, 0, rfl, (Array.getElem?_eq_some_iff.1 hg).1, ?_⟩⟩
    intro j x hx i y hy
    match i, hy with
    | 0, hy =>
      simp at hy; subst hy
      have := h.cellAt j (by have := (List.getElem?_eq_some_iff.1 hx).1; omega)
      rw [Nat.mul_one, Nat.zero_add, Nat.add_zero, this, List.getElem?_map, hx]; rfl
    | i + 1, hy => simp at hy
def SlV (xs : List Int) (w : World) (e : Ending) (w' : World) : Prop := ∃ v, e = .returned v ∧ Sl w' 1 eI v xs ∧ Below w.heap.size w w'
theorem vinfo_bed : (Tryz.prog.info? 34).map (fun i => (i.zero, i.size, i.bytes)) = some (some (.int .i64 0), 1, 8) := by kernel_rfl
/-- 500 bools as a value. -/
def boolsV (f : Nat → Bool) : Array Value := ((List.range 500).map fun i => Value.bool (f i)).toArray
theorem boolsV_size (f : Nat → Bool) : (boolsV f).size = 500 := by unfold boolsV; simp
theorem boolsV_get (f : Nat → Bool) (i : Nat) (hi : i < 500) : (boolsV f)[i]? = some (.bool (f i)) := by
  unfold boolsV
  rw [List.getElem?_toArray, List.getElem?_map, List.getElem?_range hi]; rfl

set_option maxRecDepth 100000 in
set_option maxHeartbeats 4000000 in
theorem rSorted_any (cs : Array Value) (f : Nat → Bool) (w : World) (hz : cs.size = 500) (hc : ∀ i, i < 500 → cs[i]? = some (.bool (f i))) :
    Calls Tryz.prog 48 #[.agg cs] w (SlV (bedL f 500) w) := by
  have HC : Aside (∀ i, i < 500 → cs[i]? = some (.bool (f i))) := hc
  have HF : Aside (∀ (W : World) (v : Value) (n : Nat), W.ownsRow (w.heap.size + 1) 34 1 v n ((bedL f 500).map encZ) → n = (bedL f 500).length → Below w.heap.size w W → SlV (bedL f 500) w (.returned v) W) := by
    intro W v n hown hn hB
    exact ⟨v, rfl, sl_of_own2 (by have := bedL_len f 500; omega) hown hn, hB⟩
  clear hc
  obtain ⟨i0, hi, hz0', hz1', hz2'⟩ := info_parts vinfo_bed
  go_enter Tryz.func48, Tryz.ntmps48
  go_upto_region 1 with (fail)
  obtain ⟨W0, hW0⟩ : ∃ W0, W0 = w.alloc (.cells cs 97) := ⟨_, rfl⟩
  have s0 : W0.heap.size = w.heap.size + 1 := by rw [hW0]; simp
  have B0 : Aside (Below w.heap.size w W0) := by rw [hW0]; exact (Below.refl _ _).alloc (Nat.le_refl _) _
  have HS : Aside (∀ i, i < 500 → W0.cell? ⟨w.heap.size, i, none⟩ = some (.bool (f i))) := by
    intro i hi
    rw [hW0, cell_of_row _ _ i _ _ _ (World.alloc_heap_new _ _)]
    exact HC.out i hi
  rw [← hW0]
  have OW : Aside ((W0.alloc (.cells #[] 34)).ownsRow (w.heap.size + 1) 34 1 (.slice (some ⟨w.heap.size + 1, 0, none⟩) 0 0) (bedL f 0).length ((bedL f 0).map encZ)) := by
    show World.ownsRow _ _ _ _ _ _ _
    rw [← s0]
    exact World.ownsRow_lit W0 _ 0 (Nat.le_refl _) (by unfold maxLen; omega) rfl
  have BWS : Aside (Below (w.heap.size + 1) W0 (W0.alloc (.cells #[] 34))) := (Below.refl _ _).alloc (by omega) _
  clear hW0 HC
  go_wp2_with fail
  go_loopg [3, 4] 500 (fun gg lv iv wr => ∃ (k : Nat) (v : Value), k ≤ 500 ∧ 500 - k ≤ gg ∧ iv = .int .i64 k ∧ lv = v ∧ Aside (wr.ownsRow (w.heap.size + 1) 34 1 v (bedL f k).length ((bedL f k).map encZ)) ∧ Aside (Below (w.heap.size + 1) W0 wr))
  case atStart => exact ⟨0, _, Nat.zero_le _, by omega, rfl, rfl, OW, BWS⟩
  case round =>
    clear OW BWS
    obtain ⟨k, v, hk, hg, rfl, rfl, OW, BW⟩ := hrel
    have zr : w.heap.size + 1 ≤ wr.heap.size := by have := BW.out.size; omega
    by_cases hlt : k < 500
    · have hltz : (k : Int) < 500 := by omega
      have c0 : wr.cell? ⟨w.heap.size, k, none⟩ = some (.bool (f k)) := (BW.out.cell (p := ⟨w.heap.size, k, none⟩) (by simp)).trans (HS.out k hlt)
      have hown := OW.out
      have hz1 : ¬ (499 : Int) < (k : Int) := by omega
      have hz0 : ¬ (k : Int) < 0 := by omega
      have HB : Aside _ := bedL_succ f k
      have hbl := bedL_len f k
      obtain ⟨fk, hfk⟩ : ∃ x, f k = x := ⟨_, rfl⟩
      rw [hfk] at c0 HB
      clear hfk
      cases fk with
      | false =>
        have HB2 : Aside (bedL f (k + 1) = bedL f k) := HB.out
        go_wp2_with fail
        go_roundg (500 - (k + 1))
        case measure => omega
        case rel => exact ⟨k + 1, _, by omega, by omega, by go_num, rfl, (show Aside _ by show World.ownsRow _ _ _ _ _ _ _; rw [HB2.out]; exact hown), BW⟩
      | true =>
        have HB2 : Aside (bedL f (k + 1) = bedL f k ++ [(k : Int)]) := HB.out
        obtain ⟨nn, hnn⟩ : ∃ n, (bedL f k).length = n := ⟨_, rfl⟩
        have HNN : Aside ((bedL f k).length = nn) := hnn
        rw [hnn] at hown hbl
        clear hnn
        go_wp2_with (at_builtin; refine wpList_append_own _ rfl _ _ 37 rfl (w.heap.size + 1) 34 i0 (.int .i64 0) 1 8 Tryz.underlying37 hi hz0' hz1' hz2' rfl (by decide) _ nn _ rfl (hown.alloc _) ⟨wr.heap.size, 0, none⟩ 1 1 [.int .i64 k] rfl rfl (vone_new wr _ _) (by intro u hu; simp at hu; subst hu; rfl) (by unfold maxLen; omega) (by omega) (by simp; omega) ?_; intro v' w2 hown2 hgrow2 _)
        go_roundg (500 - (k + 1))
        case measure => omega
        case rel =>
          have ow := hown.alloc (.cells #[.int .i64 k] 34)
          exact ⟨k + 1, _, by omega, by omega, by go_num, rfl, (show Aside _ by show World.ownsRow _ _ _ _ _ _ _; rw [HB2.out, List.map_append, List.length_append, HNN.out]; exact hown2), (BW.out.trans ((Below.refl _ _).alloc zr _)).grown hgrow2 (by simp; omega) (fun r e => (ow.lt r e).1)⟩
    · have : k = 500 := by omega
      subst this
      have hltz : ¬ ((500 : Nat) : Int) < 500 := by omega
      have hown := OW.out
      go_wp2_with fail
      go_ret
      exact HF.out _ _ _ hown rfl (B0.out.trans (BW.out.mono (by omega)))
end Go.Proofs.YtgceffpkhmjmkaaGreat
