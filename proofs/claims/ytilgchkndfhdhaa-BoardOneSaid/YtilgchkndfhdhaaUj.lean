/- Board, part Uj: what a board in bytes comes to, and that it is valid. -/
import Derived.Test.YtilgchkndfhdhaaTc
import Derived.Test.YtilgchkndfhdhaaL
set_option linter.unusedVariables false
set_option linter.unusedSimpArgs false
namespace Go.Proofs.Ytilgchkndfhdhaa

def lastR (wi bull : Int) (l : List Int) : Nat → Int
  | 0 => bull
  | k + 1 => lastR wi bull l k + (2 * wi + 1 + l[k]?.getD 0)
def ringsK (wi bull : Int) (l : List Int) (k : Nat) : List (Int × Int) := (List.range k).map fun i => (lastR wi bull l (i + 1), l[i]?.getD 0 % 5)
theorem ringsK_succ (wi bull : Int) (l : List Int) (k : Nat) : ringsK wi bull l (k + 1) = ringsK wi bull l k ++ [(lastR wi bull l (k + 1), l[k]?.getD 0 % 5)] := by
  unfold ringsK; rw [List.range_succ, List.map_append]; rfl
theorem ringsK_len (wi bull : Int) (l : List Int) (k : Nat) : (ringsK wi bull l k).length = k := by simp [ringsK]
def nrOf (n : Nat) : Nat := if n = 0 then 1 else if n ≤ 5 then n else 5

def stepL (l : List Int) (i : Nat) : Nat := if i < l.length then 1 + (l[i]?.getD 0).toNat % 8 else 8
def posL (l : List Int) : Nat → Nat
  | 0 => 0
  | k + 1 => posL l k + stepL l k
def linesK (s : Nat) (l : List Int) (k : Nat) : List (Int × Int) := (List.range k).map fun i => cmp (s + posL l i)
theorem linesK_succ (s : Nat) (l : List Int) (k : Nat) : linesK s l (k + 1) = linesK s l k ++ [cmp (s + posL l k)] := by
  unfold linesK; rw [List.range_succ, List.map_append]; rfl
theorem linesK_len (s : Nat) (l : List Int) (k : Nat) : (linesK s l k).length = k := by simp [linesK]
def numsK (first : Int) (k : Nat) : List Int := (List.range k).map fun (i : Nat) => 1 + (7 * (i : Int) + first) % 20
theorem numsK_succ (first : Int) (k : Nat) : numsK first (k + 1) = numsK first k ++ [(1 + (7 * (k : Int) + first) % 20)] := by
  unfold numsK; rw [List.range_succ, List.map_append]; rfl
theorem numsK_len (first : Int) (k : Nat) : (numsK first k).length = k := by simp [numsK]

theorem stepL_bd (l : List Int) (i : Nat) : 1 ≤ stepL l i ∧ stepL l i ≤ 8 := by unfold stepL; split <;> omega
theorem posL_ge (l : List Int) : ∀ k, k ≤ posL l k ∧ posL l k ≤ 8 * k := by
  intro k
  induction k with
  | zero => simp [posL]
  | succ k ih => have := stepL_bd l k; simp only [posL]; omega
theorem posL_mono (l : List Int) (i j : Nat) (h : i ≤ j) : posL l i ≤ posL l j := by
  induction j with
  | zero => have : i = 0 := by omega
            subst this; exact Nat.le_refl _
  | succ j ih =>
    by_cases hj : i = j + 1
    · subst hj; exact Nat.le_refl _
    · have := ih (by omega); have := stepL_bd l j; simp only [posL]; omega

/-- The board of some bytes. -/
def madeB (rings lines : List Int) (f wi : Int) (k : Nat) : Brd :=
  { eye := wi % 4 + 5 + f % 40, bull := wi % 4 + 5 + f % 40 + 2 * (wi % 4) + 1 + f,
    rings := ringsK (wi % 4) (wi % 4 + 5 + f % 40 + 2 * (wi % 4) + 1 + f) rings (nrOf rings.length), lines := linesK (f % 24).toNat lines k, nums := numsK f k, wire := wi % 4 }
/-- How many lines there are. -/
def EndL (lines : List Int) (k : Nat) : Prop := 1 ≤ k ∧ k ≤ 20 ∧ posL lines (k - 1) < 24 ∧ (24 ≤ posL lines k ∨ k = 20)

theorem lastR_bd (wi bull : Int) (l : List Int) (h0 : 0 ≤ wi) (h1 : wi ≤ 3) (hl : ∀ x ∈ l, 0 ≤ x ∧ x ≤ 255) : ∀ k, bull + k ≤ lastR wi bull l k ∧ lastR wi bull l k ≤ bull + 262 * k := by
  intro k
  induction k with
  | zero => simp [lastR]
  | succ k ih =>
    have hx : 0 ≤ l[k]?.getD 0 ∧ l[k]?.getD 0 ≤ 255 := by
      by_cases hk : k < l.length
      · rw [List.getElem?_eq_getElem hk]; exact hl _ (List.getElem_mem hk)
      · rw [List.getElem?_eq_none (by omega)]; simp
    simp only [lastR]
    omega

theorem rad_made (wi eye bull : Int) (l : List Int) (h0 : 0 ≤ wi) (h1 : wi ≤ 3) (he : wi < eye) (he2 : eye ≤ 100) (hb : eye + 2 * wi < bull) (hb2 : bull ≤ 400) (hl : ∀ x ∈ l, 0 ≤ x ∧ x ≤ 255) :
    ∀ k, k ≤ 5 → radOk wi wi (eye :: bull :: (ringsK wi bull l k).map (·.1)) = true ∧ abv wi wi (eye :: bull :: (ringsK wi bull l k).map (·.1)) = lastR wi bull l k + 2 * wi := by
  intro k
  induction k with
  | zero => intro _; refine ⟨?_, rfl⟩; simp [ringsK, radOk]; omega
  | succ k ih =>
    intro hk
    obtain ⟨i1, i2⟩ := ih (by omega)
    have b1 := lastR_bd wi bull l h0 h1 hl (k + 1)
    have hx : 0 ≤ l[k]?.getD 0 := by
      by_cases hk : k < l.length
      · rw [List.getElem?_eq_getElem hk]; exact (hl _ (List.getElem_mem hk)).1
      · rw [List.getElem?_eq_none (by omega)]; simp
    have e : (eye :: bull :: (ringsK wi bull l (k + 1)).map (·.1)) = (eye :: bull :: (ringsK wi bull l k).map (·.1)) ++ [lastR wi bull l (k + 1)] := by rw [ringsK_succ, List.map_append]; rfl
    rw [e, radOk_snoc, abv_snoc, i1, i2]
    refine ⟨?_, rfl⟩
    simp only [Bool.true_and, decide_eq_true_eq]
    have : lastR wi bull l (k + 1) = lastR wi bull l k + (2 * wi + 1 + l[k]?.getD 0) := rfl
    omega

theorem made_chk (rings lines : List Int) (first wire : Int) (k : Nat) (hr : ∀ x ∈ rings, 0 ≤ x ∧ x ≤ 255) (hf0 : 0 ≤ first) (hf : first ≤ 255) (hw0 : 0 ≤ wire) (hk : EndL lines k) : chk (madeB rings lines first wire k) = 0 := by
  obtain ⟨k1, k2, k3, k4⟩ := hk
  have hn : nrOf rings.length ≤ 5 ∧ 1 ≤ nrOf rings.length := by unfold nrOf; split <;> (try split) <;> omega
  have h3 : 3 ≤ k := by have := posL_ge lines k; omega
  have hlong : long (madeB rings lines first wire k) = false := by
    unfold long madeB
    simp only [ringsK_len, linesK_len, numsK_len]
    simp; omega
  have hw : inb 0 20 (madeB rings lines first wire k).wire = true := by
    show inb 0 20 (wire % 4) = true
    unfold inb; simp; omega
  have hrings : ringsOk (madeB rings lines first wire k) = true := by
    unfold ringsOk
    have r := (rad_made (wire % 4) (wire % 4 + 5 + first % 40) (wire % 4 + 5 + first % 40 + 2 * (wire % 4) + 1 + first) rings (by omega) (by omega) (by omega) (by omega) (by omega) (by omega) hr (nrOf rings.length) hn.1).1
    have e1 : (madeB rings lines first wire k).rings.isEmpty = false := by
      show (ringsK _ _ _ _).isEmpty = false
      rw [List.isEmpty_eq_false_iff]; intro e; have := ringsK_len (wire % 4) (wire % 4 + 5 + first % 40 + 2 * (wire % 4) + 1 + first) rings (nrOf rings.length); rw [e] at this; simp at this; omega
    have e2 : (madeB rings lines first wire k).rings.all (fun r => inb 0 4 r.2) = true := by
      rw [List.all_eq_true]
      intro r hr'
      obtain ⟨i, _, rfl⟩ := List.mem_map.1 hr'
      unfold inb; simp; omega
    have e3 : radOk (madeB rings lines first wire k).wire (madeB rings lines first wire k).wire (radii (madeB rings lines first wire k)) = true := r
    rw [e1, e2, e3]; rfl
  have hnums : numsOk (madeB rings lines first wire k) = true := by
    unfold numsOk
    have e1 : (madeB rings lines first wire k).nums.length = (madeB rings lines first wire k).lines.length := by
      show (numsK _ _).length = (linesK _ _ _).length
      rw [numsK_len, linesK_len]
    have e2 : (madeB rings lines first wire k).nums.all (inb 1 20) = true := by
      rw [List.all_eq_true]
      intro r hr'
      obtain ⟨i, _, rfl⟩ := List.mem_map.1 hr'
      unfold inb; simp; omega
    rw [decide_eq_true e1, e2]
    unfold dist
    have e3 : (madeB rings lines first wire k).nums.Nodup := by
      show (numsK first k).Nodup
      unfold numsK
      rw [List.nodup_iff_pairwise_ne, List.pairwise_map]
      refine List.Pairwise.imp_of_mem ?_ List.pairwise_lt_range
      intro a b ha hb hab
      have h1 := List.mem_range.1 ha
      have h2 := List.mem_range.1 hb
      omega
    rw [decide_eq_true e3]; rfl
  have hlines : linesOk (madeB rings lines first wire k) = true := by
    have hpl := posL_mono lines
    refine lines_steps (first % 24).toNat ((List.range k).map (posL lines)) _ ?_ (by simpa using h3) (by rw [List.getElem?_map, List.getElem?_range (by omega)]; rfl) ?_ ?_ ?_
    · show linesK _ _ _ = _
      unfold linesK; rw [List.map_map]; rfl
    · intro i x y hx hy
      rw [List.getElem?_map] at hx hy
      by_cases hi : i + 1 < k
      · rw [List.getElem?_range (by omega)] at hx hy
        simp only [Option.map_some, Option.some.injEq] at hx hy
        subst hx; subst hy
        have := stepL_bd lines i
        simp only [posL]; omega
      · rw [List.getElem?_eq_none (by simp; omega)] at hy; cases hy
    · intro x hx
      rw [List.length_map, List.length_range, List.getElem?_map, List.getElem?_range (by omega)] at hx
      simp only [Option.map_some, Option.some.injEq] at hx
      subst hx
      rcases k4 with h | h
      · have e : k = (k - 1) + 1 := by omega
        have := stepL_bd lines (k - 1)
        have h2 : posL lines k = posL lines (k - 1) + stepL lines (k - 1) := by rw [e]; rfl
        omega
      · have := posL_ge lines (k - 1); omega
    · intro x hx
      obtain ⟨i, hi, rfl⟩ := List.mem_map.1 hx
      have := hpl i (k - 1) (by have := List.mem_range.1 hi; omega)
      omega
  unfold chk valid
  rw [hlong, hw, hrings, hnums, hlines]; rfl
end Go.Proofs.Ytilgchkndfhdhaa
