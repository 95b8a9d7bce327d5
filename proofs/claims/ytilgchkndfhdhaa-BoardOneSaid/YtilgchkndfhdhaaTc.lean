/- Board, part Tc: lines that are laid by steps over the 24 directions are valid. -/
import Derived.Test.YtilgchkndfhdhaaI
import Derived.Test.YtilgchkndfhdhaaZ
set_option linter.unusedVariables false
set_option linter.unusedSimpArgs false
namespace Go.Proofs.Ytilgchkndfhdhaa

def cmp (i : Nat) : Int × Int := compassL[i % 24]?.getD (0, 0)
theorem cmp_mod (i : Nat) : cmp (i % 24) = cmp i := by unfold cmp; rw [Nat.mod_mod]

theorem step_tab : ∀ a : Fin 24, ∀ d : Fin 8, partTo (cmp a.1) (cmp (a.1 + d.1 + 1)) = 1 := by decide +kernel
theorem soon_tab : ∀ s i j : Fin 24, i.1 < j.1 → sooner (cmp s.1) (cmp (s.1 + i.1)) (cmp (s.1 + j.1)) = true := by decide +kernel
theorem good_tab : ∀ a : Fin 24, (decide (cmp a.1 = (0, 0)) || !vpt (cmp a.1)) = false := by decide +kernel

theorem step_any (a d : Nat) (h1 : 1 ≤ d) (h2 : d ≤ 8) : partTo (cmp a) (cmp (a + d)) = 1 := by
  have := step_tab ⟨a % 24, Nat.mod_lt _ (by omega)⟩ ⟨d - 1, by omega⟩
  simp only [] at this
  rw [cmp_mod, ← cmp_mod (a % 24 + (d - 1) + 1), show (a % 24 + (d - 1) + 1) % 24 = (a + d) % 24 by omega, cmp_mod] at this
  exact this
theorem soon_any (s i j : Nat) (h : i < j) (hj : j < 24) : sooner (cmp s) (cmp (s + i)) (cmp (s + j)) = true := by
  have := soon_tab ⟨s % 24, Nat.mod_lt _ (by omega)⟩ ⟨i, by omega⟩ ⟨j, hj⟩ h
  simp only [] at this
  rw [cmp_mod, ← cmp_mod (s % 24 + i), ← cmp_mod (s % 24 + j), show (s % 24 + i) % 24 = (s + i) % 24 by omega, show (s % 24 + j) % 24 = (s + j) % 24 by omega, cmp_mod, cmp_mod] at this
  exact this
theorem good_any (a : Nat) : (decide (cmp a = (0, 0)) || !vpt (cmp a)) = false := by
  have := good_tab ⟨a % 24, Nat.mod_lt _ (by omega)⟩
  simp only [] at this
  rw [cmp_mod] at this; exact this

theorem lines_steps (s : Nat) (ps : List Nat) (b : Brd) (hb : b.lines = ps.map (fun a => cmp (s + a))) (h3 : 3 ≤ ps.length) (h0 : ps[0]? = some 0)
    (hs : ∀ i x y, ps[i]? = some x → ps[i + 1]? = some y → x < y ∧ y ≤ x + 8) (hl : ∀ x, ps[ps.length - 1]? = some x → 16 ≤ x) (hlt : ∀ x ∈ ps, x < 24) : linesOk b = true := by
  have hn : b.lines.length = ps.length := by rw [hb, List.length_map]
  have get : ∀ (i x : Nat), ps[i]? = some x → b.lines[i]? = some (cmp (s + x)) := fun i x h => by rw [hb, List.getElem?_map, h]; rfl
  unfold linesOk
  rw [hn, decide_eq_true h3]
  have h1 : (b.lines.any fun p => decide (p = (0, 0)) || !vpt p) = false := by
    rw [List.any_eq_false]
    intro p hp
    rw [hb] at hp
    obtain ⟨a, _, rfl⟩ := List.mem_map.1 hp
    rw [good_any]; simp
  rw [h1]
  simp only [Bool.not_false, Bool.and_true, Bool.true_and, List.all_eq_true, List.mem_range]
  intro i hi
  obtain ⟨x, hx⟩ : ∃ x, ps[i]? = some x := ⟨_, List.getElem?_eq_getElem hi⟩
  have hx24 := hlt x (List.mem_of_getElem? hx)
  have hprev : i = 0 ∨ ∃ q, ps[i - 1]? = some q ∧ q < x := by
    cases i with
    | zero => left; rfl
    | succ i =>
      right
      obtain ⟨q, hq⟩ : ∃ q, ps[i]? = some q := ⟨_, List.getElem?_eq_getElem (by omega)⟩
      exact ⟨q, by simpa using hq, (hs i q x hq hx).1⟩
  have hf := get 0 0 h0
  have hxl := get i x hx
  have hsecond : (decide (i = 0) || (match b.lines[i - 1]? with | some q => sooner (cmp (s + 0)) q (cmp (s + x)) | none => false)) = true := by
    rcases hprev with h | ⟨q, hq, hlt'⟩
    · simp [h]
    · rw [get _ q hq]
      simp only [Nat.add_zero]
      rw [soon_any s q x hlt' hx24]; simp
  unfold lineOk
  rw [hn]
  by_cases hlast : i + 1 < ps.length
  · obtain ⟨y, hy⟩ : ∃ y, ps[i + 1]? = some y := ⟨_, List.getElem?_eq_getElem hlast⟩
    obtain ⟨h4, h5⟩ := hs i x y hx hy
    rw [Nat.mod_eq_of_lt hlast, hf, hxl, get _ y hy]
    have : partTo (cmp (s + x)) (cmp (s + y)) = 1 := by
      have := step_any (s + x) (y - x) (by omega) (by omega)
      rw [show s + x + (y - x) = s + y by omega] at this; exact this
    simp only [this, decide_true, Bool.true_and]
    exact hsecond
  · have hi' : i = ps.length - 1 := by omega
    have h6 := hl x (by rw [← hi']; exact hx)
    rw [show i + 1 = ps.length by omega, Nat.mod_self, hf, hxl]
    have : partTo (cmp (s + x)) (cmp (s + 0)) = 1 := by
      have := step_any (s + x) (24 - x) (by omega) (by omega)
      rw [show s + x + (24 - x) = s + 24 by omega] at this
      rw [Nat.add_zero, ← cmp_mod s]
      rw [← cmp_mod (s + 24), show (s + 24) % 24 = s % 24 by omega] at this
      exact this
    simp only [this, decide_true, Bool.true_and]
    exact hsecond
end Go.Proofs.Ytilgchkndfhdhaa
