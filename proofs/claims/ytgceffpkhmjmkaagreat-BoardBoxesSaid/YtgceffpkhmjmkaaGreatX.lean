/- Board, part X: the statements' own copies of lists. -/
import Derived.Test.YtgceffpkhmjmkaaGreatQ
set_option linter.unusedVariables false
set_option linter.unusedSimpArgs false
namespace Go.Proofs.YtgceffpkhmjmkaaGreat
open Go.RowKit Go.Shelf

set_option maxRecDepth 100000 in
set_option maxHeartbeats 1000000 in
theorem ints_own (v : Value) (xs : List (Int)) (w : World) (hs : Sl w 1 (fun x => [Value.int .i64 x]) v xs) (hne : xs ≠ []) (hle : xs.length ≤ 1000) :
    Calls Tryz.prog 24 #[v] w (RetSl 1 (fun x => [Value.int .i64 x]) xs w) := by
  have hk : ∀ x, (((fun x => [Value.int .i64 x])) x).length = 1 := fun _ => rfl
  obtain ⟨a, c, rfl, hl, hs⟩ := hs
  obtain ⟨b, off, rfl, hb, hc⟩ := hs hne
  have HC : Aside (∀ j u, ((xs.map ((fun x => [Value.int .i64 x]))).flatten)[j]? = some u → w.cell? ⟨b, off + j, none⟩ = some u) := by
    intro j u h
    obtain ⟨q, x, i, h1, h2, h3⟩ := flat_inv _ 1 hk xs j u h
    have := hc q x h1 i u h2
    rw [h3, ← Nat.add_assoc]; exact this
  have H1 : Aside (∀ u ∈ (xs.map ((fun x => [Value.int .i64 x]))).flatten, u.oneCell' = true) := by
    intro u hu
    obtain ⟨l, hl, hu⟩ := List.mem_flatten.1 hu
    obtain ⟨x, _, rfl⟩ := List.mem_map.1 hl
    try simp only [] at hu
    simp only [List.mem_cons, List.not_mem_nil, or_false] at hu
    subst hu; rfl
  have HL := flat_len ((fun x => [Value.int .i64 x])) 1 hk xs
  have HF : Aside (∀ (w' : World) (v' : Value), w'.ownsRow w.heap.size 3 1 v' (0 + xs.length) ([] ++ (xs.map ((fun x => [Value.int .i64 x]))).flatten) → ∃ g c, v' = .slice (some ⟨g, 0, none⟩) xs.length c ∧ w.heap.size ≤ g ∧ g < w'.heap.size ∧ Sl w' 1 ((fun x => [Value.int .i64 x])) (.slice (some ⟨g, 0, none⟩) xs.length c) xs) := fun w' v' h => sl_of_row hk hl hne (by simpa using h)
  obtain ⟨i0, hi, hz0, hz1, hz2⟩ := info_parts info_ints
  clear hs hc hk hne
  have HLA : Aside (((xs.map ((fun x => [Value.int .i64 x]))).flatten).length = xs.length * 1) := HL
  clear HL
  have HC2 : Aside (∀ j u, ((xs.map ((fun x => [Value.int .i64 x]))).flatten)[j]? = some u → (w.alloc (.cells #[] 3)).cell? ((⟨b, off, none⟩ : Addr).add j) = some u) := by
    intro j u h
    rw [Addr.add_lit]
    exact keepc (W := w) (w1 := w.alloc (.cells #[] 3)) (a := ⟨b, off + j, none⟩) (by (repeat' (first | exact Below.refl _ _ | assumption | (with_reducible refine Below.drew ?_) | (with_reducible refine Below.setCell ?_ (by (first | (simp; done) | (simp; omega))) _) | (with_reducible refine below_drewN' ?_ _) | (refine Below.alloc ?_ (by (try simp only [World.size_alloc, World.size_drew, World.size_setCell]); omega) _) | (refine Below.trans ?_ (Below.mono (by assumption) (by (try simp only [World.size_alloc, World.size_drew, World.size_setCell]); omega)))))) (HC.out j u h)
  have hm1 : 0 + xs.length ≤ maxLen := by unfold maxLen; omega
  have hm2 : (0 + xs.length) * 8 ≤ 140737488355328 := by omega
  go_enter Tryz.func24, Tryz.ntmps24
  go_wp2_with (at_builtin; refine wpList_append_own _ rfl _ _ 24 rfl w.heap.size 3 i0 (.int .i64 0) 1 8 Tryz.underlying24 hi hz0 hz1 hz2 rfl (by decide) _ 0 [] rfl (owns_empty _ _ _) ⟨b, off, none⟩ xs.length c ((xs.map ((fun x => [Value.int .i64 x]))).flatten) rfl HLA.out HC2.out H1.out hm1 hm2 (by simp) ?_; intro v' w1 hown1 hgrow1 _; obtain ⟨g, c', rfl, hg1, hg2, hsl⟩ := HF.out _ _ hown1)
  go_ret
  refine ⟨g, c', rfl, hg1, hg2, hsl, ?_⟩
  exact ((Below.refl _ w).alloc (Nat.le_refl _) _).grown hgrow1 (by simp) (fun k e => by cases e; exact Nat.le_refl _)
end Go.Proofs.YtgceffpkhmjmkaaGreat
