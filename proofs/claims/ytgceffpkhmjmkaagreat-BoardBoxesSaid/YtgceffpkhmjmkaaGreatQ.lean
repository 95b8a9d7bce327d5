/- Board, part Q: copies of slices. -/
import Derived.Test.YtgceffpkhmjmkaaGreatP
import Derived.WalkSpells
import Derived.RangeFuncNested
set_option linter.unusedVariables false
set_option linter.unusedSimpArgs false
namespace Go.Proofs.YtgceffpkhmjmkaaGreat
open Go.RowKit Go.Shelf

theorem flat_get {α : Type} (enc : α → List Value) (k : Nat) (hk : ∀ x, (enc x).length = k) : ∀ (xs : List α) (q : Nat) (x : α) (i : Nat) (y : Value), xs[q]? = some x → (enc x)[i]? = some y → ((xs.map enc).flatten)[q * k + i]? = some y := by
  intro xs
  induction xs with
  | nil => intro q x i y h; simp at h
  | cons a xs ih =>
    intro q x i y h hy
    have hi : i < k := by rw [← hk x]; exact (List.getElem?_eq_some_iff.1 hy).1
    simp only [List.map_cons, List.flatten_cons]
    cases q with
    | zero =>
      simp at h; subst h
      rw [Nat.zero_mul, Nat.zero_add, List.getElem?_append_left (by rw [hk]; exact hi)]; exact hy
    | succ q =>
      simp at h
      rw [List.getElem?_append_right (by rw [hk, Nat.succ_mul]; omega), hk, show (q + 1) * k + i - k = q * k + i by rw [Nat.succ_mul]; omega]
      exact ih q x i y h hy

theorem flat_inv {α : Type} (enc : α → List Value) (k : Nat) (hk : ∀ x, (enc x).length = k) : ∀ (xs : List α) (j : Nat) (u : Value), ((xs.map enc).flatten)[j]? = some u → ∃ q x i, xs[q]? = some x ∧ (enc x)[i]? = some u ∧ j = q * k + i := by
  intro xs
  induction xs with
  | nil => intro j u h; simp at h
  | cons a xs ih =>
    intro j u h
    simp only [List.map_cons, List.flatten_cons] at h
    by_cases c : j < k
    · rw [List.getElem?_append_left (by rw [hk]; exact c)] at h
      exact ⟨0, a, j, rfl, h, by omega⟩
    · rw [List.getElem?_append_right (by rw [hk]; omega), hk] at h
      obtain ⟨q, x, i, h1, h2, h3⟩ := ih _ _ h
      exact ⟨q + 1, x, i, by simpa using h1, h2, by rw [Nat.succ_mul]; omega⟩

theorem flat_len {α : Type} (enc : α → List Value) (k : Nat) (hk : ∀ x, (enc x).length = k) (xs : List α) : ((xs.map enc).flatten).length = xs.length * k := by
  induction xs with
  | nil => simp
  | cons a xs ih => simp only [List.map_cons, List.flatten_cons, List.length_append, hk, ih, List.length_cons, Nat.succ_mul]; omega

/-- What a call leaves that hands back a new slice. -/
def RetSl {α : Type} (k : Nat) (enc : α → List Value) (xs : List α) (w : World) (e : Ending) (w' : World) : Prop :=
  ∃ g c, e = .returned (.slice (some ⟨g, 0, none⟩) xs.length c) ∧ w.heap.size ≤ g ∧ g < w'.heap.size ∧ Sl w' k enc (.slice (some ⟨g, 0, none⟩) xs.length c) xs ∧ Below w.heap.size w w'

/-- An owned row of flattened cells is a slice. -/
theorem sl_of_row {α : Type} {w : World} {base : Nat} {e : TypeId} {k : Nat} {enc : α → List Value} {xs : List α} {v : Value} (hk : ∀ x, (enc x).length = k) (hl : xs.length ≤ 9223372036854775807) (hne : xs ≠ []) (h : w.ownsRow base e k v xs.length ((xs.map enc).flatten)) :
    ∃ g c, v = .slice (some ⟨g, 0, none⟩) xs.length c ∧ base ≤ g ∧ g < w.heap.size ∧ Sl w k enc (.slice (some ⟨g, 0, none⟩) xs.length c) xs := by
  have h' := h
  rcases h.2 with ⟨_, h0⟩ | ⟨g, cap, cur, rfl, hb, hg, _, _, _, _⟩
  · exact absurd (List.length_eq_zero_iff.1 h0) hne
  · have hlt : g < w.heap.size := (Array.getElem?_eq_some_iff.1 hg).1
    refine ⟨g, cap, rfl, hb, hlt, some ⟨g, 0, none⟩, cap, rfl, hl, fun _ => ⟨g, 0, rfl, hlt, fun j x hx i y hy => ?_⟩⟩
    have hi : i < k := by rw [← hk x]; exact (List.getElem?_eq_some_iff.1 hy).1
    have hj := (List.getElem?_eq_some_iff.1 hx).1
    have := h'.cellAt (j * k + i) (by
      have : (j + 1) * k ≤ xs.length * k := Nat.mul_le_mul_right _ hj
      rw [Nat.succ_mul] at this; omega)
    rw [Nat.zero_add, this]
    exact flat_get enc k hk xs j x i y hx hy

theorem owns_empty (w : World) (e : TypeId) (k : Nat) : (w.alloc (.cells #[] e)).ownsRow w.heap.size e k (.slice (some ⟨w.heap.size, 0, none⟩) 0 0) 0 [] :=
  ⟨by simp, .inr ⟨w.heap.size, 0, #[], rfl, Nat.le_refl _, World.alloc_heap_new w _, Nat.le_refl _, by unfold maxLen; omega, by simp, by simp⟩⟩

theorem info_rings : (Tryz.prog.info? 79).map (fun i => (i.zero, i.size, i.bytes)) = some (some (.agg #[.int .i64 0, .int .i64 0]), 2, 16) := by kernel_rfl

set_option maxRecDepth 100000 in
set_option maxHeartbeats 1000000 in
theorem clone_rings (v : Value) (xs : List (Int × Int)) (w : World) (hs : Sl w 2 encP v xs) (hne : xs ≠ []) (hle : xs.length ≤ 1000) :
    Calls Tryz.prog 56 #[v] w (RetSl 2 encP xs w) := by
  have hk : ∀ x, ((encP) x).length = 2 := fun _ => rfl
  obtain ⟨a, c, rfl, hl, hs⟩ := hs
  obtain ⟨b, off, rfl, hb, hc⟩ := hs hne
  have HC : Aside (∀ j u, ((xs.map (encP)).flatten)[j]? = some u → w.cell? ⟨b, off + j, none⟩ = some u) := by
    intro j u h
    obtain ⟨q, x, i, h1, h2, h3⟩ := flat_inv _ 2 hk xs j u h
    have := hc q x h1 i u h2
    rw [h3, ← Nat.add_assoc]; exact this
  have H1 : Aside (∀ u ∈ (xs.map (encP)).flatten, u.oneCell' = true) := by
    intro u hu
    obtain ⟨l, hl, hu⟩ := List.mem_flatten.1 hu
    obtain ⟨x, _, rfl⟩ := List.mem_map.1 hl
    unfold encP at hu
    simp only [List.mem_cons, List.not_mem_nil, or_false] at hu
    rcases hu with rfl | rfl <;> rfl
  have HL := flat_len (encP) 2 hk xs
  have HF : Aside (∀ (w' : World) (v' : Value), w'.ownsRow w.heap.size 79 2 v' (0 + xs.length) ([] ++ (xs.map (encP)).flatten) → ∃ g c, v' = .slice (some ⟨g, 0, none⟩) xs.length c ∧ w.heap.size ≤ g ∧ g < w'.heap.size ∧ Sl w' 2 (encP) (.slice (some ⟨g, 0, none⟩) xs.length c) xs) := fun w' v' h => sl_of_row hk hl hne (by simpa using h)
  obtain ⟨i0, hi, hz0, hz1, hz2⟩ := info_parts info_rings
  clear hs hc hk hne
  have HLA : Aside (((xs.map (encP)).flatten).length = xs.length * 2) := HL
  clear HL
  have HC2 : Aside (∀ j u, ((xs.map (encP)).flatten)[j]? = some u → (w.alloc (.cells #[] 79)).cell? ((⟨b, off, none⟩ : Addr).add j) = some u) := by
    intro j u h
    rw [Addr.add_lit]
    exact keepc (W := w) (w1 := w.alloc (.cells #[] 79)) (a := ⟨b, off + j, none⟩) (by (repeat' (first | exact Below.refl _ _ | assumption | (with_reducible refine Below.drew ?_) | (with_reducible refine Below.setCell ?_ (by (first | (simp; done) | (simp; omega))) _) | (with_reducible refine below_drewN' ?_ _) | (refine Below.alloc ?_ (by (try simp only [World.size_alloc, World.size_drew, World.size_setCell]); omega) _) | (refine Below.trans ?_ (Below.mono (by assumption) (by (try simp only [World.size_alloc, World.size_drew, World.size_setCell]); omega)))))) (HC.out j u h)
  have hm1 : 0 + xs.length ≤ maxLen := by unfold maxLen; omega
  have hm2 : (0 + xs.length) * 16 ≤ 140737488355328 := by omega
  have hnil := fun (w : World) (a : Addr) (n c : Nat) => Lib.run_eql_slice_nil (P := Tryz.prog) w 22 79 (some a) n c 0 0 Tryz.underlying22
  go_enter Tryz.func56, Tryz.ntmps56
  go_wp2_with (at_builtin; refine wpList_append_own _ rfl _ _ 22 rfl w.heap.size 79 i0 (.agg #[.int .i64 0, .int .i64 0]) 2 16 Tryz.underlying22 hi hz0 hz1 hz2 rfl (by decide) _ 0 [] rfl (owns_empty _ _ _) ⟨b, off, none⟩ xs.length c ((xs.map (encP)).flatten) rfl HLA.out HC2.out H1.out hm1 hm2 (by simp) ?_; intro v' w1 hown1 hgrow1 _; obtain ⟨g, c', rfl, hg1, hg2, hsl⟩ := HF.out _ _ hown1)
  go_ret
  refine ⟨g, c', rfl, hg1, hg2, hsl, ?_⟩
  exact ((Below.refl _ w).alloc (Nat.le_refl _) _).grown hgrow1 (by simp) (fun k e => by cases e; exact Nat.le_refl _)

theorem info_pts : (Tryz.prog.info? 28).map (fun i => (i.zero, i.size, i.bytes)) = some (some (.agg #[.int .i64 0, .int .i64 0]), 2, 16) := by kernel_rfl

set_option maxRecDepth 100000 in
set_option maxHeartbeats 1000000 in
theorem clone_pts (v : Value) (xs : List (Int × Int)) (w : World) (hs : Sl w 2 encP v xs) (hne : xs ≠ []) (hle : xs.length ≤ 1000) :
    Calls Tryz.prog 57 #[v] w (RetSl 2 encP xs w) := by
  have hk : ∀ x, ((encP) x).length = 2 := fun _ => rfl
  obtain ⟨a, c, rfl, hl, hs⟩ := hs
  obtain ⟨b, off, rfl, hb, hc⟩ := hs hne
  have HC : Aside (∀ j u, ((xs.map (encP)).flatten)[j]? = some u → w.cell? ⟨b, off + j, none⟩ = some u) := by
    intro j u h
    obtain ⟨q, x, i, h1, h2, h3⟩ := flat_inv _ 2 hk xs j u h
    have := hc q x h1 i u h2
    rw [h3, ← Nat.add_assoc]; exact this
  have H1 : Aside (∀ u ∈ (xs.map (encP)).flatten, u.oneCell' = true) := by
    intro u hu
    obtain ⟨l, hl, hu⟩ := List.mem_flatten.1 hu
    obtain ⟨x, _, rfl⟩ := List.mem_map.1 hl
    unfold encP at hu
    simp only [List.mem_cons, List.not_mem_nil, or_false] at hu
    rcases hu with rfl | rfl <;> rfl
  have HL := flat_len (encP) 2 hk xs
  have HF : Aside (∀ (w' : World) (v' : Value), w'.ownsRow w.heap.size 28 2 v' (0 + xs.length) ([] ++ (xs.map (encP)).flatten) → ∃ g c, v' = .slice (some ⟨g, 0, none⟩) xs.length c ∧ w.heap.size ≤ g ∧ g < w'.heap.size ∧ Sl w' 2 (encP) (.slice (some ⟨g, 0, none⟩) xs.length c) xs) := fun w' v' h => sl_of_row hk hl hne (by simpa using h)
  obtain ⟨i0, hi, hz0, hz1, hz2⟩ := info_parts info_pts
  clear hs hc hk hne
  have HLA : Aside (((xs.map (encP)).flatten).length = xs.length * 2) := HL
  clear HL
  have HC2 : Aside (∀ j u, ((xs.map (encP)).flatten)[j]? = some u → (w.alloc (.cells #[] 28)).cell? ((⟨b, off, none⟩ : Addr).add j) = some u) := by
    intro j u h
    rw [Addr.add_lit]
    exact keepc (W := w) (w1 := w.alloc (.cells #[] 28)) (a := ⟨b, off + j, none⟩) (by (repeat' (first | exact Below.refl _ _ | assumption | (with_reducible refine Below.drew ?_) | (with_reducible refine Below.setCell ?_ (by (first | (simp; done) | (simp; omega))) _) | (with_reducible refine below_drewN' ?_ _) | (refine Below.alloc ?_ (by (try simp only [World.size_alloc, World.size_drew, World.size_setCell]); omega) _) | (refine Below.trans ?_ (Below.mono (by assumption) (by (try simp only [World.size_alloc, World.size_drew, World.size_setCell]); omega)))))) (HC.out j u h)
  have hm1 : 0 + xs.length ≤ maxLen := by unfold maxLen; omega
  have hm2 : (0 + xs.length) * 16 ≤ 140737488355328 := by omega
  have hnil := fun (w : World) (a : Addr) (n c : Nat) => Lib.run_eql_slice_nil (P := Tryz.prog) w 23 28 (some a) n c 0 0 Tryz.underlying23
  go_enter Tryz.func57, Tryz.ntmps57
  go_wp2_with (at_builtin; refine wpList_append_own _ rfl _ _ 23 rfl w.heap.size 28 i0 (.agg #[.int .i64 0, .int .i64 0]) 2 16 Tryz.underlying23 hi hz0 hz1 hz2 rfl (by decide) _ 0 [] rfl (owns_empty _ _ _) ⟨b, off, none⟩ xs.length c ((xs.map (encP)).flatten) rfl HLA.out HC2.out H1.out hm1 hm2 (by simp) ?_; intro v' w1 hown1 hgrow1 _; obtain ⟨g, c', rfl, hg1, hg2, hsl⟩ := HF.out _ _ hown1)
  go_ret
  refine ⟨g, c', rfl, hg1, hg2, hsl, ?_⟩
  exact ((Below.refl _ w).alloc (Nat.le_refl _) _).grown hgrow1 (by simp) (fun k e => by cases e; exact Nat.le_refl _)

theorem info_ints : (Tryz.prog.info? 3).map (fun i => (i.zero, i.size, i.bytes)) = some (some (.int .i64 0), 1, 8) := by kernel_rfl

set_option maxRecDepth 100000 in
set_option maxHeartbeats 1000000 in
theorem clone_ints (v : Value) (xs : List (Int)) (w : World) (hs : Sl w 1 (fun x => [Value.int .i64 x]) v xs) (hne : xs ≠ []) (hle : xs.length ≤ 1000) :
    Calls Tryz.prog 102 #[v] w (RetSl 1 (fun x => [Value.int .i64 x]) xs w) := by
  have hk : ∀ x, (((fun x => [Value.int .i64 x])) x).length = 1 := fun _ => rfl
  obtain ⟨a, c, rfl, hl, hs⟩ := hs
  obtain ⟨b, off, rfl, hb, hc⟩ := hs hne
  have HC : Aside (∀ j u, ((xs.map ((fun x => [Value.int .i64 x]))).flatten)[j]? = some u → w.cell? ⟨b, off + j, none⟩ = some u) := by
    intro j u h
    obtain ⟨q, x, i, h1, h2, h3⟩ := flat_inv _ 1 hk xs j u h
    have := hc q x h1 i u h2
    rw [h3, ← Nat.add_assoc]; exact this
  have H1 : Aside (∀ u ∈ (xs.map ((fun x => [Value.int .i64 x]))).flatten, u.oneCell' = true) := by
    intro u hu
    obtain ⟨l, hl, hu⟩ := List.mem_flatten.1 hu
    obtain ⟨x, _, rfl⟩ := List.mem_map.1 hl
    try simp only [] at hu
    simp only [List.mem_cons, List.not_mem_nil, or_false] at hu
    subst hu; rfl
  have HL := flat_len ((fun x => [Value.int .i64 x])) 1 hk xs
  have HF : Aside (∀ (w' : World) (v' : Value), w'.ownsRow w.heap.size 3 1 v' (0 + xs.length) ([] ++ (xs.map ((fun x => [Value.int .i64 x]))).flatten) → ∃ g c, v' = .slice (some ⟨g, 0, none⟩) xs.length c ∧ w.heap.size ≤ g ∧ g < w'.heap.size ∧ Sl w' 1 ((fun x => [Value.int .i64 x])) (.slice (some ⟨g, 0, none⟩) xs.length c) xs) := fun w' v' h => sl_of_row hk hl hne (by simpa using h)
  obtain ⟨i0, hi, hz0, hz1, hz2⟩ := info_parts info_ints
  clear hs hc hk hne
  have HLA : Aside (((xs.map ((fun x => [Value.int .i64 x]))).flatten).length = xs.length * 1) := HL
  clear HL
  have HC2 : Aside (∀ j u, ((xs.map ((fun x => [Value.int .i64 x]))).flatten)[j]? = some u → (w.alloc (.cells #[] 3)).cell? ((⟨b, off, none⟩ : Addr).add j) = some u) := by
    intro j u h
    rw [Addr.add_lit]
    exact keepc (W := w) (w1 := w.alloc (.cells #[] 3)) (a := ⟨b, off + j, none⟩) (by (repeat' (first | exact Below.refl _ _ | assumption | (with_reducible refine Below.drew ?_) | (with_reducible refine Below.setCell ?_ (by (first | (simp; done) | (simp; omega))) _) | (with_reducible refine below_drewN' ?_ _) | (refine Below.alloc ?_ (by (try simp only [World.size_alloc, World.size_drew, World.size_setCell]); omega) _) | (refine Below.trans ?_ (Below.mono (by assumption) (by (try simp only [World.size_alloc, World.size_drew, World.size_setCell]); omega)))))) (HC.out j u h)
  have hm1 : 0 + xs.length ≤ maxLen := by unfold maxLen; omega
  have hm2 : (0 + xs.length) * 8 ≤ 140737488355328 := by omega
  have hnil := fun (w : World) (a : Addr) (n c : Nat) => Lib.run_eql_slice_nil (P := Tryz.prog) w 24 3 (some a) n c 0 0 Tryz.underlying24
  go_enter Tryz.func102, Tryz.ntmps102
  go_wp2_with (at_builtin; refine wpList_append_own _ rfl _ _ 24 rfl w.heap.size 3 i0 (.int .i64 0) 1 8 Tryz.underlying24 hi hz0 hz1 hz2 rfl (by decide) _ 0 [] rfl (owns_empty _ _ _) ⟨b, off, none⟩ xs.length c ((xs.map ((fun x => [Value.int .i64 x]))).flatten) rfl HLA.out HC2.out H1.out hm1 hm2 (by simp) ?_; intro v' w1 hown1 hgrow1 _; obtain ⟨g, c', rfl, hg1, hg2, hsl⟩ := HF.out _ _ hown1)
  go_ret
  refine ⟨g, c', rfl, hg1, hg2, hsl, ?_⟩
  exact ((Below.refl _ w).alloc (Nat.le_refl _) _).grown hgrow1 (by simp) (fun k e => by cases e; exact Nat.le_refl _)
end Go.Proofs.YtgceffpkhmjmkaaGreat
