/- Board, part Yd: what the wear of weeks comes to. -/
import Derived.Test.YtifabfbnjnjhlaaYc
import Derived.Test.YtifabfbnjnjhlaaTa
set_option linter.unusedVariables false
set_option linter.unusedSimpArgs false
namespace Go.Proofs.Ytifabfbnjnjhlaa

theorem wornB_length (by_ : List Int) (n : Nat) : (wornB by_ n).length = n := by simp [wornB]
theorem weekB_length (by_ : List Int) (n k : Nat) : (weekB by_ n k).length = n := by simp [weekB]
theorem wornB_bd {by_ : List Int} (hb : ∀ x ∈ by_, 0 ≤ x ∧ x ≤ 255) (n : Nat) : ∀ x ∈ wornB by_ n, 0 ≤ x ∧ x ≤ 765 := by
  intro x hx
  obtain ⟨i, _, rfl⟩ := List.mem_map.1 hx
  have := atB_bd hb i
  omega
theorem weekB_bd {by_ : List Int} (hb : ∀ x ∈ by_, 0 ≤ x ∧ x ≤ 255) (n k : Nat) : ∀ x ∈ weekB by_ n k, 0 ≤ x ∧ x ≤ 255 := by
  intro x hx
  obtain ⟨i, _, rfl⟩ := List.mem_map.1 hx
  exact atB_bd hb _
/-- Wear and weeks without error. -/
theorem wErr_zero {n : Nat} {worn : List Int} {ws : List (Value × List Int)} (h1 : worn.length = n) (h2 : ∀ x ∈ ws, x.2.length = n) (h3 : ∀ x ∈ worn, 0 ≤ x ∧ x ≤ 1000000000) (h4 : ∀ x ∈ ws, ∀ y ∈ x.2, 0 ≤ y ∧ y ≤ 1000000) : wErr (n : Int) worn ws = 0 := by
  unfold wErr
  rw [if_neg, if_neg]
  · simp only [Bool.or_eq_true, not_or, Bool.not_eq_true', Bool.not_eq_false, List.all_eq_true, List.any_eq_true, inb_iff, not_exists, not_and]
    refine ⟨h3, fun x hx => ?_⟩
    exact h4 x hx
  · simp only [Bool.or_eq_true, not_or, bne_iff_ne, ne_eq, Decidable.not_not, List.any_eq_true, not_exists, not_and]
    exact ⟨by omega, fun x hx => by have := h2 x hx; omega⟩

theorem mx_ge (l : List Int) : ∀ x ∈ l, x ≤ mx l := by
  intro x hx
  cases l with
  | nil => cases hx
  | cons y ys =>
    have key : ∀ (zs : List Int) (a : Int), a ≤ zs.foldl max a ∧ ∀ z ∈ zs, z ≤ zs.foldl max a := by
      intro zs
      induction zs with
      | nil => intro a; exact ⟨Int.le_refl _, by simp⟩
      | cons z zs ih =>
        intro a
        obtain ⟨i1, i2⟩ := ih (max a z)
        rw [List.foldl_cons]
        refine ⟨by omega, fun u hu => ?_⟩
        rcases List.mem_cons.1 hu with rfl | hu
        · omega
        · exact i2 u hu
    obtain ⟨k1, k2⟩ := key ys y
    rcases List.mem_cons.1 hx with rfl | hx
    · exact k1
    · exact k2 x hx
theorem sum_le_mx (l : List Int) : l.sum ≤ mx l * l.length := by
  have key : ∀ (M : Int) (xs : List Int), (∀ x ∈ xs, x ≤ M) → xs.sum ≤ M * xs.length := by
    intro M xs
    induction xs with
    | nil => intro _; simp
    | cons x xs ih =>
      intro h
      have h1 := h x (by simp)
      have h2 := ih (fun y hy => h y (by simp [hy]))
      rw [List.sum_cons, List.length_cons, show ((xs.length + 1 : Nat) : Int) = (xs.length : Int) + 1 by omega, Int.mul_add, Int.mul_one]
      omega
  exact key _ l (mx_ge l)

theorem sum_perm_int {xs ys : List Int} (h : xs.Perm ys) : xs.sum = ys.sum := by
  induction h with
  | nil => rfl
  | cons x _ ih => simp [ih]
  | swap x y l => simp only [List.sum_cons]; omega
  | trans _ _ h1 h2 => exact h1.trans h2
theorem sum_plus (r xs : List Int) (he : r.length = xs.length) : (plus r xs xs.length).sum = r.sum + xs.sum := by
  have h1 : plus r xs xs.length = List.zipWith (· + ·) r xs := by
    apply List.ext_getElem
    · simp [plus, he]
    · intro i h1 h2
      have hi : i < r.length := by simpa [plus] using h1
      simp only [plus, List.getElem_map, List.getElem_range, List.getElem_zipWith]
      rw [if_pos (by omega), List.getElem?_eq_getElem hi, List.getElem?_eq_getElem (by omega)]
      rfl
  rw [h1]
  clear h1
  induction r generalizing xs with
  | nil =>
    cases xs with
    | nil => rfl
    | cons x xs => simp at he
  | cons a r ih =>
    cases xs with
    | nil => simp at he
    | cons x xs =>
      simp only [List.zipWith_cons_cons, List.sum_cons]
      rw [ih xs (by simpa using he)]
      omega
theorem sum_aft (worn week : List Int) (k : Nat) (he : worn.length = week.length) (hk : k < week.length) : (aft worn week k).sum = worn.sum + week.sum := by
  unfold aft
  rw [sum_plus _ _ (by rw [rot_length]; exact he.symm), sum_perm_int (rot_perm week k hk)]
  omega

/-- The plan whose one digit, or two, are given. -/
theorem dig_one (S k : Nat) (hk : k < S) : dig S 1 k = [k] := by
  show dig S 0 (k / S) ++ [k % S] = [k]
  rw [Nat.mod_eq_of_lt hk]; rfl
theorem dig_two (S k j : Nat) (hk : k < S) (hj : j < S) : dig S 2 (k * S + j) = [k, j] := by
  show dig S 1 ((k * S + j) / S) ++ [(k * S + j) % S] = [k, j]
  have h1 : (k * S + j) / S = k := by rw [Nat.mul_comm, Nat.mul_add_div (by omega), Nat.div_eq_of_lt hj, Nat.add_zero]
  have h2 : (k * S + j) % S = j := by rw [Nat.mul_comm, Nat.mul_add_mod, Nat.mod_eq_of_lt hj]
  rw [h1, h2, dig_one S k hk]; rfl
theorem best_lt (worn : List Int) (ws : List (List Int)) (hn : 0 < worn.length) : bestP worn ws < worn.length ^ ws.length ∧ ∀ j, j < worn.length ^ ws.length → planM worn ws ≤ Mw worn ws j := by
  obtain ⟨h1, h2, _⟩ := bestI_spec (Mw worn ws) (worn.length ^ ws.length) (Nat.pow_pos hn)
  exact ⟨h1, h2⟩
/-- One week: the best turn is a turn, the wear behind it is the least. -/
theorem best_one (worn week : List Int) (hn : 0 < worn.length) : ∃ K : Nat, K < worn.length ∧ bestK worn week = (K : Int) ∧ digI worn.length 1 (bestP worn [week]) = [(K : Int)] ∧ planM worn [week] = mx (aft worn week K) ∧ ∀ k, k < worn.length → planM worn [week] ≤ mx (aft worn week k) := by
  obtain ⟨h1, h2⟩ := best_lt worn [week] hn
  simp only [List.length_cons, List.length_nil, Nat.zero_add, Nat.pow_one] at h1 h2
  have hd := dig_one worn.length _ h1
  refine ⟨bestP worn [week], h1, ?_, ?_, ?_, fun k hk => ?_⟩
  · unfold bestK digI; rw [hd]; rfl
  · unfold digI; rw [hd]; rfl
  · unfold planM Mw
    simp only [List.length_cons, List.length_nil, Nat.zero_add]
    rw [hd]; rfl
  · have := h2 k hk
    unfold Mw at this
    simp only [List.length_cons, List.length_nil, Nat.zero_add] at this
    rw [dig_one worn.length k hk] at this
    exact this
/-- Two weeks. -/
theorem best_two (worn w0 w1 : List Int) (hn : 0 < worn.length) : ∃ K J : Nat, K < worn.length ∧ J < worn.length ∧ digI worn.length 2 (bestP worn [w0, w1]) = [(K : Int), (J : Int)] ∧ planM worn [w0, w1] = mx (aft (aft worn w0 K) w1 J) ∧ ∀ k j, k < worn.length → j < worn.length → planM worn [w0, w1] ≤ mx (aft (aft worn w0 k) w1 j) := by
  obtain ⟨h1, h2⟩ := best_lt worn [w0, w1] hn
  simp only [List.length_cons, List.length_nil, Nat.zero_add, Nat.reduceAdd] at h1 h2
  have hq : bestP worn [w0, w1] / worn.length < worn.length := by
    rw [Nat.div_lt_iff_lt_mul hn, ← Nat.pow_two]; exact h1
  have hr : bestP worn [w0, w1] % worn.length < worn.length := Nat.mod_lt _ hn
  have hd : dig worn.length 2 (bestP worn [w0, w1]) = [bestP worn [w0, w1] / worn.length, bestP worn [w0, w1] % worn.length] := by
    show dig worn.length 1 (bestP worn [w0, w1] / worn.length) ++ [_] = _
    rw [dig_one _ _ hq]; rfl
  refine ⟨_, _, hq, hr, ?_, ?_, fun k j hk hj => ?_⟩
  · unfold digI; rw [hd]; rfl
  · unfold planM Mw
    simp only [List.length_cons, List.length_nil, Nat.zero_add, Nat.reduceAdd]
    rw [hd]; rfl
  · have := h2 (k * worn.length + j) (by
      rw [Nat.pow_two]
      have : (k + 1) * worn.length ≤ worn.length * worn.length := Nat.mul_le_mul_right _ (by omega)
      rw [Nat.add_mul, Nat.one_mul] at this
      omega)
    unfold Mw at this
    simp only [List.length_cons, List.length_nil, Nat.zero_add, Nat.reduceAdd] at this
    rw [dig_two worn.length k j hk hj] at this
    exact this
end Go.Proofs.Ytifabfbnjnjhlaa
