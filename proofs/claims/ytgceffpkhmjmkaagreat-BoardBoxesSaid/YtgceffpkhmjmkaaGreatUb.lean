/- Board, part Ub: the turns with which the greatest wear is least. -/
import Derived.Test.YtgceffpkhmjmkaaGreatUa
import Derived.Test.YtgceffpkhmjmkaaGreatU
import Derived.Test.YtgceffpkhmjmkaaGreatT
import Derived.Test.YtgceffpkhmjmkaaGreatO
set_option linter.unusedVariables false
set_option linter.unusedSimpArgs false
namespace Go.Proofs.YtgceffpkhmjmkaaGreat
open Go.RowKit Go.Shelf
attribute [local go_sem] Oper.semAt_some

/-- The wear after weeks with turns. -/
def endw : List Int → List (List Int) → List Nat → List Int
  | e, wk :: wks, k :: ks => endw (aft e wk k) wks ks
  | e, _, _ => e
theorem aft_length (worn week : List Int) (k : Nat) : (aft worn week k).length = week.length := by unfold aft; rw [plus_length, rot_length]
theorem endw_snoc (ws : List (List Int)) (wk : List Int) : ∀ (e : List Int) (ks : List Nat) (k : Nat), ks.length = ws.length → endw e (ws ++ [wk]) (ks ++ [k]) = aft (endw e ws ks) wk k := by
  induction ws with
  | nil => intro e ks k h; cases ks with | nil => rfl | cons a t => simp at h
  | cons w1 ws ih =>
    intro e ks k h
    cases ks with
    | nil => simp at h
    | cons a t => simp only [List.cons_append, endw]; exact ih _ _ _ (by simpa using h)
theorem endw_take (ws : List (List Int)) (ks : List Nat) (e wk : List Int) (j k : Nat) (hw : ws[j]? = some wk) (hk : ks[j]? = some k) : aft (endw e (ws.take j) (ks.take j)) wk k = endw e (ws.take (j + 1)) (ks.take (j + 1)) := by
  obtain ⟨h1, e1⟩ := List.getElem?_eq_some_iff.1 hw
  obtain ⟨h2, e2⟩ := List.getElem?_eq_some_iff.1 hk
  rw [List.take_succ_eq_append_getElem h1, List.take_succ_eq_append_getElem h2, endw_snoc _ _ _ _ _ (by simp; omega), e1, e2]
theorem endw_length (n : Nat) (ws : List (List Int)) : ∀ (e : List Int) (ks : List Nat), e.length = n → (∀ wk ∈ ws, wk.length = n) → (endw e ws ks).length = n := by
  induction ws with
  | nil => intro e ks he _; simpa [endw] using he
  | cons w1 ws ih =>
    intro e ks he hw
    cases ks with
    | nil => simpa [endw] using he
    | cons a t => exact ih _ _ (by rw [aft_length]; exact hw _ List.mem_cons_self) (fun wk h => hw wk (List.mem_cons_of_mem _ h))

theorem aft_bd (A B : Int) (hA : 0 ≤ A) (hB : 0 ≤ B) (worn week : List Int) (k : Nat) (h1 : ∀ x ∈ worn, 0 ≤ x ∧ x ≤ A) (h2 : ∀ x ∈ week, 0 ≤ x ∧ x ≤ B) : ∀ x ∈ aft worn week k, 0 ≤ x ∧ x ≤ A + B := by
  intro x hx
  have g1 : ∀ j : Nat, 0 ≤ worn[j]?.getD 0 ∧ worn[j]?.getD 0 ≤ A := by
    intro j
    by_cases hj : j < worn.length
    · rw [List.getElem?_eq_getElem hj]; exact h1 _ (List.getElem_mem hj)
    · rw [List.getElem?_eq_none (by omega)]; simp; omega
  have g2 : ∀ j : Nat, 0 ≤ (rot week k)[j]?.getD 0 ∧ (rot week k)[j]?.getD 0 ≤ B := by
    have aux : ∀ j : Nat, 0 ≤ week[j]?.getD 0 ∧ week[j]?.getD 0 ≤ B := by
      intro j
      by_cases hj : j < week.length
      · rw [List.getElem?_eq_getElem hj]; exact h2 _ (List.getElem_mem hj)
      · rw [List.getElem?_eq_none (by omega)]; simp; omega
    intro i
    by_cases hi : i < (rot week k).length
    · rw [List.getElem?_eq_getElem hi]
      simp only [rot, lay, List.getElem_map, List.getElem_range, Option.getD_some]
      split
      · exact aux _
      · omega
    · rw [List.getElem?_eq_none (by omega)]; simp; omega
  unfold aft plus at hx
  obtain ⟨s, _, rfl⟩ := List.mem_map.1 hx
  have a1 := g1 s
  have a2 := g2 s
  split <;> omega
theorem endw_bd (B : Int) (hB : 0 ≤ B) (ws : List (List Int)) : ∀ (A : Int) (e : List Int) (ks : List Nat), 0 ≤ A → (∀ x ∈ e, 0 ≤ x ∧ x ≤ A) → (∀ wk ∈ ws, ∀ x ∈ wk, 0 ≤ x ∧ x ≤ B) → ∀ x ∈ endw e ws ks, 0 ≤ x ∧ x ≤ A + ws.length * B := by
  induction ws with
  | nil => intro A e ks hA he _ x hx; have := he x (by simpa [endw] using hx); simp; omega
  | cons w1 ws ih =>
    intro A e ks hA he hw x hx
    have hlb : (0 : Int) ≤ (ws.length : Int) * B := Int.mul_nonneg (by omega) hB
    have e2 : ((w1 :: ws).length : Int) * B = ws.length * B + B := by simp [Int.add_mul]
    cases ks with
    | nil =>
      have := he x (by simpa [endw] using hx)
      rw [e2]; omega
    | cons a t =>
      have := ih (A + B) (aft e w1 a) t (by omega) (aft_bd A B hA hB e w1 a he (hw _ List.mem_cons_self)) (fun wk h => hw wk (List.mem_cons_of_mem _ h)) x hx
      rw [e2]; omega

/-- The first one of the least values. -/
def bestI (M : Nat → Int) : Nat → Nat
  | 0 => 0
  | i + 1 => if M i < M (bestI M i) then i else bestI M i
theorem bestI_spec (M : Nat → Int) (n : Nat) (hn : 0 < n) : bestI M n < n ∧ (∀ j, j < n → M (bestI M n) ≤ M j) ∧ (∀ j, j < bestI M n → M (bestI M n) < M j) := by
  induction n with
  | zero => omega
  | succ n ih =>
    by_cases h0 : n = 0
    · subst h0
      have e1 : bestI M (0 + 1) = 0 := by
        show (if M 0 < M (bestI M 0) then 0 else bestI M 0) = 0
        split <;> rfl
      rw [e1]
      refine ⟨by omega, fun j hj => ?_, fun j hj => by omega⟩
      have : j = 0 := by omega
      subst this; omega
    · obtain ⟨h1, h2, h3⟩ := ih (by omega)
      simp only [bestI]
      split
      · rename_i c
        refine ⟨by omega, fun j hj => ?_, fun j hj => ?_⟩
        · by_cases e : j = n
          · subst e; omega
          · have := h2 j (by omega); omega
        · have := h2 j hj; omega
      · rename_i c
        refine ⟨by omega, fun j hj => ?_, h3⟩
        by_cases e : j = n
        · subst e; omega
        · exact h2 j (by omega)

/-- The greatest wear with the i-th plan. -/
def Mw (worn : List Int) (ws : List (List Int)) (i : Nat) : Int := mx (endw worn ws (dig worn.length ws.length i))
def bestP (worn : List Int) (ws : List (List Int)) : Nat := bestI (Mw worn ws) (worn.length ^ ws.length)

theorem mx_bd (A : Int) : ∀ l : List Int, l ≠ [] → (∀ x ∈ l, 0 ≤ x ∧ x ≤ A) → 0 ≤ mx l ∧ mx l ≤ A := by
  intro l hne h
  cases l with
  | nil => exact absurd rfl hne
  | cons x xs =>
    have key : ∀ (ys : List Int) (a : Int), 0 ≤ a → a ≤ A → (∀ y ∈ ys, 0 ≤ y ∧ y ≤ A) → 0 ≤ ys.foldl max a ∧ ys.foldl max a ≤ A := by
      intro ys
      induction ys with
      | nil => intro a h1 h2 _; exact ⟨h1, h2⟩
      | cons y ys ih =>
        intro a h1 h2 h3
        have hy := h3 y List.mem_cons_self
        exact ih _ (by omega) (by omega) (fun z hz => h3 z (List.mem_cons_of_mem _ hz))
    have hx := h x List.mem_cons_self
    exact key xs x hx.1 hx.2 (fun y hy => h y (List.mem_cons_of_mem _ hy))

/-- What evenest leaves. -/
def RetEven (worn : List Int) (ws : List (List Int)) (w : World) (e : Ending) (w' : World) : Prop :=
  ∃ g1 c1 g2 c2, e = .returned (.tuple #[.slice (some ⟨g1, 0, none⟩) ws.length c1, .slice (some ⟨g2, 0, none⟩) worn.length c2]) ∧ Sl w' 1 eI (.slice (some ⟨g1, 0, none⟩) ws.length c1) (digI worn.length ws.length (bestP worn ws)) ∧
    Sl w' 1 eI (.slice (some ⟨g2, 0, none⟩) worn.length c2) (endw worn ws (dig worn.length ws.length (bestP worn ws))) ∧ Below w.heap.size w w'

theorem Turns3.cellk {b k i : Nat} {A B : World} {v : Value} (h : Turns3 b A B) (hk : k < b ∨ b + 2 < k) (hc : A.cell? ⟨k, i, none⟩ = some v) : B.cell? ⟨k, i, none⟩ = some v :=
  (World.cell?_of_block (a := ⟨k, i, none⟩) (h.block k (World.block_lt_of_cell? A _ hc) hk)).trans hc
theorem Turns3.frozenk {b k i : Nat} {A B : World} {v : Value} (h : Turns3 b A B) (hk : k < b ∨ b + 2 < k) (hc : A.cell? ⟨k, i, none⟩ = some v) (hf : A.frozen? ⟨k, i, none⟩ = false) : B.frozen? ⟨k, i, none⟩ = false :=
  (World.frozen?_of_block (a := ⟨k, i, none⟩) (h.block k (World.block_lt_of_cell? A _ hc) hk)).trans hf
theorem Turns3.slk {b g n c : Nat} {A B : World} {xs : List Int} (h : Turns3 b A B) (hk : g < b ∨ b + 2 < g) (hs : Sl A 1 eI (.slice (some ⟨g, 0, none⟩) n c) xs) : Sl B 1 eI (.slice (some ⟨g, 0, none⟩) n c) xs := by
  obtain ⟨a, c', e, hl, hs⟩ := hs
  refine ⟨a, c', e, hl, fun hne => ?_⟩
  obtain ⟨b', off, ha, hb, hc⟩ := hs hne
  have hbg : b' = g := by rw [ha] at e; simp at e; omega
  subst hbg
  exact ⟨b', off, ha, Nat.lt_of_lt_of_le hb h.size, fun j x hx i y hy => h.cellk hk (hc j x hx i y hy)⟩

/-- The state of the search behind i plans. -/
def Bst (b : Nat) (worn : List Int) (ws : List (List Int)) (i : Nat) (vt vw : Value) (L : Int) (W : World) : Prop :=
  (i = 0 ∧ L = 9223372036854775807) ∨ (1 ≤ i ∧ L = Mw worn ws (bestI (Mw worn ws) i) ∧ ∃ g1 c1 g2 c2, vt = .slice (some ⟨g1, 0, none⟩) ws.length c1 ∧ vw = .slice (some ⟨g2, 0, none⟩) worn.length c2 ∧ b + 2 < g1 ∧ b + 2 < g2 ∧
    Sl W 1 eI (.slice (some ⟨g1, 0, none⟩) ws.length c1) (digI worn.length ws.length (bestI (Mw worn ws) i)) ∧ Sl W 1 eI (.slice (some ⟨g2, 0, none⟩) worn.length c2) (endw worn ws (dig worn.length ws.length (bestI (Mw worn ws) i))))

theorem Turns3.bst {b i : Nat} {worn : List Int} {ws : List (List Int)} {vt vw : Value} {L : Int} {A B : World} (h : Turns3 b A B) (hs : Bst b worn ws i vt vw L A) : Bst b worn ws i vt vw L B := by
  rcases hs with h0 | ⟨h1, h2, g1, c1, g2, c2, h3, h4, h5, h6, h7, h8⟩
  · exact .inl h0
  · exact .inr ⟨h1, h2, g1, c1, g2, c2, h3, h4, h5, h6, h.slk (.inr h5) h7, h.slk (.inr h6) h8⟩

theorem planAt_put {base S m i l : Nat} {v : Value} {W : World} {o o' : Obj} (h : PlanAt base S m i v W) (hl : W.heap[l]? = some o) (ho : o.isCells = false) : PlanAt base S m i v (W.putObj l o') := by
  obtain ⟨gx, c, rfl, h1, h2, a, c', e, h3, h4⟩ := h
  refine ⟨gx, c, rfl, h1, by simpa using h2, a, c', e, h3, fun hne => ?_⟩
  obtain ⟨b, off, ha, hb, hc⟩ := h4 hne
  exact ⟨b, off, ha, by simpa using hb, fun j x hx i y hy => cell_kept (hc j x hx i y hy) (grownBy_putObj' _ l o') (fun r e => by cases e; exact ⟨_, hl, ho⟩)⟩

theorem sl_of_ints' {w : World} {base g n : Nat} {e : TypeId} {xs : List Int} (hl : xs.length ≤ 9223372036854775807) (h : w.ownsRow base e 1 (.slice (some ⟨g, 0, none⟩) n n) n (xs.map (Value.int .i64))) (hn : n = xs.length) : Sl w 1 (fun x => [Value.int .i64 x]) (.slice (some ⟨g, 0, none⟩) n n) xs := by
  subst hn
  have h' := h
  refine ⟨_, _, rfl, hl, fun hne => ⟨g, 0, rfl, ?_, ?_⟩⟩
  · rcases h.2 with ⟨h0, _⟩ | ⟨g', cap, cur, h0, _, hg, _⟩
    · cases h0
    · cases h0; exact (Array.getElem?_eq_some_iff.1 hg).1
  · intro j x hx i y hy
    match i, hy with
    | 0, hy =>
      simp at hy; subst hy
      have := h'.cellAt j (by have := (List.getElem?_eq_some_iff.1 hx).1; omega)
      rw [Nat.mul_one, Nat.zero_add, Nat.add_zero, this, List.getElem?_map, hx]; rfl
    | i + 1, hy => simp at hy
theorem Sl.setCell' {α : Type} {w : World} {k g n c : Nat} {enc : α → List Value} {xs : List α} {p : Addr} {u : Value} (h : Sl w k enc (.slice (some ⟨g, 0, none⟩) n c) xs) (hp : g ≠ p.block) : Sl (w.setCell p u) k enc (.slice (some ⟨g, 0, none⟩) n c) xs := by
  obtain ⟨a, c', e, hl, hs⟩ := h
  refine ⟨a, c', e, hl, fun hne => ?_⟩
  obtain ⟨b, off, ha, hb, hc⟩ := hs hne
  have hbg : b = g := by rw [ha] at e; simp at e; omega
  exact ⟨b, off, ha, by simpa using hb, fun j x hx i y hy => (World.cell?_of_block (Below.heap_setCell w p u b (by rw [hbg]; exact hp))).trans (hc j x hx i y hy)⟩

theorem Sl.drew' {α : Type} {w : World} {k : Nat} {enc : α → List Value} {v : Value} {xs : List α} (h : Sl w k enc v xs) : Sl w.drew k enc v xs := by
  obtain ⟨a, c, hv, hl, h⟩ := h
  refine ⟨a, c, hv, hl, fun hne => ?_⟩
  obtain ⟨b, off, ha, hb, hc⟩ := h hne
  exact ⟨b, off, ha, hb, hc⟩
theorem Sl.put' {α : Type} {w : World} {k l : Nat} {enc : α → List Value} {v : Value} {xs : List α} {o o' : Obj} (h : Sl w k enc v xs) (hl : w.heap[l]? = some o) (ho : o.isCells = false) : Sl (w.putObj l o') k enc v xs := by
  obtain ⟨a, c, hv, hl', h⟩ := h
  refine ⟨a, c, hv, hl', fun hne => ?_⟩
  obtain ⟨b, off, ha, hb, hc⟩ := h hne
  exact ⟨b, off, ha, by simpa using hb, fun j x hx i y hy => cell_kept (hc j x hx i y hy) (grownBy_putObj' _ l o') (fun r e => by cases e; exact ⟨_, hl, ho⟩)⟩

set_option maxRecDepth 100000 in
set_option maxHeartbeats 4000000 in
theorem evenest_any (v vs : Value) (worn : List Int) (ws : List (Value × List Int)) (w : World) (hw : Sl w 1 eI v worn) (hs : Sl w 1 eR vs ws) (hx : ∀ x ∈ ws, Sl w 1 eI x.1 x.2)
    (hn1 : worn ≠ []) (hn2 : worn.length ≤ 1000) (hm1 : ws ≠ []) (hm2 : ws.length ≤ 100) (hlen : ∀ x ∈ ws, x.2.length = worn.length) (hb1 : ∀ x ∈ worn, 0 ≤ x ∧ x ≤ 100000000000) (hb2 : ∀ x ∈ ws, ∀ y ∈ x.2, 0 ≤ y ∧ y ≤ 1000000000) :
    Calls Tryz.prog 62 #[v, vs] w (RetEven worn (ws.map (·.2)) w) := by
  have HW : Aside (Sl w 1 eI v worn) := hw
  have HX : Aside (∀ x ∈ ws, Sl w 1 eI x.1 x.2) := hx
  obtain ⟨a, c, rfl, hl, _⟩ := hw
  obtain ⟨a2, c2, rfl, hl2, hss⟩ := hs
  obtain ⟨b2, off2, rfl, hb2l, hc2⟩ := hss hm1
  have HC2 : Aside (∀ j x, ws[j]? = some x → w.cell? ⟨b2, off2 + j, none⟩ = some x.1) := fun j x hx => by have := hc2 j x hx 0 x.1 rfl; simpa using this
  have HL : Aside (∀ x ∈ ws, x.2.length = worn.length) := hlen
  have HB1 : Aside (∀ x ∈ worn, 0 ≤ x ∧ x ≤ 100000000000) := hb1
  have HB2 : Aside (∀ x ∈ ws, ∀ y ∈ x.2, 0 ≤ y ∧ y ≤ 1000000000) := hb2
  have HM : Aside ((ws.map (·.2)).length = ws.length) := List.length_map _
  have hS1 : 1 ≤ worn.length := List.length_pos_iff.2 hn1
  have hM1 : 1 ≤ ws.length := List.length_pos_iff.2 hm1
  clear hss hc2 hlen hb1 hb2 hn1 hm1 hx
  obtain ⟨m, hm⟩ : ∃ m, ws.length = m := ⟨_, rfl⟩
  obtain ⟨S, hS⟩ : ∃ S, worn.length = S := ⟨_, rfl⟩
  have Hm : Aside (ws.length = m) := hm
  have HS : Aside (worn.length = S) := hS
  rw [hm] at hm2 hl2 hM1
  rw [hS] at hn2 hS1 hl
  rw [hm, hS]
  clear hm hS
  refine callsIn_wide (n := 10).1 ?_
  refine callsIn_of_wp_marks Tryz.func62 rfl trivial ?_ rfl
  simp only [Tryz.ntmps62, List.size_toArray, List.length_cons, List.length_nil, Nat.reduceAdd, Nat.reduceSub, Array.replicate_succ, Array.replicate_zero, List.push_toArray, List.append_toArray, List.nil_append, List.cons_append]
  gi_wp2_with (refine ⟨trivial, ?_⟩; gi_at_call 82; refine (callsIn_wide.2 (plans_any _ _ _)).mono ?_; rintro e w2 ⟨rfl, rfl⟩)
  obtain ⟨W0, hW0⟩ : ∃ W0, W0 = (((((((w.alloc (.cells #[.slice a S c] 24)).alloc (.cells #[.slice (some ⟨b2, off2, none⟩) m c2] 54)).alloc (.cells #[.slice none 0 0] 24)).alloc (.cells #[.slice none 0 0] 24)).alloc (.cells #[.int .i64 9223372036854775807] 3)).alloc (.cells #[.int .i64 m] 3)).alloc (.cells #[.int .i64 S] 3)) := ⟨_, rfl⟩
  have s0 : W0.heap.size = w.heap.size + 7 := by rw [hW0]; simp
  have B0 : Below w.heap.size w W0 := by rw [hW0]; clear hW0; (repeat' (first | exact Below.refl _ _ | assumption | (with_reducible refine Below.drew ?_) | (with_reducible refine Below.setCell ?_ (by (first | (simp; done) | (simp; omega))) _) | (with_reducible refine below_drewN' ?_ _) | (refine Below.alloc ?_ (by (try simp only [World.size_alloc, World.size_drew, World.size_setCell]); omega) _) | (refine Below.trans ?_ (Below.mono (by assumption) (by (try simp only [World.size_alloc, World.size_drew, World.size_setCell]); omega)))))
  have g0 : W0.cell? ⟨w.heap.size, 0, none⟩ = some (.slice a S c) := by rw [hW0]; clear hW0; go_simp
  have g1 : W0.cell? ⟨w.heap.size + 1, 0, none⟩ = some (.slice (some ⟨b2, off2, none⟩) m c2) := by rw [hW0]; clear hW0; go_simp
  have g2 : W0.cell? ⟨w.heap.size + 1 + 1, 0, none⟩ = some (.slice none 0 0) := by rw [hW0]; clear hW0; go_simp
  have g3 : W0.cell? ⟨w.heap.size + 1 + 1 + 1, 0, none⟩ = some (.slice none 0 0) := by rw [hW0]; clear hW0; go_simp
  have g4 : W0.cell? ⟨w.heap.size + 1 + 1 + 1 + 1, 0, none⟩ = some (.int .i64 9223372036854775807) := by rw [hW0]; clear hW0; go_simp
  have g5 : W0.cell? ⟨w.heap.size + 1 + 1 + 1 + 1 + 1, 0, none⟩ = some (.int .i64 m) := by rw [hW0]; clear hW0; go_simp
  have g6 : W0.cell? ⟨w.heap.size + 1 + 1 + 1 + 1 + 1 + 1, 0, none⟩ = some (.int .i64 S) := by rw [hW0]; clear hW0; go_simp
  have f2 : W0.frozen? ⟨w.heap.size + 1 + 1, 0, none⟩ = false := by rw [hW0]; clear hW0; go_simp
  have f3 : W0.frozen? ⟨w.heap.size + 1 + 1 + 1, 0, none⟩ = false := by rw [hW0]; clear hW0; go_simp
  have f4 : W0.frozen? ⟨w.heap.size + 1 + 1 + 1 + 1, 0, none⟩ = false := by rw [hW0]; clear hW0; go_simp
  rw [← hW0]
  clear hW0
  refine rangeFunc_all rfl (by decide) (gf := 100) (lb := #[.pointer (some ⟨w.heap.size + 1 + 1 + 1 + 1 + 1, 0, none⟩), .pointer (some ⟨w.heap.size + 1 + 1 + 1 + 1 + 1 + 1, 0, none⟩)]) rfl trivial (enters_of Tryz.func100 (by kernel_rfl) rfl) rfl
    (S ^ m) (fun W => W.cell? ⟨w.heap.size + 1 + 1 + 1 + 1 + 1 + 1, 0, none⟩ = some (.int .i64 S)) (PlanAt (W0.heap.size + 2) S m) (fun i v W l o o' h1 h2 h3 => planAt_put h1 h2 h3)
    (fun J W1 hsz hb hJ hR hY h0 => plans1_in 9 (by decide) (W0.heap.size + 1) (w.heap.size + 1 + 1 + 1 + 1 + 1) (w.heap.size + 1 + 1 + 1 + 1 + 1 + 1) S m J W1 (by rw [hsz]; exact hJ) (by rw [hsz]; exact hY) hR (by omega) (by omega) h0 (keepc hb g5) hM1 (by omega) hS1 hn2)
    (fun i W => ∃ vt vw L, W.cell? ⟨w.heap.size, 0, none⟩ = some (.slice a S c) ∧ W.cell? ⟨w.heap.size + 1, 0, none⟩ = some (.slice (some ⟨b2, off2, none⟩) m c2) ∧ W.cell? ⟨w.heap.size + 1 + 1, 0, none⟩ = some vt ∧ W.cell? ⟨w.heap.size + 1 + 1 + 1, 0, none⟩ = some vw ∧ W.cell? ⟨w.heap.size + 1 + 1 + 1 + 1, 0, none⟩ = some (.int .i64 L) ∧
      W.frozen? ⟨w.heap.size + 1 + 1, 0, none⟩ = false ∧ W.frozen? ⟨w.heap.size + 1 + 1 + 1, 0, none⟩ = false ∧ W.frozen? ⟨w.heap.size + 1 + 1 + 1 + 1, 0, none⟩ = false ∧ W.cell? ⟨w.heap.size + 1 + 1 + 1 + 1 + 1 + 1, 0, none⟩ = some (.int .i64 S) ∧ Aside (Below w.heap.size w W) ∧ Aside (Bst W0.heap.size worn (ws.map (·.2)) i vt vw L W))
    (fun i A B hi ht => by
      obtain ⟨vt, vw, L, k0, k1, k2, k3, k4, l2, l3, l4, k6, hB, hS⟩ := hi
      exact ⟨vt, vw, L, ht.cellk (.inl (by omega)) k0, ht.cellk (.inl (by omega)) k1, ht.cellk (.inl (by omega)) k2, ht.cellk (.inl (by omega)) k3, ht.cellk (.inl (by omega)) k4, ht.frozenk (.inl (by omega)) k2 l2, ht.frozenk (.inl (by omega)) k3 l3, ht.frozenk (.inl (by omega)) k4 l4, ht.cellk (.inl (by omega)) k6, ht.below hB.out (by omega) (Nat.le_refl _), ht.bst hS.out⟩)
    (fun i W h => by obtain ⟨vt, vw, L, k0, k1, k2, k3, k4, l2, l3, l4, k6, hB, hS⟩ := h; exact k6)
    ⟨_, _, _, g0, g1, g2, g3, g4, f2, f3, f4, g6, B0, .inl ⟨rfl, rfl⟩⟩
    (fun v => { tmps := #[.slice a S c, .slice (some ⟨b2, off2, none⟩) m c2, .pointer (some ⟨w.heap.size, 0, none⟩), .pointer (some ⟨w.heap.size + 1, 0, none⟩), .pointer (some ⟨w.heap.size + 1 + 1, 0, none⟩), .pointer (some ⟨w.heap.size + 1 + 1 + 1, 0, none⟩), .pointer (some ⟨w.heap.size + 1 + 1 + 1 + 1, 0, none⟩), v, undef, undef, undef, undef,
        .slice (some ⟨b2, off2, none⟩) m c2, .int .i64 m, .slice a S c, .int .i64 S, .func (.func 100) #[] #[.pointer (some ⟨w.heap.size + 1 + 1 + 1 + 1 + 1, 0, none⟩), .pointer (some ⟨w.heap.size + 1 + 1 + 1 + 1 + 1 + 1, 0, none⟩)],
        v, undef, undef, undef, undef, undef, undef, undef, undef, undef, undef, undef, undef, undef, undef, undef, undef, undef, undef, undef, undef, undef, undef, undef, undef, undef, undef], defers := [] }) ?assign ?body ?done
  case assign =>
    intro l x W K hK
    gi_wp2
    exact hK
  case body =>
    rintro l i v W ⟨vt, vw, L, k0, k1, k2, k3, k4, l2, l3, l4, k6, hB, hBst⟩ hi ⟨gx, cx, rfl, hgx1, hgx2, hslx⟩ hbig
    have hpl : PlanAt (W0.heap.size + 2) S m i (.slice (some ⟨gx, 0, none⟩) m cx) W := ⟨gx, cx, rfl, hgx1, hgx2, hslx⟩
    have HDL : Aside ((dig S m i).length = m) := dig_length S m i
    have HDK : Aside (∀ k ∈ dig S m i, k < S) := dig_lt S m (by omega) i
    have HP : Aside (∀ (j : Nat) (k : Nat), (dig S m i)[j]? = some k → W.cell? ⟨gx, j, none⟩ = some (.int .i64 (k : Int))) := by
      intro j k hk
      obtain ⟨a', c', e', hl', hs'⟩ := hslx
      obtain ⟨bb, oo, ha', hbb, hcc⟩ := hs' (by intro e; have := digI_length S m i; rw [e] at this; simp at this; omega)
      have he : bb = gx ∧ oo = 0 := by rw [ha'] at e'; simp at e'; omega
      obtain ⟨rfl, rfl⟩ := he
      have := hcc j (k : Int) (by simp [digI, hk]) 0 (.int .i64 (k : Int)) rfl
      simpa using this
    have HSX : Aside (Sl W 1 eI (.slice (some ⟨gx, 0, none⟩) m cx) (digI S m i)) := hslx
    clear hslx hpl
    have zW : w.heap.size + 7 + 2 < W.heap.size := by omega
    have HWM : Aside (∀ j, j < m → ∃ x, ws[j]? = some x ∧ (ws.map (·.2))[j]? = some x.2 ∧ x.2.length = S ∧ w.cell? ⟨b2, off2 + j, none⟩ = some x.1 ∧ Sl w 1 eI x.1 x.2 ∧ (∀ y ∈ x.2, -1000000000000 ≤ y ∧ y ≤ 1000000000000)) := by
      intro j hj
      obtain ⟨x, hx⟩ : ∃ x, ws[j]? = some x := ⟨_, List.getElem?_eq_getElem (by rw [Hm.out]; exact hj)⟩
      have hm := List.mem_of_getElem? hx
      exact ⟨x, hx, by simp [hx], (HL.out x hm).trans HS.out, HC2.out j x hx, HX.out x hm, fun y hy => by have := HB2.out x hm y hy; omega⟩
    have HDJ : Aside (∀ j, j < m → ∃ k, (dig S m i)[j]? = some k ∧ k < S ∧ W.cell? ⟨gx, j, none⟩ = some (.int .i64 (k : Int))) := by
      intro j hj
      obtain ⟨k, hk⟩ : ∃ k, (dig S m i)[j]? = some k := ⟨_, List.getElem?_eq_getElem (by rw [HDL.out]; exact hj)⟩
      exact ⟨k, hk, HDK.out k (List.mem_of_getElem? hk), HP.out j k hk⟩
    have HBD : Aside (∀ j, ∀ y ∈ endw worn ((ws.map (·.2)).take j) ((dig S m i).take j), -1000000000000 ≤ y ∧ y ≤ 1000000000000) := by
      intro j y hy
      have := endw_bd 1000000000 (by omega) ((ws.map (·.2)).take j) 100000000000 worn ((dig S m i).take j) (by omega) HB1.out (fun wk hwk x hx => by
        obtain ⟨z, hz, rfl⟩ := List.mem_map.1 (List.mem_of_mem_take hwk)
        exact HB2.out z hz x hx) y hy
      have hle : (((ws.map (·.2)).take j).length : Int) ≤ 100 := by rw [List.length_take, HM.out, Hm.out]; omega
      omega
    have HEL : Aside (∀ j, (endw worn ((ws.map (·.2)).take j) ((dig S m i).take j)).length = S) := fun j => endw_length S _ _ _ HS.out (fun wk hwk => by
        obtain ⟨z, hz, rfl⟩ := List.mem_map.1 (List.mem_of_mem_take hwk)
        exact (HL.out z hz).trans HS.out)
    have HLM : Aside (∀ wk ∈ ws.map (·.2), wk.length = S) := by
      intro wk hwk
      obtain ⟨z, hz, rfl⟩ := List.mem_map.1 hwk
      exact (HL.out z hz).trans HS.out
    gi_wp2
    gi_loopg [8, 21] m (fun gg vx iv wr => ∃ (j : Nat) (ve : Value), j ≤ m ∧ m - j ≤ gg ∧ iv = .int .i64 j ∧ ve = vx ∧ Aside (Sl wr 1 eI ve (endw worn ((ws.map (·.2)).take j) ((dig S m i).take j))) ∧ Aside ((j = 0 ∧ ve = .slice a S c) ∨ ∃ g2, W0.heap.size + 2 < g2 ∧ ve = .slice (some ⟨g2, 0, none⟩) S S) ∧ Aside (Below W.heap.size W wr))
    case atStart => exact ⟨0, _, Nat.zero_le _, by omega, rfl, rfl, (show Sl W 1 eI (.slice a S c) worn by have h := HW.out.below hB.out; rw [HS.out] at h; exact h), .inl ⟨rfl, rfl⟩, Below.refl _ _⟩
    case round =>
      obtain ⟨j, ve, hj, hgg, rfl, rfl, HSE, HVE, HWR⟩ := hrel
      by_cases hlt : j < m
      · have hltz : (j : Int) < (m : Int) := by omega
        obtain ⟨x, hx1, hx2, hx3, hx4, hx5, hx6⟩ := HWM.out j hlt
        obtain ⟨k, hk1, hk2, hk3⟩ := HDJ.out j hlt
        have q1 := keepc HWR.out k1
        have q2 : wr.cell? ⟨b2, off2 + j, none⟩ = some x.1 := keepc HWR.out (keepc hB.out hx4)
        have q3 := keepc HWR.out hk3
        have HT : Aside (aft (endw worn ((ws.map (·.2)).take j) ((dig S m i).take j)) x.2 k = endw worn ((ws.map (·.2)).take (j + 1)) ((dig S m i).take (j + 1))) := endw_take _ _ _ _ _ _ hx2 hk1
        have X := after_any ve x.1 (endw worn ((ws.map (·.2)).take j) ((dig S m i).take j)) x.2 k wr HSE.out ((hx5.below hB.out).below HWR.out) ((HEL.out j).trans hx3.symm) (by omega) (by omega) (HBD.out j) hx6
        unfold RetRow at X
        rw [aft_length, hx3, HT.out] at X
        clear hx1 hx2 hx3 hx4 hx5 hx6 hk1 hk2 hk3 HT
        obtain ⟨xv, xr⟩ := x
        simp only [] at q2 X
        gi_wp2_with (refine ⟨trivial, ?_⟩; gi_at_call 60; refine (callsIn_wide.2 X).mono ?_; rintro e w4 ⟨g4, rfl, hg4, hown4, hb4⟩)
        have hslE := sl_of_ints' (by rw [HEL.out]; omega) hown4 (HEL.out _).symm
        gi_roundg (m - (j + 1))
        case measure => omega
        case rel => exact ⟨j + 1, _, by omega, by omega, by go_num, rfl, hslE, .inr ⟨g4, by have := HWR.out.size; omega, rfl⟩, HWR.out.trans (hb4.mono HWR.out.size)⟩
      · have : j = m := by omega
        subst this
        have hltz : ¬ (j : Int) < (j : Int) := by omega
        rw [show (ws.map (·.2)).take j = ws.map (·.2) from List.take_of_length_le (by rw [HM.out, Hm.out]; exact Nat.le_refl _), show (dig S j i).take j = dig S j i from List.take_of_length_le (by rw [HDL.out]; exact Nat.le_refl _)] at HSE
        obtain ⟨g2, hg2, rfl⟩ : ∃ g2, W0.heap.size + 2 < g2 ∧ ve = .slice (some ⟨g2, 0, none⟩) S S := by
          rcases HVE.out with ⟨h, _⟩ | h
          · omega
          · exact h
        have HMI : Aside (mx (endw worn (ws.map (·.2)) (dig S j i)) = Mw worn (ws.map (·.2)) i) := by
          show _ = _
          unfold Mw; rw [HS.out, HM.out, Hm.out]
        have XM := max_any (.slice (some ⟨g2, 0, none⟩) S S) _ wr HSE.out (by intro e; have h := endw_length S (ws.map (·.2)) worn (dig S j i) HS.out HLM.out; rw [e] at h; simp at h; omega)
        rw [HMI.out] at XM
        obtain ⟨M, hM⟩ : ∃ M, Mw worn (ws.map (·.2)) i = M := ⟨_, rfl⟩
        have HMM : Aside (Mw worn (ws.map (·.2)) i = M) := hM
        rw [hM] at XM
        have HMB : Aside (M ≤ 1000000000000) := by
          show _ ≤ _
          rw [← HMM.out]; unfold Mw; rw [HS.out, HM.out, Hm.out]
          refine (mx_bd 1000000000000 _ (by intro e; have h := endw_length S (ws.map (·.2)) worn (dig S j i) HS.out HLM.out; rw [e] at h; simp at h; omega) (fun x hx => ?_)).2
          have := endw_bd 1000000000 (by omega) (ws.map (·.2)) 100000000000 worn (dig S j i) (by omega) HB1.out (fun wk hwk x hx => by
            obtain ⟨z, hz, rfl⟩ := List.mem_map.1 hwk
            exact HB2.out z hz x hx) x hx
          rw [HM.out, Hm.out] at this; omega
        clear hM HMI HVE
        have q4 := keepc HWR.out k4
        have u4 := (HWR.out.frozen (p := ⟨w.heap.size + 1 + 1 + 1 + 1, 0, none⟩) (by simp; omega)).trans l4
        have q2 := keepc HWR.out k2
        have u2 := (HWR.out.frozen (p := ⟨w.heap.size + 1 + 1, 0, none⟩) (by simp; omega)).trans l2
        have q3 := keepc HWR.out k3
        have u3 := (HWR.out.frozen (p := ⟨w.heap.size + 1 + 1 + 1, 0, none⟩) (by simp; omega)).trans l3
        have zr : w.heap.size + 7 + 2 < wr.heap.size := by have := HWR.out.size; omega
        by_cases hml : M < L
        · gi_wp2_with (refine ⟨trivial, ?_⟩; gi_at_call 61; refine (callsIn_wide.2 XM).mono ?_; rintro e w5 ⟨rfl, hb5⟩; have q4' := keepc hb5 q4; have q2' := keepc hb5 q2; have q3' := keepc hb5 q3; have u4' := (hb5.frozen (p := ⟨w.heap.size + 1 + 1 + 1 + 1, 0, none⟩) (by simp; omega)).trans u4; have u2' := (hb5.frozen (p := ⟨w.heap.size + 1 + 1, 0, none⟩) (by simp; omega)).trans u2; have u3' := (hb5.frozen (p := ⟨w.heap.size + 1 + 1 + 1, 0, none⟩) (by simp; omega)).trans u3; have HB5 : Aside (Below wr.heap.size wr w5) := hb5; clear hb5)
          have HB0 : Below W.heap.size W w5 := HWR.out.trans (HB5.out.mono HWR.out.size)
          have HBw : Below w.heap.size w w5 := hB.out.trans (HB0.mono hB.out.size)
          refine ⟨(((keepsOthers_of_below HB0).trans (KeepsOthers.setCell _ _ _)).trans (KeepsOthers.setCell _ _ _)).trans (KeepsOthers.setCell _ _ _), ?_, _, _, M,
            cellOther (by first | (simp; done) | (simp; omega) | omega) (cellOther (by first | (simp; done) | (simp; omega) | omega) (cellOther (by first | (simp; done) | (simp; omega) | omega) (keepc HB0 k0))), cellOther (by first | (simp; done) | (simp; omega) | omega) (cellOther (by first | (simp; done) | (simp; omega) | omega) (cellOther (by first | (simp; done) | (simp; omega) | omega) (keepc HB0 k1))),
            cellOther (by first | (simp; done) | (simp; omega) | omega) (World.cell?_setCell_same' _ _ _ (by rw [cellOther (by first | (simp; done) | (simp; omega) | omega) q2']; rfl)), World.cell?_setCell_same' _ _ _ (by rw [cellOther (by first | (simp; done) | (simp; omega) | omega) (cellOther (by first | (simp; done) | (simp; omega) | omega) q3')]; rfl),
            cellOther (by first | (simp; done) | (simp; omega) | omega) (cellOther (by first | (simp; done) | (simp; omega) | omega) (World.cell?_setCell_same' _ _ _ (by rw [q4']; rfl))), by simp only [World.frozen?_setCell]; exact u2', by simp only [World.frozen?_setCell]; exact u3', by simp only [World.frozen?_setCell]; exact u4',
            cellOther (by first | (simp; done) | (simp; omega) | omega) (cellOther (by first | (simp; done) | (simp; omega) | omega) (cellOther (by first | (simp; done) | (simp; omega) | omega) (keepc HB0 k6))), ?_, ?_⟩
          · exact (Below.heap_setCell _ _ _ _ (by first | (simp; done) | (simp; omega) | omega)).trans ((Below.heap_setCell _ _ _ _ (by first | (simp; done) | (simp; omega) | omega)).trans ((Below.heap_setCell _ _ _ _ (by first | (simp; done) | (simp; omega) | omega)).trans (HB0.block _ (by omega))))
          · exact ((HBw.setCell (p := ⟨w.heap.size + 1 + 1 + 1 + 1, 0, none⟩) (by first | (simp; done) | (simp; omega) | omega) _).setCell (p := ⟨w.heap.size + 1 + 1, 0, none⟩) (by first | (simp; done) | (simp; omega) | omega) _).setCell (p := ⟨w.heap.size + 1 + 1 + 1, 0, none⟩) (by first | (simp; done) | (simp; omega) | omega) _
          · have e1 : bestI (Mw worn (ws.map (·.2))) (i + 1) = i := by
              simp only [bestI]
              rcases hBst.out with ⟨h0, _⟩ | ⟨_, hL, _⟩
              · subst h0; split <;> rfl
              · rw [if_pos (by rw [HMM.out, ← hL]; exact hml)]
            refine .inr ⟨by omega, by rw [e1]; exact HMM.out.symm, gx, cx, g2, S, by rw [HM.out, Hm.out], by rw [HS.out], by omega, hg2, ?_, ?_⟩
            · rw [e1, HS.out, HM.out, Hm.out]
              exact (((HSX.out.below HB0).setCell' (by first | (simp; done) | (simp; omega) | omega)).setCell' (by first | (simp; done) | (simp; omega) | omega)).setCell' (by first | (simp; done) | (simp; omega) | omega)
            · rw [e1, HS.out, HM.out, Hm.out]
              exact (((HSE.out.below HB5.out).setCell' (by first | (simp; done) | (simp; omega) | omega)).setCell' (by first | (simp; done) | (simp; omega) | omega)).setCell' (by first | (simp; done) | (simp; omega) | omega)
        · gi_wp2_with (refine ⟨trivial, ?_⟩; gi_at_call 61; refine (callsIn_wide.2 XM).mono ?_; rintro e w5 ⟨rfl, hb5⟩; have q4' := keepc hb5 q4; have HB5 : Aside (Below wr.heap.size wr w5) := hb5; clear hb5)
          have HB0 : Below W.heap.size W w5 := HWR.out.trans (HB5.out.mono HWR.out.size)
          have HBw : Below w.heap.size w w5 := hB.out.trans (HB0.mono hB.out.size)
          have q2' := keepc HB0 k2
          have q3' := keepc HB0 k3
          have u4' := (HB0.frozen (p := ⟨w.heap.size + 1 + 1 + 1 + 1, 0, none⟩) (by first | (simp; done) | (simp; omega) | omega)).trans l4
          have u2' := (HB0.frozen (p := ⟨w.heap.size + 1 + 1, 0, none⟩) (by first | (simp; done) | (simp; omega) | omega)).trans l2
          have u3' := (HB0.frozen (p := ⟨w.heap.size + 1 + 1 + 1, 0, none⟩) (by first | (simp; done) | (simp; omega) | omega)).trans l3
          refine ⟨keepsOthers_of_below HB0, HB0.block _ (by omega), _, _, _, keepc HB0 k0, keepc HB0 k1, q2', q3', q4', u2', u3', u4', keepc HB0 k6, HBw, ?_⟩
          rcases hBst.out with ⟨h0, h1⟩ | ⟨h1, hL, g3, c3, g4, c4, e3, e4, h5, h6, h7, h8⟩
          · have := HMB.out; omega
          · have e1 : bestI (Mw worn (ws.map (·.2))) (i + 1) = bestI (Mw worn (ws.map (·.2))) i := by
              simp only [bestI]
              rw [if_neg (by rw [HMM.out, ← hL]; omega)]
            refine .inr ⟨by omega, by rw [e1]; exact hL, g3, c3, g4, c4, e3, e4, h5, h6, ?_, ?_⟩
            · rw [e1]; exact h7.below HB0
            · rw [e1]; exact h8.below HB0
  case done =>
    rintro D W hD ⟨vt, vw, L, k0, k1, k2, k3, k4, l2, l3, l4, k6, hB, hBst⟩ hK
    have hpos : 0 < S ^ m := Nat.pow_pos (by omega)
    rcases hBst.out with ⟨h1, _⟩ | ⟨_, hL, g1, c1, g2', c2', rfl, rfl, hg1, hg2, hs1, hs2⟩
    · omega
    rw [HM.out, Hm.out] at k2
    rw [HS.out] at k3
    clear hBst
    gi_wp2
    gi_region
    gi_wp2
    have hK' := ((KeepsOthers.setCell W ⟨w.heap.size + 1 + 1, 0, none⟩ (.slice (some ⟨g1, 0, none⟩) m c1)).trans (KeepsOthers.setCell _ ⟨w.heap.size + 1 + 1 + 1, 0, none⟩ (.slice (some ⟨g2', 0, none⟩) S c2'))).trans (KeepsOthers.drew _) |>.same D _ hK rfl
    refine ⟨by simp, .inl ⟨_, _, rfl, run_takeDeferred hK', ?_⟩⟩
    obtain ⟨X, hX⟩ : ∃ X, ((W.setCell ⟨w.heap.size + 1 + 1, 0, none⟩ (.slice (some ⟨g1, 0, none⟩) m c1)).setCell ⟨w.heap.size + 1 + 1 + 1, 0, none⟩ (.slice (some ⟨g2', 0, none⟩) S c2')).drew.putObj D (.deferred none) = X := ⟨_, rfl⟩
    have hc4 : X.cell? ⟨w.heap.size + 1 + 1, 0, none⟩ = some (.slice (some ⟨g1, 0, none⟩) m c1) := by
      rw [← hX]
      refine cell_kept (W := ((W.setCell ⟨w.heap.size + 1 + 1, 0, none⟩ (.slice (some ⟨g1, 0, none⟩) m c1)).setCell ⟨w.heap.size + 1 + 1 + 1, 0, none⟩ (.slice (some ⟨g2', 0, none⟩) S c2')).drew) (cellOther (p := ⟨w.heap.size + 1 + 1 + 1, 0, none⟩) (u := .slice (some ⟨g2', 0, none⟩) S c2') (by first | (simp; done) | (simp; omega) | omega) (World.cell?_setCell_same' W ⟨w.heap.size + 1 + 1, 0, none⟩ (.slice (some ⟨g1, 0, none⟩) m c1) (by rw [k2]; rfl))) (grownBy_putObj' _ D (.deferred none)) (fun r e => by cases e; exact ⟨_, hK', rfl⟩)
    have hc5 : X.cell? ⟨w.heap.size + 1 + 1 + 1, 0, none⟩ = some (.slice (some ⟨g2', 0, none⟩) S c2') := by
      rw [← hX]
      refine cell_kept (W := ((W.setCell ⟨w.heap.size + 1 + 1, 0, none⟩ (.slice (some ⟨g1, 0, none⟩) m c1)).setCell ⟨w.heap.size + 1 + 1 + 1, 0, none⟩ (.slice (some ⟨g2', 0, none⟩) S c2')).drew) (World.cell?_setCell_same' (W.setCell ⟨w.heap.size + 1 + 1, 0, none⟩ (.slice (some ⟨g1, 0, none⟩) m c1)) ⟨w.heap.size + 1 + 1 + 1, 0, none⟩ (.slice (some ⟨g2', 0, none⟩) S c2') (by rw [cellOther (by first | (simp; done) | (simp; omega) | omega) k3]; rfl)) (grownBy_putObj' _ D (.deferred none)) (fun r e => by cases e; exact ⟨_, hK', rfl⟩)
    have hs1' := ((((hs1.setCell' (p := ⟨w.heap.size + 1 + 1, 0, none⟩) (u := .slice (some ⟨g1, 0, none⟩) m c1) (by first | (simp; done) | (simp; omega) | omega)).setCell' (p := ⟨w.heap.size + 1 + 1 + 1, 0, none⟩) (u := .slice (some ⟨g2', 0, none⟩) S c2') (by first | (simp; done) | (simp; omega) | omega)).drew').put' (o' := .deferred none) hK' rfl)
    have hs2' := ((((hs2.setCell' (p := ⟨w.heap.size + 1 + 1, 0, none⟩) (u := .slice (some ⟨g1, 0, none⟩) m c1) (by first | (simp; done) | (simp; omega) | omega)).setCell' (p := ⟨w.heap.size + 1 + 1 + 1, 0, none⟩) (u := .slice (some ⟨g2', 0, none⟩) S c2') (by first | (simp; done) | (simp; omega) | omega)).drew').put' (o' := .deferred none) hK' rfl)
    have hBX := (((hB.out.setCell (p := ⟨w.heap.size + 1 + 1, 0, none⟩) (by first | (simp; done) | (simp; omega) | omega) (.slice (some ⟨g1, 0, none⟩) m c1)).setCell (p := ⟨w.heap.size + 1 + 1 + 1, 0, none⟩) (by first | (simp; done) | (simp; omega) | omega) (.slice (some ⟨g2', 0, none⟩) S c2')).drew).trans (belowK_b (w := w) (Nat.le_refl _) _ D _ (.deferred none) (by omega) hK' rfl rfl)
    rw [hX] at hs1' hs2' hBX ⊢
    clear hX hK'
    refine ⟨.tuple #[.slice (some ⟨g1, 0, none⟩) m c1, .slice (some ⟨g2', 0, none⟩) S c2'], ?_, ⟨g1, c1, g2', c2', ?_, ?_, ?_, hBX⟩⟩
    · simp [results, Tryz.f62, go_sem, hc4, hc5]
    · rw [HM.out, Hm.out, HS.out]
    · unfold bestP; rw [HM.out, Hm.out, HS.out] at hs1' ⊢; exact hs1'
    · unfold bestP; rw [HM.out, Hm.out, HS.out] at hs2' ⊢; exact hs2'
end Go.Proofs.YtgceffpkhmjmkaaGreat
