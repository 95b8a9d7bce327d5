/- Leg, part N: those of a map's keys that have the least number. -/
import Derived.Test.YthcgbceapabikaaL
import Derived.Test.YthcgbceapabikaaLay
import Derived.Maps.OwnSet
import Derived.Maps.RangeWalk
import Derived.Shelf.SlIter.AllValues
set_option linter.unusedVariables false
set_option linter.unusedSimpArgs false
namespace Go.Proofs.Ythcgbceapabikaa
open Go.RowKit Go.Maps Go.Sort Go.Shelf

/-- What a map of integers holds, as a list of pairs. -/
structure Rep (D : DataW Unit) (ps : List (Int × Int)) : Prop where
  tidy : Tidy D
  nodup : (ps.map (·.1)).Nodup
  mem : ∀ x, Maps.has D (.int .i64 x) = true ↔ x ∈ ps.map (·.1)
  val : ∀ p ∈ ps, ∀ zd, D.atKey (.int .i64 p.1) zd = .lit (.int .i64 p.2)
  size : Maps.size D = ps.length
theorem Rep.empty : Rep (.map []) [] := ⟨tidy_empty, List.nodup_nil, fun x => by simp [Maps.has], (fun p hp => by cases hp), rfl⟩
theorem Rep.put {D : DataW Unit} {ps : List (Int × Int)} (h : Rep D ps) {k v : Int} (hk : k ∉ ps.map (·.1)) : Rep (D.put (.int .i64 k) (.lit (.int .i64 v))) (ps ++ [(k, v)]) := by
  have hn : Maps.has D (.int .i64 k) = false := by
    cases hh : Maps.has D (.int .i64 k) with
    | false => rfl
    | true => exact absurd ((h.mem k).1 hh) hk
  refine ⟨h.tidy.put (show WideAt.IsKeyLit (.int .i64 k) from trivial) _, ?_, fun x => ?_, fun p hp zd => ?_, ?_⟩
  · rw [List.map_append, List.map_cons, List.map_nil]
    exact List.nodup_append.2 ⟨h.nodup, by simp, fun a ha b hb e => by simp at hb; subst hb; subst e; exact hk ha⟩
  · by_cases e : x = k
    · subst e; rw [has_put_same h.tidy.isMap (show WideAt.IsKeyLit (.int .i64 x) from trivial)]; simp
    · rw [has_put_other (by intro h; cases h; exact e rfl), h.mem]; simp [e]
  · rcases List.mem_append.1 hp with hp | hp
    · have hne : p.1 ≠ k := fun e => hk (by rw [← e]; exact List.mem_map_of_mem hp)
      rw [atKey_put_other (by intro h; cases h; exact hne rfl)]; exact h.val p hp zd
    · simp at hp; subst hp; exact atKey_put_same h.tidy.isMap (show WideAt.IsKeyLit (.int .i64 k) from trivial) _ _
  · rw [size_put h.tidy, hn]; simp [h.size]

/-- Pairs that were met: each key once, with its value. -/
def SeenP (D : DataW Unit) (left : Lit → Bool) (qs : List (Int × Int)) : Prop := CollectedI D left (qs.map (·.1)) ∧ ∀ p ∈ qs, ∀ zd, D.atKey (.int .i64 p.1) zd = .lit (.int .i64 p.2)
theorem seen_perm {D : DataW Unit} {ps qs : List (Int × Int)} {left : Lit → Bool} (h : Rep D ps) (hs : SeenP D left qs) (hl : ∀ kl, left kl = false) : qs.Perm ps := by
  have nd : ∀ {l : List (Int × Int)}, (l.map (·.1)).Nodup → l.Nodup := fun hl => (List.pairwise_map.1 hl).imp (fun hne e => hne (by rw [e]))
  refine (List.perm_ext_iff_of_nodup (nd hs.1.1) (nd h.nodup)).2 fun p => ?_
  have hm : ∀ x, x ∈ qs.map (·.1) ↔ x ∈ ps.map (·.1) := fun x => by rw [hs.1.2 x, h.mem x, hl]; simp
  constructor
  · intro hp
    obtain ⟨q, hq, e⟩ := List.mem_map.1 ((hm p.1).1 (List.mem_map_of_mem hp))
    have h1 := hs.2 p hp (.map [])
    have h2 := h.val q hq (.map [])
    rw [e, h1] at h2
    have : p = q := by
      obtain ⟨p1, p2⟩ := p
      obtain ⟨q1, q2⟩ := q
      simp only [DataW.lit.injEq, Lit.int.injEq, true_and] at h2 e
      simp [h2, e]
    rw [this]; exact hq
  · intro hp
    obtain ⟨q, hq, e⟩ := List.mem_map.1 ((hm p.1).2 (List.mem_map_of_mem hp))
    have h1 := h.val p hp (.map [])
    have h2 := hs.2 q hq (.map [])
    rw [e, h1] at h2
    have : p = q := by
      obtain ⟨p1, p2⟩ := p
      obtain ⟨q1, q2⟩ := q
      simp only [DataW.lit.injEq, Lit.int.injEq, true_and] at h2 e
      simp [h2, e]
    rw [this]; exact hq

theorem mn_spec : ∀ (xs : List Int), xs ≠ [] → mn xs ∈ xs ∧ ∀ y ∈ xs, mn xs ≤ y := by
  have aux : ∀ (xs : List Int) (a : Int), (xs.foldl min a = a ∨ xs.foldl min a ∈ xs) ∧ xs.foldl min a ≤ a ∧ ∀ y ∈ xs, xs.foldl min a ≤ y := by
    intro xs
    induction xs with
    | nil => intro a; simp
    | cons x xs ih =>
      intro a
      rw [List.foldl_cons]
      obtain ⟨h1, h2, h3⟩ := ih (min a x)
      refine ⟨?_, by omega, fun y hy => ?_⟩
      · rcases h1 with h1 | h1
        · rw [h1]
          by_cases c : a ≤ x
          · left; omega
          · right; rw [show min a x = x by omega]; exact List.mem_cons_self
        · right; exact List.mem_cons_of_mem _ h1
      · rcases List.mem_cons.1 hy with rfl | hy
        · omega
        · exact h3 y hy
  intro xs hne
  cases xs with
  | nil => exact absurd rfl hne
  | cons x xs =>
    obtain ⟨h1, h2, h3⟩ := aux xs x
    refine ⟨?_, fun y hy => ?_⟩
    · rcases h1 with h1 | h1
      · show xs.foldl min x ∈ _; rw [h1]; exact List.mem_cons_self
      · exact List.mem_cons_of_mem _ h1
    · rcases List.mem_cons.1 hy with rfl | hy
      · exact h2
      · exact h3 y hy
theorem mn_perm {xs ys : List Int} (h : xs.Perm ys) (hne : xs ≠ []) : mn xs = mn ys := by
  have hne2 : ys ≠ [] := fun e => hne (by rw [e] at h; exact h.eq_nil)
  obtain ⟨a1, a2⟩ := mn_spec xs hne
  obtain ⟨b1, b2⟩ := mn_spec ys hne2
  have := a2 _ (h.mem_iff.2 b1)
  have := b2 _ (h.mem_iff.1 a1)
  omega

/-- The keys with the least number, ascending. -/
def leastU (m : Int) (ps : List (Int × Int)) : List Int := (ps.filter fun p => p.2 == m).map (·.1)
def leastL (ps : List (Int × Int)) : List Int := (leastU (mn (ps.map (·.2))) ps).mergeSort (fun x y => decide (x ≤ y))
theorem leastU_snoc (m : Int) (ps : List (Int × Int)) (p : Int × Int) : leastU m (ps ++ [p]) = leastU m ps ++ (if p.2 == m then [p.1] else []) := by
  unfold leastU
  rw [List.filter_append, List.map_append, List.filter_cons]
  split <;> simp

theorem sl_of_owns {w : World} {base n : Nat} {e : TypeId} {v : Value} {xs : List Int} (hl : xs.length ≤ 9223372036854775807) (h : w.ownsRow base e 1 v n (xs.map (Value.int .i64))) (hn : n = xs.length) (hnil : xs = [] → v = .slice none 0 0) : Sl w 1 eI v xs := by
  subst hn
  rcases h.2 with ⟨h0, h1⟩ | ⟨g, cap, cur, rfl, h1, hg, h2⟩
  · have hx : xs = [] := List.eq_nil_of_length_eq_zero h1
    subst hx
    exact ⟨none, 0, h0, by simp, fun h => absurd rfl h⟩
  · refine ⟨_, _, rfl, hl, fun hne => ⟨g, 0, rfl, (Array.getElem?_eq_some_iff.1 hg).1, ?_⟩⟩
    intro j x hx i y hy
    match i, hy with
    | 0, hy =>
      simp [eI] at hy; subst hy
      have := h.cellAt j (by have := (List.getElem?_eq_some_iff.1 hx).1; omega)
      rw [Nat.mul_one, Nat.zero_add, Nat.add_zero, this, List.getElem?_map, hx]; rfl
    | i + 1, hy => simp [eI] at hy
theorem ownsMap_below {P : Program} {k : TypeId} {R : Value → Option (DataW Unit × List MemPlace)} {M n : Nat} {D : DataW Unit} {A B : World} (h : A.ownsMap P k R M n D) (ht : Below A.heap.size A B) : B.ownsMap P k R M n D := by
  obtain ⟨es, clock, hb, r⟩ := h
  exact ⟨es, clock, (ht.block M (Array.getElem?_eq_some_iff.1 hb).1).trans hb, r⟩

/-- The map of integers in block M. -/
abbrev OwnM (w : World) (M n : Nat) (D : DataW Unit) : Prop := w.ownsMap Try.prog 3 (plainElem (H := Unit) Try.prog 3) M n D
theorem int_k : Keyed Try.prog 3 := int_keyed Try.underlying3

set_option maxRecDepth 100000 in
set_option maxHeartbeats 2000000 in
/-- The iterator over a map's values. -/
theorem values1_in (n : Nat) (hn : 1 ≤ n) (l Bm b nn : Nat) (D0 : DataW Unit) (ps : List (Int × Int)) (hrep : Rep D0 ps) (J : List Int → World → Prop)
    (hY : ∀ pre x W, J pre W → pre.length < Maps.size D0 → YieldAt Fence.wide (n - 1) Try.prog l #[encZ x] W fun e W' => e = .returned (.bool true) ∧ J (pre ++ [x]) W' ∧ KeepsWalks W W')
    (W : World) (hJ : AbidesFrom W.heap.size J) (hm : W.cell? ⟨Bm, 0, none⟩ = some (.map (some b))) (hown : OwnM W b nn D0) (h0 : J [] W) :
    CallsIn Fence.wide n Try.prog 99 #[.func (.yield l) #[] #[], .pointer (some ⟨Bm, 0, none⟩)] W fun e W' => (∃ v, e = .returned v) ∧ ∃ ss : List Int, ss.Perm (ps.map (·.2)) ∧ J ss W' := by
  refine callsIn_of_wp Try.func99 rfl trivial ?_ rfl
  simp only [Try.ntmps99, List.size_toArray, List.length_cons, List.length_nil, Nat.reduceAdd, Nat.reduceSub, Array.replicate_succ, Array.replicate_zero, List.push_toArray, List.append_toArray, List.nil_append, List.cons_append]
  gi_wp2_with (first
    | (gi_at_range; refine wpListIn_range_own _ rfl _ 116 rfl 3 3 int_k Try.underlying116 _ b nn _ rfl hown ?_; intro w0 hrg0 hg0 hs0)
    | gi_in)
  go_frame
  gi_loopw [4] (fun _ wr => ∃ (left : Lit → Bool) (cnt : Nat) (qs : List (Int × Int)), wr.ranges Try.prog 3 (plainElem Try.prog 3) b W.heap.size nn D0 left cnt ∧ qs.length + cnt ≤ Maps.size D0 ∧ SeenP D0 left qs ∧ J (qs.map (·.2)) wr)
    (fun _ wr => wr.rangeLeft b W.heap.size)
  case atStart =>
    exact ⟨_, _, [], hrg0, by simp, ⟨CollectedI.start D0, by simp⟩, hJ [] W w0 none h0 hg0 (fun r e => by cases e)⟩
  case round =>
    obtain ⟨left, cnt, qs, hrg, hcs, hC, hJs⟩ := hrel
    gi_wp2_with (first
      | (gi_at_next; refine wpListIn_next_ranges _ rfl _ rfl 3 int_k (plainElem Try.prog 3) encZ encZ (fun key kl hk => by obtain ⟨x, hx, _⟩ := Maps.keyOf_i64 Try.underlying3 hk; exact ⟨x, hx⟩) (fun v y hv => by obtain ⟨c, rfl, _⟩ := plainElem_int_inv Try.underlying3 hv; exact ⟨c, rfl⟩) b W.heap.size nn _ _ _ rfl hrg ?_ ?_)
      | gi_in)
    · intro hc0 hl0
      gi_wp2
      go_end0
      exact ⟨⟨_, rfl⟩, _, (seen_perm hrep hC hl0).map _, hJs⟩
    · intro x c kl yd yp w2 cnt2 hkey hlk hv hat hrg2 hlt hg2 hs2 hen
      obtain ⟨x', ex, rfl, _⟩ := Maps.keyOf_i64 Try.underlying3 hkey
      obtain rfl : x = x' := encZ_inj ex
      obtain ⟨c', ec, ez, _⟩ := plainElem_int_inv Try.underlying3 hv
      obtain rfl : c = c' := by simpa using ec
      obtain rfl : yd = .lit (.int .i64 c) := (Prod.mk.inj ez).1
      have hJ2 : J (qs.map (·.2)) w2 := hJ _ wr w2 (some W.heap.size) hJs hg2 (fun r e => by cases e; exact ⟨Nat.le_refl _, hrg.iter_walk⟩)
      obtain ⟨fn, tmps, assign, body, hy, hR⟩ := hY (qs.map (·.2)) c w2 hJ2 (by simp; omega)
      have hC2 : SeenP D0 (fun z => left z && !z.sameKey (.int .i64 x)) (qs ++ [(x, c)]) := ⟨by simpa using hC.1.step hlk hat, fun p hp => (List.mem_append.1 hp).elim (hC.2 p) (fun e => by simp at e; subst e; exact hat)⟩
      clear hs2
      gi_wp2
      refine hR.mono ?_
      rintro e W3 ⟨rfl, hJ3, hk3⟩
      gi_wp2
      have hrg3 := hrg2.of_walks hk3
      go_roundw
      case rel => exact ⟨_, cnt2, qs ++ [(x, c)], hrg3, by simp; omega, hC2, by simpa using hJ3⟩
      case measure => rw [hrg3.left_eq, hrg.left_eq]; exact hlt
end Go.Proofs.Ythcgbceapabikaa
