/- Leg, part A: what every contract here says (the answer, and that nothing that lay has turned); how a slice lies in memory. -/
import Derived.Test.YthcgbceapabikaaProg
import Derived.WalkKit
import Derived.WalkSpells
import Derived.WalkLawsBesides
import Derived.Deep.LoopGhost
import Derived.Deep.QuietTactic
import Derived.Deep.RegionWith
import Derived.BigQuiet
import Derived.Lib.Hide
import Derived.Lib.SmallJoins
import Derived.Shelf.GgClosure.Gives
import Derived.Laws.StructEq
import Derived.Deep.RegionHeld3
import Derived.RangeFuncNested
set_option linter.unusedVariables false
set_option linter.unusedSimpArgs false
namespace Go.Proofs.Ythcgbceapabikaa
open Go.RowKit Go.Shelf

/-- A call that hands back v and turns nothing that lay. -/
def Ret (v : Value) (w : World) (e : Ending) (w' : World) : Prop := e = .returned v ∧ Below w.heap.size w w'

theorem bcell {W w1 : World} (hb : Below W.heap.size W w1) : (∀ b o, b < W.heap.size → w1.cell? ⟨b, o, none⟩ = W.cell? ⟨b, o, none⟩) ∧ (∀ b o, b < W.heap.size → w1.frozen? ⟨b, o, none⟩ = W.frozen? ⟨b, o, none⟩) :=
  ⟨fun b o h => hb.cell (p := ⟨b, o, none⟩) h, fun b o h => hb.frozen (p := ⟨b, o, none⟩) h⟩

/-- What a cell held it holds behind a call that turns nothing. -/
theorem keepc {W w1 : World} {a : Addr} {v : Value} (hb : Below W.heap.size W w1) (h : W.cell? a = some v) : w1.cell? a = some v := (hb.cell (World.block_lt_of_cell? W a h)).trans h

/-- A pair of integers as a value. -/
def pt (p : Int × Int) : Value := .agg #[.int .i64 p.1, .int .i64 p.2]
/-- The laws of a leg for a player: start, gate in, gate out. -/
abbrev Cnt := Int × Int × Int
def cntV (c : Cnt) : Value := .agg #[.int .i64 c.1, .int .i64 c.2.1, .int .i64 c.2.2]
def encC (c : Cnt) : List Value := [.int .i64 c.1, .int .i64 c.2.1, .int .i64 c.2.2]

/-- v is a slice whose elements, each of k cells, are xs. -/
def Sl {α : Type} (w : World) (k : Nat) (enc : α → List Value) (v : Value) (xs : List α) : Prop :=
  ∃ a c, v = .slice a xs.length c ∧ xs.length ≤ 9223372036854775807 ∧ (xs ≠ [] → ∃ b off, a = some ⟨b, off, none⟩ ∧ b < w.heap.size ∧ ∀ j x, xs[j]? = some x → ∀ i y, (enc x)[i]? = some y → w.cell? ⟨b, off + j * k + i, none⟩ = some y)

theorem Sl.below {α : Type} {w w' : World} {k : Nat} {enc : α → List Value} {v : Value} {xs : List α} (h : Sl w k enc v xs) (hb : Below w.heap.size w w') : Sl w' k enc v xs := by
  obtain ⟨a, c, hv, hl, h⟩ := h
  refine ⟨a, c, hv, hl, fun hne => ?_⟩
  obtain ⟨b, off, ha, hlt, hc⟩ := h hne
  exact ⟨b, off, ha, Nat.lt_of_lt_of_le hlt hb.size, fun j x hx i y hy => keepc hb (hc j x hx i y hy)⟩

def eI (x : Int) : List Value := [.int .i64 x]
def encP (x : Int × Int) : List Value := [.int .i64 x.1, .int .i64 x.2]

/-- The first place at which p holds, or -1. -/
def fidx {α : Type} (p : α → Bool) (xs : List α) : Int := match xs.findIdx? p with | some i => (i : Int) | none => -1

theorem fidx_hit {α : Type} (p : α → Bool) (xs : List α) (k : Nat) (x : α) (hx : xs[k]? = some x) (hp : p x = true) (h : ∀ j y, j < k → xs[j]? = some y → p y = false) : fidx p xs = (k : Int) := by
  obtain ⟨hk, e⟩ := List.getElem?_eq_some_iff.1 hx
  have : xs.findIdx? p = some k := by
    rw [List.findIdx?_eq_some_iff_getElem]
    refine ⟨hk, by rw [e]; exact hp, fun j hj => ?_⟩
    have := h j xs[j] hj (List.getElem?_eq_getElem (by omega))
    simp [this]
  unfold fidx; rw [this]

theorem fidx_miss {α : Type} (p : α → Bool) (xs : List α) (h : ∀ j y, j < xs.length → xs[j]? = some y → p y = false) : fidx p xs = -1 := by
  have : xs.findIdx? p = none := by
    rw [List.findIdx?_eq_none_iff]
    intro x hx
    obtain ⟨j, hj, e⟩ := List.getElem_of_mem hx
    exact h j x hj (by rw [← e]; exact List.getElem?_eq_getElem hj)
  unfold fidx; rw [this]

theorem fidx_any {α : Type} (p : α → Bool) (xs : List α) : decide (0 ≤ fidx p xs) = xs.any p := by
  unfold fidx
  cases h : xs.findIdx? p with
  | none =>
    rw [List.findIdx?_eq_none_iff] at h
    have : xs.any p = false := by rw [List.any_eq_false]; exact fun x hx => by simp [h x hx]
    rw [this]; rfl
  | some i =>
    have hs : (xs.findIdx? p).isSome = true := by rw [h]; rfl
    rw [List.findIdx?_isSome] at hs
    rw [hs]; simp


theorem flat_get {α : Type} (enc : α → List Value) (k : Nat) (hk : ∀ x, (enc x).length = k) : ∀ (xs : List α) (q : Nat) (x : α) (i : Nat) (y : Value), xs[q]? = some x → (enc x)[i]? = some y → ((xs.map enc).flatten)[q * k + i]? = some y := by
  intro xs
  induction xs with
  | nil => intro q x i y h; simp at h
  | cons a xs ih =>
    intro q x i y h hy
    have hi : i < k := by rw [← hk x]; exact (List.getElem?_eq_some_iff.1 hy).1
    simp only [List.map_cons, List.flatten_cons]
    cases q with
    | zero =>
      simp at h; subst h
      rw [Nat.zero_mul, Nat.zero_add, List.getElem?_append_left (by rw [hk]; exact hi)]; exact hy
    | succ q =>
      simp at h
      rw [List.getElem?_append_right (by rw [hk, Nat.succ_mul]; omega), hk, show (q + 1) * k + i - k = q * k + i by rw [Nat.succ_mul]; omega]
      exact ih q x i y h hy

theorem flat_inv {α : Type} (enc : α → List Value) (k : Nat) (hk : ∀ x, (enc x).length = k) : ∀ (xs : List α) (j : Nat) (u : Value), ((xs.map enc).flatten)[j]? = some u → ∃ q x i, xs[q]? = some x ∧ (enc x)[i]? = some u ∧ j = q * k + i := by
  intro xs
  induction xs with
  | nil => intro j u h; simp at h
  | cons a xs ih =>
    intro j u h
    simp only [List.map_cons, List.flatten_cons] at h
    by_cases c : j < k
    · rw [List.getElem?_append_left (by rw [hk]; exact c)] at h
      exact ⟨0, a, j, rfl, h, by omega⟩
    · rw [List.getElem?_append_right (by rw [hk]; omega), hk] at h
      obtain ⟨q, x, i, h1, h2, h3⟩ := ih _ _ h
      exact ⟨q + 1, x, i, by simpa using h1, h2, by rw [Nat.succ_mul]; omega⟩

theorem flat_len {α : Type} (enc : α → List Value) (k : Nat) (hk : ∀ x, (enc x).length = k) (xs : List α) : ((xs.map enc).flatten).length = xs.length * k := by
  induction xs with
  | nil => simp
  | cons a xs ih => simp only [List.map_cons, List.flatten_cons, List.length_append, hk, ih, List.length_cons, Nat.succ_mul]; omega

/-- What a call leaves that hands back a new slice. -/
def RetSl {α : Type} (k : Nat) (enc : α → List Value) (xs : List α) (w : World) (e : Ending) (w' : World) : Prop :=
  ∃ g c, e = .returned (.slice (some ⟨g, 0, none⟩) xs.length c) ∧ w.heap.size ≤ g ∧ g < w'.heap.size ∧ Sl w' k enc (.slice (some ⟨g, 0, none⟩) xs.length c) xs ∧ Below w.heap.size w w'

/-- An owned row of flattened cells is a slice. -/
theorem sl_of_row {α : Type} {w : World} {base : Nat} {e : TypeId} {k : Nat} {enc : α → List Value} {xs : List α} {v : Value} (hk : ∀ x, (enc x).length = k) (hl : xs.length ≤ 9223372036854775807) (hne : xs ≠ []) (h : w.ownsRow base e k v xs.length ((xs.map enc).flatten)) :
    ∃ g c, v = .slice (some ⟨g, 0, none⟩) xs.length c ∧ base ≤ g ∧ g < w.heap.size ∧ Sl w k enc (.slice (some ⟨g, 0, none⟩) xs.length c) xs := by
  have h' := h
  rcases h.2 with ⟨_, h0⟩ | ⟨g, cap, cur, rfl, hb, hg, _, _, _, _⟩
  · exact absurd (List.length_eq_zero_iff.1 h0) hne
  · have hlt : g < w.heap.size := (Array.getElem?_eq_some_iff.1 hg).1
    refine ⟨g, cap, rfl, hb, hlt, some ⟨g, 0, none⟩, cap, rfl, hl, fun _ => ⟨g, 0, rfl, hlt, fun j x hx i y hy => ?_⟩⟩
    have hi : i < k := by rw [← hk x]; exact (List.getElem?_eq_some_iff.1 hy).1
    have hj := (List.getElem?_eq_some_iff.1 hx).1
    have := h'.cellAt (j * k + i) (by
      have : (j + 1) * k ≤ xs.length * k := Nat.mul_le_mul_right _ hj
      rw [Nat.succ_mul] at this; omega)
    rw [Nat.zero_add, this]
    exact flat_get enc k hk xs j x i y hx hy

theorem owns_empty (w : World) (e : TypeId) (k : Nat) : (w.alloc (.cells #[] e)).ownsRow w.heap.size e k (.slice (some ⟨w.heap.size, 0, none⟩) 0 0) 0 [] :=
  ⟨by simp, .inr ⟨w.heap.size, 0, #[], rfl, Nat.le_refl _, World.alloc_heap_new w _, Nat.le_refl _, by unfold maxLen; omega, by simp, by simp⟩⟩

theorem sl_lit {α : Type} {w : World} {g k : Nat} {enc : α → List Value} {xs : List α} (hk : ∀ x, (enc x).length = k) (hl : xs.length ≤ 1000) (hg : g < w.heap.size) (h : ∀ j u, ((xs.map enc).flatten)[j]? = some u → w.cell? ⟨g, j, none⟩ = some u) (c : Nat) :
    Sl w k enc (.slice (some ⟨g, 0, none⟩) xs.length c) xs :=
  ⟨_, c, rfl, by omega, fun _ => ⟨g, 0, rfl, hg, fun j x hx i y hy => by rw [Nat.zero_add]; exact h _ _ (flat_get enc k hk xs j x i y hx hy)⟩⟩

theorem not_any_not {α : Type} (p : α → Bool) (xs : List α) : (!(xs.any fun x => !p x)) = xs.all p := by
  induction xs with
  | nil => rfl
  | cons x xs ih => simp only [List.any_cons, List.all_cons, Bool.not_or, Bool.not_not]; rw [ih]

theorem sl_two (W : World) (k : Nat) (hk : k = W.heap.size) (t : TypeId) (x y : Int) : Sl (W.alloc (.cells #[.int .i64 x, .int .i64 y] t)) 1 (eI) (.slice (some ⟨k, 0, none⟩) 2 2) [x, y] := by
  subst hk
  refine ⟨_, 2, rfl, by simp, fun _ => ⟨_, _, rfl, by simp, ?_⟩⟩
  intro j z hz i v hv
  match i, hv with
  | 0, hv =>
    simp [eI] at hv; subst hv
    match j, hz with
    | 0, hz => simp at hz; subst hz; go_simp
    | 1, hz => simp at hz; subst hz; go_simp
  | i + 1, hv => simp [eI] at hv

theorem sl_one (W : World) (k : Nat) (hk : k = W.heap.size) (t : TypeId) (x : Int) : Sl (W.alloc (.cells #[.int .i64 x] t)) 1 (eI) (.slice (some ⟨k, 0, none⟩) 1 1) [x] := by
  subst hk
  refine ⟨_, 1, rfl, by simp, fun _ => ⟨_, _, rfl, by simp, ?_⟩⟩
  intro j z hz i v hv
  match i, hv with
  | 0, hv =>
    simp [eI] at hv; subst hv
    match j, hz with
    | 0, hz => simp at hz; subst hz; go_simp
  | i + 1, hv => simp [eI] at hv

/-- A region that draws its order, whose operations only read and whose callees turn nothing: one walk in the text's order serves every order, within a class of worlds. -/
theorem region_class {P : Program} {id : Nat} {Q : Exit → Act → World → Prop} {a : Act} {w : World} {l : List Oper} (C : World → Prop) (hm : P.follows .mixedOrders = true) (hB : Region.lexB .any l.toArray = true) (hC : C w.drew)
    (h : wpQuiet P l.toArray C (fun a' => ∀ w', C w' → Q .normal a' w') l a) : (Code.region id l.toArray true).wp P Q a w :=
  wp_region_quiet hm hB hC (by simpa using h)

end Go.Proofs.Ythcgbceapabikaa
