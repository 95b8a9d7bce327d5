/- Leg: parts A, B, C, M. -/
import Derived.Test.YtnhjoebdmmelaaaProg
import Derived.WalkKit
import Derived.WalkSpells
import Derived.WalkLawsBesides
import Derived.Deep.LoopGhost
import Derived.Deep.QuietTactic
import Derived.Deep.RegionWith
import Derived.BigQuiet
import Derived.Lib.Hide
import Derived.Lib.SmallJoins
import Derived.Shelf.GgClosure.Gives
import Derived.Laws.StructEq
import Derived.Deep.RegionHeld3
import Derived.RangeFuncNested
set_option linter.unusedVariables false
set_option linter.unusedSimpArgs false
namespace Go.Proofs.Ytnhjoebdmmelaaa
section
open Go.RowKit Go.Shelf
def Ret (v : Value) (w : World) (e : Ending) (w' : World) : Prop := e = .returned v ∧ Below w.heap.size w w'
theorem bcell {W w1 : World} (hb : Below W.heap.size W w1) : (∀ b o, b < W.heap.size → w1.cell? ⟨b, o, none⟩ = W.cell? ⟨b, o, none⟩) ∧ (∀ b o, b < W.heap.size → w1.frozen? ⟨b, o, none⟩ = W.frozen? ⟨b, o, none⟩) :=
 ⟨fun b o h => hb.cell (p := ⟨b, o, none⟩) h, fun b o h => hb.frozen (p := ⟨b, o, none⟩) h⟩
theorem keepc {W w1 : World} {a : Addr} {v : Value} (hb : Below W.heap.size W w1) (h : W.cell? a = some v) : w1.cell? a = some v := (hb.cell (World.block_lt_of_cell? W a h)).trans h
def pt (p : Int × Int) : Value := .agg #[.int .i64 p.1, .int .i64 p.2]
abbrev Cnt := Int × Int × Int
def cntV (c : Cnt) : Value := .agg #[.int .i64 c.1, .int .i64 c.2.1, .int .i64 c.2.2]
def encC (c : Cnt) : List Value := [.int .i64 c.1, .int .i64 c.2.1, .int .i64 c.2.2]
def Sl {α : Type} (w : World) (k : Nat) (enc : α → List Value) (v : Value) (xs : List α) : Prop :=
 ∃ a c, v = .slice a xs.length c ∧ xs.length ≤ 9223372036854775807 ∧ (xs ≠ [] → ∃ b off, a = some ⟨b, off, none⟩ ∧ b < w.heap.size ∧ ∀ j x, xs[j]? = some x → ∀ i y, (enc x)[i]? = some y → w.cell? ⟨b, off + j * k + i, none⟩ = some y)
theorem Sl.below {α : Type} {w w' : World} {k : Nat} {enc : α → List Value} {v : Value} {xs : List α} (h : Sl w k enc v xs) (hb : Below w.heap.size w w') : Sl w' k enc v xs := by
 obtain ⟨a, c, hv, hl, h⟩ := h
 refine ⟨a, c, hv, hl, fun hne => ?_⟩
 obtain ⟨b, off, ha, hlt, hc⟩ := h hne
 exact ⟨b, off, ha, Nat.lt_of_lt_of_le hlt hb.size, fun j x hx i y hy => keepc hb (hc j x hx i y hy)⟩
def eI (x : Int) : List Value := [.int .i64 x]
def encP (x : Int × Int) : List Value := [.int .i64 x.1, .int .i64 x.2]
def fidx {α : Type} (p : α → Bool) (xs : List α) : Int := match xs.findIdx? p with | some i => (i : Int) | none => -1
theorem fidx_hit {α : Type} (p : α → Bool) (xs : List α) (k : Nat) (x : α) (hx : xs[k]? = some x) (hp : p x = true) (h : ∀ j y, j < k → xs[j]? = some y → p y = false) : fidx p xs = (k : Int) := by
 obtain ⟨hk, e⟩ := List.getElem?_eq_some_iff.1 hx
 have : xs.findIdx? p = some k := by
  rw [List.findIdx?_eq_some_iff_getElem]
  refine ⟨hk, by rw [e]; exact hp, fun j hj => ?_⟩
  have := h j xs[j] hj (List.getElem?_eq_getElem (by omega))
  simp [this]
 unfold fidx; rw [this]
theorem fidx_miss {α : Type} (p : α → Bool) (xs : List α) (h : ∀ j y, j < xs.length → xs[j]? = some y → p y = false) : fidx p xs = -1 := by
 have : xs.findIdx? p = none := by
  rw [List.findIdx?_eq_none_iff]
  intro x hx
  obtain ⟨j, hj, e⟩ := List.getElem_of_mem hx
  exact h j x hj (by rw [← e]; exact List.getElem?_eq_getElem hj)
 unfold fidx; rw [this]
theorem fidx_any {α : Type} (p : α → Bool) (xs : List α) : decide (0 ≤ fidx p xs) = xs.any p := by
 unfold fidx
 cases h : xs.findIdx? p with
 | none =>
  rw [List.findIdx?_eq_none_iff] at h
  have : xs.any p = false := by rw [List.any_eq_false]; exact fun x hx => by simp [h x hx]
  rw [this]; rfl
 | some i =>
  have hs : (xs.findIdx? p).isSome = true := by rw [h]; rfl
  rw [List.findIdx?_isSome] at hs
  rw [hs]; simp
theorem flat_get {α : Type} (enc : α → List Value) (k : Nat) (hk : ∀ x, (enc x).length = k) : ∀ (xs : List α) (q : Nat) (x : α) (i : Nat) (y : Value), xs[q]? = some x → (enc x)[i]? = some y → ((xs.map enc).flatten)[q * k + i]? = some y := by
 intro xs
 induction xs with
 | nil => intro q x i y h; simp at h
 | cons a xs ih =>
  intro q x i y h hy
  have hi : i < k := by rw [← hk x]; exact (List.getElem?_eq_some_iff.1 hy).1
  simp only [List.map_cons, List.flatten_cons]
  cases q with
  | zero =>
   simp at h; subst h
   rw [Nat.zero_mul, Nat.zero_add, List.getElem?_append_left (by rw [hk]; exact hi)]; exact hy
  | succ q =>
   simp at h
   rw [List.getElem?_append_right (by rw [hk, Nat.succ_mul]; omega), hk, show (q + 1) * k + i - k = q * k + i by rw [Nat.succ_mul]; omega]
   exact ih q x i y h hy
theorem flat_inv {α : Type} (enc : α → List Value) (k : Nat) (hk : ∀ x, (enc x).length = k) : ∀ (xs : List α) (j : Nat) (u : Value), ((xs.map enc).flatten)[j]? = some u → ∃ q x i, xs[q]? = some x ∧ (enc x)[i]? = some u ∧ j = q * k + i := by
 intro xs
 induction xs with
 | nil => intro j u h; simp at h
 | cons a xs ih =>
  intro j u h
  simp only [List.map_cons, List.flatten_cons] at h
  by_cases c : j < k
  ·rw [List.getElem?_append_left (by rw [hk]; exact c)] at h
   exact ⟨0, a, j, rfl, h, by omega⟩
  ·rw [List.getElem?_append_right (by rw [hk]; omega), hk] at h
   obtain ⟨q, x, i, h1, h2, h3⟩ := ih _ _ h
   exact ⟨q + 1, x, i, by simpa using h1, h2, by rw [Nat.succ_mul]; omega⟩
theorem flat_len {α : Type} (enc : α → List Value) (k : Nat) (hk : ∀ x, (enc x).length = k) (xs : List α) : ((xs.map enc).flatten).length = xs.length * k := by
 induction xs with
 | nil => simp
 | cons a xs ih => simp only [List.map_cons, List.flatten_cons, List.length_append, hk, ih, List.length_cons, Nat.succ_mul]; omega
theorem sl_of_row {α : Type} {w : World} {base : Nat} {e : TypeId} {k : Nat} {enc : α → List Value} {xs : List α} {v : Value} (hk : ∀ x, (enc x).length = k) (hl : xs.length ≤ 9223372036854775807) (hne : xs ≠ []) (h : w.ownsRow base e k v xs.length ((xs.map enc).flatten)) :
  ∃ g c, v = .slice (some ⟨g, 0, none⟩) xs.length c ∧ base ≤ g ∧ g < w.heap.size ∧ Sl w k enc (.slice (some ⟨g, 0, none⟩) xs.length c) xs := by
 have h' := h
 rcases h.2 with ⟨_, h0⟩ | ⟨g, cap, cur, rfl, hb, hg, _, _, _, _⟩
 ·exact absurd (List.length_eq_zero_iff.1 h0) hne
 ·have hlt : g < w.heap.size := (Array.getElem?_eq_some_iff.1 hg).1
  refine ⟨g, cap, rfl, hb, hlt, some ⟨g, 0, none⟩, cap, rfl, hl, fun _ => ⟨g, 0, rfl, hlt, fun j x hx i y hy => ?_⟩⟩
  have hi : i < k := by rw [← hk x]; exact (List.getElem?_eq_some_iff.1 hy).1
  have hj := (List.getElem?_eq_some_iff.1 hx).1
  have := h'.cellAt (j * k + i) (by
   have : (j + 1) * k ≤ xs.length * k := Nat.mul_le_mul_right _ hj
   rw [Nat.succ_mul] at this; omega)
  rw [Nat.zero_add, this]
  exact flat_get enc k hk xs j x i y hx hy
theorem owns_empty (w : World) (e : TypeId) (k : Nat) : (w.alloc (.cells #[] e)).ownsRow w.heap.size e k (.slice (some ⟨w.heap.size, 0, none⟩) 0 0) 0 [] :=
 ⟨by simp, .inr ⟨w.heap.size, 0, #[], rfl, Nat.le_refl _, World.alloc_heap_new w _, Nat.le_refl _, by unfold maxLen; omega, by simp, by simp⟩⟩
theorem sl_lit {α : Type} {w : World} {g k : Nat} {enc : α → List Value} {xs : List α} (hk : ∀ x, (enc x).length = k) (hl : xs.length ≤ 1000) (hg : g < w.heap.size) (h : ∀ j u, ((xs.map enc).flatten)[j]? = some u → w.cell? ⟨g, j, none⟩ = some u) (c : Nat) :
  Sl w k enc (.slice (some ⟨g, 0, none⟩) xs.length c) xs :=
 ⟨_, c, rfl, by omega, fun _ => ⟨g, 0, rfl, hg, fun j x hx i y hy => by rw [Nat.zero_add]; exact h _ _ (flat_get enc k hk xs j x i y hx hy)⟩⟩
theorem not_any_not {α : Type} (p : α → Bool) (xs : List α) : (!(xs.any fun x => !p x)) = xs.all p := by
 induction xs with
 | nil => rfl
 | cons x xs ih => simp only [List.any_cons, List.all_cons, Bool.not_or, Bool.not_not]; rw [ih]
theorem sl_two (W : World) (k : Nat) (hk : k = W.heap.size) (t : TypeId) (x y : Int) : Sl (W.alloc (.cells #[.int .i64 x, .int .i64 y] t)) 1 (eI) (.slice (some ⟨k, 0, none⟩) 2 2) [x, y] := by
 subst hk
 refine ⟨_, 2, rfl, by simp, fun _ => ⟨_, _, rfl, by simp, ?_⟩⟩
 intro j z hz i v hv
 match i, hv with
 | 0, hv =>
  simp [eI] at hv; subst hv
  match j, hz with
  | 0, hz => simp at hz; subst hz; go_simp
  | 1, hz => simp at hz; subst hz; go_simp
 | i + 1, hv => simp [eI] at hv
theorem sl_one (W : World) (k : Nat) (hk : k = W.heap.size) (t : TypeId) (x : Int) : Sl (W.alloc (.cells #[.int .i64 x] t)) 1 (eI) (.slice (some ⟨k, 0, none⟩) 1 1) [x] := by
 subst hk
 refine ⟨_, 1, rfl, by simp, fun _ => ⟨_, _, rfl, by simp, ?_⟩⟩
 intro j z hz i v hv
 match i, hv with
 | 0, hv =>
  simp [eI] at hv; subst hv
  match j, hz with
  | 0, hz => simp at hz; subst hz; go_simp
 | i + 1, hv => simp [eI] at hv
theorem region_class {P : Program} {id : Nat} {Q : Exit → Act → World → Prop} {a : Act} {w : World} {l : List Oper} (C : World → Prop) (hm : P.follows .mixedOrders = true) (hB : Region.lexB .any l.toArray = true) (hC : C w.drew)
  (h : wpQuiet P l.toArray C (fun a' => ∀ w', C w' → Q .normal a' w') l a) : (Code.region id l.toArray true).wp P Q a w :=
 wp_region_quiet hm hB hC (by simpa using h)
end
section
open Go.RowKit Go.Shelf
set_option maxRecDepth 100000 in
set_option maxHeartbeats 1000000 in
theorem ints_idx {α : Type} (enc : α → Value) (p : α → Bool) (g : Nat) (lb : Array Value) (eg : ∀ args w, (callFunc g args).run Try.prog w = .ok (.enter g args) w) (v : Value) (xs : List (α)) (w : World)
  (hs : Sl w 1 (fun x => [enc x]) v xs) (hp : ∀ W, Below w.heap.size w W → ∀ x, x ∈ xs → Calls Try.prog g (#[enc x] ++ lb) W (Ret (.bool (p x)) W)) :
  Calls Try.prog 86 #[v, .func (.func g) #[] lb] w (Ret (.int .i64 (fidx p xs)) w) := by
 obtain ⟨a, c, rfl, hl, hs⟩ := hs
 by_cases hne : xs = []
 ·subst hne
  have e0 : fidx p ([] : List (α)) = -1 := rfl
  rw [e0]
  clear hs hp
  simp only [List.length_nil] at *
  go_enter Try.func86, Try.ntmps86
  go_wp2
  go_loopg [5, 8] 1 (fun gg _ s8 wr => s8 = .int .i64 0 ∧ wr = w)
  case atStart => exact ⟨rfl, rfl⟩
  case round =>
   obtain ⟨rfl, rfl⟩ := hrel
   go_wp2
   go_ret
   exact ⟨rfl, Below.refl _ _⟩
 ·obtain ⟨b, off, rfl, hblt, hc⟩ := hs hne
  clear hs
  obtain ⟨n, hn⟩ : ∃ n, xs.length = n := ⟨_, rfl⟩
  have HN : Aside (xs.length = n) := hn
  rw [hn] at hl ⊢
  clear hn
  have HC : Aside (∀ j x, xs[j]? = some x → ∀ i y, ((fun x => [enc x]) x : List Value)[i]? = some y → w.cell? ⟨b, off + j * 1 + i, none⟩ = some y) := hc
  clear hc
  have HP : Aside (∀ W, Below w.heap.size w W → ∀ x, x ∈ xs → Calls Try.prog g (#[enc x] ++ lb) W (Ret (.bool (p x)) W)) := hp
  clear hp
  go_enter Try.func86, Try.ntmps86
  go_wp2
  go_loopg [5, 8] n (fun gg _ s8 wr => ∃ kk : Nat, kk ≤ n ∧ n - kk ≤ gg ∧ s8 = .int .i64 kk ∧ Aside (Below w.heap.size w wr) ∧ Aside (∀ j y, j < kk → xs[j]? = some y → p y = false))
  case atStart => exact ⟨0, Nat.zero_le _, by omega, rfl, Below.refl _ w, fun j y hj => absurd hj (Nat.not_lt_zero _)⟩
  case round =>
   obtain ⟨kk, hkk, hg, rfl, BW, A⟩ := hrel
   by_cases hlt : kk < n
   ·have hltz : (kk : Int) < (n : Int) := by omega
    obtain ⟨x, hx⟩ : ∃ x, xs[kk]? = some x := ⟨_, List.getElem?_eq_getElem (by rw [HN.out]; exact hlt)⟩
    have hcell : wr.cell? ⟨b, off + kk, none⟩ = some (enc x) := keepc BW.out (by have := HC.out kk x hx 0 (enc x) rfl; simpa using this)
    have hcall := HP.out wr BW.out x (List.mem_of_getElem? hx)
    have HX : Aside (xs[kk]? = some x) := hx
    clear hx
    generalize hq : p x = q at hcall
    generalize enc x = y at hcell hcall
    have HQ : Aside (p x = q) := hq
    clear hq
    cases q with
    | true =>
     go_wp2_with (go_at_fn g; refine hcall.mono ?_; rintro e w' ⟨rfl, hb'⟩)
     go_ret
     refine ⟨?_, BW.out.trans (hb'.mono BW.out.size)⟩
     rw [fidx_hit p xs kk _ HX.out HQ.out A.out]
     rfl
    | false =>
     go_wp2_with (go_at_fn g; refine hcall.mono ?_; rintro e w' ⟨rfl, hb'⟩)
     go_roundg (n - (kk + 1))
     case measure => omega
     case rel =>
      refine ⟨kk + 1, by omega, by omega, by go_num, BW.out.trans (hb'.mono BW.out.size), (show Aside _ from fun j y hj hy => ?_)⟩
      by_cases e : j = kk
      ·subst e
       have := HX.out.symm.trans hy
       cases this
       exact HQ.out
      ·exact A.out j y (by omega) hy
   ·have hltz : ¬ (kk : Int) < (n : Int) := by omega
    have : kk = n := by omega
    subst this
    go_wp2
    go_ret
    refine ⟨?_, BW.out⟩
    rw [fidx_miss p xs (fun j y hj hy => A.out j y (by rw [HN.out] at hj; exact hj) hy)]
    rfl
set_option maxRecDepth 100000 in
set_option maxHeartbeats 400000 in
theorem ints_any {α : Type} (enc : α → Value) (p : α → Bool) (g : Nat) (lb : Array Value) (eg : ∀ args w, (callFunc g args).run Try.prog w = .ok (.enter g args) w) (v : Value) (xs : List (α)) (w : World)
  (hs : Sl w 1 (fun x => [enc x]) v xs) (hp : ∀ W, Below w.heap.size w W → ∀ x, x ∈ xs → Calls Try.prog g (#[enc x] ++ lb) W (Ret (.bool (p x)) W)) :
  Calls Try.prog 72 #[v, .func (.func g) #[] lb] w (Ret (.bool (xs.any p)) w) := by
 have hi := ints_idx enc p g lb eg v xs w hs hp
 rw [← fidx_any]
 obtain ⟨a, c, rfl, hl, hs⟩ := hs
 clear hp hs hl
 generalize fidx p xs = r at hi ⊢
 go_enter Try.func72, Try.ntmps72
 go_wp2_with (go_at_call 86; refine hi.mono ?_; rintro e w1 ⟨rfl, hb1⟩)
 go_ret
 exact ⟨rfl, hb1⟩
set_option maxRecDepth 100000 in
set_option maxHeartbeats 1000000 in
theorem gates_idx {α : Type} (enc : α → Value) (p : α → Bool) (g : Nat) (lb : Array Value) (eg : ∀ args w, (callFunc g args).run Try.prog w = .ok (.enter g args) w) (v : Value) (xs : List (α)) (w : World)
  (hs : Sl w 1 (fun x => [enc x]) v xs) (hp : ∀ W, Below w.heap.size w W → ∀ x, x ∈ xs → Calls Try.prog g (#[enc x] ++ lb) W (Ret (.bool (p x)) W)) :
  Calls Try.prog 94 #[v, .func (.func g) #[] lb] w (Ret (.int .i64 (fidx p xs)) w) := by
 obtain ⟨a, c, rfl, hl, hs⟩ := hs
 by_cases hne : xs = []
 ·subst hne
  have e0 : fidx p ([] : List (α)) = -1 := rfl
  rw [e0]
  clear hs hp
  simp only [List.length_nil] at *
  go_enter Try.func94, Try.ntmps94
  go_wp2
  go_loopg [5, 8] 1 (fun gg _ s8 wr => s8 = .int .i64 0 ∧ wr = w)
  case atStart => exact ⟨rfl, rfl⟩
  case round =>
   obtain ⟨rfl, rfl⟩ := hrel
   go_wp2
   go_ret
   exact ⟨rfl, Below.refl _ _⟩
 ·obtain ⟨b, off, rfl, hblt, hc⟩ := hs hne
  clear hs
  obtain ⟨n, hn⟩ : ∃ n, xs.length = n := ⟨_, rfl⟩
  have HN : Aside (xs.length = n) := hn
  rw [hn] at hl ⊢
  clear hn
  have HC : Aside (∀ j x, xs[j]? = some x → ∀ i y, ((fun x => [enc x]) x : List Value)[i]? = some y → w.cell? ⟨b, off + j * 1 + i, none⟩ = some y) := hc
  clear hc
  have HP : Aside (∀ W, Below w.heap.size w W → ∀ x, x ∈ xs → Calls Try.prog g (#[enc x] ++ lb) W (Ret (.bool (p x)) W)) := hp
  clear hp
  go_enter Try.func94, Try.ntmps94
  go_wp2
  go_loopg [5, 8] n (fun gg _ s8 wr => ∃ kk : Nat, kk ≤ n ∧ n - kk ≤ gg ∧ s8 = .int .i64 kk ∧ Aside (Below w.heap.size w wr) ∧ Aside (∀ j y, j < kk → xs[j]? = some y → p y = false))
  case atStart => exact ⟨0, Nat.zero_le _, by omega, rfl, Below.refl _ w, fun j y hj => absurd hj (Nat.not_lt_zero _)⟩
  case round =>
   obtain ⟨kk, hkk, hg, rfl, BW, A⟩ := hrel
   by_cases hlt : kk < n
   ·have hltz : (kk : Int) < (n : Int) := by omega
    obtain ⟨x, hx⟩ : ∃ x, xs[kk]? = some x := ⟨_, List.getElem?_eq_getElem (by rw [HN.out]; exact hlt)⟩
    have hcell : wr.cell? ⟨b, off + kk, none⟩ = some (enc x) := keepc BW.out (by have := HC.out kk x hx 0 (enc x) rfl; simpa using this)
    have hcall := HP.out wr BW.out x (List.mem_of_getElem? hx)
    have HX : Aside (xs[kk]? = some x) := hx
    clear hx
    generalize hq : p x = q at hcall
    generalize enc x = y at hcell hcall
    have HQ : Aside (p x = q) := hq
    clear hq
    cases q with
    | true =>
     go_wp2_with (go_at_fn g; refine hcall.mono ?_; rintro e w' ⟨rfl, hb'⟩)
     go_ret
     refine ⟨?_, BW.out.trans (hb'.mono BW.out.size)⟩
     rw [fidx_hit p xs kk _ HX.out HQ.out A.out]
     rfl
    | false =>
     go_wp2_with (go_at_fn g; refine hcall.mono ?_; rintro e w' ⟨rfl, hb'⟩)
     go_roundg (n - (kk + 1))
     case measure => omega
     case rel =>
      refine ⟨kk + 1, by omega, by omega, by go_num, BW.out.trans (hb'.mono BW.out.size), (show Aside _ from fun j y hj hy => ?_)⟩
      by_cases e : j = kk
      ·subst e
       have := HX.out.symm.trans hy
       cases this
       exact HQ.out
      ·exact A.out j y (by omega) hy
   ·have hltz : ¬ (kk : Int) < (n : Int) := by omega
    have : kk = n := by omega
    subst this
    go_wp2
    go_ret
    refine ⟨?_, BW.out⟩
    rw [fidx_miss p xs (fun j y hj hy => A.out j y (by rw [HN.out] at hj; exact hj) hy)]
    rfl
set_option maxRecDepth 100000 in
set_option maxHeartbeats 400000 in
theorem gates_any {α : Type} (enc : α → Value) (p : α → Bool) (g : Nat) (lb : Array Value) (eg : ∀ args w, (callFunc g args).run Try.prog w = .ok (.enter g args) w) (v : Value) (xs : List (α)) (w : World)
  (hs : Sl w 1 (fun x => [enc x]) v xs) (hp : ∀ W, Below w.heap.size w W → ∀ x, x ∈ xs → Calls Try.prog g (#[enc x] ++ lb) W (Ret (.bool (p x)) W)) :
  Calls Try.prog 82 #[v, .func (.func g) #[] lb] w (Ret (.bool (xs.any p)) w) := by
 have hi := gates_idx enc p g lb eg v xs w hs hp
 rw [← fidx_any]
 obtain ⟨a, c, rfl, hl, hs⟩ := hs
 clear hp hs hl
 generalize fidx p xs = r at hi ⊢
 go_enter Try.func82, Try.ntmps82
 go_wp2_with (go_at_call 94; refine hi.mono ?_; rintro e w1 ⟨rfl, hb1⟩)
 go_ret
 exact ⟨rfl, hb1⟩
set_option maxRecDepth 100000 in
set_option maxHeartbeats 1000000 in
theorem counts_idx (p : Cnt → Bool) (g : Nat) (lb : Array Value) (eg : ∀ args w, (callFunc g args).run Try.prog w = .ok (.enter g args) w) (v : Value) (xs : List (Cnt)) (w : World)
  (hs : Sl w 3 (encC) v xs) (hp : ∀ W, Below w.heap.size w W → ∀ x, x ∈ xs → Calls Try.prog g (#[cntV x] ++ lb) W (Ret (.bool (p x)) W)) :
  Calls Try.prog 73 #[v, .func (.func g) #[] lb] w (Ret (.int .i64 (fidx p xs)) w) := by
 obtain ⟨a, c, rfl, hl, hs⟩ := hs
 by_cases hne : xs = []
 ·subst hne
  have e0 : fidx p ([] : List (Cnt)) = -1 := rfl
  rw [e0]
  clear hs hp
  simp only [List.length_nil] at *
  go_enter Try.func73, Try.ntmps73
  go_wp2
  go_loopg [5, 8] 1 (fun gg _ s8 wr => s8 = .int .i64 0 ∧ wr = w)
  case atStart => exact ⟨rfl, rfl⟩
  case round =>
   obtain ⟨rfl, rfl⟩ := hrel
   go_wp2
   go_ret
   exact ⟨rfl, Below.refl _ _⟩
 ·obtain ⟨b, off, rfl, hblt, hc⟩ := hs hne
  clear hs
  obtain ⟨n, hn⟩ : ∃ n, xs.length = n := ⟨_, rfl⟩
  have HN : Aside (xs.length = n) := hn
  rw [hn] at hl ⊢
  clear hn
  have HC : Aside (∀ j x, xs[j]? = some x → ∀ i y, ((encC) x : List Value)[i]? = some y → w.cell? ⟨b, off + j * 3 + i, none⟩ = some y) := hc
  clear hc
  have HP : Aside (∀ W, Below w.heap.size w W → ∀ x, x ∈ xs → Calls Try.prog g (#[cntV x] ++ lb) W (Ret (.bool (p x)) W)) := hp
  clear hp
  go_enter Try.func73, Try.ntmps73
  go_wp2
  go_loopg [5, 8] n (fun gg _ s8 wr => ∃ kk : Nat, kk ≤ n ∧ n - kk ≤ gg ∧ s8 = .int .i64 kk ∧ Aside (Below w.heap.size w wr) ∧ Aside (∀ j y, j < kk → xs[j]? = some y → p y = false))
  case atStart => exact ⟨0, Nat.zero_le _, by omega, rfl, Below.refl _ w, fun j y hj => absurd hj (Nat.not_lt_zero _)⟩
  case round =>
   obtain ⟨kk, hkk, hg, rfl, BW, A⟩ := hrel
   by_cases hlt : kk < n
   ·have hltz : (kk : Int) < (n : Int) := by omega
    obtain ⟨x, hx⟩ : ∃ x, xs[kk]? = some x := ⟨_, List.getElem?_eq_getElem (by rw [HN.out]; exact hlt)⟩
    have hcell0 : wr.cell? ⟨b, off + kk * 3, none⟩ = some (.int .i64 x.1) := keepc BW.out (by have := HC.out kk x hx 0 (.int .i64 x.1) rfl; simpa using this)
    have hcell1 : wr.cell? ⟨b, off + kk * 3 + 1, none⟩ = some (.int .i64 x.2.1) := keepc BW.out (by have := HC.out kk x hx 1 (.int .i64 x.2.1) rfl; simpa using this)
    have hcell2 : wr.cell? ⟨b, off + kk * 3 + 2, none⟩ = some (.int .i64 x.2.2) := keepc BW.out (by have := HC.out kk x hx 2 (.int .i64 x.2.2) rfl; simpa using this)
    have hcall := HP.out wr BW.out x (List.mem_of_getElem? hx)
    have HX : Aside (xs[kk]? = some x) := hx
    clear hx
    obtain ⟨x0, x1, x2⟩ := x
    unfold cntV at hcall
    simp only [] at hcell0 hcell1 hcell2 hcall
    generalize hq : p (x0, x1, x2) = q at hcall
    have HQ : Aside (p (x0, x1, x2) = q) := hq
    clear hq
    cases q with
    | true =>
     go_wp2_with (go_at_fn g; refine hcall.mono ?_; rintro e w' ⟨rfl, hb'⟩)
     go_ret
     refine ⟨?_, BW.out.trans (hb'.mono BW.out.size)⟩
     rw [fidx_hit p xs kk _ HX.out HQ.out A.out]
     rfl
    | false =>
     go_wp2_with (go_at_fn g; refine hcall.mono ?_; rintro e w' ⟨rfl, hb'⟩)
     go_roundg (n - (kk + 1))
     case measure => omega
     case rel =>
      refine ⟨kk + 1, by omega, by omega, by go_num, BW.out.trans (hb'.mono BW.out.size), (show Aside _ from fun j y hj hy => ?_)⟩
      by_cases e : j = kk
      ·subst e
       have := HX.out.symm.trans hy
       cases this
       exact HQ.out
      ·exact A.out j y (by omega) hy
   ·have hltz : ¬ (kk : Int) < (n : Int) := by omega
    have : kk = n := by omega
    subst this
    go_wp2
    go_ret
    refine ⟨?_, BW.out⟩
    rw [fidx_miss p xs (fun j y hj hy => A.out j y (by rw [HN.out] at hj; exact hj) hy)]
    rfl
set_option maxRecDepth 100000 in
set_option maxHeartbeats 400000 in
theorem counts_any (p : Cnt → Bool) (g : Nat) (lb : Array Value) (eg : ∀ args w, (callFunc g args).run Try.prog w = .ok (.enter g args) w) (v : Value) (xs : List (Cnt)) (w : World)
  (hs : Sl w 3 (encC) v xs) (hp : ∀ W, Below w.heap.size w W → ∀ x, x ∈ xs → Calls Try.prog g (#[cntV x] ++ lb) W (Ret (.bool (p x)) W)) :
  Calls Try.prog 48 #[v, .func (.func g) #[] lb] w (Ret (.bool (xs.any p)) w) := by
 have hi := counts_idx p g lb eg v xs w hs hp
 rw [← fidx_any]
 obtain ⟨a, c, rfl, hl, hs⟩ := hs
 clear hp hs hl
 generalize fidx p xs = r at hi ⊢
 go_enter Try.func48, Try.ntmps48
 go_wp2_with (go_at_call 73; refine hi.mono ?_; rintro e w1 ⟨rfl, hb1⟩)
 go_ret
 exact ⟨rfl, hb1⟩
set_option maxRecDepth 100000 in
set_option maxHeartbeats 1000000 in
theorem offs_idx (p : Int × Int → Bool) (g : Nat) (lb : Array Value) (eg : ∀ args w, (callFunc g args).run Try.prog w = .ok (.enter g args) w) (v : Value) (xs : List (Int × Int)) (w : World)
  (hs : Sl w 2 (encP) v xs) (hp : ∀ W, Below w.heap.size w W → ∀ x, x ∈ xs → Calls Try.prog g (#[pt x] ++ lb) W (Ret (.bool (p x)) W)) :
  Calls Try.prog 77 #[v, .func (.func g) #[] lb] w (Ret (.int .i64 (fidx p xs)) w) := by
 obtain ⟨a, c, rfl, hl, hs⟩ := hs
 by_cases hne : xs = []
 ·subst hne
  have e0 : fidx p ([] : List (Int × Int)) = -1 := rfl
  rw [e0]
  clear hs hp
  simp only [List.length_nil] at *
  go_enter Try.func77, Try.ntmps77
  go_wp2
  go_loopg [5, 8] 1 (fun gg _ s8 wr => s8 = .int .i64 0 ∧ wr = w)
  case atStart => exact ⟨rfl, rfl⟩
  case round =>
   obtain ⟨rfl, rfl⟩ := hrel
   go_wp2
   go_ret
   exact ⟨rfl, Below.refl _ _⟩
 ·obtain ⟨b, off, rfl, hblt, hc⟩ := hs hne
  clear hs
  obtain ⟨n, hn⟩ : ∃ n, xs.length = n := ⟨_, rfl⟩
  have HN : Aside (xs.length = n) := hn
  rw [hn] at hl ⊢
  clear hn
  have HC : Aside (∀ j x, xs[j]? = some x → ∀ i y, ((encP) x : List Value)[i]? = some y → w.cell? ⟨b, off + j * 2 + i, none⟩ = some y) := hc
  clear hc
  have HP : Aside (∀ W, Below w.heap.size w W → ∀ x, x ∈ xs → Calls Try.prog g (#[pt x] ++ lb) W (Ret (.bool (p x)) W)) := hp
  clear hp
  go_enter Try.func77, Try.ntmps77
  go_wp2
  go_loopg [5, 8] n (fun gg _ s8 wr => ∃ kk : Nat, kk ≤ n ∧ n - kk ≤ gg ∧ s8 = .int .i64 kk ∧ Aside (Below w.heap.size w wr) ∧ Aside (∀ j y, j < kk → xs[j]? = some y → p y = false))
  case atStart => exact ⟨0, Nat.zero_le _, by omega, rfl, Below.refl _ w, fun j y hj => absurd hj (Nat.not_lt_zero _)⟩
  case round =>
   obtain ⟨kk, hkk, hg, rfl, BW, A⟩ := hrel
   by_cases hlt : kk < n
   ·have hltz : (kk : Int) < (n : Int) := by omega
    obtain ⟨x, hx⟩ : ∃ x, xs[kk]? = some x := ⟨_, List.getElem?_eq_getElem (by rw [HN.out]; exact hlt)⟩
    have hcell0 : wr.cell? ⟨b, off + kk * 2, none⟩ = some (.int .i64 x.1) := keepc BW.out (by have := HC.out kk x hx 0 (.int .i64 x.1) rfl; simpa using this)
    have hcell1 : wr.cell? ⟨b, off + kk * 2 + 1, none⟩ = some (.int .i64 x.2) := keepc BW.out (by have := HC.out kk x hx 1 (.int .i64 x.2) rfl; simpa using this)
    have hcall := HP.out wr BW.out x (List.mem_of_getElem? hx)
    have HX : Aside (xs[kk]? = some x) := hx
    clear hx
    obtain ⟨x0, x1⟩ := x
    unfold pt at hcall
    simp only [] at hcell0 hcell1 hcall
    generalize hq : p (x0, x1) = q at hcall
    have HQ : Aside (p (x0, x1) = q) := hq
    clear hq
    cases q with
    | true =>
     go_wp2_with (go_at_fn g; refine hcall.mono ?_; rintro e w' ⟨rfl, hb'⟩)
     go_ret
     refine ⟨?_, BW.out.trans (hb'.mono BW.out.size)⟩
     rw [fidx_hit p xs kk _ HX.out HQ.out A.out]
     rfl
    | false =>
     go_wp2_with (go_at_fn g; refine hcall.mono ?_; rintro e w' ⟨rfl, hb'⟩)
     go_roundg (n - (kk + 1))
     case measure => omega
     case rel =>
      refine ⟨kk + 1, by omega, by omega, by go_num, BW.out.trans (hb'.mono BW.out.size), (show Aside _ from fun j y hj hy => ?_)⟩
      by_cases e : j = kk
      ·subst e
       have := HX.out.symm.trans hy
       cases this
       exact HQ.out
      ·exact A.out j y (by omega) hy
   ·have hltz : ¬ (kk : Int) < (n : Int) := by omega
    have : kk = n := by omega
    subst this
    go_wp2
    go_ret
    refine ⟨?_, BW.out⟩
    rw [fidx_miss p xs (fun j y hj hy => A.out j y (by rw [HN.out] at hj; exact hj) hy)]
    rfl
set_option maxRecDepth 100000 in
set_option maxHeartbeats 400000 in
theorem offs_any (p : Int × Int → Bool) (g : Nat) (lb : Array Value) (eg : ∀ args w, (callFunc g args).run Try.prog w = .ok (.enter g args) w) (v : Value) (xs : List (Int × Int)) (w : World)
  (hs : Sl w 2 (encP) v xs) (hp : ∀ W, Below w.heap.size w W → ∀ x, x ∈ xs → Calls Try.prog g (#[pt x] ++ lb) W (Ret (.bool (p x)) W)) :
  Calls Try.prog 55 #[v, .func (.func g) #[] lb] w (Ret (.bool (xs.any p)) w) := by
 have hi := offs_idx p g lb eg v xs w hs hp
 rw [← fidx_any]
 obtain ⟨a, c, rfl, hl, hs⟩ := hs
 clear hp hs hl
 generalize fidx p xs = r at hi ⊢
 go_enter Try.func55, Try.ntmps55
 go_wp2_with (go_at_call 77; refine hi.mono ?_; rintro e w1 ⟨rfl, hb1⟩)
 go_ret
 exact ⟨rfl, hb1⟩
end
section
open Go.RowKit Go.Shelf
def inb (lo hi n : Int) : Bool := decide (lo ≤ n ∧ n ≤ hi)
theorem inb_out (lo hi n : Int) : (!inb lo hi n) = (decide (n < lo) || decide (hi < n)) := by
 unfold inb
 by_cases h1 : n < lo
 ·simp [h1]
 ·by_cases h2 : hi < n
  ·simp [h2]
  ·simp [h1, h2]; omega
set_option maxHeartbeats 400000 in
theorem outside_any (lo hi n : Int) (B C : Nat) (W : World) (hB : W.cell? ⟨B, 0, none⟩ = some (.int .i64 lo)) (hC : W.cell? ⟨C, 0, none⟩ = some (.int .i64 hi)) :
  Calls Try.prog 71 #[.int .i64 n, .pointer (some ⟨B, 0, none⟩), .pointer (some ⟨C, 0, none⟩)] W (Ret (.bool (!inb lo hi n)) W) := by
 rw [inb_out]
 by_cases h1 : n < lo
 ·have e : (decide (n < lo) || decide (hi < n)) = true := by simp [h1]
  rw [e]; clear e
  go_enter Try.func71, Try.ntmps71
  go_wp2
  go_ret
  exact ⟨rfl, by (repeat' (first | exact Below.refl _ _ | assumption | (with_reducible refine Below.drew ?_) | (with_reducible refine Below.setCell ?_ (by (first | (simp; done) | (simp; omega))) _) | (with_reducible refine below_drewN' ?_ _) | (refine Below.alloc ?_ (by (try simp only [World.size_alloc, World.size_drew, World.size_setCell]); omega) _) | (refine Below.trans ?_ (Below.mono (by assumption) (by (try simp only [World.size_alloc, World.size_drew, World.size_setCell]); omega)))))⟩
 ·by_cases h2 : hi < n
  ·have e : (decide (n < lo) || decide (hi < n)) = true := by simp [h2]
   rw [e]; clear e
   go_enter Try.func71, Try.ntmps71
   go_wp2
   go_ret
   exact ⟨rfl, by (repeat' (first | exact Below.refl _ _ | assumption | (with_reducible refine Below.drew ?_) | (with_reducible refine Below.setCell ?_ (by (first | (simp; done) | (simp; omega))) _) | (with_reducible refine below_drewN' ?_ _) | (refine Below.alloc ?_ (by (try simp only [World.size_alloc, World.size_drew, World.size_setCell]); omega) _) | (refine Below.trans ?_ (Below.mono (by assumption) (by (try simp only [World.size_alloc, World.size_drew, World.size_setCell]); omega)))))⟩
  ·have e : (decide (n < lo) || decide (hi < n)) = false := by simp [h1, h2]
   rw [e]; clear e
   go_enter Try.func71, Try.ntmps71
   go_wp2
   go_ret
   exact ⟨rfl, by (repeat' (first | exact Below.refl _ _ | assumption | (with_reducible refine Below.drew ?_) | (with_reducible refine Below.setCell ?_ (by (first | (simp; done) | (simp; omega))) _) | (with_reducible refine below_drewN' ?_ _) | (refine Below.alloc ?_ (by (try simp only [World.size_alloc, World.size_drew, World.size_setCell]); omega) _) | (refine Below.trans ?_ (Below.mono (by assumption) (by (try simp only [World.size_alloc, World.size_drew, World.size_setCell]); omega)))))⟩
set_option maxHeartbeats 400000 in
theorem within_any (lo hi : Int) (v : Value) (xs : List Int) (w : World) (hs : Sl w 1 (eI) v xs) :
  Calls Try.prog 47 #[.int .i64 lo, .int .i64 hi, v] w (Ret (.bool (xs.all (inb lo hi))) w) := by
 have hbb : Below w.heap.size w ((w.alloc (.cells #[.int .i64 lo] 3)).alloc (.cells #[.int .i64 hi] 3)) := by (repeat' (first | exact Below.refl _ _ | assumption | (with_reducible refine Below.drew ?_) | (with_reducible refine Below.setCell ?_ (by (first | (simp; done) | (simp; omega))) _) | (with_reducible refine below_drewN' ?_ _) | (refine Below.alloc ?_ (by (try simp only [World.size_alloc, World.size_drew, World.size_setCell]); omega) _) | (refine Below.trans ?_ (Below.mono (by assumption) (by (try simp only [World.size_alloc, World.size_drew, World.size_setCell]); omega)))))
 have hcall := ints_any (fun x => .int .i64 x) (fun x => !inb lo hi x) 71 #[.pointer (some ⟨w.heap.size, 0, none⟩), .pointer (some ⟨w.heap.size + 1, 0, none⟩)] (enters_of Try.func71 (by kernel_rfl) rfl) v xs
  ((w.alloc (.cells #[.int .i64 lo] 3)).alloc (.cells #[.int .i64 hi] 3)) (hs.below hbb)
  (fun W hW x _ => outside_any lo hi x _ _ W (keepc hW (by go_simp)) (keepc hW (by go_simp)))
 rw [← not_any_not]
 obtain ⟨a, c, rfl, hl, hs⟩ := hs
 clear hs hl hbb
 generalize (xs.any fun x => !inb lo hi x) = r at hcall ⊢
 go_enter Try.func47, Try.ntmps47
 go_wp2_with (go_at_call 72; refine hcall.mono ?_; rintro e w1 ⟨rfl, hb1⟩)
 go_ret
 exact ⟨rfl, by (repeat' (first | exact Below.refl _ _ | assumption | (with_reducible refine Below.drew ?_) | (with_reducible refine Below.setCell ?_ (by (first | (simp; done) | (simp; omega))) _) | (with_reducible refine below_drewN' ?_ _) | (refine Below.alloc ?_ (by (try simp only [World.size_alloc, World.size_drew, World.size_setCell]); omega) _) | (refine Below.trans ?_ (Below.mono (by assumption) (by (try simp only [World.size_alloc, World.size_drew, World.size_setCell]); omega)))))⟩
set_option maxHeartbeats 400000 in
theorem gateWrong_any (g : Int) (W : World) :
  Calls Try.prog 81 #[.int .i64 g] W (Ret (.bool (!inb 0 2 g)) W) := by
 by_cases h0 : g = 0
 ·subst h0
  have e : (!inb 0 2 0) = false := by decide
  rw [e]; clear e
  go_enter Try.func81, Try.ntmps81
  go_wp2
  go_ret
  exact ⟨rfl, by (repeat' (first | exact Below.refl _ _ | assumption | (with_reducible refine Below.drew ?_) | (with_reducible refine Below.setCell ?_ (by (first | (simp; done) | (simp; omega))) _) | (with_reducible refine below_drewN' ?_ _) | (refine Below.alloc ?_ (by (try simp only [World.size_alloc, World.size_drew, World.size_setCell]); omega) _) | (refine Below.trans ?_ (Below.mono (by assumption) (by (try simp only [World.size_alloc, World.size_drew, World.size_setCell]); omega)))))⟩
 ·by_cases h1 : g = 1
  ·subst h1
   have e : (!inb 0 2 1) = false := by decide
   rw [e]; clear e
   go_enter Try.func81, Try.ntmps81
   go_wp2
   go_ret
   exact ⟨rfl, by (repeat' (first | exact Below.refl _ _ | assumption | (with_reducible refine Below.drew ?_) | (with_reducible refine Below.setCell ?_ (by (first | (simp; done) | (simp; omega))) _) | (with_reducible refine below_drewN' ?_ _) | (refine Below.alloc ?_ (by (try simp only [World.size_alloc, World.size_drew, World.size_setCell]); omega) _) | (refine Below.trans ?_ (Below.mono (by assumption) (by (try simp only [World.size_alloc, World.size_drew, World.size_setCell]); omega)))))⟩
  ·by_cases h2 : g = 2
   ·subst h2
    have e : (!inb 0 2 2) = false := by decide
    rw [e]; clear e
    go_enter Try.func81, Try.ntmps81
    go_wp2
    go_ret
    exact ⟨rfl, by (repeat' (first | exact Below.refl _ _ | assumption | (with_reducible refine Below.drew ?_) | (with_reducible refine Below.setCell ?_ (by (first | (simp; done) | (simp; omega))) _) | (with_reducible refine below_drewN' ?_ _) | (refine Below.alloc ?_ (by (try simp only [World.size_alloc, World.size_drew, World.size_setCell]); omega) _) | (refine Below.trans ?_ (Below.mono (by assumption) (by (try simp only [World.size_alloc, World.size_drew, World.size_setCell]); omega)))))⟩
   ·have e : (!inb 0 2 g) = true := by unfold inb; simp; omega
    rw [e]; clear e
    have b0 : (g != 0) = true := by simpa using h0
    have b1 : (g != 1) = true := by simpa using h1
    have b2 : (g != 2) = true := by simpa using h2
    go_enter Try.func81, Try.ntmps81
    go_wp2
    go_ret
    exact ⟨rfl, by (repeat' (first | exact Below.refl _ _ | assumption | (with_reducible refine Below.drew ?_) | (with_reducible refine Below.setCell ?_ (by (first | (simp; done) | (simp; omega))) _) | (with_reducible refine below_drewN' ?_ _) | (refine Below.alloc ?_ (by (try simp only [World.size_alloc, World.size_drew, World.size_setCell]); omega) _) | (refine Below.trans ?_ (Below.mono (by assumption) (by (try simp only [World.size_alloc, World.size_drew, World.size_setCell]); omega)))))⟩
set_option maxHeartbeats 400000 in
theorem validGates_any (v : Value) (xs : List Int) (w : World) (hs : Sl w 1 eI v xs) :
  Calls Try.prog 66 #[v] w (Ret (.bool (xs.all (inb 0 2))) w) := by
 have hcall := gates_any (fun x => .int .i64 x) (fun x => !inb 0 2 x) 81 #[] (enters_of Try.func81 (by kernel_rfl) rfl) v xs w hs
  (fun W hW x _ => gateWrong_any x W)
 rw [← not_any_not]
 obtain ⟨a, c, rfl, hl, hs⟩ := hs
 clear hs hl
 generalize (xs.any fun x => !inb 0 2 x) = r at hcall ⊢
 go_enter Try.func66, Try.ntmps66
 go_wp2_with (go_at_call 82; refine hcall.mono ?_; rintro e w1 ⟨rfl, hb1⟩)
 go_ret
 exact ⟨rfl, by (repeat' (first | exact Below.refl _ _ | assumption | (with_reducible refine Below.drew ?_) | (with_reducible refine Below.setCell ?_ (by (first | (simp; done) | (simp; omega))) _) | (with_reducible refine below_drewN' ?_ _) | (refine Below.alloc ?_ (by (try simp only [World.size_alloc, World.size_drew, World.size_setCell]); omega) _) | (refine Below.trans ?_ (Below.mono (by assumption) (by (try simp only [World.size_alloc, World.size_drew, World.size_setCell]); omega)))))⟩
def vcnt (c : Cnt) : Bool := inb 2 1001 c.1 && (inb 0 2 c.2.1 && inb 0 2 c.2.2)
set_option maxHeartbeats 400000 in
theorem validCount_any (c : Cnt) (w : World) :
  Calls Try.prog 39 #[cntV c] w (Ret (.bool (vcnt c)) w) := by
 obtain ⟨s, i, o⟩ := c
 have h1 := fun W k hk t => within_any 2 1001 _ [s] _ (sl_one W k hk t s)
 have h2 := fun W k hk t => validGates_any _ [i, o] _ (sl_two W k hk t i o)
 have e1 : ([s].all (inb 2 1001)) = inb 2 1001 s := by simp
 have e2 : ([i, o].all (inb 0 2)) = (inb 0 2 i && inb 0 2 o) := by simp
 rw [e1] at h1
 rw [e2] at h2
 unfold vcnt cntV
 simp only []
 clear e1 e2
 generalize (inb 0 2 i && inb 0 2 o) = r2 at h2 ⊢
 generalize (inb 2 1001 s) = r1 at h1 ⊢
 cases r1 with
 | true =>
  rw [Bool.true_and]
  go_enter Try.func39, Try.ntmps39
  go_wp2_with (first | (go_at_call 47; (with_reducible refine (h1 _ _ (by simp) _).mono ?_); rintro e w1 ⟨rfl, hb1⟩; (obtain ⟨hc1, hf1⟩ := bcell hb1; have z1 := hb1.size; (try simp only [World.size_alloc, World.size_drew, World.size_setCell] at z1); (try have q1a : w.heap.size < w1.heap.size := by omega); (try have q1b : w.heap.size + 1 < w1.heap.size := by omega); (try have q1c : w.heap.size + 1 + 1 < w1.heap.size := by omega); (try have q1d : w.heap.size + 1 + 1 + 1 < w1.heap.size := by omega); (try have q1e : wr.heap.size < w1.heap.size := by omega); (try have q1f : wr.heap.size + 1 < w1.heap.size := by omega))) | (go_at_call 66; (with_reducible refine (h2 _ _ (by simp) _).mono ?_); rintro e w2 ⟨rfl, hb2⟩; (obtain ⟨hc2, hf2⟩ := bcell hb2; have z2 := hb2.size; (try simp only [World.size_alloc, World.size_drew, World.size_setCell] at z2); (try have q2a : w.heap.size < w2.heap.size := by omega); (try have q2b : w.heap.size + 1 < w2.heap.size := by omega); (try have q2c : w.heap.size + 1 + 1 < w2.heap.size := by omega); (try have q2d : w.heap.size + 1 + 1 + 1 < w2.heap.size := by omega); (try have q2e : wr.heap.size < w2.heap.size := by omega); (try have q2f : wr.heap.size + 1 < w2.heap.size := by omega); (try have q2g : w1.heap.size < w2.heap.size := by omega); (try have q2h : w1.heap.size + 1 < w2.heap.size := by omega))))
  go_ret
  exact ⟨rfl, by (repeat' (first | exact Below.refl _ _ | assumption | (with_reducible refine Below.drew ?_) | (with_reducible refine Below.setCell ?_ (by (first | (simp; done) | (simp; omega))) _) | (with_reducible refine below_drewN' ?_ _) | (refine Below.alloc ?_ (by (try simp only [World.size_alloc, World.size_drew, World.size_setCell]); omega) _) | (refine Below.trans ?_ (Below.mono (by assumption) (by (try simp only [World.size_alloc, World.size_drew, World.size_setCell]); omega)))))⟩
 | false =>
  rw [Bool.false_and]
  go_enter Try.func39, Try.ntmps39
  go_wp2_with (go_at_call 47; (with_reducible refine (h1 _ _ (by simp) _).mono ?_); rintro e w1 ⟨rfl, hb1⟩; (obtain ⟨hc1, hf1⟩ := bcell hb1; have z1 := hb1.size; (try simp only [World.size_alloc, World.size_drew, World.size_setCell] at z1); (try have q1a : w.heap.size < w1.heap.size := by omega); (try have q1b : w.heap.size + 1 < w1.heap.size := by omega); (try have q1c : w.heap.size + 1 + 1 < w1.heap.size := by omega); (try have q1d : w.heap.size + 1 + 1 + 1 < w1.heap.size := by omega); (try have q1e : wr.heap.size < w1.heap.size := by omega); (try have q1f : wr.heap.size + 1 < w1.heap.size := by omega)))
  go_ret
  exact ⟨rfl, by (repeat' (first | exact Below.refl _ _ | assumption | (with_reducible refine Below.drew ?_) | (with_reducible refine Below.setCell ?_ (by (first | (simp; done) | (simp; omega))) _) | (with_reducible refine below_drewN' ?_ _) | (refine Below.alloc ?_ (by (try simp only [World.size_alloc, World.size_drew, World.size_setCell]); omega) _) | (refine Below.trans ?_ (Below.mono (by assumption) (by (try simp only [World.size_alloc, World.size_drew, World.size_setCell]); omega)))))⟩
set_option maxHeartbeats 400000 in
theorem countWrong_any (c : Cnt) (w : World) :
  Calls Try.prog 46 #[cntV c] w (Ret (.bool (!vcnt c)) w) := by
 have hcall := fun W => validCount_any c W
 unfold cntV at *
 generalize vcnt c = r at hcall ⊢
 obtain ⟨s, i, o⟩ := c
 simp only [] at *
 go_enter Try.func46, Try.ntmps46
 go_wp2_with (go_at_call 39; (with_reducible refine (hcall _).mono ?_); rintro e w1 ⟨rfl, hb1⟩)
 go_ret
 exact ⟨rfl, by (repeat' (first | exact Below.refl _ _ | assumption | (with_reducible refine Below.drew ?_) | (with_reducible refine Below.setCell ?_ (by (first | (simp; done) | (simp; omega))) _) | (with_reducible refine below_drewN' ?_ _) | (refine Below.alloc ?_ (by (try simp only [World.size_alloc, World.size_drew, World.size_setCell]); omega) _) | (refine Below.trans ?_ (Below.mono (by assumption) (by (try simp only [World.size_alloc, World.size_drew, World.size_setCell]); omega)))))⟩
end
section
def fac (b : Int) : Int := b.tdiv 100
def num (b : Int) : Int := b.tmod 100
def vbed (b : Int) : Bool := decide (b = 0) || decide (b = 125) || decide (b = 225) || (inb 1 4 (fac b) && inb 1 20 (num b))
def sc (b : Int) : Int := b / 100 * (b % 100)
def opn (g b : Int) : Bool := if g = 1 then decide (b / 100 = 2) else if g = 2 then decide (2 ≤ b / 100) else decide (b ≠ 0)
def bst (left out b : Int) : Bool := if left - sc b = 0 then !opn out b else if left - sc b = 1 then decide (out ≠ 0) else decide (left - sc b < 0)
theorem vbed_bd {b : Int} (h : vbed b = true) : 0 ≤ b ∧ b ≤ 420 := by
 unfold vbed inb fac num at h
 simp only [Bool.or_eq_true, Bool.and_eq_true, decide_eq_true_eq] at h
 have := Int.mul_tdiv_add_tmod b 100
 omega
theorem sc_bd {b : Int} (h0 : 0 ≤ b) (h1 : b ≤ 420) : 0 ≤ sc b ∧ sc b ≤ 400 := by
 unfold sc
 have a1 : 0 ≤ b / 100 := by omega
 have a2 : b / 100 ≤ 4 := by omega
 have a3 : 0 ≤ b % 100 := by omega
 have a4 : b % 100 ≤ 99 := by omega
 refine ⟨Int.mul_nonneg a1 a3, ?_⟩
 have : b / 100 * (b % 100) ≤ 4 * 99 := Int.mul_le_mul a2 a4 a3 (by omega)
 omega
structure Thr where
 left : Int
 score : Int
 darts : Int
 inn : Bool
 bust : Bool
 won : Bool
deriving DecidableEq
def Thr.zero : Thr := ⟨0, 0, 0, false, false, false⟩
def Thr.ended (t : Thr) : Bool := t.won || (t.bust || decide (t.darts = 3))
def Thr.step (c : Cnt) (t : Thr) (b : Int) : Thr :=
 if (t.inn || opn c.2.1 b) = true then
  (if bst t.left c.2.2 b = true then ⟨t.left, t.score, t.darts + 1, t.inn, true, decide (t.left = 0)⟩
   else ⟨t.left - sc b, t.score, t.darts + 1, true, false, decide (t.left - sc b = 0)⟩)
 else ⟨t.left, t.score, t.darts + 1, false, false, decide (t.left = 0)⟩
def Thr.fin (left0 : Int) (in0 : Bool) (t : Thr) : Thr :=
 if t.bust = true then ⟨left0, left0 - left0, t.darts, in0, true, t.won⟩ else ⟨t.left, left0 - t.left, t.darts, t.inn, false, t.won⟩
def thrL (c : Cnt) (in0 : Bool) (left0 : Int) : Thr → Nat → List Int → Thr × Int × Int
 | t, _, [] => if t.ended = true then (t.fin left0 in0, -1, 0) else (Thr.zero, -1, 31)
 | t, i, b :: bs => if t.ended = true then (Thr.zero, (i : Int), 32) else if vbed b = true then thrL c in0 left0 (t.step c b) (i + 1) bs else (Thr.zero, (i : Int), 2)
def thr (c : Cnt) (in0 : Bool) (left0 : Int) (bs : List Int) : Thr × Int × Int := thrL c in0 left0 ⟨left0, 0, 0, in0, false, false⟩ 0 bs
structure Thr.Ok (t : Thr) (n : Nat) : Prop where
 l0 : 0 ≤ t.left
 l1 : t.left ≤ 1001
 d : t.darts = (n : Int)
 n3 : n ≤ 3
theorem Thr.Ok.step {t : Thr} {n : Nat} (h : t.Ok n) (he : t.ended = false) (c : Cnt) {b : Int} (hb : vbed b = true) : (t.step c b).Ok (n + 1) := by
 obtain ⟨b0, b1⟩ := vbed_bd hb
 obtain ⟨s0, s1⟩ := sc_bd b0 b1
 have hd := h.d
 unfold Thr.ended at he
 simp only [Bool.or_eq_false_iff, decide_eq_false_iff_not] at he
 have hn : n < 3 := by have := h.n3; have := he.2.2; omega
 unfold Thr.step
 split
 ·split
  ·exact ⟨h.l0, h.l1, by simp [hd], by omega⟩
  ·rename_i h2
   unfold bst at h2
   refine ⟨?_, by have := h.l1; simp; omega, by simp [hd], by omega⟩
   simp only []
   split at h2
   ·omega
   ·split at h2
    ·omega
    ·simp at h2; omega
 ·exact ⟨h.l0, h.l1, by simp [hd], by omega⟩
def vstand (c : Cnt) (in0 : Bool) (left : Int) : Bool := inb (if c.2.2 = 0 then 1 else 2) c.1 left && (in0 || decide (left = c.1))
def visitF (c : Cnt) (in0 : Bool) (left : Int) (bs : List Int) : Thr × Int :=
 if vcnt c = true then (if vstand c in0 left = true then ((thr c in0 left bs).1, (thr c in0 left bs).2.2) else (Thr.zero, 3)) else (Thr.zero, 2)
structure Mt where
 s0 : Int
 s1 : Int
 l0 : Int
 l1 : Int
 win : Int
deriving DecidableEq
structure MtL where
 legs : Int
 sets : Int
 clear : Int
 extra : Int
 first : Int
def vmt (m : MtL) : Bool := inb 1 25 m.legs && (inb 1 25 m.sets && (inb 1 2 m.clear && (inb 0 25 m.extra && inb 0 1 m.first)))
def setWon (m : MtL) (s0 s1 mine other : Int) : Bool :=
 if s0 = m.sets - 1 ∧ s1 = m.sets - 1 then (decide (m.legs ≤ mine) && decide (m.clear ≤ mine - other)) || decide (mine = m.legs + m.extra) else decide (mine = m.legs)
def Mt.step (m : MtL) (g : Mt) (w : Int) : Mt :=
 if w = 0 then
  (if setWon m g.s0 g.s1 (g.l0 + 1) g.l1 = true then (if g.s0 + 1 = m.sets then ⟨g.s0 + 1, g.s1, g.l0 + 1, g.l1, 0⟩ else ⟨g.s0 + 1, g.s1, 0, 0, g.win⟩) else ⟨g.s0, g.s1, g.l0 + 1, g.l1, g.win⟩)
 else
  (if setWon m g.s0 g.s1 (g.l1 + 1) g.l0 = true then (if g.s1 + 1 = m.sets then ⟨g.s0, g.s1 + 1, g.l0, g.l1 + 1, 1⟩ else ⟨g.s0, g.s1 + 1, 0, 0, g.win⟩) else ⟨g.s0, g.s1, g.l0, g.l1 + 1, g.win⟩)
def Mt.next (m : MtL) (g : Mt) : Int := if g.win = -1 then (m.first + (g.s0 + g.s1 + g.l0 + g.l1)) % 2 else -1
def mtL (m : MtL) : Mt → Nat → List Int → Mt × Int × Int
 | g, _, [] => (g, 0, 0)
 | g, i, w :: ws => if g.win = -1 then (if inb 0 1 w = true then mtL m (g.step m w) (i + 1) ws else (⟨0, 0, 0, 0, 0⟩, (i : Int), 2)) else (⟨0, 0, 0, 0, 0⟩, (i : Int), 33)
structure Mt.Ok (g : Mt) (i : Nat) : Prop where
 a0 : 0 ≤ g.s0
 a1 : g.s0 ≤ (i : Int)
 b0 : 0 ≤ g.s1
 b1 : g.s1 ≤ (i : Int)
 c0 : 0 ≤ g.l0
 c1 : g.l0 ≤ (i : Int)
 d0 : 0 ≤ g.l1
 d1 : g.l1 ≤ (i : Int)
theorem Mt.Ok.step {g : Mt} {i : Nat} (h : g.Ok i) (m : MtL) (w : Int) : (g.step m w).Ok (i + 1) := by
 obtain ⟨a0, a1, b0, b1, c0, c1, d0, d1⟩ := h
 unfold Mt.step
 split <;> split <;> (try split) <;> (constructor <;> simp only [] <;> omega)
end
end Go.Proofs.Ytnhjoebdmmelaaa
