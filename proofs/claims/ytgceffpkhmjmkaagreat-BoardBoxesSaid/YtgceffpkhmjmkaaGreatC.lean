/- Board, part C: how a slice lies in memory; the library's search by a predicate, at the four element types of this program. -/
import Derived.Test.YtgceffpkhmjmkaaGreatA
set_option linter.unusedVariables false
set_option linter.unusedSimpArgs false
namespace Go.Proofs.YtgceffpkhmjmkaaGreat
open Go.RowKit Go.Shelf

/-- v is a slice whose elements, each of k cells, are xs. -/
def Sl {α : Type} (w : World) (k : Nat) (enc : α → List Value) (v : Value) (xs : List α) : Prop :=
  ∃ a c, v = .slice a xs.length c ∧ xs.length ≤ 9223372036854775807 ∧ (xs ≠ [] → ∃ b off, a = some ⟨b, off, none⟩ ∧ b < w.heap.size ∧ ∀ j x, xs[j]? = some x → ∀ i y, (enc x)[i]? = some y → w.cell? ⟨b, off + j * k + i, none⟩ = some y)

theorem Sl.below {α : Type} {w w' : World} {k : Nat} {enc : α → List Value} {v : Value} {xs : List α} (h : Sl w k enc v xs) (hb : Below w.heap.size w w') : Sl w' k enc v xs := by
  obtain ⟨a, c, hv, hl, h⟩ := h
  refine ⟨a, c, hv, hl, fun hne => ?_⟩
  obtain ⟨b, off, ha, hlt, hc⟩ := h hne
  exact ⟨b, off, ha, Nat.lt_of_lt_of_le hlt hb.size, fun j x hx i y hy => keepc hb (hc j x hx i y hy)⟩

def encI (x : Int) : List Value := [.int .i64 x]
def encP (x : Int × Int) : List Value := [.int .i64 x.1, .int .i64 x.2]

/-- The first place at which p holds, or -1. -/
def fidx {α : Type} (p : α → Bool) (xs : List α) : Int := match xs.findIdx? p with | some i => (i : Int) | none => -1

theorem fidx_hit {α : Type} (p : α → Bool) (xs : List α) (k : Nat) (x : α) (hx : xs[k]? = some x) (hp : p x = true) (h : ∀ j y, j < k → xs[j]? = some y → p y = false) : fidx p xs = (k : Int) := by
  obtain ⟨hk, e⟩ := List.getElem?_eq_some_iff.1 hx
  have : xs.findIdx? p = some k := by
    rw [List.findIdx?_eq_some_iff_getElem]
    refine ⟨hk, by rw [e]; exact hp, fun j hj => ?_⟩
    have := h j xs[j] hj (List.getElem?_eq_getElem (by omega))
    simp [this]
  unfold fidx; rw [this]

theorem fidx_miss {α : Type} (p : α → Bool) (xs : List α) (h : ∀ j y, j < xs.length → xs[j]? = some y → p y = false) : fidx p xs = -1 := by
  have : xs.findIdx? p = none := by
    rw [List.findIdx?_eq_none_iff]
    intro x hx
    obtain ⟨j, hj, e⟩ := List.getElem_of_mem hx
    exact h j x hj (by rw [← e]; exact List.getElem?_eq_getElem hj)
  unfold fidx; rw [this]

theorem fidx_any {α : Type} (p : α → Bool) (xs : List α) : decide (0 ≤ fidx p xs) = xs.any p := by
  unfold fidx
  cases h : xs.findIdx? p with
  | none =>
    rw [List.findIdx?_eq_none_iff] at h
    have : xs.any p = false := by rw [List.any_eq_false]; exact fun x hx => by simp [h x hx]
    rw [this]; rfl
  | some i =>
    have hs : (xs.findIdx? p).isSome = true := by rw [h]; rfl
    rw [List.findIdx?_isSome] at hs
    rw [hs]; simp


set_option maxRecDepth 100000 in
set_option maxHeartbeats 1000000 in
theorem ints_idx {α : Type} (enc : α → Value) (p : α → Bool) (g : Nat) (lb : Array Value) (eg : ∀ args w, (callFunc g args).run Tryz.prog w = .ok (.enter g args) w) (v : Value) (xs : List (α)) (w : World)
    (hs : Sl w 1 (fun x => [enc x]) v xs) (hp : ∀ W, Below w.heap.size w W → ∀ x, x ∈ xs → Calls Tryz.prog g (#[enc x] ++ lb) W (Ret (.bool (p x)) W)) :
    Calls Tryz.prog 98 #[v, .func (.func g) #[] lb] w (Ret (.int .i64 (fidx p xs)) w) := by
  obtain ⟨a, c, rfl, hl, hs⟩ := hs
  by_cases hne : xs = []
  · subst hne
    have e0 : fidx p ([] : List (α)) = -1 := rfl
    rw [e0]
    clear hs hp
    simp only [List.length_nil] at *
    go_enter Tryz.func98, Tryz.ntmps98
    go_wp2
    go_loopg [5, 8] 1 (fun gg _ s8 wr => s8 = .int .i64 0 ∧ wr = w)
    case atStart => exact ⟨rfl, rfl⟩
    case round =>
      obtain ⟨rfl, rfl⟩ := hrel
      go_wp2
      go_ret
      exact ⟨rfl, Below.refl _ _⟩
  · obtain ⟨b, off, rfl, hblt, hc⟩ := hs hne
    clear hs
    obtain ⟨n, hn⟩ : ∃ n, xs.length = n := ⟨_, rfl⟩
    have HN : Aside (xs.length = n) := hn
    rw [hn] at hl ⊢
    clear hn
    have HC : Aside (∀ j x, xs[j]? = some x → ∀ i y, ((fun x => [enc x]) x : List Value)[i]? = some y → w.cell? ⟨b, off + j * 1 + i, none⟩ = some y) := hc
    clear hc
    have HP : Aside (∀ W, Below w.heap.size w W → ∀ x, x ∈ xs → Calls Tryz.prog g (#[enc x] ++ lb) W (Ret (.bool (p x)) W)) := hp
    clear hp
    go_enter Tryz.func98, Tryz.ntmps98
    go_wp2
    go_loopg [5, 8] n (fun gg _ s8 wr => ∃ kk : Nat, kk ≤ n ∧ n - kk ≤ gg ∧ s8 = .int .i64 kk ∧ Aside (Below w.heap.size w wr) ∧ Aside (∀ j y, j < kk → xs[j]? = some y → p y = false))
    case atStart => exact ⟨0, Nat.zero_le _, by omega, rfl, Below.refl _ w, fun j y hj => absurd hj (Nat.not_lt_zero _)⟩
    case round =>
      obtain ⟨kk, hkk, hg, rfl, BW, A⟩ := hrel
      by_cases hlt : kk < n
      · have hltz : (kk : Int) < (n : Int) := by omega
        obtain ⟨x, hx⟩ : ∃ x, xs[kk]? = some x := ⟨_, List.getElem?_eq_getElem (by rw [HN.out]; exact hlt)⟩
        have hcell : wr.cell? ⟨b, off + kk, none⟩ = some (enc x) := keepc BW.out (by have := HC.out kk x hx 0 (enc x) rfl; simpa using this)
        have hcall := HP.out wr BW.out x (List.mem_of_getElem? hx)
        have HX : Aside (xs[kk]? = some x) := hx
        clear hx
        generalize hq : p x = q at hcall
        generalize enc x = y at hcell hcall
        have HQ : Aside (p x = q) := hq
        clear hq
        cases q with
        | true =>
          go_wp2_with (go_at_fn g; refine hcall.mono ?_; rintro e w' ⟨rfl, hb'⟩)
          go_ret
          refine ⟨?_, BW.out.trans (hb'.mono BW.out.size)⟩
          rw [fidx_hit p xs kk _ HX.out HQ.out A.out]
          rfl
        | false =>
          go_wp2_with (go_at_fn g; refine hcall.mono ?_; rintro e w' ⟨rfl, hb'⟩)
          go_roundg (n - (kk + 1))
          case measure => omega
          case rel =>
            refine ⟨kk + 1, by omega, by omega, by go_num, BW.out.trans (hb'.mono BW.out.size), (show Aside _ from fun j y hj hy => ?_)⟩
            by_cases e : j = kk
            · subst e
              have := HX.out.symm.trans hy
              cases this
              exact HQ.out
            · exact A.out j y (by omega) hy
      · have hltz : ¬ (kk : Int) < (n : Int) := by omega
        have : kk = n := by omega
        subst this
        go_wp2
        go_ret
        refine ⟨?_, BW.out⟩
        rw [fidx_miss p xs (fun j y hj hy => A.out j y (by rw [HN.out] at hj; exact hj) hy)]
        rfl

set_option maxRecDepth 100000 in
set_option maxHeartbeats 400000 in
theorem ints_any {α : Type} (enc : α → Value) (p : α → Bool) (g : Nat) (lb : Array Value) (eg : ∀ args w, (callFunc g args).run Tryz.prog w = .ok (.enter g args) w) (v : Value) (xs : List (α)) (w : World)
    (hs : Sl w 1 (fun x => [enc x]) v xs) (hp : ∀ W, Below w.heap.size w W → ∀ x, x ∈ xs → Calls Tryz.prog g (#[enc x] ++ lb) W (Ret (.bool (p x)) W)) :
    Calls Tryz.prog 78 #[v, .func (.func g) #[] lb] w (Ret (.bool (xs.any p)) w) := by
  have hi := ints_idx enc p g lb eg v xs w hs hp
  rw [← fidx_any]
  obtain ⟨a, c, rfl, hl, hs⟩ := hs
  clear hp hs hl
  generalize fidx p xs = r at hi ⊢
  go_enter Tryz.func78, Tryz.ntmps78
  go_wp2_with (go_at_call 98; refine hi.mono ?_; rintro e w1 ⟨rfl, hb1⟩)
  go_ret
  exact ⟨rfl, hb1⟩

set_option maxRecDepth 100000 in
set_option maxHeartbeats 1000000 in
theorem rows_idx {α : Type} (enc : α → Value) (p : α → Bool) (g : Nat) (lb : Array Value) (eg : ∀ args w, (callFunc g args).run Tryz.prog w = .ok (.enter g args) w) (v : Value) (xs : List (α)) (w : World)
    (hs : Sl w 1 (fun x => [enc x]) v xs) (hp : ∀ W, Below w.heap.size w W → ∀ x, x ∈ xs → Calls Tryz.prog g (#[enc x] ++ lb) W (Ret (.bool (p x)) W)) :
    Calls Tryz.prog 99 #[v, .func (.func g) #[] lb] w (Ret (.int .i64 (fidx p xs)) w) := by
  obtain ⟨a, c, rfl, hl, hs⟩ := hs
  by_cases hne : xs = []
  · subst hne
    have e0 : fidx p ([] : List (α)) = -1 := rfl
    rw [e0]
    clear hs hp
    simp only [List.length_nil] at *
    go_enter Tryz.func99, Tryz.ntmps99
    go_wp2
    go_loopg [5, 8] 1 (fun gg _ s8 wr => s8 = .int .i64 0 ∧ wr = w)
    case atStart => exact ⟨rfl, rfl⟩
    case round =>
      obtain ⟨rfl, rfl⟩ := hrel
      go_wp2
      go_ret
      exact ⟨rfl, Below.refl _ _⟩
  · obtain ⟨b, off, rfl, hblt, hc⟩ := hs hne
    clear hs
    obtain ⟨n, hn⟩ : ∃ n, xs.length = n := ⟨_, rfl⟩
    have HN : Aside (xs.length = n) := hn
    rw [hn] at hl ⊢
    clear hn
    have HC : Aside (∀ j x, xs[j]? = some x → ∀ i y, ((fun x => [enc x]) x : List Value)[i]? = some y → w.cell? ⟨b, off + j * 1 + i, none⟩ = some y) := hc
    clear hc
    have HP : Aside (∀ W, Below w.heap.size w W → ∀ x, x ∈ xs → Calls Tryz.prog g (#[enc x] ++ lb) W (Ret (.bool (p x)) W)) := hp
    clear hp
    go_enter Tryz.func99, Tryz.ntmps99
    go_wp2
    go_loopg [5, 8] n (fun gg _ s8 wr => ∃ kk : Nat, kk ≤ n ∧ n - kk ≤ gg ∧ s8 = .int .i64 kk ∧ Aside (Below w.heap.size w wr) ∧ Aside (∀ j y, j < kk → xs[j]? = some y → p y = false))
    case atStart => exact ⟨0, Nat.zero_le _, by omega, rfl, Below.refl _ w, fun j y hj => absurd hj (Nat.not_lt_zero _)⟩
    case round =>
      obtain ⟨kk, hkk, hg, rfl, BW, A⟩ := hrel
      by_cases hlt : kk < n
      · have hltz : (kk : Int) < (n : Int) := by omega
        obtain ⟨x, hx⟩ : ∃ x, xs[kk]? = some x := ⟨_, List.getElem?_eq_getElem (by rw [HN.out]; exact hlt)⟩
        have hcell : wr.cell? ⟨b, off + kk, none⟩ = some (enc x) := keepc BW.out (by have := HC.out kk x hx 0 (enc x) rfl; simpa using this)
        have hcall := HP.out wr BW.out x (List.mem_of_getElem? hx)
        have HX : Aside (xs[kk]? = some x) := hx
        clear hx
        generalize hq : p x = q at hcall
        generalize enc x = y at hcell hcall
        have HQ : Aside (p x = q) := hq
        clear hq
        cases q with
        | true =>
          go_wp2_with (go_at_fn g; refine hcall.mono ?_; rintro e w' ⟨rfl, hb'⟩)
          go_ret
          refine ⟨?_, BW.out.trans (hb'.mono BW.out.size)⟩
          rw [fidx_hit p xs kk _ HX.out HQ.out A.out]
          rfl
        | false =>
          go_wp2_with (go_at_fn g; refine hcall.mono ?_; rintro e w' ⟨rfl, hb'⟩)
          go_roundg (n - (kk + 1))
          case measure => omega
          case rel =>
            refine ⟨kk + 1, by omega, by omega, by go_num, BW.out.trans (hb'.mono BW.out.size), (show Aside _ from fun j y hj hy => ?_)⟩
            by_cases e : j = kk
            · subst e
              have := HX.out.symm.trans hy
              cases this
              exact HQ.out
            · exact A.out j y (by omega) hy
      · have hltz : ¬ (kk : Int) < (n : Int) := by omega
        have : kk = n := by omega
        subst this
        go_wp2
        go_ret
        refine ⟨?_, BW.out⟩
        rw [fidx_miss p xs (fun j y hj hy => A.out j y (by rw [HN.out] at hj; exact hj) hy)]
        rfl

set_option maxRecDepth 100000 in
set_option maxHeartbeats 400000 in
theorem rows_any {α : Type} (enc : α → Value) (p : α → Bool) (g : Nat) (lb : Array Value) (eg : ∀ args w, (callFunc g args).run Tryz.prog w = .ok (.enter g args) w) (v : Value) (xs : List (α)) (w : World)
    (hs : Sl w 1 (fun x => [enc x]) v xs) (hp : ∀ W, Below w.heap.size w W → ∀ x, x ∈ xs → Calls Tryz.prog g (#[enc x] ++ lb) W (Ret (.bool (p x)) W)) :
    Calls Tryz.prog 80 #[v, .func (.func g) #[] lb] w (Ret (.bool (xs.any p)) w) := by
  have hi := rows_idx enc p g lb eg v xs w hs hp
  rw [← fidx_any]
  obtain ⟨a, c, rfl, hl, hs⟩ := hs
  clear hp hs hl
  generalize fidx p xs = r at hi ⊢
  go_enter Tryz.func80, Tryz.ntmps80
  go_wp2_with (go_at_call 99; refine hi.mono ?_; rintro e w1 ⟨rfl, hb1⟩)
  go_ret
  exact ⟨rfl, hb1⟩

set_option maxRecDepth 100000 in
set_option maxHeartbeats 1000000 in
theorem pts_idx (p : Int × Int → Bool) (g : Nat) (lb : Array Value) (eg : ∀ args w, (callFunc g args).run Tryz.prog w = .ok (.enter g args) w) (v : Value) (xs : List (Int × Int)) (w : World)
    (hs : Sl w 2 (encP) v xs) (hp : ∀ W, Below w.heap.size w W → ∀ x, x ∈ xs → Calls Tryz.prog g (#[pt x] ++ lb) W (Ret (.bool (p x)) W)) :
    Calls Tryz.prog 104 #[v, .func (.func g) #[] lb] w (Ret (.int .i64 (fidx p xs)) w) := by
  obtain ⟨a, c, rfl, hl, hs⟩ := hs
  by_cases hne : xs = []
  · subst hne
    have e0 : fidx p ([] : List (Int × Int)) = -1 := rfl
    rw [e0]
    clear hs hp
    simp only [List.length_nil] at *
    go_enter Tryz.func104, Tryz.ntmps104
    go_wp2
    go_loopg [5, 8] 1 (fun gg _ s8 wr => s8 = .int .i64 0 ∧ wr = w)
    case atStart => exact ⟨rfl, rfl⟩
    case round =>
      obtain ⟨rfl, rfl⟩ := hrel
      go_wp2
      go_ret
      exact ⟨rfl, Below.refl _ _⟩
  · obtain ⟨b, off, rfl, hblt, hc⟩ := hs hne
    clear hs
    obtain ⟨n, hn⟩ : ∃ n, xs.length = n := ⟨_, rfl⟩
    have HN : Aside (xs.length = n) := hn
    rw [hn] at hl ⊢
    clear hn
    have HC : Aside (∀ j x, xs[j]? = some x → ∀ i y, ((encP) x : List Value)[i]? = some y → w.cell? ⟨b, off + j * 2 + i, none⟩ = some y) := hc
    clear hc
    have HP : Aside (∀ W, Below w.heap.size w W → ∀ x, x ∈ xs → Calls Tryz.prog g (#[pt x] ++ lb) W (Ret (.bool (p x)) W)) := hp
    clear hp
    go_enter Tryz.func104, Tryz.ntmps104
    go_wp2
    go_loopg [5, 8] n (fun gg _ s8 wr => ∃ kk : Nat, kk ≤ n ∧ n - kk ≤ gg ∧ s8 = .int .i64 kk ∧ Aside (Below w.heap.size w wr) ∧ Aside (∀ j y, j < kk → xs[j]? = some y → p y = false))
    case atStart => exact ⟨0, Nat.zero_le _, by omega, rfl, Below.refl _ w, fun j y hj => absurd hj (Nat.not_lt_zero _)⟩
    case round =>
      obtain ⟨kk, hkk, hg, rfl, BW, A⟩ := hrel
      by_cases hlt : kk < n
      · have hltz : (kk : Int) < (n : Int) := by omega
        obtain ⟨x, hx⟩ : ∃ x, xs[kk]? = some x := ⟨_, List.getElem?_eq_getElem (by rw [HN.out]; exact hlt)⟩
        have hcell0 : wr.cell? ⟨b, off + kk * 2, none⟩ = some (.int .i64 x.1) := keepc BW.out (by have := HC.out kk x hx 0 (.int .i64 x.1) rfl; simpa using this)
        have hcell1 : wr.cell? ⟨b, off + kk * 2 + 1, none⟩ = some (.int .i64 x.2) := keepc BW.out (by have := HC.out kk x hx 1 (.int .i64 x.2) rfl; simpa using this)
        have hcall := HP.out wr BW.out x (List.mem_of_getElem? hx)
        have HX : Aside (xs[kk]? = some x) := hx
        clear hx
        unfold pt at hcall
        obtain ⟨x0, x1⟩ := x
        simp only [] at hcell0 hcell1 hcall
        generalize hq : p (x0, x1) = q at hcall
        have HQ : Aside (p (x0, x1) = q) := hq
        clear hq
        cases q with
        | true =>
          go_wp2_with (go_at_fn g; refine hcall.mono ?_; rintro e w' ⟨rfl, hb'⟩)
          go_ret
          refine ⟨?_, BW.out.trans (hb'.mono BW.out.size)⟩
          rw [fidx_hit p xs kk _ HX.out HQ.out A.out]
          rfl
        | false =>
          go_wp2_with (go_at_fn g; refine hcall.mono ?_; rintro e w' ⟨rfl, hb'⟩)
          go_roundg (n - (kk + 1))
          case measure => omega
          case rel =>
            refine ⟨kk + 1, by omega, by omega, by go_num, BW.out.trans (hb'.mono BW.out.size), (show Aside _ from fun j y hj hy => ?_)⟩
            by_cases e : j = kk
            · subst e
              have := HX.out.symm.trans hy
              cases this
              exact HQ.out
            · exact A.out j y (by omega) hy
      · have hltz : ¬ (kk : Int) < (n : Int) := by omega
        have : kk = n := by omega
        subst this
        go_wp2
        go_ret
        refine ⟨?_, BW.out⟩
        rw [fidx_miss p xs (fun j y hj hy => A.out j y (by rw [HN.out] at hj; exact hj) hy)]
        rfl

set_option maxRecDepth 100000 in
set_option maxHeartbeats 400000 in
theorem pts_any (p : Int × Int → Bool) (g : Nat) (lb : Array Value) (eg : ∀ args w, (callFunc g args).run Tryz.prog w = .ok (.enter g args) w) (v : Value) (xs : List (Int × Int)) (w : World)
    (hs : Sl w 2 (encP) v xs) (hp : ∀ W, Below w.heap.size w W → ∀ x, x ∈ xs → Calls Tryz.prog g (#[pt x] ++ lb) W (Ret (.bool (p x)) W)) :
    Calls Tryz.prog 87 #[v, .func (.func g) #[] lb] w (Ret (.bool (xs.any p)) w) := by
  have hi := pts_idx p g lb eg v xs w hs hp
  rw [← fidx_any]
  obtain ⟨a, c, rfl, hl, hs⟩ := hs
  clear hp hs hl
  generalize fidx p xs = r at hi ⊢
  go_enter Tryz.func87, Tryz.ntmps87
  go_wp2_with (go_at_call 104; refine hi.mono ?_; rintro e w1 ⟨rfl, hb1⟩)
  go_ret
  exact ⟨rfl, hb1⟩

set_option maxRecDepth 100000 in
set_option maxHeartbeats 1000000 in
theorem rings_idx (p : Int × Int → Bool) (g : Nat) (lb : Array Value) (eg : ∀ args w, (callFunc g args).run Tryz.prog w = .ok (.enter g args) w) (v : Value) (xs : List (Int × Int)) (w : World)
    (hs : Sl w 2 (encP) v xs) (hp : ∀ W, Below w.heap.size w W → ∀ x, x ∈ xs → Calls Tryz.prog g (#[pt x] ++ lb) W (Ret (.bool (p x)) W)) :
    Calls Tryz.prog 69 #[v, .func (.func g) #[] lb] w (Ret (.int .i64 (fidx p xs)) w) := by
  obtain ⟨a, c, rfl, hl, hs⟩ := hs
  by_cases hne : xs = []
  · subst hne
    have e0 : fidx p ([] : List (Int × Int)) = -1 := rfl
    rw [e0]
    clear hs hp
    simp only [List.length_nil] at *
    go_enter Tryz.func69, Tryz.ntmps69
    go_wp2
    go_loopg [5, 8] 1 (fun gg _ s8 wr => s8 = .int .i64 0 ∧ wr = w)
    case atStart => exact ⟨rfl, rfl⟩
    case round =>
      obtain ⟨rfl, rfl⟩ := hrel
      go_wp2
      go_ret
      exact ⟨rfl, Below.refl _ _⟩
  · obtain ⟨b, off, rfl, hblt, hc⟩ := hs hne
    clear hs
    obtain ⟨n, hn⟩ : ∃ n, xs.length = n := ⟨_, rfl⟩
    have HN : Aside (xs.length = n) := hn
    rw [hn] at hl ⊢
    clear hn
    have HC : Aside (∀ j x, xs[j]? = some x → ∀ i y, ((encP) x : List Value)[i]? = some y → w.cell? ⟨b, off + j * 2 + i, none⟩ = some y) := hc
    clear hc
    have HP : Aside (∀ W, Below w.heap.size w W → ∀ x, x ∈ xs → Calls Tryz.prog g (#[pt x] ++ lb) W (Ret (.bool (p x)) W)) := hp
    clear hp
    go_enter Tryz.func69, Tryz.ntmps69
    go_wp2
    go_loopg [5, 8] n (fun gg _ s8 wr => ∃ kk : Nat, kk ≤ n ∧ n - kk ≤ gg ∧ s8 = .int .i64 kk ∧ Aside (Below w.heap.size w wr) ∧ Aside (∀ j y, j < kk → xs[j]? = some y → p y = false))
    case atStart => exact ⟨0, Nat.zero_le _, by omega, rfl, Below.refl _ w, fun j y hj => absurd hj (Nat.not_lt_zero _)⟩
    case round =>
      obtain ⟨kk, hkk, hg, rfl, BW, A⟩ := hrel
      by_cases hlt : kk < n
      · have hltz : (kk : Int) < (n : Int) := by omega
        obtain ⟨x, hx⟩ : ∃ x, xs[kk]? = some x := ⟨_, List.getElem?_eq_getElem (by rw [HN.out]; exact hlt)⟩
        have hcell0 : wr.cell? ⟨b, off + kk * 2, none⟩ = some (.int .i64 x.1) := keepc BW.out (by have := HC.out kk x hx 0 (.int .i64 x.1) rfl; simpa using this)
        have hcell1 : wr.cell? ⟨b, off + kk * 2 + 1, none⟩ = some (.int .i64 x.2) := keepc BW.out (by have := HC.out kk x hx 1 (.int .i64 x.2) rfl; simpa using this)
        have hcall := HP.out wr BW.out x (List.mem_of_getElem? hx)
        have HX : Aside (xs[kk]? = some x) := hx
        clear hx
        unfold pt at hcall
        obtain ⟨x0, x1⟩ := x
        simp only [] at hcell0 hcell1 hcall
        generalize hq : p (x0, x1) = q at hcall
        have HQ : Aside (p (x0, x1) = q) := hq
        clear hq
        cases q with
        | true =>
          go_wp2_with (go_at_fn g; refine hcall.mono ?_; rintro e w' ⟨rfl, hb'⟩)
          go_ret
          refine ⟨?_, BW.out.trans (hb'.mono BW.out.size)⟩
          rw [fidx_hit p xs kk _ HX.out HQ.out A.out]
          rfl
        | false =>
          go_wp2_with (go_at_fn g; refine hcall.mono ?_; rintro e w' ⟨rfl, hb'⟩)
          go_roundg (n - (kk + 1))
          case measure => omega
          case rel =>
            refine ⟨kk + 1, by omega, by omega, by go_num, BW.out.trans (hb'.mono BW.out.size), (show Aside _ from fun j y hj hy => ?_)⟩
            by_cases e : j = kk
            · subst e
              have := HX.out.symm.trans hy
              cases this
              exact HQ.out
            · exact A.out j y (by omega) hy
      · have hltz : ¬ (kk : Int) < (n : Int) := by omega
        have : kk = n := by omega
        subst this
        go_wp2
        go_ret
        refine ⟨?_, BW.out⟩
        rw [fidx_miss p xs (fun j y hj hy => A.out j y (by rw [HN.out] at hj; exact hj) hy)]
        rfl

set_option maxRecDepth 100000 in
set_option maxHeartbeats 400000 in
theorem rings_any (p : Int × Int → Bool) (g : Nat) (lb : Array Value) (eg : ∀ args w, (callFunc g args).run Tryz.prog w = .ok (.enter g args) w) (v : Value) (xs : List (Int × Int)) (w : World)
    (hs : Sl w 2 (encP) v xs) (hp : ∀ W, Below w.heap.size w W → ∀ x, x ∈ xs → Calls Tryz.prog g (#[pt x] ++ lb) W (Ret (.bool (p x)) W)) :
    Calls Tryz.prog 84 #[v, .func (.func g) #[] lb] w (Ret (.bool (xs.any p)) w) := by
  have hi := rings_idx p g lb eg v xs w hs hp
  rw [← fidx_any]
  obtain ⟨a, c, rfl, hl, hs⟩ := hs
  clear hp hs hl
  generalize fidx p xs = r at hi ⊢
  go_enter Tryz.func84, Tryz.ntmps84
  go_wp2_with (go_at_call 69; refine hi.mono ?_; rintro e w1 ⟨rfl, hb1⟩)
  go_ret
  exact ⟨rfl, hb1⟩

end Go.Proofs.YtgceffpkhmjmkaaGreat
