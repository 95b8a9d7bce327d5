/- Leg, part B: the library's search by a predicate, at the element types of this program. -/
import Derived.Test.YthcgbceapabikaaA
set_option linter.unusedVariables false
set_option linter.unusedSimpArgs false
namespace Go.Proofs.Ythcgbceapabikaa
open Go.RowKit Go.Shelf

set_option maxRecDepth 100000 in
set_option maxHeartbeats 1000000 in
theorem ints_idx {α : Type} (enc : α → Value) (p : α → Bool) (g : Nat) (lb : Array Value) (eg : ∀ args w, (callFunc g args).run Try.prog w = .ok (.enter g args) w) (v : Value) (xs : List (α)) (w : World)
    (hs : Sl w 1 (fun x => [enc x]) v xs) (hp : ∀ W, Below w.heap.size w W → ∀ x, x ∈ xs → Calls Try.prog g (#[enc x] ++ lb) W (Ret (.bool (p x)) W)) :
    Calls Try.prog 86 #[v, .func (.func g) #[] lb] w (Ret (.int .i64 (fidx p xs)) w) := by
  obtain ⟨a, c, rfl, hl, hs⟩ := hs
  by_cases hne : xs = []
  · subst hne
    have e0 : fidx p ([] : List (α)) = -1 := rfl
    rw [e0]
    clear hs hp
    simp only [List.length_nil] at *
    go_enter Try.func86, Try.ntmps86
    go_wp2
    go_loopg [5, 8] 1 (fun gg _ s8 wr => s8 = .int .i64 0 ∧ wr = w)
    case atStart => exact ⟨rfl, rfl⟩
    case round =>
      obtain ⟨rfl, rfl⟩ := hrel
      go_wp2
      go_ret
      exact ⟨rfl, Below.refl _ _⟩
  · obtain ⟨b, off, rfl, hblt, hc⟩ := hs hne
    clear hs
    obtain ⟨n, hn⟩ : ∃ n, xs.length = n := ⟨_, rfl⟩
    have HN : Aside (xs.length = n) := hn
    rw [hn] at hl ⊢
    clear hn
    have HC : Aside (∀ j x, xs[j]? = some x → ∀ i y, ((fun x => [enc x]) x : List Value)[i]? = some y → w.cell? ⟨b, off + j * 1 + i, none⟩ = some y) := hc
    clear hc
    have HP : Aside (∀ W, Below w.heap.size w W → ∀ x, x ∈ xs → Calls Try.prog g (#[enc x] ++ lb) W (Ret (.bool (p x)) W)) := hp
    clear hp
    go_enter Try.func86, Try.ntmps86
    go_wp2
    go_loopg [5, 8] n (fun gg _ s8 wr => ∃ kk : Nat, kk ≤ n ∧ n - kk ≤ gg ∧ s8 = .int .i64 kk ∧ Aside (Below w.heap.size w wr) ∧ Aside (∀ j y, j < kk → xs[j]? = some y → p y = false))
    case atStart => exact ⟨0, Nat.zero_le _, by omega, rfl, Below.refl _ w, fun j y hj => absurd hj (Nat.not_lt_zero _)⟩
    case round =>
      obtain ⟨kk, hkk, hg, rfl, BW, A⟩ := hrel
      by_cases hlt : kk < n
      · have hltz : (kk : Int) < (n : Int) := by omega
        obtain ⟨x, hx⟩ : ∃ x, xs[kk]? = some x := ⟨_, List.getElem?_eq_getElem (by rw [HN.out]; exact hlt)⟩
        have hcell : wr.cell? ⟨b, off + kk, none⟩ = some (enc x) := keepc BW.out (by have := HC.out kk x hx 0 (enc x) rfl; simpa using this)
        have hcall := HP.out wr BW.out x (List.mem_of_getElem? hx)
        have HX : Aside (xs[kk]? = some x) := hx
        clear hx
        generalize hq : p x = q at hcall
        generalize enc x = y at hcell hcall
        have HQ : Aside (p x = q) := hq
        clear hq
        cases q with
        | true =>
          go_wp2_with (go_at_fn g; refine hcall.mono ?_; rintro e w' ⟨rfl, hb'⟩)
          go_ret
          refine ⟨?_, BW.out.trans (hb'.mono BW.out.size)⟩
          rw [fidx_hit p xs kk _ HX.out HQ.out A.out]
          rfl
        | false =>
          go_wp2_with (go_at_fn g; refine hcall.mono ?_; rintro e w' ⟨rfl, hb'⟩)
          go_roundg (n - (kk + 1))
          case measure => omega
          case rel =>
            refine ⟨kk + 1, by omega, by omega, by go_num, BW.out.trans (hb'.mono BW.out.size), (show Aside _ from fun j y hj hy => ?_)⟩
            by_cases e : j = kk
            · subst e
              have := HX.out.symm.trans hy
              cases this
              exact HQ.out
            · exact A.out j y (by omega) hy
      · have hltz : ¬ (kk : Int) < (n : Int) := by omega
        have : kk = n := by omega
        subst this
        go_wp2
        go_ret
        refine ⟨?_, BW.out⟩
        rw [fidx_miss p xs (fun j y hj hy => A.out j y (by rw [HN.out] at hj; exact hj) hy)]
        rfl

set_option maxRecDepth 100000 in
set_option maxHeartbeats 400000 in
theorem ints_any {α : Type} (enc : α → Value) (p : α → Bool) (g : Nat) (lb : Array Value) (eg : ∀ args w, (callFunc g args).run Try.prog w = .ok (.enter g args) w) (v : Value) (xs : List (α)) (w : World)
    (hs : Sl w 1 (fun x => [enc x]) v xs) (hp : ∀ W, Below w.heap.size w W → ∀ x, x ∈ xs → Calls Try.prog g (#[enc x] ++ lb) W (Ret (.bool (p x)) W)) :
    Calls Try.prog 72 #[v, .func (.func g) #[] lb] w (Ret (.bool (xs.any p)) w) := by
  have hi := ints_idx enc p g lb eg v xs w hs hp
  rw [← fidx_any]
  obtain ⟨a, c, rfl, hl, hs⟩ := hs
  clear hp hs hl
  generalize fidx p xs = r at hi ⊢
  go_enter Try.func72, Try.ntmps72
  go_wp2_with (go_at_call 86; refine hi.mono ?_; rintro e w1 ⟨rfl, hb1⟩)
  go_ret
  exact ⟨rfl, hb1⟩

set_option maxRecDepth 100000 in
set_option maxHeartbeats 1000000 in
theorem gates_idx {α : Type} (enc : α → Value) (p : α → Bool) (g : Nat) (lb : Array Value) (eg : ∀ args w, (callFunc g args).run Try.prog w = .ok (.enter g args) w) (v : Value) (xs : List (α)) (w : World)
    (hs : Sl w 1 (fun x => [enc x]) v xs) (hp : ∀ W, Below w.heap.size w W → ∀ x, x ∈ xs → Calls Try.prog g (#[enc x] ++ lb) W (Ret (.bool (p x)) W)) :
    Calls Try.prog 94 #[v, .func (.func g) #[] lb] w (Ret (.int .i64 (fidx p xs)) w) := by
  obtain ⟨a, c, rfl, hl, hs⟩ := hs
  by_cases hne : xs = []
  · subst hne
    have e0 : fidx p ([] : List (α)) = -1 := rfl
    rw [e0]
    clear hs hp
    simp only [List.length_nil] at *
    go_enter Try.func94, Try.ntmps94
    go_wp2
    go_loopg [5, 8] 1 (fun gg _ s8 wr => s8 = .int .i64 0 ∧ wr = w)
    case atStart => exact ⟨rfl, rfl⟩
    case round =>
      obtain ⟨rfl, rfl⟩ := hrel
      go_wp2
      go_ret
      exact ⟨rfl, Below.refl _ _⟩
  · obtain ⟨b, off, rfl, hblt, hc⟩ := hs hne
    clear hs
    obtain ⟨n, hn⟩ : ∃ n, xs.length = n := ⟨_, rfl⟩
    have HN : Aside (xs.length = n) := hn
    rw [hn] at hl ⊢
    clear hn
    have HC : Aside (∀ j x, xs[j]? = some x → ∀ i y, ((fun x => [enc x]) x : List Value)[i]? = some y → w.cell? ⟨b, off + j * 1 + i, none⟩ = some y) := hc
    clear hc
    have HP : Aside (∀ W, Below w.heap.size w W → ∀ x, x ∈ xs → Calls Try.prog g (#[enc x] ++ lb) W (Ret (.bool (p x)) W)) := hp
    clear hp
    go_enter Try.func94, Try.ntmps94
    go_wp2
    go_loopg [5, 8] n (fun gg _ s8 wr => ∃ kk : Nat, kk ≤ n ∧ n - kk ≤ gg ∧ s8 = .int .i64 kk ∧ Aside (Below w.heap.size w wr) ∧ Aside (∀ j y, j < kk → xs[j]? = some y → p y = false))
    case atStart => exact ⟨0, Nat.zero_le _, by omega, rfl, Below.refl _ w, fun j y hj => absurd hj (Nat.not_lt_zero _)⟩
    case round =>
      obtain ⟨kk, hkk, hg, rfl, BW, A⟩ := hrel
      by_cases hlt : kk < n
      · have hltz : (kk : Int) < (n : Int) := by omega
        obtain ⟨x, hx⟩ : ∃ x, xs[kk]? = some x := ⟨_, List.getElem?_eq_getElem (by rw [HN.out]; exact hlt)⟩
        have hcell : wr.cell? ⟨b, off + kk, none⟩ = some (enc x) := keepc BW.out (by have := HC.out kk x hx 0 (enc x) rfl; simpa using this)
        have hcall := HP.out wr BW.out x (List.mem_of_getElem? hx)
        have HX : Aside (xs[kk]? = some x) := hx
        clear hx
        generalize hq : p x = q at hcall
        generalize enc x = y at hcell hcall
        have HQ : Aside (p x = q) := hq
        clear hq
        cases q with
        | true =>
          go_wp2_with (go_at_fn g; refine hcall.mono ?_; rintro e w' ⟨rfl, hb'⟩)
          go_ret
          refine ⟨?_, BW.out.trans (hb'.mono BW.out.size)⟩
          rw [fidx_hit p xs kk _ HX.out HQ.out A.out]
          rfl
        | false =>
          go_wp2_with (go_at_fn g; refine hcall.mono ?_; rintro e w' ⟨rfl, hb'⟩)
          go_roundg (n - (kk + 1))
          case measure => omega
          case rel =>
            refine ⟨kk + 1, by omega, by omega, by go_num, BW.out.trans (hb'.mono BW.out.size), (show Aside _ from fun j y hj hy => ?_)⟩
            by_cases e : j = kk
            · subst e
              have := HX.out.symm.trans hy
              cases this
              exact HQ.out
            · exact A.out j y (by omega) hy
      · have hltz : ¬ (kk : Int) < (n : Int) := by omega
        have : kk = n := by omega
        subst this
        go_wp2
        go_ret
        refine ⟨?_, BW.out⟩
        rw [fidx_miss p xs (fun j y hj hy => A.out j y (by rw [HN.out] at hj; exact hj) hy)]
        rfl

set_option maxRecDepth 100000 in
set_option maxHeartbeats 400000 in
theorem gates_any {α : Type} (enc : α → Value) (p : α → Bool) (g : Nat) (lb : Array Value) (eg : ∀ args w, (callFunc g args).run Try.prog w = .ok (.enter g args) w) (v : Value) (xs : List (α)) (w : World)
    (hs : Sl w 1 (fun x => [enc x]) v xs) (hp : ∀ W, Below w.heap.size w W → ∀ x, x ∈ xs → Calls Try.prog g (#[enc x] ++ lb) W (Ret (.bool (p x)) W)) :
    Calls Try.prog 82 #[v, .func (.func g) #[] lb] w (Ret (.bool (xs.any p)) w) := by
  have hi := gates_idx enc p g lb eg v xs w hs hp
  rw [← fidx_any]
  obtain ⟨a, c, rfl, hl, hs⟩ := hs
  clear hp hs hl
  generalize fidx p xs = r at hi ⊢
  go_enter Try.func82, Try.ntmps82
  go_wp2_with (go_at_call 94; refine hi.mono ?_; rintro e w1 ⟨rfl, hb1⟩)
  go_ret
  exact ⟨rfl, hb1⟩

set_option maxRecDepth 100000 in
set_option maxHeartbeats 1000000 in
theorem counts_idx (p : Cnt → Bool) (g : Nat) (lb : Array Value) (eg : ∀ args w, (callFunc g args).run Try.prog w = .ok (.enter g args) w) (v : Value) (xs : List (Cnt)) (w : World)
    (hs : Sl w 3 (encC) v xs) (hp : ∀ W, Below w.heap.size w W → ∀ x, x ∈ xs → Calls Try.prog g (#[cntV x] ++ lb) W (Ret (.bool (p x)) W)) :
    Calls Try.prog 73 #[v, .func (.func g) #[] lb] w (Ret (.int .i64 (fidx p xs)) w) := by
  obtain ⟨a, c, rfl, hl, hs⟩ := hs
  by_cases hne : xs = []
  · subst hne
    have e0 : fidx p ([] : List (Cnt)) = -1 := rfl
    rw [e0]
    clear hs hp
    simp only [List.length_nil] at *
    go_enter Try.func73, Try.ntmps73
    go_wp2
    go_loopg [5, 8] 1 (fun gg _ s8 wr => s8 = .int .i64 0 ∧ wr = w)
    case atStart => exact ⟨rfl, rfl⟩
    case round =>
      obtain ⟨rfl, rfl⟩ := hrel
      go_wp2
      go_ret
      exact ⟨rfl, Below.refl _ _⟩
  · obtain ⟨b, off, rfl, hblt, hc⟩ := hs hne
    clear hs
    obtain ⟨n, hn⟩ : ∃ n, xs.length = n := ⟨_, rfl⟩
    have HN : Aside (xs.length = n) := hn
    rw [hn] at hl ⊢
    clear hn
    have HC : Aside (∀ j x, xs[j]? = some x → ∀ i y, ((encC) x : List Value)[i]? = some y → w.cell? ⟨b, off + j * 3 + i, none⟩ = some y) := hc
    clear hc
    have HP : Aside (∀ W, Below w.heap.size w W → ∀ x, x ∈ xs → Calls Try.prog g (#[cntV x] ++ lb) W (Ret (.bool (p x)) W)) := hp
    clear hp
    go_enter Try.func73, Try.ntmps73
    go_wp2
    go_loopg [5, 8] n (fun gg _ s8 wr => ∃ kk : Nat, kk ≤ n ∧ n - kk ≤ gg ∧ s8 = .int .i64 kk ∧ Aside (Below w.heap.size w wr) ∧ Aside (∀ j y, j < kk → xs[j]? = some y → p y = false))
    case atStart => exact ⟨0, Nat.zero_le _, by omega, rfl, Below.refl _ w, fun j y hj => absurd hj (Nat.not_lt_zero _)⟩
    case round =>
      obtain ⟨kk, hkk, hg, rfl, BW, A⟩ := hrel
      by_cases hlt : kk < n
      · have hltz : (kk : Int) < (n : Int) := by omega
        obtain ⟨x, hx⟩ : ∃ x, xs[kk]? = some x := ⟨_, List.getElem?_eq_getElem (by rw [HN.out]; exact hlt)⟩
        have hcell0 : wr.cell? ⟨b, off + kk * 3, none⟩ = some (.int .i64 x.1) := keepc BW.out (by have := HC.out kk x hx 0 (.int .i64 x.1) rfl; simpa using this)
        have hcell1 : wr.cell? ⟨b, off + kk * 3 + 1, none⟩ = some (.int .i64 x.2.1) := keepc BW.out (by have := HC.out kk x hx 1 (.int .i64 x.2.1) rfl; simpa using this)
        have hcell2 : wr.cell? ⟨b, off + kk * 3 + 2, none⟩ = some (.int .i64 x.2.2) := keepc BW.out (by have := HC.out kk x hx 2 (.int .i64 x.2.2) rfl; simpa using this)
        have hcall := HP.out wr BW.out x (List.mem_of_getElem? hx)
        have HX : Aside (xs[kk]? = some x) := hx
        clear hx
        obtain ⟨x0, x1, x2⟩ := x
        unfold cntV at hcall
        simp only [] at hcell0 hcell1 hcell2 hcall
        generalize hq : p (x0, x1, x2) = q at hcall
        have HQ : Aside (p (x0, x1, x2) = q) := hq
        clear hq
        cases q with
        | true =>
          go_wp2_with (go_at_fn g; refine hcall.mono ?_; rintro e w' ⟨rfl, hb'⟩)
          go_ret
          refine ⟨?_, BW.out.trans (hb'.mono BW.out.size)⟩
          rw [fidx_hit p xs kk _ HX.out HQ.out A.out]
          rfl
        | false =>
          go_wp2_with (go_at_fn g; refine hcall.mono ?_; rintro e w' ⟨rfl, hb'⟩)
          go_roundg (n - (kk + 1))
          case measure => omega
          case rel =>
            refine ⟨kk + 1, by omega, by omega, by go_num, BW.out.trans (hb'.mono BW.out.size), (show Aside _ from fun j y hj hy => ?_)⟩
            by_cases e : j = kk
            · subst e
              have := HX.out.symm.trans hy
              cases this
              exact HQ.out
            · exact A.out j y (by omega) hy
      · have hltz : ¬ (kk : Int) < (n : Int) := by omega
        have : kk = n := by omega
        subst this
        go_wp2
        go_ret
        refine ⟨?_, BW.out⟩
        rw [fidx_miss p xs (fun j y hj hy => A.out j y (by rw [HN.out] at hj; exact hj) hy)]
        rfl

set_option maxRecDepth 100000 in
set_option maxHeartbeats 400000 in
theorem counts_any (p : Cnt → Bool) (g : Nat) (lb : Array Value) (eg : ∀ args w, (callFunc g args).run Try.prog w = .ok (.enter g args) w) (v : Value) (xs : List (Cnt)) (w : World)
    (hs : Sl w 3 (encC) v xs) (hp : ∀ W, Below w.heap.size w W → ∀ x, x ∈ xs → Calls Try.prog g (#[cntV x] ++ lb) W (Ret (.bool (p x)) W)) :
    Calls Try.prog 48 #[v, .func (.func g) #[] lb] w (Ret (.bool (xs.any p)) w) := by
  have hi := counts_idx p g lb eg v xs w hs hp
  rw [← fidx_any]
  obtain ⟨a, c, rfl, hl, hs⟩ := hs
  clear hp hs hl
  generalize fidx p xs = r at hi ⊢
  go_enter Try.func48, Try.ntmps48
  go_wp2_with (go_at_call 73; refine hi.mono ?_; rintro e w1 ⟨rfl, hb1⟩)
  go_ret
  exact ⟨rfl, hb1⟩

set_option maxRecDepth 100000 in
set_option maxHeartbeats 1000000 in
theorem offs_idx (p : Int × Int → Bool) (g : Nat) (lb : Array Value) (eg : ∀ args w, (callFunc g args).run Try.prog w = .ok (.enter g args) w) (v : Value) (xs : List (Int × Int)) (w : World)
    (hs : Sl w 2 (encP) v xs) (hp : ∀ W, Below w.heap.size w W → ∀ x, x ∈ xs → Calls Try.prog g (#[pt x] ++ lb) W (Ret (.bool (p x)) W)) :
    Calls Try.prog 77 #[v, .func (.func g) #[] lb] w (Ret (.int .i64 (fidx p xs)) w) := by
  obtain ⟨a, c, rfl, hl, hs⟩ := hs
  by_cases hne : xs = []
  · subst hne
    have e0 : fidx p ([] : List (Int × Int)) = -1 := rfl
    rw [e0]
    clear hs hp
    simp only [List.length_nil] at *
    go_enter Try.func77, Try.ntmps77
    go_wp2
    go_loopg [5, 8] 1 (fun gg _ s8 wr => s8 = .int .i64 0 ∧ wr = w)
    case atStart => exact ⟨rfl, rfl⟩
    case round =>
      obtain ⟨rfl, rfl⟩ := hrel
      go_wp2
      go_ret
      exact ⟨rfl, Below.refl _ _⟩
  · obtain ⟨b, off, rfl, hblt, hc⟩ := hs hne
    clear hs
    obtain ⟨n, hn⟩ : ∃ n, xs.length = n := ⟨_, rfl⟩
    have HN : Aside (xs.length = n) := hn
    rw [hn] at hl ⊢
    clear hn
    have HC : Aside (∀ j x, xs[j]? = some x → ∀ i y, ((encP) x : List Value)[i]? = some y → w.cell? ⟨b, off + j * 2 + i, none⟩ = some y) := hc
    clear hc
    have HP : Aside (∀ W, Below w.heap.size w W → ∀ x, x ∈ xs → Calls Try.prog g (#[pt x] ++ lb) W (Ret (.bool (p x)) W)) := hp
    clear hp
    go_enter Try.func77, Try.ntmps77
    go_wp2
    go_loopg [5, 8] n (fun gg _ s8 wr => ∃ kk : Nat, kk ≤ n ∧ n - kk ≤ gg ∧ s8 = .int .i64 kk ∧ Aside (Below w.heap.size w wr) ∧ Aside (∀ j y, j < kk → xs[j]? = some y → p y = false))
    case atStart => exact ⟨0, Nat.zero_le _, by omega, rfl, Below.refl _ w, fun j y hj => absurd hj (Nat.not_lt_zero _)⟩
    case round =>
      obtain ⟨kk, hkk, hg, rfl, BW, A⟩ := hrel
      by_cases hlt : kk < n
      · have hltz : (kk : Int) < (n : Int) := by omega
        obtain ⟨x, hx⟩ : ∃ x, xs[kk]? = some x := ⟨_, List.getElem?_eq_getElem (by rw [HN.out]; exact hlt)⟩
        have hcell0 : wr.cell? ⟨b, off + kk * 2, none⟩ = some (.int .i64 x.1) := keepc BW.out (by have := HC.out kk x hx 0 (.int .i64 x.1) rfl; simpa using this)
        have hcell1 : wr.cell? ⟨b, off + kk * 2 + 1, none⟩ = some (.int .i64 x.2) := keepc BW.out (by have := HC.out kk x hx 1 (.int .i64 x.2) rfl; simpa using this)
        have hcall := HP.out wr BW.out x (List.mem_of_getElem? hx)
        have HX : Aside (xs[kk]? = some x) := hx
        clear hx
        obtain ⟨x0, x1⟩ := x
        unfold pt at hcall
        simp only [] at hcell0 hcell1 hcall
        generalize hq : p (x0, x1) = q at hcall
        have HQ : Aside (p (x0, x1) = q) := hq
        clear hq
        cases q with
        | true =>
          go_wp2_with (go_at_fn g; refine hcall.mono ?_; rintro e w' ⟨rfl, hb'⟩)
          go_ret
          refine ⟨?_, BW.out.trans (hb'.mono BW.out.size)⟩
          rw [fidx_hit p xs kk _ HX.out HQ.out A.out]
          rfl
        | false =>
          go_wp2_with (go_at_fn g; refine hcall.mono ?_; rintro e w' ⟨rfl, hb'⟩)
          go_roundg (n - (kk + 1))
          case measure => omega
          case rel =>
            refine ⟨kk + 1, by omega, by omega, by go_num, BW.out.trans (hb'.mono BW.out.size), (show Aside _ from fun j y hj hy => ?_)⟩
            by_cases e : j = kk
            · subst e
              have := HX.out.symm.trans hy
              cases this
              exact HQ.out
            · exact A.out j y (by omega) hy
      · have hltz : ¬ (kk : Int) < (n : Int) := by omega
        have : kk = n := by omega
        subst this
        go_wp2
        go_ret
        refine ⟨?_, BW.out⟩
        rw [fidx_miss p xs (fun j y hj hy => A.out j y (by rw [HN.out] at hj; exact hj) hy)]
        rfl

set_option maxRecDepth 100000 in
set_option maxHeartbeats 400000 in
theorem offs_any (p : Int × Int → Bool) (g : Nat) (lb : Array Value) (eg : ∀ args w, (callFunc g args).run Try.prog w = .ok (.enter g args) w) (v : Value) (xs : List (Int × Int)) (w : World)
    (hs : Sl w 2 (encP) v xs) (hp : ∀ W, Below w.heap.size w W → ∀ x, x ∈ xs → Calls Try.prog g (#[pt x] ++ lb) W (Ret (.bool (p x)) W)) :
    Calls Try.prog 55 #[v, .func (.func g) #[] lb] w (Ret (.bool (xs.any p)) w) := by
  have hi := offs_idx p g lb eg v xs w hs hp
  rw [← fidx_any]
  obtain ⟨a, c, rfl, hl, hs⟩ := hs
  clear hp hs hl
  generalize fidx p xs = r at hi ⊢
  go_enter Try.func55, Try.ntmps55
  go_wp2_with (go_at_call 77; refine hi.mono ?_; rintro e w1 ⟨rfl, hb1⟩)
  go_ret
  exact ⟨rfl, hb1⟩

end Go.Proofs.Ythcgbceapabikaa
