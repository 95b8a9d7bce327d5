/- Board, part Ya: the statements' sums and greatest ones; the wear after a week. -/
import Derived.Test.YtifabfbnjnjhlaaUc
import Derived.Test.YtifabfbnjnjhlaaO
set_option linter.unusedVariables false
set_option linter.unusedSimpArgs false
namespace Go.Proofs.Ytifabfbnjnjhlaa
open Go.RowKit Go.Shelf

theorem sum_take_succ (xs : List Int) (k : Nat) (x : Int) (hx : xs[k]? = some x) : (xs.take (k + 1)).sum = (xs.take k).sum + x := by
  obtain ⟨hk, e⟩ := List.getElem?_eq_some_iff.1 hx
  rw [List.take_succ_eq_append_getElem hk, e]; simp
theorem sum_bd (B : Int) (hB : 0 ≤ B) : ∀ xs : List Int, (∀ x ∈ xs, 0 ≤ x ∧ x ≤ B) → 0 ≤ xs.sum ∧ xs.sum ≤ B * xs.length
  | [], _ => by simp
  | x :: xs, h => by
    have h1 := h x (by simp)
    have h2 := sum_bd B hB xs (fun y hy => h y (by simp [hy]))
    rw [List.sum_cons, List.length_cons]
    have : B * ((xs.length + 1 : Nat) : Int) = B * (xs.length : Int) + B := by
      rw [show ((xs.length + 1 : Nat) : Int) = (xs.length : Int) + 1 by omega, Int.mul_add, Int.mul_one]
    omega

/-- Some of them from 0 on, the greatest. -/
def m0 (xs : List Int) : Int := xs.foldl max 0
theorem m0_take_succ (xs : List Int) (k : Nat) (x : Int) (hx : xs[k]? = some x) : m0 (xs.take (k + 1)) = max (m0 (xs.take k)) x := by
  obtain ⟨hk, e⟩ := List.getElem?_eq_some_iff.1 hx
  unfold m0
  rw [List.take_succ_eq_append_getElem hk, e, List.foldl_append]; rfl
theorem m0_mx (xs : List Int) (hne : xs ≠ []) (h : ∀ x ∈ xs, 0 ≤ x) : m0 xs = mx xs := by
  cases xs with
  | nil => exact absurd rfl hne
  | cons x xs =>
    have := h x (by simp)
    unfold m0 mx
    rw [List.foldl_cons, show max 0 x = x by omega]

set_option maxHeartbeats 1000000 in
theorem sum_any (v : Value) (xs : List Int) (w : World) (hs : Sl w 1 eI v xs) (h : ∀ x ∈ xs, 0 ≤ x ∧ x ≤ 1000000000000) (hl : xs.length ≤ 1000) :
    Calls Try.prog 25 #[v] w (Ret (.int .i64 xs.sum) w) := by
  have HB : Aside (∀ k, 0 ≤ (xs.take k).sum ∧ (xs.take k).sum ≤ 1000000000000000) := by
    intro k
    have := sum_bd 1000000000000 (by omega) (xs.take k) (fun x hx => h x (List.mem_of_mem_take hx))
    have hl2 : (xs.take k).length ≤ 1000 := by rw [List.length_take]; omega
    omega
  have HX : Aside (∀ x ∈ xs, 0 ≤ x ∧ x ≤ 1000000000000) := h
  obtain ⟨a, c, rfl, hl2, hs⟩ := hs
  have HC : Aside (∀ j x, xs[j]? = some x → ∃ b off, a = some ⟨b, off, none⟩ ∧ w.cell? ⟨b, off + j, none⟩ = some (.int .i64 x)) := by
    intro j x hx
    obtain ⟨b, off, ha, _, hc⟩ := hs (by intro e; rw [e] at hx; simp at hx)
    exact ⟨b, off, ha, by have := hc j x hx 0 (.int .i64 x) rfl; simpa using this⟩
  have HS : Aside (∀ k x, xs[k]? = some x → (xs.take (k + 1)).sum = (xs.take k).sum + x) := sum_take_succ xs
  have HE : Aside (xs.sum = (xs.take xs.length).sum) := by show _ = _; rw [List.take_length]
  rw [HE.out]
  clear h hs
  obtain ⟨n, hn⟩ : ∃ n, xs.length = n := ⟨_, rfl⟩
  have HN : Aside (xs.length = n) := hn
  rw [hn] at hl hl2 ⊢
  clear hn HE
  go_enter Try.func25, Try.ntmps25
  go_wp2_with fail
  go_loopg [3, 4] n (fun gg m i wr => ∃ k : Nat, k ≤ n ∧ n - k ≤ gg ∧ i = .int .i64 k ∧ m = .int .i64 (xs.take k).sum ∧ wr = w)
  case atStart => exact ⟨0, by omega, by omega, rfl, rfl, rfl⟩
  case round =>
    obtain ⟨k, hk, hg, rfl, rfl, rfl⟩ := hrel
    by_cases hlt : k < n
    · have hltz : (k : Int) < (n : Int) := by omega
      obtain ⟨x, hx⟩ : ∃ x, xs[k]? = some x := ⟨_, List.getElem?_eq_getElem (by rw [HN.out]; exact hlt)⟩
      obtain ⟨b, off, rfl, kx⟩ := HC.out k x hx
      have HM : Aside _ := HS.out k x hx
      obtain ⟨u1, u2⟩ := HX.out x (List.mem_of_getElem? hx)
      obtain ⟨u3, u4⟩ := HB.out k
      clear hx
      generalize (xs.take k).sum = m at *
      go_wp2
      go_roundg (n - (k + 1))
      case measure => omega
      case rel => exact ⟨k + 1, by omega, by omega, by go_num, by rw [HM.out], rfl⟩
    · have : k = n := by omega
      subst this
      have hltz : ¬ (k : Int) < (k : Int) := by omega
      go_wp2
      go_ret
      exact ⟨rfl, Below.refl _ _⟩

set_option maxHeartbeats 1000000 in
theorem most_any (v : Value) (xs : List Int) (w : World) (hs : Sl w 1 eI v xs) :
    Calls Try.prog 24 #[v] w (Ret (.int .i64 (m0 xs)) w) := by
  obtain ⟨a, c, rfl, hl2, hs⟩ := hs
  have HC : Aside (∀ j x, xs[j]? = some x → ∃ b off, a = some ⟨b, off, none⟩ ∧ w.cell? ⟨b, off + j, none⟩ = some (.int .i64 x)) := by
    intro j x hx
    obtain ⟨b, off, ha, _, hc⟩ := hs (by intro e; rw [e] at hx; simp at hx)
    exact ⟨b, off, ha, by have := hc j x hx 0 (.int .i64 x) rfl; simpa using this⟩
  have HS : Aside (∀ k x, xs[k]? = some x → m0 (xs.take (k + 1)) = max (m0 (xs.take k)) x) := m0_take_succ xs
  have HE : Aside (m0 xs = m0 (xs.take xs.length)) := by show _ = _; rw [List.take_length]
  rw [HE.out]
  clear hs
  obtain ⟨n, hn⟩ : ∃ n, xs.length = n := ⟨_, rfl⟩
  have HN : Aside (xs.length = n) := hn
  rw [hn] at hl2 ⊢
  clear hn HE
  go_enter Try.func24, Try.ntmps24
  go_wp2_with fail
  go_loopg [3, 4] n (fun gg m i wr => ∃ k : Nat, k ≤ n ∧ n - k ≤ gg ∧ i = .int .i64 k ∧ m = .int .i64 (m0 (xs.take k)) ∧ wr = w)
  case atStart => exact ⟨0, by omega, by omega, rfl, rfl, rfl⟩
  case round =>
    obtain ⟨k, hk, hg, rfl, rfl, rfl⟩ := hrel
    by_cases hlt : k < n
    · have hltz : (k : Int) < (n : Int) := by omega
      obtain ⟨x, hx⟩ : ∃ x, xs[k]? = some x := ⟨_, List.getElem?_eq_getElem (by rw [HN.out]; exact hlt)⟩
      obtain ⟨b, off, rfl, kx⟩ := HC.out k x hx
      have HM : Aside _ := HS.out k x hx
      clear hx
      generalize m0 (xs.take k) = m at *
      go_wp2
      go_roundg (n - (k + 1))
      case measure => omega
      case rel => exact ⟨k + 1, by omega, by omega, by go_num, by rw [HM.out], rfl⟩
    · have : k = n := by omega
      subst this
      have hltz : ¬ (k : Int) < (k : Int) := by omega
      go_wp2
      go_ret
      exact ⟨rfl, Below.refl _ _⟩

theorem sl_week (W : World) (g : Nat) (hg : g = W.heap.size) (t : TypeId) (v : Value) (xs : List Int) : Sl (W.alloc (.cells #[v] t)) 1 eR (.slice (some ⟨g, 0, none⟩) 1 1) [(v, xs)] := by
  subst hg
  refine ⟨_, _, rfl, by simp, fun _ => ⟨W.heap.size, 0, rfl, by simp, ?_⟩⟩
  intro j x hx i y hy
  match j, hx with
  | 0, hx =>
    simp at hx; subst hx
    match i, hy with
    | 0, hy => simp at hy; subst hy; go_simp
    | i + 1, hy => simp at hy
  | j + 1, hx => simp at hx

/-- What Wear leaves. -/
def WearOk (xs : List Int) (w : World) (e : Ending) (w' : World) : Prop := ∃ v, e = .returned (.tuple #[v, .int .i64 0]) ∧ Sl w' 1 eI v xs ∧ Below w.heap.size w w'
set_option maxRecDepth 100000 in
set_option maxHeartbeats 4000000 in
theorem Wear_ok (vb v vk : Value) (b : Brd) (worn week : List Int) (k : Nat) (w : World) (h : BrdAt w vb b) (hw : Sl w 1 eI v worn) (hk : Sl w 1 eI vk week)
    (hc : chk b = 0) (he : wErr b.nums.length worn [(vk, week)] = 0) (hkn : k < worn.length) (hM : mx (aft worn week k) ≤ 1000000000) :
    Calls Try.prog 19 #[vb, v, vk, .int .i64 k] w (WearOk (aft worn week k) w) := by
  have g := good_of_chk hc
  obtain ⟨e1, e2, e3, e4⟩ := wErr_ok he
  have e5 := e2 _ (List.mem_cons_self ..)
  have e6 := e4 _ (List.mem_cons_self ..)
  simp only [] at e5 e6
  have gl := g.len
  have x1 := fun W (hW : Below w.heap.size w W) => check_any vb b W (h.below hW)
  have x2 := fun W (hW : Below w.heap.size w W) (vs : Value) (hv : Sl W 1 eR vs [(vk, week)]) => wearError_any (b.nums.length : Int) v worn vs [(vk, week)] W (hw.below hW) hv (fun x hm => by simp at hm; subst hm; exact hk.below hW)
  have x3 := fun W (hW : Below w.heap.size w W) (vs : Value) (hv : Sl W 1 eI vs [(k : Int)]) => within_any 0 ((worn.length : Int) - 1) vs [(k : Int)] W hv
  have x4 := fun W (hW : Below w.heap.size w W) => after_any v vk worn week k W (hw.below hW) (hk.below hW) (by omega) (by omega) (by omega) (fun x hx => by have := e3 x hx; omega) (fun x hx => by have := e6 x hx; omega)
  have x5 := fun W (vs : Value) (hv : Sl W 1 eI vs (aft worn week k)) => max_any vs _ W hv (by intro e; have := congrArg List.length e; rw [aft_length, List.length_nil] at this; omega)
  rw [hc] at x1
  rw [he] at x2
  have hin : ([(k : Int)].all (inb 0 ((worn.length : Int) - 1))) = true := by unfold inb; simp; omega
  rw [hin] at x3
  unfold RetRow at x4
  unfold WearOk
  rw [aft_length] at x4
  obtain ⟨M, hMM⟩ : ∃ M, mx (aft worn week k) = M := ⟨_, rfl⟩
  rw [hMM] at x5 hM
  obtain ⟨vr, vl, vn, rfl, hr, hl, hn⟩ := h
  obtain ⟨ar, cr, rfl, lr, _⟩ := hr
  obtain ⟨al, cl, rfl, ll, _⟩ := hl
  obtain ⟨an, cn, rfl, ln, _⟩ := hn
  obtain ⟨a, c, rfl, l1, _⟩ := hw
  obtain ⟨a2, c2, rfl, l2, _⟩ := hk
  have HAL : Aside ((aft worn week k).length = week.length) := aft_length _ _ _
  generalize aft worn week k = A at *
  generalize worn.length = lw at *
  generalize week.length = lk at *
  generalize b.rings.length = lenr at *
  generalize b.lines.length = lenl at *
  generalize b.nums.length = lenn at *
  clear hMM e2 e3 e4 e6 hin g he hc
  subst e1
  subst e5
  have hk1 : 1 ≤ (lk : Int) := by omega
  go_enter Try.func19, Try.ntmps19
  go_wp2_with (first | (go_at_call 13; (with_reducible refine (x1 _ ?hh).mono ?_); (case hh => (repeat' (first | exact Below.refl _ _ | assumption | (with_reducible refine Below.drew ?_) | (with_reducible refine Below.setCell ?_ (by (first | (simp; done) | (simp; omega))) _) | (with_reducible refine below_drewN' ?_ _) | (refine Below.alloc ?_ (by (try simp only [World.size_alloc, World.size_drew, World.size_setCell]); omega) _) | (refine Below.trans ?_ (Below.mono (by assumption) (by (try simp only [World.size_alloc, World.size_drew, World.size_setCell]); omega)))))); rintro e w1 ⟨rfl, hb1⟩; (obtain ⟨hc1, hf1⟩ := bcell hb1; have z1 := hb1.size; (try simp only [World.size_alloc, World.size_drew, World.size_setCell] at z1); (try have q1a : w.heap.size < w1.heap.size := by omega); (try have q1b : w.heap.size + 1 < w1.heap.size := by omega); (try have q1c : w.heap.size + 1 + 1 < w1.heap.size := by omega); (try have q1d : w.heap.size + 1 + 1 + 1 < w1.heap.size := by omega); (try have q1e : wr.heap.size < w1.heap.size := by omega); (try have q1f : wr.heap.size + 1 < w1.heap.size := by omega))) | (go_at_call 46; (with_reducible refine (x2 _ ?hh _ (sl_week _ _ rfl _ _ _)).mono ?_); (case hh => (repeat' (first | exact Below.refl _ _ | assumption | (with_reducible refine Below.drew ?_) | (with_reducible refine Below.setCell ?_ (by (first | (simp; done) | (simp; omega))) _) | (with_reducible refine below_drewN' ?_ _) | (refine Below.alloc ?_ (by (try simp only [World.size_alloc, World.size_drew, World.size_setCell]); omega) _) | (refine Below.trans ?_ (Below.mono (by assumption) (by (try simp only [World.size_alloc, World.size_drew, World.size_setCell]); omega)))))); rintro e w2 ⟨rfl, hb2⟩; (obtain ⟨hc2, hf2⟩ := bcell hb2; have z2 := hb2.size; (try simp only [World.size_alloc, World.size_drew, World.size_setCell] at z2); (try have q2a : w.heap.size < w2.heap.size := by omega); (try have q2b : w.heap.size + 1 < w2.heap.size := by omega); (try have q2c : w.heap.size + 1 + 1 < w2.heap.size := by omega); (try have q2d : w.heap.size + 1 + 1 + 1 < w2.heap.size := by omega); (try have q2e : wr.heap.size < w2.heap.size := by omega); (try have q2f : wr.heap.size + 1 < w2.heap.size := by omega); (try have q2g : w1.heap.size < w2.heap.size := by omega); (try have q2h : w1.heap.size + 1 < w2.heap.size := by omega))) | (go_at_call 41; (with_reducible refine (x3 _ ?hh _ (sl_one _ _ rfl _ _)).mono ?_); (case hh => (repeat' (first | exact Below.refl _ _ | assumption | (with_reducible refine Below.drew ?_) | (with_reducible refine Below.setCell ?_ (by (first | (simp; done) | (simp; omega))) _) | (with_reducible refine below_drewN' ?_ _) | (refine Below.alloc ?_ (by (try simp only [World.size_alloc, World.size_drew, World.size_setCell]); omega) _) | (refine Below.trans ?_ (Below.mono (by assumption) (by (try simp only [World.size_alloc, World.size_drew, World.size_setCell]); omega)))))); rintro e w3 ⟨rfl, hb3⟩; (obtain ⟨hc3, hf3⟩ := bcell hb3; have z3 := hb3.size; (try simp only [World.size_alloc, World.size_drew, World.size_setCell] at z3); (try have q3a : w.heap.size < w3.heap.size := by omega); (try have q3b : w.heap.size + 1 < w3.heap.size := by omega); (try have q3c : w.heap.size + 1 + 1 < w3.heap.size := by omega); (try have q3d : w.heap.size + 1 + 1 + 1 < w3.heap.size := by omega); (try have q3e : wr.heap.size < w3.heap.size := by omega); (try have q3f : wr.heap.size + 1 < w3.heap.size := by omega); (try have q3g : w2.heap.size < w3.heap.size := by omega); (try have q3h : w2.heap.size + 1 < w3.heap.size := by omega))) | (go_at_call 47; (with_reducible refine (x4 _ ?hh).mono ?_); (case hh => (repeat' (first | exact Below.refl _ _ | assumption | (with_reducible refine Below.drew ?_) | (with_reducible refine Below.setCell ?_ (by (first | (simp; done) | (simp; omega))) _) | (with_reducible refine below_drewN' ?_ _) | (refine Below.alloc ?_ (by (try simp only [World.size_alloc, World.size_drew, World.size_setCell]); omega) _) | (refine Below.trans ?_ (Below.mono (by assumption) (by (try simp only [World.size_alloc, World.size_drew, World.size_setCell]); omega)))))); rintro e w4 ⟨g4, rfl, hg4, hown, hb4⟩; have S4 : Aside (Sl w4 1 eI (.slice (some ⟨g4, 0, none⟩) lk lk) A) := sl_of_ints' (by rw [HAL.out]; omega) hown HAL.out.symm; clear hown; (obtain ⟨hc4, hf4⟩ := bcell hb4; have z4 := hb4.size; (try simp only [World.size_alloc, World.size_drew, World.size_setCell] at z4); (try have q4a : w.heap.size < w4.heap.size := by omega); (try have q4b : w.heap.size + 1 < w4.heap.size := by omega); (try have q4c : w.heap.size + 1 + 1 < w4.heap.size := by omega); (try have q4d : w.heap.size + 1 + 1 + 1 < w4.heap.size := by omega); (try have q4e : wr.heap.size < w4.heap.size := by omega); (try have q4f : wr.heap.size + 1 < w4.heap.size := by omega); (try have q4g : w3.heap.size < w4.heap.size := by omega); (try have q4h : w3.heap.size + 1 < w4.heap.size := by omega))) | (go_at_call 48; (with_reducible refine (x5 _ _ S4.out).mono ?_); rintro e w5 ⟨rfl, hb5⟩; (obtain ⟨hc5, hf5⟩ := bcell hb5; have z5 := hb5.size; (try simp only [World.size_alloc, World.size_drew, World.size_setCell] at z5); (try have q5a : w.heap.size < w5.heap.size := by omega); (try have q5b : w.heap.size + 1 < w5.heap.size := by omega); (try have q5c : w.heap.size + 1 + 1 < w5.heap.size := by omega); (try have q5d : w.heap.size + 1 + 1 + 1 < w5.heap.size := by omega); (try have q5e : wr.heap.size < w5.heap.size := by omega); (try have q5f : wr.heap.size + 1 < w5.heap.size := by omega); (try have q5g : w4.heap.size < w5.heap.size := by omega); (try have q5h : w4.heap.size + 1 < w5.heap.size := by omega))))
  go_ret2
  exact ⟨_, rfl, Sl.below S4.out hb5, by (repeat' (first | exact Below.refl _ _ | assumption | (with_reducible refine Below.drew ?_) | (with_reducible refine Below.setCell ?_ (by (first | (simp; done) | (simp; omega))) _) | (with_reducible refine below_drewN' ?_ _) | (refine Below.alloc ?_ (by (try simp only [World.size_alloc, World.size_drew, World.size_setCell]); omega) _) | (refine Below.trans ?_ (Below.mono (by assumption) (by (try simp only [World.size_alloc, World.size_drew, World.size_setCell]); omega)))))⟩
end Go.Proofs.Ytifabfbnjnjhlaa
