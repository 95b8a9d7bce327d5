/- Leg, part L: the least of some numbers; numbers of players; a bed in a list; how far a dart is, and whether it is wrong. -/
import Derived.Test.YthcgbceapabikaaE
import Derived.Laws.OwnMore
import Derived.Maps.AppendAt
set_option linter.unusedVariables false
set_option linter.unusedSimpArgs false
namespace Go.Proofs.Ythcgbceapabikaa
open Go.RowKit Go.Shelf

/-- The least of some numbers. -/
def mn : List Int → Int
  | [] => 0
  | x :: xs => xs.foldl min x
theorem mn_snoc (xs : List Int) (y : Int) (h : xs ≠ []) : mn (xs ++ [y]) = min (mn xs) y := by
  cases xs with
  | nil => exact absurd rfl h
  | cons x xs => simp [mn, List.foldl_append]

set_option maxRecDepth 100000 in
set_option maxHeartbeats 1000000 in
theorem min_any (v : Value) (xs : List Int) (w : World) (hs : Sl w 1 (eI) v xs) (hne : xs ≠ []) :
    Calls Try.prog 90 #[v] w (Ret (.int .i64 (mn xs)) w) := by
  obtain ⟨a, c, rfl, hl, hs⟩ := hs
  obtain ⟨b, off, rfl, hb, hc⟩ := hs hne
  clear hs
  have hpos : 0 < xs.length := List.length_pos_iff.2 hne
  have HC : Aside (∀ j x, xs[j]? = some x → w.cell? ⟨b, off + j, none⟩ = some (.int .i64 x)) := fun j x hx => by have := hc j x hx 0 (.int .i64 x) rfl; simpa using this
  clear hc hne
  obtain ⟨n, hn⟩ : ∃ n, xs.length = n := ⟨_, rfl⟩
  have HN : Aside (xs.length = n) := hn
  rw [hn] at hl hpos ⊢
  have HE : Aside (mn xs = mn (xs.take n)) := by show _ = _; rw [← hn, List.take_length]
  rw [HE.out]
  clear hn
  obtain ⟨x0, hx0⟩ : ∃ x, xs[0]? = some x := ⟨_, List.getElem?_eq_getElem (by rw [HN.out]; exact hpos)⟩
  have k0 : w.cell? ⟨b, off, none⟩ = some (.int .i64 x0) := by have := HC.out 0 x0 hx0; simpa using this
  have H1 : Aside (mn (xs.take 1) = x0) := by
    show _ = _
    cases xs with
    | nil => simp at hx0
    | cons y ys => simp at hx0; simp [mn, hx0]
  clear hx0
  have hz1 : ¬ ((n : Int) < 1) := by omega
  have hz0 : (0 : Int) < (n : Int) := by omega
  go_enter Try.func90, Try.ntmps90
  go_wp2
  go_loopg [3, 4] n (fun gg m i wr => ∃ k : Nat, 1 ≤ k ∧ k ≤ n ∧ n - k ≤ gg ∧ i = .int .i64 k ∧ m = .int .i64 (mn (xs.take k)) ∧ wr = w)
  case atStart => exact ⟨1, by omega, by omega, by omega, rfl, by rw [H1.out], rfl⟩
  case round =>
    obtain ⟨k, hk1, hk, hg, rfl, rfl, rfl⟩ := hrel
    by_cases hlt : k < n
    · have hltz : (k : Int) < (n : Int) := by omega
      obtain ⟨x, hx⟩ : ∃ x, xs[k]? = some x := ⟨_, List.getElem?_eq_getElem (by rw [HN.out]; exact hlt)⟩
      have kx := HC.out k x hx
      have HM : Aside (mn (xs.take (k + 1)) = min (mn (xs.take k)) x) := by
        show _ = _
        obtain ⟨hk', e⟩ := List.getElem?_eq_some_iff.1 hx
        rw [List.take_succ_eq_append_getElem hk', e]
        exact mn_snoc _ _ (by intro e0; have := congrArg List.length e0; have := HN.out; simp only [List.length_take, List.length_nil] at *; omega)
      clear hx
      generalize mn (xs.take k) = m at *
      go_wp2
      go_roundg (n - (k + 1))
      case measure => omega
      case rel => exact ⟨k + 1, by omega, by omega, by omega, by go_num, by rw [HM.out], rfl⟩
    · have : k = n := by omega
      subst this
      have hltz : ¬ (k : Int) < (k : Int) := by omega
      go_wp2
      go_ret
      exact ⟨rfl, Below.refl _ _⟩


/-- How far a dart at the bull is: the less the better. -/
def distF (d : Int × Int) : Int := if d.1 = 225 then -2 else if d.1 = 125 then -1 else if d.1 = 0 then 10001 else d.2
def offOk (d : Int × Int) : Bool := vbed d.1 && inb 0 10000 d.2

set_option maxRecDepth 100000 in
set_option maxHeartbeats 2000000 in
theorem wrongOff_any (d : Int × Int) (w : World) (h1 : -9223372036854775808 ≤ d.1) (h2 : d.1 ≤ 9223372036854775807) :
    Calls Try.prog 56 #[pt d] w (Ret (.bool (!offOk d)) w) := by
  have x1 := fun W => valid_any d.1 W h1 h2
  have y1 := fun W k hk t => within_any 0 10000 _ [d.2] _ (sl_one W k hk t d.2)
  simp only [List.all_cons, List.all_nil, Bool.and_true] at y1
  obtain ⟨b, f⟩ := d
  unfold offOk
  unfold hitV at x1
  unfold pt
  simp only [] at *
  generalize vbed b = r1 at *
  generalize inb 0 10000 f = r2 at *
  cases r1 with
  | false =>
    rw [Bool.false_and, Bool.not_false]
    go_enter Try.func56, Try.ntmps56
    go_wp2_with (go_at_call 69; (with_reducible refine (x1 _).mono ?_); rintro e w1 ⟨rfl, hb1⟩; (obtain ⟨hc1, hf1⟩ := bcell hb1; have z1 := hb1.size; (try simp only [World.size_alloc, World.size_drew, World.size_setCell] at z1); (try have q1a : w.heap.size < w1.heap.size := by omega); (try have q1b : w.heap.size + 1 < w1.heap.size := by omega); (try have q1c : w.heap.size + 1 + 1 < w1.heap.size := by omega); (try have q1d : w.heap.size + 1 + 1 + 1 < w1.heap.size := by omega); (try have q1e : wr.heap.size < w1.heap.size := by omega); (try have q1f : wr.heap.size + 1 < w1.heap.size := by omega)))
    go_ret
    exact ⟨rfl, by (repeat' (first | exact Below.refl _ _ | assumption | (with_reducible refine Below.drew ?_) | (with_reducible refine Below.setCell ?_ (by (first | (simp; done) | (simp; omega))) _) | (with_reducible refine below_drewN' ?_ _) | (refine Below.alloc ?_ (by (try simp only [World.size_alloc, World.size_drew, World.size_setCell]); omega) _) | (refine Below.trans ?_ (Below.mono (by assumption) (by (try simp only [World.size_alloc, World.size_drew, World.size_setCell]); omega)))))⟩
  | true =>
    rw [Bool.true_and]
    go_enter Try.func56, Try.ntmps56
    go_wp2_with (first | (go_at_call 69; (with_reducible refine (x1 _).mono ?_); rintro e w1 ⟨rfl, hb1⟩; (obtain ⟨hc1, hf1⟩ := bcell hb1; have z1 := hb1.size; (try simp only [World.size_alloc, World.size_drew, World.size_setCell] at z1); (try have q1a : w.heap.size < w1.heap.size := by omega); (try have q1b : w.heap.size + 1 < w1.heap.size := by omega); (try have q1c : w.heap.size + 1 + 1 < w1.heap.size := by omega); (try have q1d : w.heap.size + 1 + 1 + 1 < w1.heap.size := by omega); (try have q1e : wr.heap.size < w1.heap.size := by omega); (try have q1f : wr.heap.size + 1 < w1.heap.size := by omega))) | (go_at_call 47; (with_reducible refine (y1 _ _ (by simp) _).mono ?_); rintro e w2 ⟨rfl, hb2⟩; (obtain ⟨hc2, hf2⟩ := bcell hb2; have z2 := hb2.size; (try simp only [World.size_alloc, World.size_drew, World.size_setCell] at z2); (try have q2a : w.heap.size < w2.heap.size := by omega); (try have q2b : w.heap.size + 1 < w2.heap.size := by omega); (try have q2c : w.heap.size + 1 + 1 < w2.heap.size := by omega); (try have q2d : w.heap.size + 1 + 1 + 1 < w2.heap.size := by omega); (try have q2e : wr.heap.size < w2.heap.size := by omega); (try have q2f : wr.heap.size + 1 < w2.heap.size := by omega); (try have q2g : w1.heap.size < w2.heap.size := by omega); (try have q2h : w1.heap.size + 1 < w2.heap.size := by omega))))
    go_ret
    exact ⟨rfl, by (repeat' (first | exact Below.refl _ _ | assumption | (with_reducible refine Below.drew ?_) | (with_reducible refine Below.setCell ?_ (by (first | (simp; done) | (simp; omega))) _) | (with_reducible refine below_drewN' ?_ _) | (refine Below.alloc ?_ (by (try simp only [World.size_alloc, World.size_drew, World.size_setCell]); omega) _) | (refine Below.trans ?_ (Below.mono (by assumption) (by (try simp only [World.size_alloc, World.size_drew, World.size_setCell]); omega)))))⟩

/-- The place of a bed among two. -/
def twoIdx (a b x : Int) : Int := if x = a then 0 else if x = b then 1 else -1

set_option maxRecDepth 100000 in
set_option maxHeartbeats 2000000 in
theorem index2 (B : Nat) (a b x : Int) (w : World) (k0 : w.cell? ⟨B, 0, none⟩ = some (.int .i64 a)) (k1 : w.cell? ⟨B, 1, none⟩ = some (.int .i64 b)) :
    Calls Try.prog 89 #[.slice (some ⟨B, 0, none⟩) 2 2, .int .i64 x] w (Ret (.int .i64 (twoIdx a b x)) w) := by
  have HT : Aside (twoIdx a b x = if x = a then 0 else if x = b then 1 else -1) := rfl
  generalize twoIdx a b x = r at *
  go_enter Try.func89, Try.ntmps89
  go_wp2
  go_loopg [5, 8] 3 (fun gg i j wr => ∃ k : Nat, k ≤ 2 ∧ 2 - k < gg ∧ j = .int .i64 k ∧ Aside (0 < k → ¬ x = a) ∧ Aside (1 < k → ¬ x = b) ∧ wr = w)
  case atStart => exact ⟨0, by omega, by omega, rfl, fun h => absurd h (by omega), fun h => absurd h (by omega), rfl⟩
  case round =>
    obtain ⟨k, hk, hg, rfl, A1, A2, rfl⟩ := hrel
    match k, hk, hg, A1, A2 with
    | 0, _, hg, A1, A2 =>
      by_cases c : x = a
      · have hq : (x == a) = true := by simpa using c
        have HR : Aside (r = 0) := by
          show _ = _
          rw [HT.out, if_pos c]
        clear c HT A1 A2
        go_wp2
        go_ret
        exact ⟨by rw [HR.out]; rfl, Below.refl _ _⟩
      · have hq : (x == a) = false := by simpa using c
        have A3 : Aside (0 < 1 → ¬ x = a) := fun _ => c
        clear c A1 A2
        go_wp2
        go_roundg 2
        case measure => omega
        case rel => exact ⟨1, by omega, by omega, rfl, A3.out, fun h => absurd h (by omega), rfl⟩
    | 1, _, hg, A1, A2 =>
      have na := A1.out (by omega)
      by_cases c : x = b
      · have hq : (x == b) = true := by simpa using c
        have HR : Aside (r = 1) := by
          show _ = _
          rw [HT.out, if_neg na, if_pos c]
        clear c na HT A1 A2
        go_wp2
        go_ret
        exact ⟨by rw [HR.out]; rfl, Below.refl _ _⟩
      · have hq : (x == b) = false := by simpa using c
        have A3 : Aside (0 < 2 → ¬ x = a) := fun _ => na
        have A4 : Aside (1 < 2 → ¬ x = b) := fun _ => c
        clear c na A1 A2
        go_wp2
        go_roundg 1
        case measure => omega
        case rel => exact ⟨2, by omega, by omega, rfl, A3.out, A4.out, rfl⟩
    | 2, _, hg, A1, A2 =>
      have HR : Aside (r = -1) := by
        show _ = _
        rw [HT.out, if_neg (A1.out (by omega)), if_neg (A2.out (by omega))]
      clear HT A1 A2
      go_wp2
      go_ret
      exact ⟨by rw [HR.out]; rfl, Below.refl _ _⟩

set_option maxRecDepth 100000 in
set_option maxHeartbeats 2000000 in
theorem distance_any (d : Int × Int) (w : World) :
    Calls Try.prog 78 #[pt d] w (Ret (.int .i64 (distF d)) w) := by
  obtain ⟨b, f⟩ := d
  have HD : Aside (distF (b, f) = if b = 225 then -2 else if b = 125 then -1 else if b = 0 then 10001 else f) := rfl
  generalize distF (b, f) = r at *
  unfold pt
  simp only []
  have x1 := fun B W k0 k1 => index2 B 225 125 b W k0 k1
  have HX : Aside (twoIdx 225 125 b = if b = 225 then 0 else if b = 125 then 1 else -1) := rfl
  generalize twoIdx 225 125 b = t at *
  have HT : Aside ((b = 225 ∧ t = 0 ∧ r = -2) ∨ (b = 125 ∧ t = 1 ∧ r = -1) ∨ (b = 0 ∧ t = -1 ∧ r = 10001) ∨ ((b == 0) = false ∧ t = -1 ∧ r = f)) := by
    show _ ∨ _
    rw [HD.out, HX.out]
    by_cases c1 : b = 225
    · exact .inl ⟨c1, by rw [if_pos c1], by rw [if_pos c1]⟩
    · by_cases c2 : b = 125
      · exact .inr (.inl ⟨c2, by rw [if_neg c1, if_pos c2], by rw [if_neg c1, if_pos c2]⟩)
      · by_cases c3 : b = 0
        · exact .inr (.inr (.inl ⟨c3, by rw [if_neg c1, if_neg c2], by rw [if_neg c1, if_neg c2, if_pos c3]⟩))
        · exact .inr (.inr (.inr ⟨by simpa using c3, by rw [if_neg c1, if_neg c2], by rw [if_neg c1, if_neg c2, if_neg c3]⟩))
  clear HD HX
  go_enter Try.func78, Try.ntmps78
  go_wp2_with fail
  obtain ⟨w1, hw1⟩ : ∃ u, u = (w.alloc (.cells #[.int .i64 b, .int .i64 f] 91)).alloc (.cells #[.int .i64 225, .int .i64 125] 144) := ⟨_, rfl⟩
  have k0 : w1.cell? ⟨w.heap.size, 0, none⟩ = some (.int .i64 b) := by rw [hw1]; go_simp
  have k1 : w1.cell? ⟨w.heap.size, 1, none⟩ = some (.int .i64 f) := by rw [hw1]; go_simp
  have k2 : w1.cell? ⟨w.heap.size + 1, 0, none⟩ = some (.int .i64 225) := by rw [hw1]; go_simp
  have k3 : w1.cell? ⟨w.heap.size + 1, 1, none⟩ = some (.int .i64 125) := by rw [hw1]; go_simp
  have B1 : Aside (Below w.heap.size w w1) := by rw [hw1]; (repeat' (first | exact Below.refl _ _ | assumption | (with_reducible refine Below.drew ?_) | (with_reducible refine Below.setCell ?_ (by (first | (simp; done) | (simp; omega))) _) | (with_reducible refine below_drewN' ?_ _) | (refine Below.alloc ?_ (by (try simp only [World.size_alloc, World.size_drew, World.size_setCell]); omega) _) | (refine Below.trans ?_ (Below.mono (by assumption) (by (try simp only [World.size_alloc, World.size_drew, World.size_setCell]); omega)))))
  rw [← hw1]
  clear hw1
  have MK : Aside (∀ w', Below w1.heap.size w1 w' → (Below w1.heap.size w1 w' ∧ w'.cell? ⟨w.heap.size, 0, none⟩ = some (.int .i64 b) ∧ w'.cell? ⟨w.heap.size + 1, 0, none⟩ = some (.int .i64 225) ∧ w'.cell? ⟨w.heap.size + 1, 1, none⟩ = some (.int .i64 125))) := fun w' hB => ⟨hB, keepc hB k0, keepc hB k2, keepc hB k3⟩
  refine region_class (fun w' => Below w1.heap.size w1 w' ∧ w'.cell? ⟨w.heap.size, 0, none⟩ = some (.int .i64 b) ∧ w'.cell? ⟨w.heap.size + 1, 0, none⟩ = some (.int .i64 225) ∧ w'.cell? ⟨w.heap.size + 1, 1, none⟩ = some (.int .i64 125)) (by kernel_rfl) (by kernel_rfl) (MK.out _ ((Below.refl _ _).drew)) ?_
  iterate 5 (first | go_big_quiet_skip | (go_big_quiet_want; unfold Oper.quiet; apply Exists.intro; refine ⟨fun W hW => ?_, ?_⟩; (go_split_ands; unfold Oper.quietAt; go_simp; first | rfl | exact ⟨rfl, rfl⟩ | ((with_reducible refine (x1 _ _ (by assumption) (by assumption)).mono ?_); rintro e w2 ⟨rfl, hb2⟩; exact ⟨rfl, MK.out _ (Below.trans (by assumption) (Below.mono (by assumption) (Below.size (by assumption))))⟩)); go_big_quiet_on; (try simp only [Act.put, List.setIfInBounds_toArray, List.set_cons_zero, List.set_cons_succ])))
  refine wpQuiet_nil ?_
  intro wa hwa
  have ba : Below w1.heap.size w1 wa := hwa.1
  have j0 := keepc ba k0
  have j1 := keepc ba k1
  have BA : Aside (Below w.heap.size w wa) := B1.out.trans (ba.mono B1.out.size)
  clear hwa ba MK k0 k1 k2 k3 B1 x1
  rcases HT.out with ⟨rfl, rfl, rfl⟩ | ⟨rfl, rfl, rfl⟩ | ⟨rfl, rfl, rfl⟩ | ⟨hb0, rfl, rfl⟩
  all_goals
    clear HT
    go_wp2
    go_ret
    exact ⟨rfl, BA.out⟩

/-- The numbers of so many players. -/
def evL (n : Nat) : List Int := (List.range n).map Int.ofNat
theorem evL_succ (n : Nat) : evL (n + 1) = evL n ++ [(n : Int)] := by unfold evL; rw [List.range_succ, List.map_append]; rfl
theorem evL_length (n : Nat) : (evL n).length = n := by simp [evL]

/-- What a call leaves that hands back a row of its own, nil just where it has no element. -/
def RetOwn (l : List Int) (w : World) (e : Ending) (w' : World) : Prop :=
  ∃ v, e = .returned v ∧ w'.ownsRow w.heap.size 3 1 v l.length (l.map (Value.int .i64)) ∧ (v = .slice none 0 0 ↔ l = []) ∧ Below w.heap.size w w'
theorem info_int : (Try.prog.info? 3).map (fun i => (i.zero, i.size, i.bytes)) = some (some (.int .i64 0), 1, 8) := by kernel_rfl

set_option maxRecDepth 100000 in
set_option maxHeartbeats 2000000 in
theorem everyone_any (n : Nat) (w : World) (hn : n ≤ 1000) : Calls Try.prog 54 #[.int .i64 n] w (RetOwn (evL n) w) := by
  obtain ⟨i0, hi, hz0, hz1, hz2⟩ := info_parts info_int
  go_enter Try.func54, Try.ntmps54
  go_wp2
  go_loopw [3, 6] (fun v i wr => ∃ k : Nat, k ≤ n ∧ i = .int .i64 k ∧ wr.ownsRow w.heap.size 3 1 v (evL k).length ((evL k).map (Value.int .i64)) ∧ Aside ((v = .slice none 0 0 ↔ evL k = []) ∧ Below w.heap.size w wr)) (fun _ i _ => n - (intOf i).toNat)
  case atStart => exact ⟨0, Nat.zero_le _, rfl, ⟨by simp [evL], .inl ⟨rfl, rfl⟩⟩, ⟨by simp [evL], Below.refl _ _⟩⟩
  case round =>
    obtain ⟨k, hk, rfl, hown, HA⟩ := hrel
    by_cases hlt : k < n
    · have hltz : (k : Int) < (n : Int) := by omega
      have hel := evL_length k
      have HS : Aside (evL (k + 1) = evL k ++ [(k : Int)]) := evL_succ k
      have HB0 : Aside (w.heap.size ≤ wr.heap.size) := HA.out.2.size
      go_wp2_with (at_builtin; refine wpList_append_own _ rfl _ _ 48 rfl w.heap.size 3 i0 (.int .i64 0) 1 8 Try.underlying48 hi hz0 hz1 hz2 rfl (by decide) _ _ _ rfl (hown.alloc _) ⟨wr.heap.size, 0, none⟩ 1 1 [.int .i64 k] rfl rfl (cell_one_new _ _ _) (ints_oneCell .i64 [(k : Int)]) (by unfold maxLen; omega) (by omega) (by have := HB0.out; simp; omega) ?_; intro v' w1 hown1 hgrow1 hnil1)
      go_roundw
      case rel =>
        refine ⟨k + 1, by omega, by go_num, ?_, ?_, ?_⟩
        · rw [HS.out]; simpa using hown1
        · rw [HS.out]
          constructor
          · intro e; subst e
            rcases hown1.2 with ⟨_, h0⟩ | ⟨g, cap, cur, e2, _⟩
            · omega
            · cases e2
          · intro e; simp at e
        · exact (HA.out.2.alloc HA.out.2.size _).grown hgrow1 (by have := HA.out.2.size; simp; omega) (fun j hj => (hown.lt j hj).1)
      case measure => simp [intOf]; omega
    · have hltz : ¬ (k : Int) < (n : Int) := by omega
      have : k = n := by omega
      subst this
      go_wp2
      go_ret
      exact ⟨_, rfl, hown, HA.out.1, HA.out.2⟩
end Go.Proofs.Ythcgbceapabikaa
