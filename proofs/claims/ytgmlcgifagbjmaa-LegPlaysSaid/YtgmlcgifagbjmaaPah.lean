/- Leg: parts L, Lay, N, O, P. -/
import Derived.Laws.OwnMore
import Derived.Maps.AppendAt
import Derived.Shelf.SlIterI.Nil
import Derived.Shelf.SortM.Plain
import Derived.Shelf.SortM.SortNone
import Derived.Ground.GgzProg
import Derived.Ground.SlgmProg
import Derived.Test.YtgmlcgifagbjmaaProg
import Derived.Maps.OwnSet
import Derived.Maps.RangeWalk
import Derived.Shelf.SlIter.AllValues
import Derived.Test.YtgmlcgifagbjmaaPac
set_option linter.unusedVariables false
set_option linter.unusedSimpArgs false
namespace Go.Proofs.Ytgmlcgifagbjmaa
section
open Go.RowKit Go.Shelf
/-- The least of some numbers. -/
def mn : List Int → Int
 | [] => 0
 | x :: xs => xs.foldl min x
theorem mn_snoc (xs : List Int) (y : Int) (h : xs ≠ []) : mn (xs ++ [y]) = min (mn xs) y := by
 cases xs with
 | nil => exact absurd rfl h
 | cons x xs => simp [mn, List.foldl_append]
set_option maxRecDepth 100000 in
set_option maxHeartbeats 1000000 in
theorem min_any (v : Value) (xs : List Int) (w : World) (hs : Sl w 1 (eI) v xs) (hne : xs ≠ []) :
  Calls Try.prog 90 #[v] w (Ret (.int .i64 (mn xs)) w) := by
 obtain ⟨a, c, rfl, hl, hs⟩ := hs
 obtain ⟨b, off, rfl, hb, hc⟩ := hs hne
 clear hs
 have hpos : 0 < xs.length := List.length_pos_iff.2 hne
 have HC : Aside (∀ j x, xs[j]? = some x → w.cell? ⟨b, off + j, none⟩ = some (.int .i64 x)) := fun j x hx => by have := hc j x hx 0 (.int .i64 x) rfl; simpa using this
 clear hc hne
 obtain ⟨n, hn⟩ : ∃ n, xs.length = n := ⟨_, rfl⟩
 have HN : Aside (xs.length = n) := hn
 rw [hn] at hl hpos ⊢
 have HE : Aside (mn xs = mn (xs.take n)) := by show _ = _; rw [← hn, List.take_length]
 rw [HE.out]
 clear hn
 obtain ⟨x0, hx0⟩ : ∃ x, xs[0]? = some x := ⟨_, List.getElem?_eq_getElem (by rw [HN.out]; exact hpos)⟩
 have k0 : w.cell? ⟨b, off, none⟩ = some (.int .i64 x0) := by have := HC.out 0 x0 hx0; simpa using this
 have H1 : Aside (mn (xs.take 1) = x0) := by
  show _ = _
  cases xs with
  | nil => simp at hx0
  | cons y ys => simp at hx0; simp [mn, hx0]
 clear hx0
 have hz1 : ¬ ((n : Int) < 1) := by omega
 have hz0 : (0 : Int) < (n : Int) := by omega
 go_enter Try.func90, Try.ntmps90
 go_wp2
 go_loopg [3, 4] n (fun gg m i wr => ∃ k : Nat, 1 ≤ k ∧ k ≤ n ∧ n - k ≤ gg ∧ i = .int .i64 k ∧ m = .int .i64 (mn (xs.take k)) ∧ wr = w)
 case atStart => exact ⟨1, by omega, by omega, by omega, rfl, by rw [H1.out], rfl⟩
 case round =>
  obtain ⟨k, hk1, hk, hg, rfl, rfl, rfl⟩ := hrel
  by_cases hlt : k < n
  ·have hltz : (k : Int) < (n : Int) := by omega
   obtain ⟨x, hx⟩ : ∃ x, xs[k]? = some x := ⟨_, List.getElem?_eq_getElem (by rw [HN.out]; exact hlt)⟩
   have kx := HC.out k x hx
   have HM : Aside (mn (xs.take (k + 1)) = min (mn (xs.take k)) x) := by
    show _ = _
    obtain ⟨hk', e⟩ := List.getElem?_eq_some_iff.1 hx
    rw [List.take_succ_eq_append_getElem hk', e]
    exact mn_snoc _ _ (by intro e0; have := congrArg List.length e0; have := HN.out; simp only [List.length_take, List.length_nil] at *; omega)
   clear hx
   generalize mn (xs.take k) = m at *
   go_wp2
   go_roundg (n - (k + 1))
   case measure => omega
   case rel => exact ⟨k + 1, by omega, by omega, by omega, by go_num, by rw [HM.out], rfl⟩
  ·have : k = n := by omega
   subst this
   have hltz : ¬ (k : Int) < (k : Int) := by omega
   go_wp2
   go_ret
   exact ⟨rfl, Below.refl _ _⟩
/-- How far a dart at the bull is: the less the better. -/
def distF (d : Int × Int) : Int := if d.1 = 225 then -2 else if d.1 = 125 then -1 else if d.1 = 0 then 10001 else d.2
def offOk (d : Int × Int) : Bool := vbed d.1 && inb 0 10000 d.2
set_option maxRecDepth 100000 in
set_option maxHeartbeats 2000000 in
theorem wrongOff_any (d : Int × Int) (w : World) (h1 : -9223372036854775808 ≤ d.1) (h2 : d.1 ≤ 9223372036854775807) :
  Calls Try.prog 56 #[pt d] w (Ret (.bool (!offOk d)) w) := by
 have x1 := fun W => valid_any d.1 W h1 h2
 have y1 := fun W k hk t => within_any 0 10000 _ [d.2] _ (sl_one W k hk t d.2)
 simp only [List.all_cons, List.all_nil, Bool.and_true] at y1
 obtain ⟨b, f⟩ := d
 unfold offOk
 unfold hitV at x1
 unfold pt
 simp only [] at *
 generalize vbed b = r1 at *
 generalize inb 0 10000 f = r2 at *
 cases r1 with
 | false =>
  rw [Bool.false_and, Bool.not_false]
  go_enter Try.func56, Try.ntmps56
  go_wp2_with (go_at_call 69; (with_reducible refine (x1 _).mono ?_); rintro e w1 ⟨rfl, hb1⟩; (obtain ⟨hc1, hf1⟩ := bcell hb1; have z1 := hb1.size; (try simp only [World.size_alloc, World.size_drew, World.size_setCell] at z1); (try have q1a : w.heap.size < w1.heap.size := by omega); (try have q1b : w.heap.size + 1 < w1.heap.size := by omega); (try have q1c : w.heap.size + 1 + 1 < w1.heap.size := by omega); (try have q1d : w.heap.size + 1 + 1 + 1 < w1.heap.size := by omega); (try have q1e : wr.heap.size < w1.heap.size := by omega); (try have q1f : wr.heap.size + 1 < w1.heap.size := by omega)))
  go_ret
  exact ⟨rfl, by (repeat' (first | exact Below.refl _ _ | assumption | (with_reducible refine Below.drew ?_) | (with_reducible refine Below.setCell ?_ (by (first | (simp; done) | (simp; omega))) _) | (with_reducible refine below_drewN' ?_ _) | (refine Below.alloc ?_ (by (try simp only [World.size_alloc, World.size_drew, World.size_setCell]); omega) _) | (refine Below.trans ?_ (Below.mono (by assumption) (by (try simp only [World.size_alloc, World.size_drew, World.size_setCell]); omega)))))⟩
 | true =>
  rw [Bool.true_and]
  go_enter Try.func56, Try.ntmps56
  go_wp2_with (first | (go_at_call 69; (with_reducible refine (x1 _).mono ?_); rintro e w1 ⟨rfl, hb1⟩; (obtain ⟨hc1, hf1⟩ := bcell hb1; have z1 := hb1.size; (try simp only [World.size_alloc, World.size_drew, World.size_setCell] at z1); (try have q1a : w.heap.size < w1.heap.size := by omega); (try have q1b : w.heap.size + 1 < w1.heap.size := by omega); (try have q1c : w.heap.size + 1 + 1 < w1.heap.size := by omega); (try have q1d : w.heap.size + 1 + 1 + 1 < w1.heap.size := by omega); (try have q1e : wr.heap.size < w1.heap.size := by omega); (try have q1f : wr.heap.size + 1 < w1.heap.size := by omega))) | (go_at_call 47; (with_reducible refine (y1 _ _ (by simp) _).mono ?_); rintro e w2 ⟨rfl, hb2⟩; (obtain ⟨hc2, hf2⟩ := bcell hb2; have z2 := hb2.size; (try simp only [World.size_alloc, World.size_drew, World.size_setCell] at z2); (try have q2a : w.heap.size < w2.heap.size := by omega); (try have q2b : w.heap.size + 1 < w2.heap.size := by omega); (try have q2c : w.heap.size + 1 + 1 < w2.heap.size := by omega); (try have q2d : w.heap.size + 1 + 1 + 1 < w2.heap.size := by omega); (try have q2e : wr.heap.size < w2.heap.size := by omega); (try have q2f : wr.heap.size + 1 < w2.heap.size := by omega); (try have q2g : w1.heap.size < w2.heap.size := by omega); (try have q2h : w1.heap.size + 1 < w2.heap.size := by omega))))
  go_ret
  exact ⟨rfl, by (repeat' (first | exact Below.refl _ _ | assumption | (with_reducible refine Below.drew ?_) | (with_reducible refine Below.setCell ?_ (by (first | (simp; done) | (simp; omega))) _) | (with_reducible refine below_drewN' ?_ _) | (refine Below.alloc ?_ (by (try simp only [World.size_alloc, World.size_drew, World.size_setCell]); omega) _) | (refine Below.trans ?_ (Below.mono (by assumption) (by (try simp only [World.size_alloc, World.size_drew, World.size_setCell]); omega)))))⟩
/-- The place of a bed among two. -/
def twoIdx (a b x : Int) : Int := if x = a then 0 else if x = b then 1 else -1
set_option maxRecDepth 100000 in
set_option maxHeartbeats 2000000 in
theorem index2 (B : Nat) (a b x : Int) (w : World) (k0 : w.cell? ⟨B, 0, none⟩ = some (.int .i64 a)) (k1 : w.cell? ⟨B, 1, none⟩ = some (.int .i64 b)) :
  Calls Try.prog 89 #[.slice (some ⟨B, 0, none⟩) 2 2, .int .i64 x] w (Ret (.int .i64 (twoIdx a b x)) w) := by
 have HT : Aside (twoIdx a b x = if x = a then 0 else if x = b then 1 else -1) := rfl
 generalize twoIdx a b x = r at *
 go_enter Try.func89, Try.ntmps89
 go_wp2
 go_loopg [5, 8] 3 (fun gg i j wr => ∃ k : Nat, k ≤ 2 ∧ 2 - k < gg ∧ j = .int .i64 k ∧ Aside (0 < k → ¬ x = a) ∧ Aside (1 < k → ¬ x = b) ∧ wr = w)
 case atStart => exact ⟨0, by omega, by omega, rfl, fun h => absurd h (by omega), fun h => absurd h (by omega), rfl⟩
 case round =>
  obtain ⟨k, hk, hg, rfl, A1, A2, rfl⟩ := hrel
  match k, hk, hg, A1, A2 with
  | 0, _, hg, A1, A2 =>
   by_cases c : x = a
   ·have hq : (x == a) = true := by simpa using c
    have HR : Aside (r = 0) := by
     show _ = _
     rw [HT.out, if_pos c]
    clear c HT A1 A2
    go_wp2
    go_ret
    exact ⟨by rw [HR.out]; rfl, Below.refl _ _⟩
   ·have hq : (x == a) = false := by simpa using c
    have A3 : Aside (0 < 1 → ¬ x = a) := fun _ => c
    clear c A1 A2
    go_wp2
    go_roundg 2
    case measure => omega
    case rel => exact ⟨1, by omega, by omega, rfl, A3.out, fun h => absurd h (by omega), rfl⟩
  | 1, _, hg, A1, A2 =>
   have na := A1.out (by omega)
   by_cases c : x = b
   ·have hq : (x == b) = true := by simpa using c
    have HR : Aside (r = 1) := by
     show _ = _
     rw [HT.out, if_neg na, if_pos c]
    clear c na HT A1 A2
    go_wp2
    go_ret
    exact ⟨by rw [HR.out]; rfl, Below.refl _ _⟩
   ·have hq : (x == b) = false := by simpa using c
    have A3 : Aside (0 < 2 → ¬ x = a) := fun _ => na
    have A4 : Aside (1 < 2 → ¬ x = b) := fun _ => c
    clear c na A1 A2
    go_wp2
    go_roundg 1
    case measure => omega
    case rel => exact ⟨2, by omega, by omega, rfl, A3.out, A4.out, rfl⟩
  | 2, _, hg, A1, A2 =>
   have HR : Aside (r = -1) := by
    show _ = _
    rw [HT.out, if_neg (A1.out (by omega)), if_neg (A2.out (by omega))]
   clear HT A1 A2
   go_wp2
   go_ret
   exact ⟨by rw [HR.out]; rfl, Below.refl _ _⟩
set_option maxRecDepth 100000 in
set_option maxHeartbeats 2000000 in
theorem distance_any (d : Int × Int) (w : World) :
  Calls Try.prog 78 #[pt d] w (Ret (.int .i64 (distF d)) w) := by
 obtain ⟨b, f⟩ := d
 have HD : Aside (distF (b, f) = if b = 225 then -2 else if b = 125 then -1 else if b = 0 then 10001 else f) := rfl
 generalize distF (b, f) = r at *
 unfold pt
 simp only []
 have x1 := fun B W k0 k1 => index2 B 225 125 b W k0 k1
 have HX : Aside (twoIdx 225 125 b = if b = 225 then 0 else if b = 125 then 1 else -1) := rfl
 generalize twoIdx 225 125 b = t at *
 have HT : Aside ((b = 225 ∧ t = 0 ∧ r = -2) ∨ (b = 125 ∧ t = 1 ∧ r = -1) ∨ (b = 0 ∧ t = -1 ∧ r = 10001) ∨ ((b == 0) = false ∧ t = -1 ∧ r = f)) := by
  show _ ∨ _
  rw [HD.out, HX.out]
  by_cases c1 : b = 225
  ·exact .inl ⟨c1, by rw [if_pos c1], by rw [if_pos c1]⟩
  ·by_cases c2 : b = 125
   ·exact .inr (.inl ⟨c2, by rw [if_neg c1, if_pos c2], by rw [if_neg c1, if_pos c2]⟩)
   ·by_cases c3 : b = 0
    ·exact .inr (.inr (.inl ⟨c3, by rw [if_neg c1, if_neg c2], by rw [if_neg c1, if_neg c2, if_pos c3]⟩))
    ·exact .inr (.inr (.inr ⟨by simpa using c3, by rw [if_neg c1, if_neg c2], by rw [if_neg c1, if_neg c2, if_neg c3]⟩))
 clear HD HX
 go_enter Try.func78, Try.ntmps78
 go_wp2_with fail
 obtain ⟨w1, hw1⟩ : ∃ u, u = (w.alloc (.cells #[.int .i64 b, .int .i64 f] 91)).alloc (.cells #[.int .i64 225, .int .i64 125] 144) := ⟨_, rfl⟩
 have k0 : w1.cell? ⟨w.heap.size, 0, none⟩ = some (.int .i64 b) := by rw [hw1]; go_simp
 have k1 : w1.cell? ⟨w.heap.size, 1, none⟩ = some (.int .i64 f) := by rw [hw1]; go_simp
 have k2 : w1.cell? ⟨w.heap.size + 1, 0, none⟩ = some (.int .i64 225) := by rw [hw1]; go_simp
 have k3 : w1.cell? ⟨w.heap.size + 1, 1, none⟩ = some (.int .i64 125) := by rw [hw1]; go_simp
 have B1 : Aside (Below w.heap.size w w1) := by rw [hw1]; (repeat' (first | exact Below.refl _ _ | assumption | (with_reducible refine Below.drew ?_) | (with_reducible refine Below.setCell ?_ (by (first | (simp; done) | (simp; omega))) _) | (with_reducible refine below_drewN' ?_ _) | (refine Below.alloc ?_ (by (try simp only [World.size_alloc, World.size_drew, World.size_setCell]); omega) _) | (refine Below.trans ?_ (Below.mono (by assumption) (by (try simp only [World.size_alloc, World.size_drew, World.size_setCell]); omega)))))
 rw [← hw1]
 clear hw1
 have MK : Aside (∀ w', Below w1.heap.size w1 w' → (Below w1.heap.size w1 w' ∧ w'.cell? ⟨w.heap.size, 0, none⟩ = some (.int .i64 b) ∧ w'.cell? ⟨w.heap.size + 1, 0, none⟩ = some (.int .i64 225) ∧ w'.cell? ⟨w.heap.size + 1, 1, none⟩ = some (.int .i64 125))) := fun w' hB => ⟨hB, keepc hB k0, keepc hB k2, keepc hB k3⟩
 refine region_class (fun w' => Below w1.heap.size w1 w' ∧ w'.cell? ⟨w.heap.size, 0, none⟩ = some (.int .i64 b) ∧ w'.cell? ⟨w.heap.size + 1, 0, none⟩ = some (.int .i64 225) ∧ w'.cell? ⟨w.heap.size + 1, 1, none⟩ = some (.int .i64 125)) (by kernel_rfl) (by kernel_rfl) (MK.out _ ((Below.refl _ _).drew)) ?_
 iterate 5 (first | go_big_quiet_skip | (go_big_quiet_want; unfold Oper.quiet; apply Exists.intro; refine ⟨fun W hW => ?_, ?_⟩; (go_split_ands; unfold Oper.quietAt; go_simp; first | rfl | exact ⟨rfl, rfl⟩ | ((with_reducible refine (x1 _ _ (by assumption) (by assumption)).mono ?_); rintro e w2 ⟨rfl, hb2⟩; exact ⟨rfl, MK.out _ (Below.trans (by assumption) (Below.mono (by assumption) (Below.size (by assumption))))⟩)); go_big_quiet_on; (try simp only [Act.put, List.setIfInBounds_toArray, List.set_cons_zero, List.set_cons_succ])))
 refine wpQuiet_nil ?_
 intro wa hwa
 have ba : Below w1.heap.size w1 wa := hwa.1
 have j0 := keepc ba k0
 have j1 := keepc ba k1
 have BA : Aside (Below w.heap.size w wa) := B1.out.trans (ba.mono B1.out.size)
 clear hwa ba MK k0 k1 k2 k3 B1 x1
 rcases HT.out with ⟨rfl, rfl, rfl⟩ | ⟨rfl, rfl, rfl⟩ | ⟨rfl, rfl, rfl⟩ | ⟨hb0, rfl, rfl⟩
 all_goals
  clear HT
  go_wp2
  go_ret
  exact ⟨rfl, BA.out⟩
/-- The numbers of so many players. -/
def evL (n : Nat) : List Int := (List.range n).map Int.ofNat
theorem evL_succ (n : Nat) : evL (n + 1) = evL n ++ [(n : Int)] := by unfold evL; rw [List.range_succ, List.map_append]; rfl
theorem evL_length (n : Nat) : (evL n).length = n := by simp [evL]
/-- What a call leaves that hands back a row of its own, nil just where it has no element. -/
def RetOwn (l : List Int) (w : World) (e : Ending) (w' : World) : Prop :=
 ∃ v, e = .returned v ∧ w'.ownsRow w.heap.size 3 1 v l.length (l.map (Value.int .i64)) ∧ (v = .slice none 0 0 ↔ l = []) ∧ Below w.heap.size w w'
theorem info_int : (Try.prog.info? 3).map (fun i => (i.zero, i.size, i.bytes)) = some (some (.int .i64 0), 1, 8) := by kernel_rfl
set_option maxRecDepth 100000 in
set_option maxHeartbeats 2000000 in
theorem everyone_any (n : Nat) (w : World) (hn : n ≤ 1000) : Calls Try.prog 54 #[.int .i64 n] w (RetOwn (evL n) w) := by
 obtain ⟨i0, hi, hz0, hz1, hz2⟩ := info_parts info_int
 go_enter Try.func54, Try.ntmps54
 go_wp2
 go_loopw [3, 6] (fun v i wr => ∃ k : Nat, k ≤ n ∧ i = .int .i64 k ∧ wr.ownsRow w.heap.size 3 1 v (evL k).length ((evL k).map (Value.int .i64)) ∧ Aside ((v = .slice none 0 0 ↔ evL k = []) ∧ Below w.heap.size w wr)) (fun _ i _ => n - (intOf i).toNat)
 case atStart => exact ⟨0, Nat.zero_le _, rfl, ⟨by simp [evL], .inl ⟨rfl, rfl⟩⟩, ⟨by simp [evL], Below.refl _ _⟩⟩
 case round =>
  obtain ⟨k, hk, rfl, hown, HA⟩ := hrel
  by_cases hlt : k < n
  ·have hltz : (k : Int) < (n : Int) := by omega
   have hel := evL_length k
   have HS : Aside (evL (k + 1) = evL k ++ [(k : Int)]) := evL_succ k
   have HB0 : Aside (w.heap.size ≤ wr.heap.size) := HA.out.2.size
   go_wp2_with (at_builtin; refine wpList_append_own _ rfl _ _ 48 rfl w.heap.size 3 i0 (.int .i64 0) 1 8 Try.underlying48 hi hz0 hz1 hz2 rfl (by decide) _ _ _ rfl (hown.alloc _) ⟨wr.heap.size, 0, none⟩ 1 1 [.int .i64 k] rfl rfl (cell_one_new _ _ _) (ints_oneCell .i64 [(k : Int)]) (by unfold maxLen; omega) (by omega) (by have := HB0.out; simp; omega) ?_; intro v' w1 hown1 hgrow1 hnil1)
   go_roundw
   case rel =>
    refine ⟨k + 1, by omega, by go_num, ?_, ?_, ?_⟩
    ·rw [HS.out]; simpa using hown1
    ·rw [HS.out]
     constructor
     ·intro e; subst e
      rcases hown1.2 with ⟨_, h0⟩ | ⟨g, cap, cur, e2, _⟩
      ·omega
      ·cases e2
     ·intro e; simp at e
    ·exact (HA.out.2.alloc HA.out.2.size _).grown hgrow1 (by have := HA.out.2.size; simp; omega) (fun j hj => (hown.lt j hj).1)
   case measure => simp [intOf]; omega
  ·have hltz : ¬ (k : Int) < (n : Int) := by omega
   have : k = n := by omega
   subst this
   go_wp2
   go_ret
   exact ⟨_, rfl, hown, HA.out.1, HA.out.2⟩
end
section
open Go.Shelf
def collA_ren : Go.Shelf.Ren := ⟨fun | 8 => 91 | 11 => 98 | n => n, fun | 26 => 3 | 28 => 158 | 24 => 48 | 0 => 0 | 33 => 136 | 4 => 4 | n => n, fun | n => n⟩
theorem collA : Go.Proofs.SlLaysZI.n8 Try.prog collA_ren := {
 mixed := by kernel_rfl
 f8 := ⟨Try.f91.name, by decide, Try.func91.trans (congrArg some (by kernel_rfl))⟩
 f11 := ⟨Try.f98.name, by decide, Try.func98.trans (congrArg some (by kernel_rfl))⟩
 t0 := Try.underlying0
 a0 := Try.isAgg0
 z0 := Try.sizeOf0
 v0 := Try.zeroValue0
 t24 := Try.underlying48
 a24 := Try.isAgg48
 z24 := Try.sizeOf48
 v24 := Try.zeroValue48
 t26 := Try.underlying3
 a26 := Try.isAgg3
 z26 := Try.sizeOf3
 v26 := Try.zeroValue3
 t28 := Try.underlying158
 a28 := Try.isAgg158
 z28 := Try.sizeOf158
 v28 := Try.zeroValue158
 i26 := by kernel_rfl }
def sortA_ren : Go.Shelf.Ren := ⟨fun | 5 => 93 | 8 => 101 | 7 => 100 | 19 => 111 | 20 => 112 | 10 => 102 | 11 => 103 | 12 => 104 | 13 => 105 | 14 => 106 | 15 => 107 | 16 => 108 | 17 => 109 | 18 => 110 | 30 => 113 | 31 => 114 | 32 => 115 | 33 => 116 | 34 => 117 | 35 => 118 | 40 => 119 | n => n, fun | 23 => 48 | 25 => 3 | 3 => 3 | 32 => 166 | 22 => 48 | 0 => 0 | 44 => 177 | 46 => 179 | 4 => 4 | 36 => 169 | 35 => 168 | 41 => 174 | 5 => 5 | 9 => 9 | 53 => 180 | 57 => 184 | 63 => 186 | 64 => 187 | n => n, fun | n => n⟩
theorem sortA : Go.Proofs.SlLaysM.n5 Try.prog sortA_ren := {
 mixed := by kernel_rfl
 f5 := ⟨Try.f93.name, by decide, Try.func93.trans (congrArg some (by kernel_rfl))⟩
 f7 := ⟨Try.f100.name, by decide, Try.func100.trans (congrArg some (by kernel_rfl))⟩
 f8 := Try.func101.trans (congrArg some (by kernel_rfl))
 f10 := ⟨Try.f102.name, by decide, Try.func102.trans (congrArg some (by kernel_rfl))⟩
 f11 := ⟨Try.f103.name, by decide, Try.func103.trans (congrArg some (by kernel_rfl))⟩
 f12 := ⟨Try.f104.name, by decide, Try.func104.trans (congrArg some (by kernel_rfl))⟩
 f13 := ⟨Try.f105.name, by decide, Try.func105.trans (congrArg some (by kernel_rfl))⟩
 f14 := ⟨Try.f106.name, by decide, Try.func106.trans (congrArg some (by kernel_rfl))⟩
 f15 := ⟨Try.f107.name, by decide, Try.func107.trans (congrArg some (by kernel_rfl))⟩
 f16 := ⟨Try.f108.name, by decide, Try.func108.trans (congrArg some (by kernel_rfl))⟩
 f17 := ⟨Try.f109.name, by decide, Try.func109.trans (congrArg some (by kernel_rfl))⟩
 f18 := ⟨Try.f110.name, by decide, Try.func110.trans (congrArg some (by kernel_rfl))⟩
 f19 := Try.func111.trans (congrArg some (by kernel_rfl))
 f20 := Try.func112.trans (congrArg some (by kernel_rfl))
 f30 := ⟨Try.f113.name, by decide, Try.func113.trans (congrArg some (by kernel_rfl))⟩
 f31 := Try.func114.trans (congrArg some (by kernel_rfl))
 f32 := Try.func115.trans (congrArg some (by kernel_rfl))
 f33 := ⟨Try.f116.name, by decide, Try.func116.trans (congrArg some (by kernel_rfl))⟩
 f34 := ⟨Try.f117.name, by decide, Try.func117.trans (congrArg some (by kernel_rfl))⟩
 f35 := ⟨Try.f118.name, by decide, Try.func118.trans (congrArg some (by kernel_rfl))⟩
 f40 := ⟨Try.f119.name, by decide, Try.func119.trans (congrArg some (by kernel_rfl))⟩
 t0 := Try.underlying0
 a0 := Try.isAgg0
 z0 := Try.sizeOf0
 v0 := Try.zeroValue0
 t3 := Try.underlying3
 a3 := Try.isAgg3
 z3 := Try.sizeOf3
 v3 := Try.zeroValue3
 t4 := Try.underlying4
 a4 := Try.isAgg4
 z4 := Try.sizeOf4
 v4 := Try.zeroValue4
 t5 := Try.underlying5
 a5 := Try.isAgg5
 z5 := Try.sizeOf5
 v5 := Try.zeroValue5
 t9 := Try.underlying9
 a9 := Try.isAgg9
 z9 := Try.sizeOf9
 v9 := Try.zeroValue9
 t22 := Try.underlying48
 a22 := Try.isAgg48
 z22 := Try.sizeOf48
 v22 := Try.zeroValue48
 t23 := Try.underlying48
 a23 := Try.isAgg48
 z23 := Try.sizeOf48
 v23 := Try.zeroValue48
 t25 := Try.underlying3
 a25 := Try.isAgg3
 z25 := Try.sizeOf3
 v25 := Try.zeroValue3
 t32 := Try.underlying166
 a32 := Try.isAgg166
 z32 := Try.sizeOf166
 v32 := Try.zeroValue166
 t35 := Try.underlying168
 a35 := Try.isAgg168
 z35 := Try.sizeOf168
 v35 := Try.zeroValue168
 t36 := Try.underlying169
 a36 := Try.isAgg169
 z36 := Try.sizeOf169
 v36 := Try.zeroValue169
 t41 := Try.underlying174
 a41 := Try.isAgg174
 z41 := Try.sizeOf174
 v41 := Try.zeroValue174
 t44 := Try.underlying177
 a44 := Try.isAgg177
 z44 := Try.sizeOf177
 v44 := Try.zeroValue177
 t46 := Try.underlying179
 a46 := Try.isAgg179
 z46 := Try.sizeOf179
 v46 := Try.zeroValue179
 t53 := Try.underlying180
 a53 := Try.isAgg180
 z53 := Try.sizeOf180
 v53 := Try.zeroValue180
 t57 := Try.underlying184
 a57 := Try.isAgg184
 z57 := Try.sizeOf184
 v57 := Try.zeroValue184
 t63 := Try.underlying186
 a63 := Try.isAgg186
 z63 := Try.sizeOf186
 v63 := Try.zeroValue186
 t64 := Try.underlying187
 a64 := Try.isAgg187
 z64 := Try.sizeOf187
 v64 := Try.zeroValue187 }
end
section
open Go.RowKit Go.Maps Go.Sort Go.Shelf
/-- What a map of integers holds, as a list of pairs. -/
structure Rep (D : DataW Unit) (ps : List (Int × Int)) : Prop where
 tidy : Tidy D
 nodup : (ps.map (·.1)).Nodup
 mem : ∀ x, Maps.has D (.int .i64 x) = true ↔ x ∈ ps.map (·.1)
 val : ∀ p ∈ ps, ∀ zd, D.atKey (.int .i64 p.1) zd = .lit (.int .i64 p.2)
 size : Maps.size D = ps.length
theorem Rep.empty : Rep (.map []) [] := ⟨tidy_empty, List.nodup_nil, fun x => by simp [Maps.has], (fun p hp => by cases hp), rfl⟩
theorem Rep.put {D : DataW Unit} {ps : List (Int × Int)} (h : Rep D ps) {k v : Int} (hk : k ∉ ps.map (·.1)) : Rep (D.put (.int .i64 k) (.lit (.int .i64 v))) (ps ++ [(k, v)]) := by
 have hn : Maps.has D (.int .i64 k) = false := by
  cases hh : Maps.has D (.int .i64 k) with
  | false => rfl
  | true => exact absurd ((h.mem k).1 hh) hk
 refine ⟨h.tidy.put (show WideAt.IsKeyLit (.int .i64 k) from trivial) _, ?_, fun x => ?_, fun p hp zd => ?_, ?_⟩
 ·rw [List.map_append, List.map_cons, List.map_nil]
  exact List.nodup_append.2 ⟨h.nodup, by simp, fun a ha b hb e => by simp at hb; subst hb; subst e; exact hk ha⟩
 ·by_cases e : x = k
  ·subst e; rw [has_put_same h.tidy.isMap (show WideAt.IsKeyLit (.int .i64 x) from trivial)]; simp
  ·rw [has_put_other (by intro h; cases h; exact e rfl), h.mem]; simp [e]
 ·rcases List.mem_append.1 hp with hp | hp
  ·have hne : p.1 ≠ k := fun e => hk (by rw [← e]; exact List.mem_map_of_mem hp)
   rw [atKey_put_other (by intro h; cases h; exact hne rfl)]; exact h.val p hp zd
  ·simp at hp; subst hp; exact atKey_put_same h.tidy.isMap (show WideAt.IsKeyLit (.int .i64 k) from trivial) _ _
 ·rw [size_put h.tidy, hn]; simp [h.size]
/-- Pairs that were met: each key once, with its value. -/
def SeenP (D : DataW Unit) (left : Lit → Bool) (qs : List (Int × Int)) : Prop := CollectedI D left (qs.map (·.1)) ∧ ∀ p ∈ qs, ∀ zd, D.atKey (.int .i64 p.1) zd = .lit (.int .i64 p.2)
theorem seen_perm {D : DataW Unit} {ps qs : List (Int × Int)} {left : Lit → Bool} (h : Rep D ps) (hs : SeenP D left qs) (hl : ∀ kl, left kl = false) : qs.Perm ps := by
 have nd : ∀ {l : List (Int × Int)}, (l.map (·.1)).Nodup → l.Nodup := fun hl => (List.pairwise_map.1 hl).imp (fun hne e => hne (by rw [e]))
 refine (List.perm_ext_iff_of_nodup (nd hs.1.1) (nd h.nodup)).2 fun p => ?_
 have hm : ∀ x, x ∈ qs.map (·.1) ↔ x ∈ ps.map (·.1) := fun x => by rw [hs.1.2 x, h.mem x, hl]; simp
 constructor
 ·intro hp
  obtain ⟨q, hq, e⟩ := List.mem_map.1 ((hm p.1).1 (List.mem_map_of_mem hp))
  have h1 := hs.2 p hp (.map [])
  have h2 := h.val q hq (.map [])
  rw [e, h1] at h2
  have : p = q := by
   obtain ⟨p1, p2⟩ := p
   obtain ⟨q1, q2⟩ := q
   simp only [DataW.lit.injEq, Lit.int.injEq, true_and] at h2 e
   simp [h2, e]
  rw [this]; exact hq
 ·intro hp
  obtain ⟨q, hq, e⟩ := List.mem_map.1 ((hm p.1).2 (List.mem_map_of_mem hp))
  have h1 := h.val p hp (.map [])
  have h2 := hs.2 q hq (.map [])
  rw [e, h1] at h2
  have : p = q := by
   obtain ⟨p1, p2⟩ := p
   obtain ⟨q1, q2⟩ := q
   simp only [DataW.lit.injEq, Lit.int.injEq, true_and] at h2 e
   simp [h2, e]
  rw [this]; exact hq
theorem mn_spec : ∀ (xs : List Int), xs ≠ [] → mn xs ∈ xs ∧ ∀ y ∈ xs, mn xs ≤ y := by
 have aux : ∀ (xs : List Int) (a : Int), (xs.foldl min a = a ∨ xs.foldl min a ∈ xs) ∧ xs.foldl min a ≤ a ∧ ∀ y ∈ xs, xs.foldl min a ≤ y := by
  intro xs
  induction xs with
  | nil => intro a; simp
  | cons x xs ih =>
   intro a
   rw [List.foldl_cons]
   obtain ⟨h1, h2, h3⟩ := ih (min a x)
   refine ⟨?_, by omega, fun y hy => ?_⟩
   ·rcases h1 with h1 | h1
    ·rw [h1]
     by_cases c : a ≤ x
     ·left; omega
     ·right; rw [show min a x = x by omega]; exact List.mem_cons_self
    ·right; exact List.mem_cons_of_mem _ h1
   ·rcases List.mem_cons.1 hy with rfl | hy
    ·omega
    ·exact h3 y hy
 intro xs hne
 cases xs with
 | nil => exact absurd rfl hne
 | cons x xs =>
  obtain ⟨h1, h2, h3⟩ := aux xs x
  refine ⟨?_, fun y hy => ?_⟩
  ·rcases h1 with h1 | h1
   ·show xs.foldl min x ∈ _; rw [h1]; exact List.mem_cons_self
   ·exact List.mem_cons_of_mem _ h1
  ·rcases List.mem_cons.1 hy with rfl | hy
   ·exact h2
   ·exact h3 y hy
theorem mn_perm {xs ys : List Int} (h : xs.Perm ys) (hne : xs ≠ []) : mn xs = mn ys := by
 have hne2 : ys ≠ [] := fun e => hne (by rw [e] at h; exact h.eq_nil)
 obtain ⟨a1, a2⟩ := mn_spec xs hne
 obtain ⟨b1, b2⟩ := mn_spec ys hne2
 have := a2 _ (h.mem_iff.2 b1)
 have := b2 _ (h.mem_iff.1 a1)
 omega
/-- The keys with the least number, ascending. -/
def leastU (m : Int) (ps : List (Int × Int)) : List Int := (ps.filter fun p => p.2 == m).map (·.1)
def leastL (ps : List (Int × Int)) : List Int := (leastU (mn (ps.map (·.2))) ps).mergeSort (fun x y => decide (x ≤ y))
theorem leastU_snoc (m : Int) (ps : List (Int × Int)) (p : Int × Int) : leastU m (ps ++ [p]) = leastU m ps ++ (if p.2 == m then [p.1] else []) := by
 unfold leastU
 rw [List.filter_append, List.map_append, List.filter_cons]
 split <;> simp
theorem sl_of_owns {w : World} {base n : Nat} {e : TypeId} {v : Value} {xs : List Int} (hl : xs.length ≤ 9223372036854775807) (h : w.ownsRow base e 1 v n (xs.map (Value.int .i64))) (hn : n = xs.length) (hnil : xs = [] → v = .slice none 0 0) : Sl w 1 eI v xs := by
 subst hn
 rcases h.2 with ⟨h0, h1⟩ | ⟨g, cap, cur, rfl, h1, hg, h2⟩
 ·have hx : xs = [] := List.eq_nil_of_length_eq_zero h1
  subst hx
  exact ⟨none, 0, h0, by simp, fun h => absurd rfl h⟩
 ·refine ⟨_, _, rfl, hl, fun hne => ⟨g, 0, rfl, (Array.getElem?_eq_some_iff.1 hg).1, ?_⟩⟩
  intro j x hx i y hy
  match i, hy with
  | 0, hy =>
   simp [eI] at hy; subst hy
   have := h.cellAt j (by have := (List.getElem?_eq_some_iff.1 hx).1; omega)
   rw [Nat.mul_one, Nat.zero_add, Nat.add_zero, this, List.getElem?_map, hx]; rfl
  | i + 1, hy => simp [eI] at hy
theorem ownsMap_below {P : Program} {k : TypeId} {R : Value → Option (DataW Unit × List MemPlace)} {M n : Nat} {D : DataW Unit} {A B : World} (h : A.ownsMap P k R M n D) (ht : Below A.heap.size A B) : B.ownsMap P k R M n D := by
 obtain ⟨es, clock, hb, r⟩ := h
 exact ⟨es, clock, (ht.block M (Array.getElem?_eq_some_iff.1 hb).1).trans hb, r⟩
/-- The map of integers in block M. -/
abbrev OwnM (w : World) (M n : Nat) (D : DataW Unit) : Prop := w.ownsMap Try.prog 3 (plainElem (H := Unit) Try.prog 3) M n D
theorem int_k : Keyed Try.prog 3 := int_keyed Try.underlying3
set_option maxRecDepth 100000 in
set_option maxHeartbeats 2000000 in
/-- The iterator over a map's values. -/
theorem values1_in (n : Nat) (hn : 1 ≤ n) (l Bm b nn : Nat) (D0 : DataW Unit) (ps : List (Int × Int)) (hrep : Rep D0 ps) (J : List Int → World → Prop)
  (hY : ∀ pre x W, J pre W → pre.length < Maps.size D0 → YieldAt Fence.wide (n - 1) Try.prog l #[encZ x] W fun e W' => e = .returned (.bool true) ∧ J (pre ++ [x]) W' ∧ KeepsWalks W W')
  (W : World) (hJ : AbidesFrom W.heap.size J) (hm : W.cell? ⟨Bm, 0, none⟩ = some (.map (some b))) (hown : OwnM W b nn D0) (h0 : J [] W) :
  CallsIn Fence.wide n Try.prog 99 #[.func (.yield l) #[] #[], .pointer (some ⟨Bm, 0, none⟩)] W fun e W' => (∃ v, e = .returned v) ∧ ∃ ss : List Int, ss.Perm (ps.map (·.2)) ∧ J ss W' := by
 refine callsIn_of_wp Try.func99 rfl trivial ?_ rfl
 simp only [Try.ntmps99, List.size_toArray, List.length_cons, List.length_nil, Nat.reduceAdd, Nat.reduceSub, Array.replicate_succ, Array.replicate_zero, List.push_toArray, List.append_toArray, List.nil_append, List.cons_append]
 gi_wp2_with (first
  | (gi_at_range; refine wpListIn_range_own _ rfl _ 116 rfl 3 3 int_k Try.underlying116 _ b nn _ rfl hown ?_; intro w0 hrg0 hg0 hs0)
  | gi_in)
 go_frame
 gi_loopw [4] (fun _ wr => ∃ (left : Lit → Bool) (cnt : Nat) (qs : List (Int × Int)), wr.ranges Try.prog 3 (plainElem Try.prog 3) b W.heap.size nn D0 left cnt ∧ qs.length + cnt ≤ Maps.size D0 ∧ SeenP D0 left qs ∧ J (qs.map (·.2)) wr)
  (fun _ wr => wr.rangeLeft b W.heap.size)
 case atStart =>
  exact ⟨_, _, [], hrg0, by simp, ⟨CollectedI.start D0, by simp⟩, hJ [] W w0 none h0 hg0 (fun r e => by cases e)⟩
 case round =>
  obtain ⟨left, cnt, qs, hrg, hcs, hC, hJs⟩ := hrel
  gi_wp2_with (first
   | (gi_at_next; refine wpListIn_next_ranges _ rfl _ rfl 3 int_k (plainElem Try.prog 3) encZ encZ (fun key kl hk => by obtain ⟨x, hx, _⟩ := Maps.keyOf_i64 Try.underlying3 hk; exact ⟨x, hx⟩) (fun v y hv => by obtain ⟨c, rfl, _⟩ := plainElem_int_inv Try.underlying3 hv; exact ⟨c, rfl⟩) b W.heap.size nn _ _ _ rfl hrg ?_ ?_)
   | gi_in)
  ·intro hc0 hl0
   gi_wp2
   go_end0
   exact ⟨⟨_, rfl⟩, _, (seen_perm hrep hC hl0).map _, hJs⟩
  ·intro x c kl yd yp w2 cnt2 hkey hlk hv hat hrg2 hlt hg2 hs2 hen
   obtain ⟨x', ex, rfl, _⟩ := Maps.keyOf_i64 Try.underlying3 hkey
   obtain rfl : x = x' := encZ_inj ex
   obtain ⟨c', ec, ez, _⟩ := plainElem_int_inv Try.underlying3 hv
   obtain rfl : c = c' := by simpa using ec
   obtain rfl : yd = .lit (.int .i64 c) := (Prod.mk.inj ez).1
   have hJ2 : J (qs.map (·.2)) w2 := hJ _ wr w2 (some W.heap.size) hJs hg2 (fun r e => by cases e; exact ⟨Nat.le_refl _, hrg.iter_walk⟩)
   obtain ⟨fn, tmps, assign, body, hy, hR⟩ := hY (qs.map (·.2)) c w2 hJ2 (by simp; omega)
   have hC2 : SeenP D0 (fun z => left z && !z.sameKey (.int .i64 x)) (qs ++ [(x, c)]) := ⟨by simpa using hC.1.step hlk hat, fun p hp => (List.mem_append.1 hp).elim (hC.2 p) (fun e => by simp at e; subst e; exact hat)⟩
   clear hs2
   gi_wp2
   refine hR.mono ?_
   rintro e W3 ⟨rfl, hJ3, hk3⟩
   gi_wp2
   have hrg3 := hrg2.of_walks hk3
   go_roundw
   case rel => exact ⟨_, cnt2, qs ++ [(x, c)], hrg3, by simp; omega, hC2, by simpa using hJ3⟩
   case measure => rw [hrg3.left_eq, hrg.left_eq]; exact hlt
end
section
open Go.RowKit Go.Maps Go.Sort Go.Shelf
theorem ownsRow_base {w : World} {b b' : Nat} {e : TypeId} {size : Nat} {v : Value} {n : Nat} {xs : List Value} (h : w.ownsRow b e size v n xs) (hb : b' ≤ b) : w.ownsRow b' e size v n xs := by
 obtain ⟨h1, h2⟩ := h
 refine ⟨h1, ?_⟩
 rcases h2 with h2 | ⟨g, cap, cur, h3, h4, h5⟩
 ·exact .inl h2
 ·exact .inr ⟨g, cap, cur, h3, Nat.le_trans hb h4, h5⟩
set_option maxHeartbeats 400000 in
theorem values_any (mb : Option Nat) (w : World) :
  Calls Try.prog 92 #[.map mb] w fun e w' => e = .returned (.func (.func 99) #[] #[.pointer (some ⟨w.heap.size, 0, none⟩)]) ∧ w' = w.alloc (.cells #[.map mb] 116) := by
 go_enter Try.func92, Try.ntmps92
 go_wp2
 go_ret
 exact ⟨rfl, rfl⟩
/-- What collecting the values leaves. -/
def CollOk (ps : List (Int × Int)) (w : World) (e : Ending) (w' : World) : Prop :=
 ∃ v ss, e = .returned v ∧ ss.Perm (ps.map (·.2)) ∧ Sl w' 1 eI v ss ∧ Below w.heap.size w w'
theorem collect_any (Bm M nn : Nat) (D : DataW Unit) (ps : List (Int × Int)) (w : World) (hB : Bm < w.heap.size) (hm : w.cell? ⟨Bm, 0, none⟩ = some (.map (some M))) (hown : OwnM w M nn D) (hr : Rep D ps) (hl : ps.length ≤ 1000) :
  Calls Try.prog 91 #[.func (.func 99) #[] #[.pointer (some ⟨Bm, 0, none⟩)]] w (CollOk ps w) := by
 have hseq : SeqGives Fence.wide 7 Try.prog 99 #[.pointer (some ⟨Bm, 0, none⟩)] encZ (fun ss => ss.Perm (ps.map (·.2))) (Maps.size D) w := fun l J W hW hJ hY h0 =>
  values1_in 7 (by omega) l Bm M nn D ps hr J hY W hJ ((hW.cell (p := ⟨Bm, 0, none⟩) hB).trans hm) (ownsMap_below hown hW) h0
 have hsz := hr.size
 have h := AnyZI.collect_in collA Fence.wide 9 trivial trivial rfl (by omega) 99 #[.pointer (some ⟨Bm, 0, none⟩)] trivial (enters_of Try.func99 (by kernel_rfl) rfl) _ _ (by unfold maxLen; omega) (by omega) w hseq
 change CallsIn _ _ Try.prog 91 _ _ _ at h
 refine (callsIn_wide.1 h).mono ?_
 rintro e w' ⟨v, ss, rfl, hS, hrow, hnil, hb⟩
 exact ⟨v, ss, rfl, hS, sl_of_owns (by rw [hS.length_eq]; simp; omega) hrow rfl (fun h => hnil.2 h), hb⟩
/-- What sorting leaves of a row of the call's own. -/
def SortOk (base : Nat) (v : Value) (ss : List Int) (w : World) (e : Ending) (w' : World) : Prop :=
 e = .returned (.tuple #[]) ∧ w'.ownsRow base 3 1 v ss.length ((ss.mergeSort fun x y => decide (x ≤ y)).map (Value.int .i64)) ∧ Below base w w'
theorem sort_any (base : Nat) (v : Value) (ss : List Int) (w : World) (hrow : w.ownsRow base 3 1 v ss.length (ss.map (Value.int .i64))) (hne : ss ≠ []) (hl : ss.length ≤ 100000) (hb : base ≤ w.heap.size) :
  Calls Try.prog 93 #[v] w (SortOk base v ss w) := by
 rcases hrow.2 with ⟨_, h0⟩ | ⟨g, cap, cur, rfl, hbase, hg, r1, r2, r3, r4⟩
 ·exact absurd (List.length_eq_zero_iff.1 h0) hne
 ·have hH : Holds encZ w g 0 ss.toArray := holds_of_block_i hg (by simpa using r4)
  have hgl : g < w.heap.size := (Array.getElem?_eq_some_iff.1 hg).1
  have h := AnyM.slices_Sort_int sortA g 0 cap ss w hH hgl (by omega)
  change Calls Try.prog 93 _ _ _ at h
  refine h.mono ?_
  rintro e w' ⟨rfl, nn, os, rfl⟩
  exact ⟨rfl, ownsRow_sorted_i (by simp) hbase hg r1 r2 r3, (Below.refl base w).grown (grownBy_sorted_i _) hb (fun j hj => by cases hj; exact hbase)⟩
/-- What holds at the head of a round. -/
def LeastInv (m : Int) (w : World) (r : Nat) (v : Value) (qs : List (Int × Int)) (wr : World) : Prop :=
 (v = .slice none 0 0 ↔ leastU m qs = []) ∧ Below w.heap.size w wr ∧ r + 1 ≤ wr.heap.size
theorem leastU_len (m : Int) (qs : List (Int × Int)) : (leastU m qs).length ≤ qs.length := by
 unfold leastU; rw [List.length_map]; exact List.length_filter_le _ _
theorem leastU_ne {ps : List (Int × Int)} (hne : ps ≠ []) : leastU (mn (ps.map (·.2))) ps ≠ [] := by
 obtain ⟨h1, _⟩ := mn_spec (ps.map (·.2)) (by simpa using hne)
 obtain ⟨p, hp, e⟩ := List.mem_map.1 h1
 intro h
 have : p.1 ∈ leastU (mn (ps.map (·.2))) ps := List.mem_map.2 ⟨p, List.mem_filter.2 ⟨hp, by simp [e]⟩, rfl⟩
 rw [h] at this; cases this
set_option maxRecDepth 100000 in
set_option maxHeartbeats 4000000 in
theorem least_any (M nn : Nat) (D : DataW Unit) (ps : List (Int × Int)) (w : World) (hown : OwnM w M nn D) (hr : Rep D ps) (hne : ps ≠ []) (hl : ps.length ≤ 1000) :
  Calls Try.prog 79 #[.map (some M)] w (RetOwn (leastL ps) w) := by
 obtain ⟨i0, hi, hz0, hz1, hz2⟩ := info_parts info_int
 have hMl := hown.lt
 have HO : Aside (OwnM w M nn D) := hown
 have HR : Aside (Rep D ps) := hr
 have HNE : Aside (ps ≠ [] ∧ ps.length ≤ 1000) := ⟨hne, hl⟩
 obtain ⟨m, hm⟩ : ∃ m, mn (ps.map (·.2)) = m := ⟨_, rfl⟩
 have HM : Aside (mn (ps.map (·.2)) = m) := hm
 clear hown hr hne hl hm
 go_enter Try.func79, Try.ntmps79
 go_wp2_with fail
 refine (values_any _ _).mono ?_
 rintro e w1 ⟨rfl, rfl⟩
 have hB1 : Below w.heap.size w (w.alloc (.cells #[.map (some M)] 116)) := (Below.refl _ _).alloc (Nat.le_refl _) _
 have xc := collect_any w.heap.size M nn D ps (w.alloc (.cells #[.map (some M)] 116)) (by simp) (by go_simp) (ownsMap_below HO.out hB1) HR.out HNE.out.2
 go_wp2_with fail
 refine xc.mono ?_
 rintro e w2 ⟨v2, ss, rfl, hp, hs2, hb2⟩
 have B2 : Aside (Below w.heap.size w w2) := hB1.trans (hb2.mono (by simp))
 have xm := min_any v2 ss w2 hs2 (by intro e; rw [e] at hp; exact HNE.out.1 (by simpa using hp.symm.eq_nil))
 have hmn : mn ss = m := (mn_perm hp (by intro e; rw [e] at hp; exact HNE.out.1 (by simpa using hp.symm.eq_nil))).trans HM.out
 rw [hmn] at xm
 clear hp hs2 hb2 hmn xc hB1
 go_wp2_with fail
 refine xm.mono ?_
 rintro e w3 ⟨rfl, hb3⟩
 have B3 : Aside (Below w.heap.size w w3) := B2.out.trans (hb3.mono B2.out.size)
 have ho3 : OwnM w3 M nn D := ownsMap_below HO.out B3.out
 clear xm hb3 B2
 go_wp2_with (at_range; refine wpList_range_own _ rfl _ 116 rfl 3 3 int_k Try.underlying116 _ M nn _ rfl ho3 ?_; intro w4 hrg0 hg0 hs0)
 go_frame
 have B4 : Aside (Below w.heap.size w w4) := B3.out.grown hg0 B3.out.size (fun j hj => by cases hj)
 have Z4 : Aside (w3.heap.size + 1 ≤ w4.heap.size ∧ w.heap.size ≤ w3.heap.size) := ⟨by omega, B3.out.size⟩
 clear hg0 hs0 ho3
 go_loopw [4] (fun v wr => ∃ (left : Lit → Bool) (cnt : Nat) (qs : List (Int × Int)), wr.ranges Try.prog 3 (plainElem Try.prog 3) M w3.heap.size nn D left cnt ∧ wr.ownsRow (w3.heap.size + 1) 3 1 v (leastU m qs).length ((leastU m qs).map (Value.int .i64)) ∧ Aside (SeenP D left qs ∧ qs.length + cnt ≤ Maps.size D) ∧ Aside (LeastInv m w w3.heap.size v qs wr))
  (fun _ wr => wr.rangeLeft M w3.heap.size)
 case atStart => exact ⟨_, _, [], hrg0, ⟨by simp [leastU], .inl ⟨rfl, rfl⟩⟩, ⟨⟨CollectedI.start D, by simp⟩, by simp⟩, ⟨by simp [leastU], B4.out, Z4.out.1⟩⟩
 case round =>
  obtain ⟨left, cnt, qs, hrg, hrow, HS, HI⟩ := hrel
  clear hrg0
  go_wp2_with (at_next; refine wpList_next_ranges_ii _ rfl _ rfl 3 3 .i64 .i64 int_k Try.underlying3 Try.underlying3 M w3.heap.size nn D left cnt rfl hrg ?_ ?_)
  ·intro hc0 hl0
   have HP : Aside (qs.Perm ps) := seen_perm HR.out HS.out.1 hl0
   have hnl : leastU m qs ≠ [] := by
    have h1 := leastU_ne HNE.out.1
    rw [HM.out] at h1
    intro e
    have : (leastU m qs).Perm (leastU m ps) := (HP.out.filter _).map _
    rw [e] at this
    exact h1 this.symm.eq_nil
   have xs := sort_any (w3.heap.size + 1) _ _ wr hrow hnl (by
    have := leastU_len m qs; have h2 := HP.out.length_eq; have h3 := HNE.out.2; omega) HI.out.2.2
   have HQ : Aside ((leastU m qs).mergeSort (fun x y => decide (x ≤ y)) = leastL ps) := by
    show _ = _
    unfold leastL
    rw [HM.out]
    exact mergeSort_of_perm_i ((HP.out.filter _).map _)
   have HL : Aside ((leastU m qs).length = (leastL ps).length) := by
    show _ = _
    rw [← HQ.out]; simp
   clear hl0 hc0 hrg hrow
   go_wp2_with fail
   refine xs.mono ?_
   rintro e w5 ⟨rfl, hown5, hb5⟩
   have HO5 : Aside _ := hown5
   clear hown5 xs
   go_wp2
   go_ret
   have hnn : leastL ps ≠ [] := by
    intro e; rw [e] at HL; exact hnl (List.eq_nil_of_length_eq_zero (by simpa using HL.out))
   refine ⟨_, rfl, ?_, ⟨fun e => ?_, fun e => absurd e hnn⟩, HI.out.2.1.trans (hb5.mono (by have := Z4.out.2; omega))⟩
   ·have := ownsRow_base HO5.out (show w.heap.size ≤ w3.heap.size + 1 by have := Z4.out.2; omega)
    rw [HQ.out, HL.out] at this
    exact this
   ·exact absurd (HI.out.1.1 e) hnl
  ·intro x c w5 cnt5 hwx hwc hlx hat hrg1 hlt hg1 hs1 hen
   have hrow5 : w5.ownsRow (w3.heap.size + 1) 3 1 _ _ _ := ownsRow_abides_a hrow hg1 (fun r e => by cases e; exact hrg.iter_walk)
   have HS2 : Aside (SeenP D (fun z => left z && !z.sameKey (.int .i64 x)) (qs ++ [(x, c)]) ∧ (qs ++ [(x, c)]).length + cnt5 ≤ Maps.size D) :=
    ⟨⟨by simpa using HS.out.1.1.step hlx hat, fun p hp => (List.mem_append.1 hp).elim (HS.out.1.2 p) (fun e => by simp at e; subst e; exact hat)⟩, by have := HS.out.2; simp; omega⟩
   have B5 : Aside (Below w.heap.size w w5 ∧ w3.heap.size + 1 ≤ w5.heap.size) := ⟨HI.out.2.1.grown hg1 HI.out.2.1.size (fun j hj => by cases hj; exact Z4.out.2), Nat.le_trans HI.out.2.2 hg1.size⟩
   have HM5 : Aside (cnt5 < wr.rangeLeft M w3.heap.size) := by
    show _ < _
    rw [hrg.left_eq]; exact hlt
   have HU : Aside (leastU m (qs ++ [(x, c)]) = leastU m qs ++ (if c == m then [x] else [])) := leastU_snoc m qs (x, c)
   have hln : (leastU m qs).length ≤ 1000 := by
    have h1 := leastU_len m qs
    have h2 := HS.out.2
    have h3 := HR.out.size
    have h4 := HNE.out.2
    omega
   clear hrow hrg hg1 hs1 hat hlx hwx hwc hlt
   cases hcm : (c == m) with
   | true =>
    rw [hcm] at HU
    have HZ : Aside (w3.heap.size + 1 ≤ w5.heap.size) := B5.out.2
    go_wp2_with (at_builtin; refine wpList_append_own _ rfl _ _ 48 rfl (w3.heap.size + 1) 3 i0 (.int .i64 0) 1 8 Try.underlying48 hi hz0 hz1 hz2 rfl (by decide) _ _ _ rfl (hrow5.alloc _) ⟨w5.heap.size, 0, none⟩ 1 1 [.int .i64 x] rfl rfl (cell_one_new _ _ _) (ints_oneCell .i64 [x]) (by unfold maxLen; omega) (by omega) (by have := HZ.out; simp; omega) ?_; intro v' w6 hown6 hgrow6 hnil6)
    have hall : w5.grownBy w6 _ := (World.grownBy_alloc w5 _ _).trans hgrow6
    have hrg6 := (hrg1.alloc (.cells #[.int .i64 x] 3)).kept hgrow6 (fun e => by have := hrow5.lt _ e.symm; have := Z4.out; omega) (fun e => by have := hrow5.lt _ e.symm; omega)
    go_roundw
    case rel =>
     refine ⟨_, cnt5, qs ++ [(x, c)], hrg6, ?_, HS2.out, ?_, ?_, ?_⟩
     ·rw [HU.out]; simpa using hown6
     ·rw [HU.out]
      constructor
      ·intro e; subst e
       rcases hown6.2 with ⟨_, h0⟩ | ⟨g, cap, cur, e2, _⟩
       ·omega
       ·cases e2
      ·intro e; simp at e
     ·exact (B5.out.1.alloc B5.out.1.size _).grown hgrow6 (by have := B5.out.1.size; simp; omega) (fun j hj => by have := hrow5.lt j hj; have := Z4.out.2; omega)
     ·have := hgrow6.size; have := B5.out.2; simp at *; omega
    case measure => rw [hrg6.left_eq]; exact HM5.out
   | false =>
    rw [hcm] at HU
    go_wp2
    go_roundw
    case rel =>
     refine ⟨_, cnt5, qs ++ [(x, c)], hrg1, ?_, HS2.out, ?_, B5.out.1, B5.out.2⟩
     ·rw [HU.out]; simpa using hrow5
     ·rw [HU.out]; simpa using HI.out.1
    case measure => rw [hrg1.left_eq]; exact HM5.out
end
section
open Go.RowKit Go.Maps Go.Sort Go.Shelf
/-- Players with how far their darts are. -/
def farP (ps : List Int) (ds : List (Int × Int)) : List (Int × Int) := (ps.zip ds).map fun p => (p.1, distF p.2)
def nearL (ps : List Int) (ds : List (Int × Int)) : List Int := leastL (farP ps ds)
theorem farP_length {ps : List Int} {ds : List (Int × Int)} (h : ds.length = ps.length) : (farP ps ds).length = ps.length := by simp [farP]; omega
theorem farP_keys {ps : List Int} {ds : List (Int × Int)} (h : ds.length = ps.length) : (farP ps ds).map (·.1) = ps := by
 unfold farP
 rw [List.map_map]
 have : ((fun p : Int × Int => p.1) ∘ fun p : Int × (Int × Int) => (p.1, distF p.2)) = fun p => p.1 := rfl
 rw [this]
 exact List.map_fst_zip (by omega)
theorem farP_get {ps : List Int} {ds : List (Int × Int)} {k : Nat} {p : Int} {d : Int × Int} (h1 : ps[k]? = some p) (h2 : ds[k]? = some d) : (farP ps ds)[k]? = some (p, distF d) := by
 unfold farP
 rw [List.getElem?_map, (List.getElem?_zip_eq_some (z := (p, d))).2 ⟨h1, h2⟩]; rfl
theorem take_snoc' {α : Type} {l : List α} {k : Nat} {x : α} (h : l[k]? = some x) : l.take (k + 1) = l.take k ++ [x] := by
 obtain ⟨h1, h2⟩ := List.getElem?_eq_some_iff.1 h
 rw [List.take_succ_eq_append_getElem h1, h2]
set_option maxRecDepth 100000 in
set_option maxHeartbeats 4000000 in
theorem nearest_any (v vd : Value) (ps : List Int) (ds : List (Int × Int)) (w : World) (hv : Sl w 1 eI v ps) (hd : Sl w 2 encP vd ds) (hlen : ds.length = ps.length) (hnd : ps.Nodup) (hne : ps ≠ []) (hl : ps.length ≤ 1000) (hb : ∀ p ∈ ps, 0 ≤ p ∧ p ≤ 1000) (hf : ∀ d ∈ ds, -9223372036854775808 ≤ d.2 ∧ d.2 ≤ 9223372036854775807) :
  Calls Try.prog 57 #[v, vd] w (RetOwn (nearL ps ds) w) := by
 have HK : Aside ((farP ps ds).map (·.1) = ps) := farP_keys hlen
 have HL : Aside ((farP ps ds).length = ps.length) := farP_length hlen
 have HG : Aside (∀ k p d, ps[k]? = some p → ds[k]? = some d → (farP ps ds)[k]? = some (p, distF d)) := fun k p d => farP_get
 unfold nearL
 generalize farP ps ds = fs at *
 obtain ⟨a, cp, rfl, hl1, hs⟩ := hv
 obtain ⟨a2, cp2, rfl, hl2, hs2⟩ := hd
 have HS : Aside (ps ≠ [] → ∃ b off, a = some ⟨b, off, none⟩ ∧ b < w.heap.size ∧ ∀ j x, ps[j]? = some x → ∀ i y, (eI x)[i]? = some y → w.cell? ⟨b, off + j * 1 + i, none⟩ = some y) := hs
 have HS2 : Aside (ds ≠ [] → ∃ b off, a2 = some ⟨b, off, none⟩ ∧ b < w.heap.size ∧ ∀ j x, ds[j]? = some x → ∀ i y, (encP x)[i]? = some y → w.cell? ⟨b, off + j * 2 + i, none⟩ = some y) := hs2
 have HB : Aside ((∀ p ∈ ps, 0 ≤ p ∧ p ≤ 1000) ∧ (∀ d ∈ ds, -9223372036854775808 ≤ d.2 ∧ d.2 ≤ 9223372036854775807) ∧ ps.Nodup ∧ ps ≠ []) := ⟨hb, hf, hnd, hne⟩
 obtain ⟨n, hn⟩ : ∃ n, ps.length = n := ⟨_, rfl⟩
 have HN : Aside (ps.length = n ∧ ds.length = n) := ⟨hn, by omega⟩
 have hdn : ds.length = n := by omega
 rw [hn] at hl hl1
 rw [hdn, hn]
 clear hs hs2 hb hf hnd hne hlen hn hl2 hdn
 have hmm := @run_makeMap Try.prog
 go_enter Try.func57, Try.ntmps57
 go_wp2
 clear hmm
 go_loopw [11] (fun i wr => ∃ (k : Nat) (D : DataW Unit), k ≤ n ∧ i = .int .i64 k ∧ OwnM wr w.heap.size k D ∧ Aside (Rep D (fs.take k)) ∧ Aside (Below w.heap.size w wr)) (fun i _ => n - (intOf i).toNat)
 case atStart => exact ⟨0, _, Nat.zero_le _, rfl, World.ownsMap_made _ _ _ _, by rw [List.take_zero]; exact Rep.empty, (Below.refl _ _).alloc (Nat.le_refl _) _⟩
 case round =>
  obtain ⟨k, D, hk, rfl, hown, HR, HBW⟩ := hrel
  by_cases hlt : k < n
  ·have hltz : (k : Int) < (n : Int) := by omega
   obtain ⟨p, hp⟩ : ∃ p, ps[k]? = some p := ⟨_, List.getElem?_eq_getElem (by rw [HN.out.1]; exact hlt)⟩
   obtain ⟨d, hd⟩ : ∃ d, ds[k]? = some d := ⟨_, List.getElem?_eq_getElem (by rw [HN.out.2]; exact hlt)⟩
   obtain ⟨B, off, rfl, hBlt, hcl⟩ := HS.out HB.out.2.2.2
   obtain ⟨B2, off2, rfl, hBlt2, hcl2⟩ := HS2.out (by intro e; rw [e] at hd; simp at hd)
   have kp : wr.cell? ⟨B, off + k, none⟩ = some (.int .i64 p) := keepc HBW.out (by have := hcl k p hp 0 (.int .i64 p) rfl; simpa using this)
   have kd0 : wr.cell? ⟨B2, off2 + k * 2, none⟩ = some (.int .i64 d.1) := keepc HBW.out (by have := hcl2 k d hd 0 (.int .i64 d.1) rfl; simpa using this)
   have kd1 : wr.cell? ⟨B2, off2 + k * 2 + 1, none⟩ = some (.int .i64 d.2) := keepc HBW.out (by have := hcl2 k d hd 1 (.int .i64 d.2) rfl; simpa using this)
   have hg := HG.out k p d hp hd
   have HT : Aside (fs.take (k + 1) = fs.take k ++ [(p, distF d)]) := take_snoc' hg
   have HF : Aside (p ∉ (fs.take k).map (·.1)) := by
    intro hm
    rw [List.map_take, HK.out] at hm
    obtain ⟨j, hj, e⟩ := List.getElem_of_mem hm
    have hjk : j < k := by simp at hj; omega
    rw [List.getElem_take] at e
    obtain ⟨h1, h2⟩ := List.getElem?_eq_some_iff.1 hp
    exact (List.pairwise_iff_getElem.1 HB.out.2.2.1) j k (by omega) h1 hjk (e.trans h2.symm)
   have hpb := HB.out.1 p (List.mem_of_getElem? hp)
   have hdb := HB.out.2.1 d (List.mem_of_getElem? hd)
   have hdist : -9223372036854775808 ≤ distF d ∧ distF d ≤ 9223372036854775807 := by unfold distF; split <;> (try split) <;> (try split) <;> omega
   have x1 := fun W => distance_any d W
   unfold pt at x1
   have hkey : keyOf Try.prog 3 (.int .i64 p) = some (.int .i64 p) := keyOf_int_mk Try.underlying3 (WalkArith.wf_i64 (by omega))
   have hwf : (Lit.int .i64 (distF d)).wf = true := WalkArith.wf_i64 (by omega)
   generalize distF d = dd at *
   clear hcl hcl2 hp hd hg hpb hdb hdist
   have hkn : k + 1 ≤ 1000 := by omega
   go_wp2_with (first | (go_at_call 78; (with_reducible refine (x1 _).mono ?_); rintro e w1 ⟨rfl, hb1⟩; have hown1 := ownsMap_below hown hb1) | (at_mapUpdate; refine wpList_mapUpdate_own _ rfl _ _ _ 116 rfl 3 3 int_k Try.underlying116 (plainElem (H := Unit) Try.prog 3) w.heap.size k _ rfl hown1 (by unfold maxLen; omega) _ _ _ rfl rfl hkey _ [] (plainElem_int Try.underlying3 hwf) ?_; intro w3 hown3 hgrow3))
   go_roundw
   case rel => exact ⟨k + 1, _, by omega, by go_num, hown3, by rw [HT.out]; exact HR.out.put HF.out, (HBW.out.trans (hb1.mono HBW.out.size)).grown hgrow3 (by have := HBW.out.size; have := hb1.size; omega) (fun j hj => by cases hj; exact Nat.le_refl _)⟩
   case measure => simp [intOf]; omega
  ·have hltz : ¬ (k : Int) < (n : Int) := by omega
   have : k = n := by omega
   subst this
   have HR2 : Aside (Rep D fs) := by
    have h1 := HR.out
    rw [List.take_of_length_le (by rw [HL.out, HN.out.1]; exact Nat.le_refl _)] at h1
    exact h1
   have x2 := least_any w.heap.size k D fs wr hown HR2.out (by
    intro e
    have h1 := HK.out
    rw [e] at h1
    exact HB.out.2.2.2 h1.symm) (by rw [HL.out, HN.out.1]; exact hl)
   clear hown HR
   go_wp2_with fail
   refine x2.mono ?_
   rintro e w4 ⟨v4, rfl, hrow4, hnil4, hb4⟩
   have H4 : Aside _ := hrow4
   have H5 : Aside (v4 = .slice none 0 0 ↔ leastL fs = []) := hnil4
   clear hrow4 hnil4 x2
   go_wp2
   go_ret
   exact ⟨_, rfl, ownsRow_base H4.out HBW.out.size, H5.out, HBW.out.trans (hb4.mono HBW.out.size)⟩
end
end Go.Proofs.Ytgmlcgifagbjmaa
