/- Board, part Ud: the points of a box. -/
import Derived.Test.YtgceffpkhmjmkaaGreatUa
set_option linter.unusedVariables false
set_option linter.unusedSimpArgs false
namespace Go.Proofs.YtgceffpkhmjmkaaGreat
open Go.RowKit Go.Shelf

def spn (s : Int × Int) : Value := .agg #[.int .i64 s.1, .int .i64 s.2]
def validS (s : Int × Int) : Bool := decide (s.1 ≤ s.2) && [s.1, s.2].all (inb (-5000) 5000)
def sizeS (s : Int × Int) : Int := s.2 - s.1 + 1
def ptAt (x y : Int) (sy i : Nat) : Int × Int := (x + ((i / sy : Nat) : Int), y + ((i % sy : Nat) : Int))

set_option maxHeartbeats 1000000 in
theorem size_any (lo hi : Int) (w : World) (h1 : -5000 ≤ lo) (h2 : lo ≤ 5000) (h3 : -5000 ≤ hi) (h4 : hi ≤ 5000) :
    Calls Tryz.prog 53 #[.agg #[.int .i64 lo, .int .i64 hi]] w fun e w' => e = .returned (.int .i64 (hi - lo + 1)) ∧ Below w.heap.size w w' ∧ w.heap.size < w'.heap.size := by
  go_enter Tryz.func53, Tryz.ntmps53
  go_wp2
  go_ret
  exact ⟨rfl, by (repeat' (first | exact Below.refl _ _ | assumption | (with_reducible refine Below.drew ?_) | (with_reducible refine Below.setCell ?_ (by (first | (simp; done) | (simp; omega))) _) | (with_reducible refine below_drewN' ?_ _) | (refine Below.alloc ?_ (by (try simp only [World.size_alloc, World.size_drew, World.size_setCell]); omega) _) | (refine Below.trans ?_ (Below.mono (by assumption) (by (try simp only [World.size_alloc, World.size_drew, World.size_setCell]); omega))))), by simp⟩

set_option maxHeartbeats 1000000 in
theorem points_any (x1 x2 y1 y2 : Int) (w : World) :
    Calls Tryz.prog 54 #[.agg #[.int .i64 x1, .int .i64 x2, .int .i64 y1, .int .i64 y2]] w fun e' w' => e' = .returned (.func (.func 76) #[] #[.pointer (some ⟨w.heap.size, 0, none⟩)]) ∧ w' = w.alloc (.cells #[.int .i64 x1, .int .i64 x2, .int .i64 y1, .int .i64 y2] 49) := by
  go_enter Tryz.func54, Tryz.ntmps54
  go_wp2
  go_ret
  exact ⟨rfl, rfl⟩

def BoxAt (B : Nat) (x1 x2 y1 y2 : Int) (W : World) : Prop :=
  W.cell? ⟨B, 0, none⟩ = some (.int .i64 x1) ∧ W.cell? ⟨B, 1, none⟩ = some (.int .i64 x2) ∧ W.cell? ⟨B, 2, none⟩ = some (.int .i64 y1) ∧ W.cell? ⟨B, 3, none⟩ = some (.int .i64 y2)

set_option maxRecDepth 100000 in
set_option maxHeartbeats 2000000 in
theorem points1_in (n : Nat) (hn : 1 ≤ n) (l B : Nat) (x1 x2 y1 y2 : Int) (sx sy : Nat) (J : Nat → World → Prop) (W : World) (hJ : Turn1s W.heap.size J)
    (hY : ∀ i v W1, J i W1 → i < sx * sy → v = pt (ptAt x1 y1 sy i) → W.heap.size < W1.heap.size → YieldAt Fence.wide (n - 1) Tryz.prog l #[v] W1 fun e W' => e = .returned (.bool true) ∧ J (i + 1) W' ∧ W1.heap.size ≤ W'.heap.size ∧ W'.heap[W.heap.size]? = W1.heap[W.heap.size]?)
    (hJs : ∀ i A, J i A → BoxAt B x1 x2 y1 y2 A) (hB : B < W.heap.size) (h0 : J 0 W) (hx0 : -5000 ≤ x1) (hx1 : x2 ≤ 5000) (hy0 : -5000 ≤ y1) (hy1 : y2 ≤ 5000) (hsx : x2 - x1 + 1 = sx) (hsy : y2 - y1 + 1 = sy) (hsx1 : 1 ≤ sx) (hsy1 : 1 ≤ sy) :
    CallsIn Fence.wide n Tryz.prog 76 #[.func (.yield l) #[] #[], .pointer (some ⟨B, 0, none⟩)] W fun e W' => (∃ v, e = .returned v) ∧ J (sx * sy) W' := by
  have HJ : Aside (Turn1s W.heap.size J) := hJ
  have HY : Aside (∀ i v W1, J i W1 → i < sx * sy → v = pt (ptAt x1 y1 sy i) → W.heap.size < W1.heap.size → YieldAt Fence.wide (n - 1) Tryz.prog l #[v] W1 fun e W' => e = .returned (.bool true) ∧ J (i + 1) W' ∧ W1.heap.size ≤ W'.heap.size ∧ W'.heap[W.heap.size]? = W1.heap[W.heap.size]?) := hY
  have HJS : Aside (∀ i A, J i A → BoxAt B x1 x2 y1 y2 A) := hJs
  have cx := fun w => size_any x1 x2 w hx0 (by omega) (by omega) hx1
  have cy := fun w => size_any y1 y2 w hy0 (by omega) (by omega) hy1
  rw [hsx] at cx
  rw [hsy] at cy
  have HN : Aside (∀ c r : Nat, c < sx → r < sy → c * sy + r < sx * sy ∧ pt (ptAt x1 y1 sy (c * sy + r)) = .agg #[.int .i64 (x1 + c), .int .i64 (y1 + r)]) := by
    intro c r hc hr
    have e1 : (c + 1) * sy ≤ sx * sy := Nat.mul_le_mul_right _ (by omega)
    rw [Nat.add_mul, Nat.one_mul] at e1
    refine ⟨by omega, ?_⟩
    unfold pt ptAt
    rw [Nat.add_comm, Nat.add_mul_div_right _ _ (by omega), Nat.div_eq_of_lt hr, Nat.add_mul_mod_self_right, Nat.mod_eq_of_lt hr, Nat.zero_add]
  have hsx2 : sx ≤ 10001 := by omega
  have hsy2 : sy ≤ 10001 := by omega
  have hx2 : x1 + sx ≤ 5001 := by omega
  have hy2 : y1 + sy ≤ 5001 := by omega
  obtain ⟨k0, k1, k2, k3⟩ := hJs _ _ h0
  have HSX : Aside (x2 - x1 + 1 = sx) := hsx
  have HSY : Aside (y2 - y1 + 1 = sy) := hsy
  clear hJ hY hJs hsx hsy
  refine callsIn_of_wp Tryz.func76 rfl trivial ?_ rfl
  simp only [Tryz.ntmps76, List.size_toArray, List.length_cons, List.length_nil, Nat.reduceAdd, Nat.reduceSub, Array.replicate_succ, Array.replicate_zero, List.push_toArray, List.append_toArray, List.nil_append, List.cons_append]
  gi_wp2_with (refine ⟨trivial, ?_⟩; gi_at_call 53; refine (callsIn_wide.2 (cx _)).mono ?_; rintro e w1 ⟨rfl, hb1, sz1⟩)
  have J1 : Aside (J 0 w1) := HJ.out _ _ _ h0 (Nat.le_refl _) (Turns1.of_below hb1)
  clear hb1 h0 k0 k1 k2 k3 cx
  gi_loopg [8] sx (fun gg v wr => ∃ c : Nat, c ≤ sx ∧ sx - c ≤ gg ∧ v = .int .i64 c ∧ W.heap.size < wr.heap.size ∧ Aside (J (c * sy) wr))
  case atStart => exact ⟨0, Nat.zero_le _, by omega, rfl, sz1, by rw [Nat.zero_mul]; exact J1.out⟩
  case round =>
    obtain ⟨c, hc, hg, rfl, hsz, HJc⟩ := hrel
    by_cases hlt : c < sx
    · have hltz : (c : Int) < (sx : Int) := by omega
      obtain ⟨k0, k1, k2, k3⟩ := HJS.out _ _ HJc.out
      obtain ⟨wo, rfl⟩ : ∃ wo : World, wo = wr := ⟨_, rfl⟩
      gi_wp2_with (refine ⟨trivial, ?_⟩; gi_at_call 53; refine (callsIn_wide.2 (cy _)).mono ?_; rintro e w2 ⟨rfl, hb2, sz2⟩)
      have J2 : Aside (J (c * sy) w2) := HJ.out _ _ _ HJc.out (by omega) (Turns1.of_below hb2)
      have sz3 : W.heap.size < w2.heap.size := by omega
      clear hb2 sz2 k0 k1 k2 k3
      gi_loopg [14] sy (fun gg v wr => ∃ r : Nat, r ≤ sy ∧ sy - r ≤ gg ∧ v = .int .i64 r ∧ W.heap.size < wr.heap.size ∧ Aside (J (c * sy + r) wr))
      case atStart => exact ⟨0, Nat.zero_le _, by omega, rfl, sz3, J2.out⟩
      case round =>
        obtain ⟨r, hr, hg2, rfl, hsz2, HJr⟩ := hrel
        by_cases hlt2 : r < sy
        · have hltz2 : (r : Int) < (sy : Int) := by omega
          obtain ⟨k0, k1, k2, k3⟩ := HJS.out _ _ HJr.out
          obtain ⟨hN1, hN2⟩ := HN.out c r hlt hlt2
          obtain ⟨fn, tmps, assign, body, hy, hR⟩ := HY.out (c * sy + r) (.agg #[.int .i64 (x1 + c), .int .i64 (y1 + r)]) wr HJr.out hN1 hN2.symm hsz2
          clear hN1 hN2
          gi_wp2
          refine hR.mono ?_
          clear hy hR
          rintro e w3 ⟨rfl, hJ3, hz3, hg3⟩
          have J3 : Aside (J (c * sy + r + 1) w3) := hJ3
          clear hJ3 hg3 k0 k1 k2 k3
          gi_wp2
          gi_roundg (sy - (r + 1))
          case measure => omega
          case rel => exact ⟨r + 1, by omega, by omega, by go_num, by omega, J3.out⟩
        · have : r = sy := by omega
          subst this
          have hltz2 : ¬ (r : Int) < (r : Int) := by omega
          gi_wp2
          gi_roundg (sx - (c + 1))
          case measure => omega
          case rel => exact ⟨c + 1, by omega, by omega, by go_num, by omega, by rw [Nat.add_mul, Nat.one_mul]; exact HJr.out⟩
    · have : c = sx := by omega
      subst this
      have hltz : ¬ (c : Int) < (c : Int) := by omega
      gi_wp2
      go_end0
      exact ⟨⟨_, rfl⟩, HJc.out⟩
end Go.Proofs.YtgceffpkhmjmkaaGreat
