/- Board, part E: the radii, from the inner one on (an iterator); whether the rings are valid. -/
import Derived.Test.YtgceffpkhmjmkaaGreatD
import Derived.RangeFuncNested
import Derived.RangeFuncBound
import Derived.RangeFuncCalls
import Derived.RangeFuncLeaves
import Derived.Shelf.Abstract
import Derived.Shelf.RegionOpen
import Derived.OwnWalkIn
import Derived.TacticsInMore
import Derived.LoopNIn
import Derived.LoopIn
set_option linter.unusedVariables false
set_option linter.unusedSimpArgs false
namespace Go.Proofs.YtgceffpkhmjmkaaGreat
open Go.RowKit Go.Shelf
attribute [local go_sem] Oper.semAt_some

theorem abides_alloc {β : Type} {B : Nat} {J : β → World → Prop} (h : AbidesFrom B J) {s : β} {W : World} (o : Obj) (hs : J s W) : J s (W.alloc o) :=
  h s W _ none hs (World.grownBy_alloc W o none) (fun r e => by cases e)

def radii (b : Brd) : List Int := b.eye :: b.bull :: b.rings.map (·.1)

/-- What lay below n₀ has not turned, nor has block Bt. -/
def Kept (n₀ Bt : Nat) (W W' : World) : Prop := Below n₀ W W' ∧ W'.heap[Bt]? = W.heap[Bt]?
theorem Kept.refl (n₀ Bt : Nat) (W : World) : Kept n₀ Bt W W := ⟨Below.refl _ _, rfl⟩
theorem Kept.trans {n₀ Bt : Nat} {A B C : World} (h : Kept n₀ Bt A B) (k : Kept n₀ Bt B C) : Kept n₀ Bt A C := ⟨h.1.trans k.1, k.2.trans h.2⟩
theorem Kept.cellB {n₀ Bt i : Nat} {A B : World} {v : Value} (h : Kept n₀ Bt A B) (hv : A.cell? ⟨Bt, i, none⟩ = some v) : B.cell? ⟨Bt, i, none⟩ = some v := (World.cell?_of_block (w := A) (a := ⟨Bt, i, none⟩) h.2).trans hv
theorem Kept.cellN {n₀ Bt r i : Nat} {A B : World} {v : Value} (h : Kept n₀ Bt A B) (hr : r < n₀) (hv : A.cell? ⟨r, i, none⟩ = some v) : B.cell? ⟨r, i, none⟩ = some v := (h.1.cell (p := ⟨r, i, none⟩) hr).trans hv
theorem Kept.alloc {n₀ Bt : Nat} {A B : World} (h : Kept n₀ Bt A B) (hn : n₀ ≤ B.heap.size) (hb : Bt < B.heap.size) (o : Obj) : Kept n₀ Bt A (B.alloc o) := ⟨h.1.alloc hn o, (Below.heap_alloc B o Bt hb).trans h.2⟩
theorem keptK_b {n₀ Bt : Nat} {w : World} (hn : n₀ ≤ w.heap.size) (hB : Bt < w.heap.size) (W : World) (l : Nat) (o o' : Obj) (hl : w.heap.size ≤ l) (h : W.heap[l]? = some o) (h1 : o.isCells = false) (h2 : o.isWalk = false) : Kept n₀ Bt W (W.putObj l o') :=
  ⟨belowK_b hn W l o o' hl h h1 h2, World.putObj_heap_other (fun e => by omega)⟩

/-- The cells of a boxed board. -/
def BrdBox (w : World) (B n₀ : Nat) (b : Brd) : Prop :=
  ∃ vr vl vn, w.cell? ⟨B, 0, none⟩ = some (.int .i64 b.eye) ∧ w.cell? ⟨B, 1, none⟩ = some (.int .i64 b.bull) ∧ w.cell? ⟨B, 2, none⟩ = some vr ∧ w.cell? ⟨B, 3, none⟩ = some vl ∧ w.cell? ⟨B, 4, none⟩ = some vn ∧ w.cell? ⟨B, 5, none⟩ = some (.int .i64 b.wire) ∧ Sl w 2 encP vr b.rings ∧ Sl w 2 encP vl b.lines ∧ Sl w 1 (fun x => [Value.int .i64 x]) vn b.nums

set_option maxRecDepth 100000 in
set_option maxHeartbeats 2000000 in
theorem radii1_in (n : Nat) (hn : 1 ≤ n) (l Bt n₀ : Nat) (b : Brd) (J Jx : List Int → World → Prop) (W : World) (hJ : AbidesFrom W.heap.size J)
    (hY : ∀ pre x W, J pre W → pre.length < (radii b).length → x ∈ radii b → YieldAt Fence.wide (n - 1) Tryz.prog l #[.int .i64 x] W fun e W' =>
      (e = .returned (.bool true) ∧ J (pre ++ [x]) W' ∧ Kept n₀ Bt W W') ∨ (e = .returned (.bool false) ∧ Jx (pre ++ [x]) W'))
    (hBt : Bt < W.heap.size) (hn₀ : n₀ ≤ W.heap.size) (h0 : J [] W) (a : Option Addr) (c : Nat)
    (c0 : W.cell? ⟨Bt, 0, none⟩ = some (.int .i64 b.eye)) (c1 : W.cell? ⟨Bt, 1, none⟩ = some (.int .i64 b.bull)) (c2 : W.cell? ⟨Bt, 2, none⟩ = some (.slice a b.rings.length c))
    (hl : b.rings.length ≤ 9223372036854775807)
    (hs : b.rings ≠ [] → ∃ r off, a = some ⟨r, off, none⟩ ∧ r < n₀ ∧ ∀ j x, b.rings[j]? = some x → ∀ i y, (encP x)[i]? = some y → W.cell? ⟨r, off + j * 2 + i, none⟩ = some y) :
    CallsIn Fence.wide n Tryz.prog 103 #[.func (.yield l) #[] #[], .pointer (some ⟨Bt, 0, none⟩)] W fun e W' => (∃ v, e = .returned v) ∧
      ((∃ ys, ys = radii b ∧ J ys W') ∨ (∃ pre, pre <+: radii b ∧ Jx pre W')) := by
  obtain ⟨len, hlen⟩ : ∃ len, b.rings.length = len := ⟨_, rfl⟩
  have HLEN : Aside (b.rings.length = len) := hlen
  have HS : Aside (b.rings ≠ [] → ∃ r off, a = some ⟨r, off, none⟩ ∧ r < n₀ ∧ ∀ j x, b.rings[j]? = some x → ∀ i y, (encP x)[i]? = some y → W.cell? ⟨r, off + j * 2 + i, none⟩ = some y) := hs
  rw [hlen] at hl c2
  clear hs hlen
  have hlr : (radii b).length = b.rings.length + 2 := by simp [radii]
  obtain ⟨fn, tmps, assign, body, hy, hR⟩ := hY [] b.eye W h0 (by rw [hlr]; simp) (by simp [radii])
  refine callsIn_of_wp Tryz.func103 rfl trivial ?_ rfl
  simp only [Tryz.ntmps103, List.size_toArray, List.length_cons, List.length_nil, Nat.reduceAdd, Nat.reduceSub, Array.replicate_succ, Array.replicate_zero, List.push_toArray, List.append_toArray, List.nil_append, List.cons_append]
  gi_wp2
  refine hR.mono ?_
  clear hR hy
  rintro e W1 (⟨rfl, hJ1, hk1⟩ | ⟨rfl, hJx1⟩)
  · have d1 : W1.cell? ⟨Bt, 1, none⟩ = some (.int .i64 b.bull) := hk1.cellB c1
    obtain ⟨fn2, tmps2, assign2, body2, hy2, hR2⟩ := hY _ b.bull W1 hJ1 (by simp; omega) (by simp [radii])
    gi_wp2
    refine hR2.mono ?_
    clear hR2 hy2
    rintro e W2 (⟨rfl, hJ2, hk2⟩ | ⟨rfl, hJx2⟩)
    · have hk : Kept n₀ Bt W W2 := hk1.trans hk2
      have d2 : W2.cell? ⟨Bt, 2, none⟩ = some (.slice a len c) := hk.cellB c2
      gi_wp2
      have hrad : ∀ k x, b.rings[k]? = some x → (radii b).take (2 + k) ++ [x.1] = (radii b).take (2 + (k + 1)) := by
        intro k x hx
        obtain ⟨hk', e⟩ := List.getElem?_eq_some_iff.1 hx
        rw [show 2 + (k + 1) = (2 + k) + 1 by omega, List.take_succ_eq_append_getElem (by omega)]
        congr 1
        have : (radii b)[2 + k]? = some x.1 := by
          rw [show 2 + k = k + 1 + 1 by omega]
          simp [radii, hx]
        rw [List.getElem?_eq_getElem (by omega)] at this
        exact congrArg (· :: []) (Option.some.inj this).symm
      have HR : Aside (∀ k x, b.rings[k]? = some x → (radii b).take (2 + k) ++ [x.1] = (radii b).take (2 + (k + 1))) := hrad
      clear hrad
      have HJ : Aside (AbidesFrom W.heap.size J) := hJ
      clear hJ
      have HY : Aside (∀ pre x W, J pre W → pre.length < (radii b).length → x ∈ radii b → YieldAt Fence.wide (n - 1) Tryz.prog l #[.int .i64 x] W fun e W' =>
          (e = .returned (.bool true) ∧ J (pre ++ [x]) W' ∧ Kept n₀ Bt W W') ∨ (e = .returned (.bool false) ∧ Jx (pre ++ [x]) W')) := hY
      clear hY
      gi_loopw [23] (fun i wr => ∃ k : Nat, k ≤ len ∧ i = .int .i64 k ∧ Aside (J ((radii b).take (2 + k)) wr) ∧ Aside (Kept n₀ Bt W wr))
        (fun i _ => len - (intOf i).toNat)
      case atStart => exact ⟨0, Nat.zero_le _, rfl, hJ2, hk⟩
      case round =>
        obtain ⟨k, hkl, rfl, HJk, HB⟩ := hrel
        by_cases hlt : k < len
        · have hltz : (k : Int) < (len : Int) := by omega
          obtain ⟨x, hx⟩ : ∃ x, b.rings[k]? = some x := ⟨_, List.getElem?_eq_getElem (by rw [HLEN.out]; exact hlt)⟩
          obtain ⟨r, off, rfl, hr, hc⟩ := HS.out (by intro e; rw [e] at hx; simp at hx)
          have x0 : wr.cell? ⟨r, off + k * 2, none⟩ = some (.int .i64 x.1) := HB.out.cellN hr (by have := hc k x hx 0 (.int .i64 x.1) rfl; simpa using this)
          have x1 : wr.cell? ⟨r, off + k * 2 + 1, none⟩ = some (.int .i64 x.2) := HB.out.cellN hr (by have := hc k x hx 1 (.int .i64 x.2) rfl; simpa using this)
          clear hc
          have hW : wr.heap.size ≤ (wr.alloc (.cells #[.int .i64 x.1, .int .i64 x.2] 79)).heap.size := by simp
          obtain ⟨fn3, tmps3, assign3, body3, hy3, hR3⟩ := HY.out _ x.1 (wr.alloc (.cells #[.int .i64 x.1, .int .i64 x.2] 79)) (abides_alloc (s := (radii b).take (2 + k)) HJ.out _ HJk.out) (by rw [List.length_take, hlr, HLEN.out]; omega) (by unfold radii; exact List.mem_cons_of_mem _ (List.mem_cons_of_mem _ (List.mem_map.2 ⟨x, List.mem_of_getElem? hx, rfl⟩)))
          have HX : Aside (b.rings[k]? = some x) := hx
          clear hx hW
          gi_wp2
          refine hR3.mono ?_
          clear hR3 hy3
          rintro e W3 (⟨rfl, hJ3, hk3⟩ | ⟨rfl, hJx3⟩)
          · gi_wp2
            go_roundw
            case rel => exact ⟨k + 1, by omega, by go_num, by rw [HR.out k x HX.out] at hJ3; exact hJ3, (HB.out.alloc (Nat.le_trans hn₀ HB.out.1.size) (Nat.lt_of_lt_of_le hBt HB.out.1.size) _).trans hk3⟩
            case measure => simp [intOf]; omega
          · gi_wp2
            refine bodyPost_ret (results_none rfl _ _ _) rfl ?_
            exact ⟨⟨_, rfl⟩, .inr ⟨_, by rw [HR.out k x HX.out]; exact List.take_prefix _ _, hJx3⟩⟩
        · have : k = len := by omega
          subst this
          gi_wp2
          go_end0
          exact ⟨⟨_, rfl⟩, .inl ⟨_, List.take_of_length_le (by rw [hlr, HLEN.out]; omega), HJk.out⟩⟩
    · gi_wp2
      refine bodyPost_ret (results_none rfl _ _ _) rfl ?_
      exact ⟨⟨_, rfl⟩, .inr ⟨_, ⟨b.rings.map (·.1), rfl⟩, hJx2⟩⟩
  · gi_wp2
    refine ⟨fun _ h => (by cases h), ?_⟩
    gi_wp2
    refine bodyPost_ret (results_none rfl _ _ _) rfl ?_
    exact ⟨⟨_, rfl⟩, .inr ⟨_, ⟨b.bull :: b.rings.map (·.1), rfl⟩, hJx1⟩⟩

set_option maxHeartbeats 400000 in
/-- The maker of the iterator: the board is boxed. -/
theorem radii_any (e bu wi : Int) (vr vl vn : Value) (w : World) :
    Calls Tryz.prog 85 #[.agg #[.int .i64 e, .int .i64 bu, vr, vl, vn, .int .i64 wi]] w fun e' w' => e' = .returned (.func (.func 103) #[] #[.pointer (some ⟨w.heap.size, 0, none⟩)]) ∧ w' = w.alloc (.cells #[.int .i64 e, .int .i64 bu, vr, vl, vn, .int .i64 wi] 82) := by
  go_enter Tryz.func85, Tryz.ntmps85
  go_wp2
  go_ret
  exact ⟨rfl, rfl⟩

theorem radii_stops (n : Nat) (hn : 1 ≤ n) (Bt n₀ : Nat) (b : Brd) (vr : Value) (w : World) (hBt : Bt < w.heap.size) (hn₀ : n₀ ≤ w.heap.size)
    (c0 : w.cell? ⟨Bt, 0, none⟩ = some (.int .i64 b.eye)) (c1 : w.cell? ⟨Bt, 1, none⟩ = some (.int .i64 b.bull)) (c2 : w.cell? ⟨Bt, 2, none⟩ = some vr)
    (w₀ : World) (hw : Sl w₀ 2 encP vr b.rings) (h₀ : w₀.heap.size ≤ n₀) (hb : Below w₀.heap.size w₀ w) :
    SeqStopsK Fence.wide n Tryz.prog 103 #[.pointer (some ⟨Bt, 0, none⟩)] (fun x : Int => #[Value.int .i64 x]) (Kept n₀ Bt) (fun ys => ys = radii b) (fun pre => pre <+: radii b) (radii b).length w := fun l J Jx W hW hJ hJx hY h0 => by
  obtain ⟨a, c, rfl, hl, hs⟩ := hw
  have up : ∀ {q : Addr} {v : Value}, w.cell? q = some v → W.cell? q = some v := fun h => keepc hW h
  exact radii1_in n hn l Bt n₀ b J Jx W hJ (fun pre x W h1 h2 _ => hY pre x W h1 h2) (Nat.lt_of_lt_of_le hBt hW.size) (Nat.le_trans hn₀ hW.size) h0 a c (up c0) (up c1) (up c2) hl (fun hne => by
    obtain ⟨r, off, ha, hr, hc⟩ := hs hne
    exact ⟨r, off, ha, by omega, fun j x hx i y hy => up (keepc hb (hc j x hx i y hy))⟩)

/-- The same, each radius bearing the word that it is one. -/
theorem radii_stopsR (n : Nat) (hn : 1 ≤ n) (Bt n₀ : Nat) (b : Brd) (vr : Value) (w : World) (hBt : Bt < w.heap.size) (hn₀ : n₀ ≤ w.heap.size)
    (c0 : w.cell? ⟨Bt, 0, none⟩ = some (.int .i64 b.eye)) (c1 : w.cell? ⟨Bt, 1, none⟩ = some (.int .i64 b.bull)) (c2 : w.cell? ⟨Bt, 2, none⟩ = some vr)
    (w₀ : World) (hw : Sl w₀ 2 encP vr b.rings) (h₀ : w₀.heap.size ≤ n₀) (hb : Below w₀.heap.size w₀ w) :
    SeqStopsK Fence.wide n Tryz.prog 103 #[.pointer (some ⟨Bt, 0, none⟩)] (fun x : { x : Int // x ∈ radii b } => #[Value.int .i64 x.1]) (Kept n₀ Bt) (fun ys => ys.map (·.1) = radii b) (fun pre => pre.map (·.1) <+: radii b) (radii b).length w := fun l J Jx W hW hJ hJx hY h0 => by
  obtain ⟨a, c, rfl, hl, hs⟩ := hw
  have up : ∀ {q : Addr} {v : Value}, w.cell? q = some v → W.cell? q = some v := fun h => keepc hW h
  refine CallsIn.mono (radii1_in n hn l Bt n₀ b (fun pre W => ∃ p' : List { x : Int // x ∈ radii b }, p'.map (·.1) = pre ∧ J p' W) (fun pre W => ∃ p' : List { x : Int // x ∈ radii b }, p'.map (·.1) = pre ∧ Jx p' W) W
    (fun s A B row hs hg hr => by obtain ⟨p', e, h⟩ := hs; exact ⟨p', e, hJ p' A B row h hg hr⟩)
    (fun pre x W1 h1 h2 hx => by
      obtain ⟨p', e, h⟩ := h1
      refine (hY p' ⟨x, hx⟩ W1 h (by have := congrArg List.length e; simp at this; omega)).mono ?_
      rintro e' W' (⟨he, hj, hk⟩ | ⟨he, hj⟩)
      · exact .inl ⟨he, ⟨_, by simp [e], hj⟩, hk⟩
      · exact .inr ⟨he, ⟨_, by simp [e], hj⟩⟩)
    (Nat.lt_of_lt_of_le hBt hW.size) (Nat.le_trans hn₀ hW.size) ⟨[], rfl, h0⟩ a c (up c0) (up c1) (up c2) hl (fun hne => by
    obtain ⟨r, off, ha, hr, hc⟩ := hs hne
    exact ⟨r, off, ha, by omega, fun j x hx i y hy => up (keepc hb (hc j x hx i y hy))⟩)) ?_
  rintro e W' ⟨hv, ⟨ys, hy, p', e', hj⟩ | ⟨pre, hp, p', e', hj⟩⟩
  · exact ⟨hv, .inl ⟨p', e'.trans hy, hj⟩⟩
  · exact ⟨hv, .inr ⟨p', by show _ <+: _; rw [e']; exact hp, hj⟩⟩

end Go.Proofs.YtgceffpkhmjmkaaGreat
