/- Leg: parts Dg, Hd, He, Ed, Hf. -/
import Derived.BigQuiet
import Derived.Deep.DeepCutAuto
import Derived.Test.YtgmlcgifagbjmaaPba
import Derived.Test.YtgmlcgifagbjmaaPbb
import Derived.Test.YtgmlcgifagbjmaaPay
import Derived.Test.YtgmlcgifagbjmaaPaz
import Derived.Test.YtgmlcgifagbjmaaPaq
import Derived.Test.YtgmlcgifagbjmaaPau
import Derived.Test.YtgmlcgifagbjmaaPar
set_option linter.unusedVariables false
set_option linter.unusedSimpArgs false
namespace Go.Proofs.Ytgmlcgifagbjmaa
section
open Go.RowKit Go.Maps Go.Sort Go.Shelf Go.Deep
theorem long_no {nc : Nat} {lens : List Nat} (h : longF nc lens = false) : (∀ n ∈ lens, n ≤ 6) ∧ nc ≤ 10 ∧ lens.length ≤ 2010 := by
 unfold longF at h
 simp only [Bool.or_eq_false_iff, Bool.and_eq_false_iff, decide_eq_false_iff_not, List.any_eq_false] at h
 obtain ⟨h1, h2, _, h4⟩ := h
 exact ⟨fun n hn => by have := h1 n hn; simpa using this, by omega, by omega⟩
end
section
open Go.RowKit Go.Maps Go.Sort Go.Shelf Go.Deep
theorem rty_outs {T : TypeId} {q : Nat} {w w' : World} {cs : Array Value} (hO : Outs [q] w w') (hq : w.heap[q]? = some (.cells cs T (0, 0))) : RTy T w w' :=
 ⟨hO.size, fun k hk hne => hO.block k (fun hm => by simp only [List.mem_singleton] at hm; subst hm; exact hne cs hq) hk⟩
/-- What a step returns, as a value. -/
def StepV (r : LegR) (tk : LegG × Int × Int) (ww : World) (x : Value) : Prop :=
 ∃ (R' : RG) (es' : List Nat) (vl vd vi vw ve : Value) (dt : Int), x = .tuple #[.agg (rgC R' vl vd vi vw ve), .int .i64 dt, .int .i64 tk.2.2] ∧ (tk.2.2 ≠ 0 → dt = tk.2.1) ∧ RfOk r tk.1 R' es' ∧ RfSl ww vl vd vi vw ve tk.1 es'
def LegV (r : LegR) (g : LegG) (ww : World) (x : Value) : Prop :=
 ∃ (R' : RG) (es' : List Nat) (vl vd vi vw ve : Value), x = .agg (rgC R' vl vd vi vw ve) ∧ RfOk r g R' es' ∧ RfSl ww vl vd vi vw ve g es'
def DartV (tk : LegG × Int × Int) (x : Value) : Prop := ∃ dt : Int, x = .int .i64 dt ∧ (tk.2.2 ≠ 0 → dt = tk.2.1)
theorem StepV.rty {r : LegR} {tk : LegG × Int × Int} {w w' : World} {x : Value} (h : StepV r tk w x) (hR : RTy 108 w w') : StepV r tk w' x := by
 obtain ⟨R', es', vl, vd, vi, vw, ve, dt, h1, h2, h3, h4⟩ := h
 exact ⟨R', es', vl, vd, vi, vw, ve, dt, h1, h2, h3, h4.rty hR⟩
theorem LegV.rty {r : LegR} {g : LegG} {w w' : World} {x : Value} (h : LegV r g w x) (hR : RTy 108 w w') : LegV r g w' x := by
 obtain ⟨R', es', vl, vd, vi, vw, ve, h1, h2, h3⟩ := h
 exact ⟨R', es', vl, vd, vi, vw, ve, h1, h2, h3.rty hR⟩
/-- A leg as it lies in a block. -/
def LegB (r : LegR) (g : LegG) (q : Nat) (W : World) : Prop :=
 ∃ (R' : RG) (es' : List Nat) (vl vd vi vw ve : Value), RgB W q (rgC R' vl vd vi vw ve) ∧ RfOk r g R' es' ∧ RfSl W vl vd vi vw ve g es'
theorem LegB.below {r : LegR} {g : LegG} {q : Nat} {W W' : World} (h : LegB r g q W) (hB : Below W.heap.size W W') : LegB r g q W' := by
 obtain ⟨R', es', vl, vd, vi, vw, ve, h1, h2, h3⟩ := h
 exact ⟨R', es', vl, vd, vi, vw, ve, (hB.block q (Array.getElem?_eq_some_iff.1 h1).1).trans h1, h2, h3.below hB⟩
structure CP (sA : Nat) (r : LegR) (g : LegG) (base : World) (listed : Array Bool) (a : Act) (W : World) : Prop where
 bel : Below base.heap.size base W
 al : listed.getD 11 false = true → ∃ q, a.tmps.getD sA undef = .pointer (some ⟨q, 0, none⟩) ∧ base.heap.size ≤ q ∧ (listed.getD 12 false = false → RgB W q zeroC) ∧ (listed.getD 12 false = true → LegB r g q W)
section
variable {sA : Nat} {r : LegR} {g : LegG} {base W W' : World} {listed : Array Bool} {a : Act}
theorem CP.start (m : Nat) (a : Act) : CP sA r g base (Array.replicate m false) a base.drew :=
 ⟨(Below.refl _ _).drew, fun e => by rw [rep_false] at e; cases e⟩
theorem CP.other (h : CP sA r g base listed a W) {i t : Nat} {x : Value} (hi : (decide (i ≠ 11) && decide (i ≠ 12) && decide (t ≠ sA)) = true) (hB : Below W.heap.size W W') : CP sA r g base (listed.setIfInBounds i true) (a.put (some t) x) W' := by
 simp only [Bool.and_eq_true, decide_eq_true_eq] at hi
 obtain ⟨⟨i1, i2⟩, t1⟩ := hi
 refine ⟨h.bel.trans (hB.mono h.bel.size), fun e => ?_⟩
 rw [getD_set_ne _ _ _ _ (Ne.symm i1)] at e
 obtain ⟨q, q1, q2, q3, q4⟩ := h.al e
 rw [getD_put (Ne.symm t1), getD_set_ne _ _ _ _ (Ne.symm i2)]
 exact ⟨q, q1, q2, fun e => (hB.block q (Array.getElem?_eq_some_iff.1 (q3 e)).1).trans (q3 e), fun e => (q4 e).below hB⟩
theorem CP.alloc (h : CP sA r g base listed a W) (hs : sA < a.tmps.size) (hn : listed.getD 12 false = false) : CP sA r g base (listed.setIfInBounds 11 true) (a.put (some sA) (.pointer (some ⟨W.heap.size, 0, none⟩))) (W.alloc (.cells zeroC 108)) := by
 have hB : Below W.heap.size W (W.alloc (.cells zeroC 108)) := (Below.refl _ _).alloc (Nat.le_refl _) _
 refine ⟨h.bel.trans (hB.mono h.bel.size), fun _ => ⟨W.heap.size, getDV_set_self _ _ _ _ hs, h.bel.size, fun _ => World.alloc_heap_new _ _, fun e => ?_⟩⟩
 rw [getD_set_ne _ _ _ _ (by decide), hn] at e; cases e
theorem CP.store (h : CP sA r g base listed a W) (hl : 12 < listed.size) {q : Nat} (hq : base.heap.size ≤ q) (ha : a.tmps.getD sA undef = .pointer (some ⟨q, 0, none⟩)) (hO : Outs [q] W W') (hL : LegB r g q W') (a' : Act) (ht : a'.tmps = a.tmps) : CP sA r g base (listed.setIfInBounds 12 true) a' W' := by
 refine ⟨h.bel.trans (hO.below (by simp; exact hq) h.bel.size), fun _ => ⟨q, by rw [ht]; exact ha, hq, fun e => ?_, fun _ => hL⟩⟩
 rw [getD_set_self _ _ _ hl] at e; cases e
end
/-- What Play and Judge return of a leg. -/
def sameG (g : LegG) : SameL := ⟨g.left, g.darts, g.inn, g.next, g.round, g.over, g.wins⟩
def sameZ : SameL := ⟨[], [], [], 0, 0, false, []⟩
def playS (r : LegR) (l : List (Int × List Int)) : SameL := match playG r l with | some g => sameG g | none => sameZ
theorem sameZ_at (w : World) : SameAt w zeroSt sameZ :=
 ⟨_, _, _, _, rfl, ⟨none, 0, rfl, by simp [sameZ], fun h => absurd rfl h⟩, ⟨none, 0, rfl, by simp [sameZ], fun h => absurd rfl h⟩, ⟨none, 0, rfl, by simp [sameZ], fun h => absurd rfl h⟩, ⟨none, 0, rfl, by simp [sameZ], fun h => absurd rfl h⟩⟩
def RPlayOk (r : LegR) (l : List (Int × List Int)) (w : World) (e : Ending) (w' : World) : Prop :=
 Below w.heap.size w w' ∧ ∃ vs, e = .returned (.tuple #[vs, .int .i64 (playE r l).1, .int .i64 (playE r l).2]) ∧ SameAt w' vs (playS r l)
theorem play_bad {r : LegR} {l : List (Int × List Int)} {w w' : World} {er : Int} (hB : Below w.heap.size w w') (he : judgeE r l = er) (h0 : er ≠ 0) : RPlayOk r l w (.returned (.tuple #[zeroSt, .int .i64 0, .int .i64 er])) w' := by
 have h1 : playE r l = (0, er) := by unfold playE; rw [he, if_neg h0]
 have h2 : playS r l = sameZ := by unfold playS playG; rw [he, if_neg h0]
 exact ⟨hB, _, by rw [h1], by rw [h2]; exact sameZ_at _⟩
theorem play_wrong {r : LegR} {l : List (Int × List Int)} {w w' : World} {k : Nat} {v : Int × List Int} (hB : Below w.heap.size w w') (he : judgeE r l = 0) (hk : l[k]? = some v) (hf : (judgeK r l k).2 = []) (h0 : (takeG r (judgeK r l k).1 v.1 v.2).2.2 ≠ 0) : RPlayOk r l w (.returned (.tuple #[zeroSt, .int .i64 (k : Int), .int .i64 (takeG r (judgeK r l k).1 v.1 v.2).2.2])) w' := by
 have h3 := (fault_at hk h0).1
 rw [hf] at h3
 cases hx : (judgeK r l l.length).2 with
 | nil => rw [hx] at h3; simp at h3
 | cons f fs =>
  rw [hx] at h3
  simp only [List.length_nil, List.getElem?_cons_zero, Option.some.injEq] at h3
  have h1 : playE r l = ((k : Int), (takeG r (judgeK r l k).1 v.1 v.2).2.2) := by unfold playE; rw [if_pos he, hx, h3]
  have h2 : playS r l = sameZ := by unfold playS playG; rw [if_pos he, hx]
  exact ⟨hB, _, by rw [h1], by rw [h2]; exact sameZ_at _⟩
theorem play_right {r : LegR} {l : List (Int × List Int)} {w w' : World} {vs : Value} (hB : Below w.heap.size w w') (he : judgeE r l = 0) (hf : (judgeK r l l.length).2 = []) (hs : SameAt w' vs (sameG (judgeK r l l.length).1)) : RPlayOk r l w (.returned (.tuple #[vs, .int .i64 0, .int .i64 0])) w' := by
 have h1 : playE r l = (0, 0) := by unfold playE; rw [if_pos he, hf]
 have h2 : playS r l = sameG (judgeK r l l.length).1 := by unfold playS playG; rw [if_pos he, hf]
 exact ⟨hB, vs, by rw [h1], by rw [h2]; exact hs⟩
theorem jk_good {r : LegR} {l : List (Int × List Int)} {k : Nat} {v : Int × List Int} (hk : l[k]? = some v) (h0 : (takeG r (judgeK r l k).1 v.1 v.2).2.2 = 0) : judgeK r l (k + 1) = ((takeG r (judgeK r l k).1 v.1 v.2).1, (judgeK r l k).2) := by
 rw [judgeK_step hk]; unfold jstep; rw [if_pos h0]
theorem ret7_play {K : Ending → World → Prop} {a : Act} {wz : World} {R : Nat} {x0 x1 x2 x3 x4 x5 x6 y z : Value} (ha : a.tmps.getD 4 undef = .pointer (some ⟨R, 0, none⟩)) (hy : a.tmps.getD 5 undef = y) (hz' : a.tmps.getD 6 undef = z) (hd : a.defers = []) (hz : wz.heap[R]? = some (.cells #[x0, x1, x2, x3, x4, x5, x6] 51 (0, 0))) (h : K (.returned (.tuple #[.agg #[x0, x1, x2, x3, x4, x5, x6], y, z])) wz) :
  bodyPost Try.prog Try.f25 K Exit.ret a wz := by
 have ha' : a.tmps[4]?.getD undef = .pointer (some ⟨R, 0, none⟩) := by simpa using ha
 have hy' : a.tmps[5]?.getD undef = y := by simpa using hy
 have hz'' : a.tmps[6]?.getD undef = z := by simpa using hz'
 have r0 : wz.cell? ⟨R, 0, none⟩ = some x0 := blk_cell hz rfl
 have r1 : wz.cell? ⟨R, 1, none⟩ = some x1 := blk_cell hz rfl
 have r2 : wz.cell? ⟨R, 2, none⟩ = some x2 := blk_cell hz rfl
 have r3 : wz.cell? ⟨R, 3, none⟩ = some x3 := blk_cell hz rfl
 have r4 : wz.cell? ⟨R, 4, none⟩ = some x4 := blk_cell hz rfl
 have r5 : wz.cell? ⟨R, 5, none⟩ = some x5 := blk_cell hz rfl
 have r6 : wz.cell? ⟨R, 6, none⟩ = some x6 := blk_cell hz rfl
 exact bodyPost_ret (v := .tuple #[.agg #[x0, x1, x2, x3, x4, x5, x6], y, z]) (by simp [results, Try.results25, go_sem, ha, ha', hy, hy', hz', hz'', r0, r1, r2, r3, r4, r5, r6]) hd h
end
section
open Go.RowKit Go.Maps Go.Sort Go.Shelf Go.Deep
section
variable {wr w5 : World} {r : LegR} {R : RG} {tk : LegG × Int × Int} {vc vl vd vi vw ve vb : Value} {B0 L0 bv ov cv m q : Nat} {p : Int}
set_option maxRecDepth 100000 in
set_option maxHeartbeats 16000000 in
theorem play9 {ops : List Oper} {Q : Exit → Act → World → Prop} {a0 : Act} (hru : wr.heap[B0]? = some (.cells #[vc, .int .i64 r.first, .int .i64 r.rounds, .bool r.equal] 42 (0, 0))) (hleg : RgB wr L0 (rgC R vl vd vi vw ve)) (hv0 : wr.cell? ⟨bv, ov + q * 2, none⟩ = some (.int .i64 p)) (hv1 : wr.cell? ⟨bv, ov + q * 2 + 1, none⟩ = some vb) (HSTEP : Aside (∀ W, Below wr.heap.size wr W → Calls Try.prog 50 #[.agg #[vc, .int .i64 r.first, .int .i64 r.rounds, .bool r.equal], .agg (rgC R vl vd vi vw ve), .agg #[.int .i64 p, vb]] W (fun e w' => Below W.heap.size W w' ∧ ∃ x, e = .returned x ∧ StepV r tk w' x))) (hltq : q < m) (hltz : (q : Int) < (m : Int)) (hops : regOps 9 Try.f25 = some ops) (hsz0 : a0.tmps.size = 47) (hs1 : a0.tmps.getD 1 undef = .slice (some ⟨bv, ov, none⟩) m cv) (hs2 : a0.tmps.getD 2 undef = .pointer (some ⟨B0, 0, none⟩)) (hs7 : a0.tmps.getD 7 undef = .pointer (some ⟨L0, 0, none⟩)) (hs8 : a0.tmps.getD 8 undef = .int .i64 (q : Int))
  (hrest : ∀ (ac : Act) (w5 : World), LaidG ops.toArray a0 (fun (i : Nat) (x : Value) (ww : World) => (match i with | 0 => x = .agg #[vc, .int .i64 r.first, .int .i64 r.rounds, .bool r.equal] | 1 => x = .agg (rgC R vl vd vi vw ve) | 2 => x = .slice (some ⟨bv, ov, none⟩) m cv | 3 => x = .int .i64 (q : Int) | 4 => x = .pointer (some ⟨bv, ov + q * 2, none⟩) | 5 => x = .agg #[.int .i64 p, vb] | 6 => StepV r tk ww x | 7 => StepV r tk ww x | 8 => LegV r tk.1 ww x | 9 => DartV tk x | 10 => x = .int .i64 tk.2.2 | 11 => True | 12 => True | 13 => DartV tk x | 14 => x = .int .i64 tk.2.2 | _ => True : Prop)) (CP 9 r tk.1 wr) #[true, true, true, true, true, true, true, true, true, true, true, true, true, true, true] ac w5 → wpAny Try.prog .any ops.toArray Q 0 #[true, true, true, true, true, true, true, true, true, true, true, true, true, true, true] ac w5) : (Code.region 9 ops.toArray true).wp Try.prog Q a0 wr := by
 (conv at hops => lhs; whnf)
 obtain rfl := Option.some.inj hops
 clear hops
 refine region_laidK (RTy 108) (fl := 16) [true, true, true, true, true, true, true, true, true, true, true, true, true, true, true] 0 (fun (i : Nat) (x : Value) (ww : World) => (match i with | 0 => x = .agg #[vc, .int .i64 r.first, .int .i64 r.rounds, .bool r.equal] | 1 => x = .agg (rgC R vl vd vi vw ve) | 2 => x = .slice (some ⟨bv, ov, none⟩) m cv | 3 => x = .int .i64 (q : Int) | 4 => x = .pointer (some ⟨bv, ov + q * 2, none⟩) | 5 => x = .agg #[.int .i64 p, vb] | 6 => StepV r tk ww x | 7 => StepV r tk ww x | 8 => LegV r tk.1 ww x | 9 => DartV tk x | 10 => x = .int .i64 tk.2.2 | 11 => True | 12 => True | 13 => DartV tk x | 14 => x = .int .i64 tk.2.2 | _ => True : Prop)) (CP 9 r tk.1 wr) (by kernel_rfl) rfl (by rw [hsz0]; decide +kernel) rfl (CP.start _ _) ?mono ?step hrest
 case mono =>
  intro i x ww ww' hB h
  match i, h with
  | 0, h => exact h
  | 1, h => exact h
  | 2, h => exact h
  | 3, h => exact h
  | 4, h => exact h
  | 5, h => exact h
  | 6, h => exact (h.rty hB)
  | 7, h => exact (h.rty hB)
  | 8, h => exact (h.rty hB)
  | 9, h => exact h
  | 10, h => exact h
  | 11, h => exact h
  | 12, h => exact h
  | 13, h => exact h
  | 14, h => exact h
  | n + 15, h => exact h
 case step =>
  intro i o_ listed ac W hA ho hL he hcl hli hsz
  have hk1 : ac.tmps.getD 1 undef = .slice (some ⟨bv, ov, none⟩) m cv := (hL.kept 1 (by decide +kernel)).trans hs1
  have hk2 : ac.tmps.getD 2 undef = .pointer (some ⟨B0, 0, none⟩) := (hL.kept 2 (by decide +kernel)).trans hs2
  have hk7 : ac.tmps.getD 7 undef = .pointer (some ⟨L0, 0, none⟩) := (hL.kept 7 (by decide +kernel)).trans hs7
  have hk8 : ac.tmps.getD 8 undef = .int .i64 (q : Int) := (hL.kept 8 (by decide +kernel)).trans hs8
  have k_leg : RgB W L0 (rgC R vl vd vi vw ve) := (hL.cls.bel.block L0 (Array.getElem?_eq_some_iff.1 hleg).1).trans hleg
  have k_ru := (hL.cls.bel.block B0 (Array.getElem?_eq_some_iff.1 hru).1).trans hru
  have k_r0 := blk_cell k_ru (i := 0) rfl
  have k_r1 := blk_cell k_ru (i := 1) rfl
  have k_r2 := blk_cell k_ru (i := 2) rfl
  have k_r3 := blk_cell k_ru (i := 3) rfl
  have k_v0 := keepc hL.cls.bel hv0
  have k_v1 := keepc hL.cls.bel hv1
  match i, hA, ho with
  | 0, _, ho =>
   cases ho
   refine wpOp_plain rfl rfl ?_
   unfold Oper.wp
   go_simp
   first | exact ⟨_, rfl, RTy.refl _ _, CP.other (i := 0) (t := 29) hL.cls rfl (Below.refl _ _), rfl⟩ | exact ⟨RTy.refl _ _, CP.other (i := 0) (t := 29) hL.cls rfl (Below.refl _ _), rfl⟩ | exact ⟨RTy.refl _ _, CP.other (i := 0) (t := 29) hL.cls rfl (Below.refl _ _)⟩
  | 1, _, ho =>
   cases ho
   refine wpOp_plain rfl rfl ?_
   refine wp_load17 hk7 k_leg ?_
   exact ⟨_, rfl, RTy.refl _ _, CP.other (i := 1) (t := 30) hL.cls rfl (Below.refl _ _), rfl⟩
  | 2, _, ho =>
   cases ho
   refine wpOp_plain rfl rfl ?_
   unfold Oper.wp
   go_simp
   first | exact ⟨_, rfl, RTy.refl _ _, CP.other (i := 2) (t := 31) hL.cls rfl (Below.refl _ _), rfl⟩ | exact ⟨RTy.refl _ _, CP.other (i := 2) (t := 31) hL.cls rfl (Below.refl _ _), rfl⟩ | exact ⟨RTy.refl _ _, CP.other (i := 2) (t := 31) hL.cls rfl (Below.refl _ _)⟩
  | 3, _, ho =>
   cases ho
   refine wpOp_plain rfl rfl ?_
   unfold Oper.wp
   go_simp
   first | exact ⟨_, rfl, RTy.refl _ _, CP.other (i := 3) (t := 32) hL.cls rfl (Below.refl _ _), rfl⟩ | exact ⟨RTy.refl _ _, CP.other (i := 3) (t := 32) hL.cls rfl (Below.refl _ _), rfl⟩ | exact ⟨RTy.refl _ _, CP.other (i := 3) (t := 32) hL.cls rfl (Below.refl _ _)⟩
  | 4, _, ho =>
   cases ho
   have d2 : ac.tmps.getD 31 undef = .slice (some ⟨bv, ov, none⟩) m cv := hL.new 2 _ 31 rfl (he ⟨2, .data⟩ (by simp) rfl) rfl
   have d3 : ac.tmps.getD 32 undef = .int .i64 (q : Int) := hL.new 3 _ 32 rfl (he ⟨3, .data⟩ (by simp) rfl) rfl
   refine wpOp_plain rfl rfl ?_
   unfold Oper.wp
   go_simp
   first | exact ⟨_, rfl, RTy.refl _ _, CP.other (i := 4) (t := 33) hL.cls rfl (Below.refl _ _), rfl⟩ | exact ⟨RTy.refl _ _, CP.other (i := 4) (t := 33) hL.cls rfl (Below.refl _ _), rfl⟩ | exact ⟨RTy.refl _ _, CP.other (i := 4) (t := 33) hL.cls rfl (Below.refl _ _)⟩
  | 5, _, ho =>
   cases ho
   have d4 : ac.tmps.getD 33 undef = .pointer (some ⟨bv, ov + q * 2, none⟩) := hL.new 4 _ 33 rfl (he ⟨4, .data⟩ (by simp) rfl) rfl
   refine wpOp_plain rfl rfl ?_
   unfold Oper.wp
   go_simp
   first | exact ⟨_, rfl, RTy.refl _ _, CP.other (i := 5) (t := 34) hL.cls rfl (Below.refl _ _), rfl⟩ | exact ⟨RTy.refl _ _, CP.other (i := 5) (t := 34) hL.cls rfl (Below.refl _ _), rfl⟩ | exact ⟨RTy.refl _ _, CP.other (i := 5) (t := 34) hL.cls rfl (Below.refl _ _)⟩
  | 6, _, ho =>
   cases ho
   have d0 : ac.tmps.getD 29 undef = .agg #[vc, .int .i64 r.first, .int .i64 r.rounds, .bool r.equal] := hL.new 0 _ 29 rfl (he ⟨0, .data⟩ (by simp) rfl) rfl
   have d1 : ac.tmps.getD 30 undef = .agg (rgC R vl vd vi vw ve) := hL.new 1 _ 30 rfl (he ⟨1, .data⟩ (by simp) rfl) rfl
   have d5 : ac.tmps.getD 34 undef = .agg #[.int .i64 p, vb] := hL.new 5 _ 34 rfl (he ⟨5, .data⟩ (by simp) rfl) rfl
   have x := HSTEP.out W hL.cls.bel
   refine wpOp_plain rfl rfl ?_
   unfold Oper.wp
   go_simp
   refine x.mono ?_
   rintro e w' ⟨hBn, x6, rfl, hst⟩
   have hC := CP.other (i := 6) (t := 35) (x := x6) hL.cls rfl hBn
   first | exact ⟨_, rfl, RTy.of_below hBn, hC, hst⟩ | exact ⟨RTy.of_below hBn, hC, hst⟩
  | 7, _, ho =>
   cases ho
   obtain ⟨x6, hx6⟩ : ∃ x, ac.tmps.getD 35 undef = x := ⟨_, rfl⟩
   have d6 := hL.new 6 _ 35 rfl (he ⟨6, .data⟩ (by simp) rfl) rfl
   rw [hx6] at d6
   refine wpOp_plain rfl rfl ?_
   unfold Oper.wp
   go_simp
   have hC := CP.other (i := 7) (t := 28) (x := x6) hL.cls rfl (Below.refl _ _)
   first | exact ⟨_, rfl, RTy.refl _ _, hC, d6⟩ | exact ⟨RTy.refl _ _, hC, d6⟩
  | 8, _, ho =>
   cases ho
   obtain ⟨x7, hx7⟩ : ∃ x, ac.tmps.getD 28 undef = x := ⟨_, rfl⟩
   have d7 := hL.new 7 _ 28 rfl (he ⟨7, .data⟩ (by simp) rfl) rfl
   rw [hx7] at d7
   obtain ⟨R', es', vl', vd', vi', vw', ve', dt', rfl, h1, h2, h3⟩ := d7
   refine wpOp_plain rfl rfl ?_
   unfold Oper.wp
   go_simp
   first | exact ⟨_, rfl, RTy.refl _ _, CP.other (i := 8) (t := 36) hL.cls rfl (Below.refl _ _), ⟨R', es', vl', vd', vi', vw', ve', rfl, h2, h3⟩⟩ | exact ⟨RTy.refl _ _, CP.other (i := 8) (t := 36) hL.cls rfl (Below.refl _ _), ⟨R', es', vl', vd', vi', vw', ve', rfl, h2, h3⟩⟩ | exact ⟨RTy.refl _ _, CP.other (i := 8) (t := 36) hL.cls rfl (Below.refl _ _)⟩
  | 9, _, ho =>
   cases ho
   obtain ⟨x7, hx7⟩ : ∃ x, ac.tmps.getD 28 undef = x := ⟨_, rfl⟩
   have d7 := hL.new 7 _ 28 rfl (he ⟨7, .data⟩ (by simp) rfl) rfl
   rw [hx7] at d7
   obtain ⟨R', es', vl', vd', vi', vw', ve', dt', rfl, h1, h2, h3⟩ := d7
   refine wpOp_plain rfl rfl ?_
   unfold Oper.wp
   go_simp
   first | exact ⟨_, rfl, RTy.refl _ _, CP.other (i := 9) (t := 37) hL.cls rfl (Below.refl _ _), ⟨dt', rfl, h1⟩⟩ | exact ⟨RTy.refl _ _, CP.other (i := 9) (t := 37) hL.cls rfl (Below.refl _ _), ⟨dt', rfl, h1⟩⟩ | exact ⟨RTy.refl _ _, CP.other (i := 9) (t := 37) hL.cls rfl (Below.refl _ _)⟩
  | 10, _, ho =>
   cases ho
   obtain ⟨x7, hx7⟩ : ∃ x, ac.tmps.getD 28 undef = x := ⟨_, rfl⟩
   have d7 := hL.new 7 _ 28 rfl (he ⟨7, .data⟩ (by simp) rfl) rfl
   rw [hx7] at d7
   obtain ⟨R', es', vl', vd', vi', vw', ve', dt', rfl, h1, h2, h3⟩ := d7
   refine wpOp_plain rfl rfl ?_
   unfold Oper.wp
   go_simp
   first | exact ⟨_, rfl, RTy.refl _ _, CP.other (i := 10) (t := 38) hL.cls rfl (Below.refl _ _), rfl⟩ | exact ⟨RTy.refl _ _, CP.other (i := 10) (t := 38) hL.cls rfl (Below.refl _ _), rfl⟩ | exact ⟨RTy.refl _ _, CP.other (i := 10) (t := 38) hL.cls rfl (Below.refl _ _)⟩
  | 11, _, ho =>
   cases ho
   have hq : listed.getD 12 false = false := by
    cases hx : listed.getD 12 false with
    | false => rfl
    | true =>
     have h8 := hcl 12 _ rfl hx ⟨11, .data⟩ (by simp) rfl
     simp only [Array.getD_eq_getD_getElem?] at h8 hli
     rw [Array.getElem?_eq_getElem (show 11 < listed.size by rw [hsz]; decide)] at h8 hli
     rw [Option.getD_some] at h8 hli
     rw [h8] at hli
     exact absurd hli (by simp)
   refine wpOp_plain rfl rfl ?_
   unfold Oper.wp
   go_simp
   have hBn : Below W.heap.size W (W.alloc (.cells zeroC 108)) := (Below.refl _ _).alloc (Nat.le_refl _) _
   have hC := CP.alloc hL.cls (by rw [hL.size, hsz0]; exact (by decide : (9 : Nat) < 47)) hq
   first | exact ⟨_, rfl, RTy.of_below hBn, hC, trivial⟩ | exact ⟨_, rfl, RTy.of_below hBn, hC⟩ | exact ⟨RTy.of_below hBn, hC⟩
  | 12, _, ho =>
   cases ho
   obtain ⟨x8, hx8⟩ : ∃ x, ac.tmps.getD 36 undef = x := ⟨_, rfl⟩
   have d8 := hL.new 8 _ 36 rfl (he ⟨8, .data⟩ (by simp) rfl) rfl
   rw [hx8] at d8
   have l11 : listed.getD 11 false = true := he ⟨11, .data⟩ (by simp) rfl
   have ls : listed.getD 12 false = false := by
    simp only [Array.getD_eq_getD_getElem?] at hli ⊢
    rw [Array.getElem?_eq_getElem (show 12 < listed.size by rw [hsz]; decide)] at hli ⊢
    simpa using hli
   obtain ⟨q9, e9, q2, q3, q4⟩ := hL.cls.al l11
   obtain ⟨R', es', vl', vd', vi', vw', ve', rfl, h2, h3⟩ := d8
   obtain ⟨⟨b1, f1, rfl, -, -⟩, -⟩ := id h3.1
   obtain ⟨⟨b2, f2, rfl, -, -⟩, -⟩ := id h3.2.1
   obtain ⟨⟨b3, f3, rfl, -, -⟩, -⟩ := id h3.2.2.1
   obtain ⟨⟨b4, f4, rfl, -, -⟩, -⟩ := id h3.2.2.2.1
   obtain ⟨⟨b5, f5, rfl, -, -⟩, -⟩ := id h3.2.2.2.2
   have z9 := q3 ls
   refine wpOp_plain rfl rfl ?_
   refine wp_store17 e9 hx8 z9 ?_
   have hO := outs17 W q9 (.slice b1 tk.1.left.length f1) (.slice b2 tk.1.darts.length f2) (.slice b3 tk.1.inn.length f3) (.int .i64 R'.next) (.int .i64 R'.round) (.bool R'.over) (.slice b4 tk.1.wins.length f4) (.slice b5 (cI es').length f5) (.int .i64 (R'.last 0)) (.int .i64 (R'.last 1)) (.int .i64 (R'.last 2)) (.int .i64 (R'.last 3)) (.int .i64 (R'.last 4)) (.int .i64 (R'.last 5)) (.int .i64 (R'.last 6)) (.int .i64 (R'.last 7)) (.int .i64 R'.done)
   have hR := rty_outs hO z9
   exact ⟨undef, rfl, hR, hL.cls.store (by rw [hsz]; decide) q2 e9 hO ⟨R', es', _, _, _, _, _, rg17 (.slice b1 tk.1.left.length f1) (.slice b2 tk.1.darts.length f2) (.slice b3 tk.1.inn.length f3) (.int .i64 R'.next) (.int .i64 R'.round) (.bool R'.over) (.slice b4 tk.1.wins.length f4) (.slice b5 (cI es').length f5) (.int .i64 (R'.last 0)) (.int .i64 (R'.last 1)) (.int .i64 (R'.last 2)) (.int .i64 (R'.last 3)) (.int .i64 (R'.last 4)) (.int .i64 (R'.last 5)) (.int .i64 (R'.last 6)) (.int .i64 (R'.last 7)) (.int .i64 R'.done) z9, h2, h3.rty hR⟩ ac rfl, trivial⟩
  | 13, _, ho =>
   cases ho
   obtain ⟨x9, hx9⟩ : ∃ x, ac.tmps.getD 37 undef = x := ⟨_, rfl⟩
   have d9 := hL.new 9 _ 37 rfl (he ⟨9, .data⟩ (by simp) rfl) rfl
   rw [hx9] at d9
   obtain ⟨dt', rfl, h1⟩ := d9
   refine wpOp_plain rfl rfl ?_
   unfold Oper.wp
   go_simp
   first | exact ⟨_, rfl, RTy.refl _ _, CP.other (i := 13) (t := 10) hL.cls rfl (Below.refl _ _), ⟨dt', rfl, h1⟩⟩ | exact ⟨RTy.refl _ _, CP.other (i := 13) (t := 10) hL.cls rfl (Below.refl _ _), ⟨dt', rfl, h1⟩⟩ | exact ⟨RTy.refl _ _, CP.other (i := 13) (t := 10) hL.cls rfl (Below.refl _ _)⟩
  | 14, _, ho =>
   cases ho
   have d10 : ac.tmps.getD 38 undef = .int .i64 tk.2.2 := hL.new 10 _ 38 rfl (he ⟨10, .data⟩ (by simp) rfl) rfl
   refine wpOp_plain rfl rfl ?_
   unfold Oper.wp
   go_simp
   first | exact ⟨_, rfl, RTy.refl _ _, CP.other (i := 14) (t := 11) hL.cls rfl (Below.refl _ _), rfl⟩ | exact ⟨RTy.refl _ _, CP.other (i := 14) (t := 11) hL.cls rfl (Below.refl _ _), rfl⟩ | exact ⟨RTy.refl _ _, CP.other (i := 14) (t := 11) hL.cls rfl (Below.refl _ _)⟩
  | n + 15, hA, _ => simp at hA
end
end
section
open Go.RowKit Go.Maps Go.Sort Go.Shelf Go.Deep
set_option maxRecDepth 100000 in
set_option maxHeartbeats 4000000 in
theorem rrules_any (r : LegR) (vc : Value) (w : World) (hc : Sl w 3 encC vc r.counts) : Calls Try.prog 24 #[legRV r vc] w (Ret (.bool (vleg r)) w) := by
 obtain ⟨a, cp, rfl, hl, hs⟩ := hc
 obtain ⟨m, hm⟩ : ∃ m, r.counts.length = m := ⟨_, rfl⟩
 have HN : Aside (r.counts.length = m) := hm
 have HS : Aside (r.counts ≠ [] → ∃ b off, a = some ⟨b, off, none⟩ ∧ b < w.heap.size ∧ ∀ j x, r.counts[j]? = some x → ∀ i y, (encC x)[i]? = some y → w.cell? ⟨b, off + j * 3 + i, none⟩ = some y) := hs
 obtain ⟨res, hres⟩ : ∃ res, vleg r = res := ⟨_, rfl⟩
 have HR : Aside (vleg r = res) := hres
 rw [hm] at hl ⊢
 rw [hres]
 clear hs hm hres
 unfold legRV
 go_enter Try.func24, Try.ntmps24
 go_wp2_with fail
 obtain ⟨wa, hwa⟩ : ∃ u, u = w.alloc (.cells #[.slice a m cp, .int .i64 r.first, .int .i64 r.rounds, .bool r.equal] 42) := ⟨_, rfl⟩
 have hb0 : wa.heap[w.heap.size]? = some (.cells #[.slice a m cp, .int .i64 r.first, .int .i64 r.rounds, .bool r.equal] 42 (0, 0)) := by rw [hwa]; exact World.alloc_heap_new _ _
 have BA : Aside (Below w.heap.size w wa) := by rw [hwa]; (repeat' (first | exact Below.refl _ _ | assumption | (with_reducible refine Below.drew ?_) | (with_reducible refine Below.setCell ?_ (by (first | (simp; done) | (simp; omega))) _) | (with_reducible refine below_drewN' ?_ _) | (refine Below.alloc ?_ (by (try simp only [World.size_alloc, World.size_drew, World.size_setCell]); omega) _) | (refine Below.trans ?_ (Below.mono (by assumption) (by (try simp only [World.size_alloc, World.size_drew, World.size_setCell]); omega)))))
 rw [← hwa]
 clear hwa
 have HB0 : Aside (wa.heap[w.heap.size]? = some (.cells #[.slice a m cp, .int .i64 r.first, .int .i64 r.rounds, .bool r.equal] 42 (0, 0))) := hb0
 clear hb0
 go_loopg [3] m (fun gg i wr => ∃ k : Nat, k ≤ m ∧ m - k ≤ gg ∧ i = .int .i64 k ∧ Aside (Below w.heap.size w wr ∧ wr.heap[w.heap.size]? = some (.cells #[.slice a m cp, .int .i64 r.first, .int .i64 r.rounds, .bool r.equal] 42 (0, 0))) ∧ Aside (∀ j c, j < k → r.counts[j]? = some c → vcnt c = true))
 case atStart => exact ⟨0, Nat.zero_le _, by omega, rfl, ⟨BA.out, HB0.out⟩, fun j x h => absurd h (Nat.not_lt_zero j)⟩
 case round =>
  obtain ⟨k, hk, hg, rfl, HW, HA⟩ := hrel
  have q0 : wr.cell? ⟨w.heap.size, 0, none⟩ = some (.slice a m cp) := blk_cell HW.out.2 rfl
  have q1 : wr.cell? ⟨w.heap.size, 1, none⟩ = some (.int .i64 r.first) := blk_cell HW.out.2 rfl
  have q2 : wr.cell? ⟨w.heap.size, 2, none⟩ = some (.int .i64 r.rounds) := blk_cell HW.out.2 rfl
  by_cases hlt : k < m
  ·have hltz : (k : Int) < (m : Int) := by omega
   obtain ⟨c, hx⟩ : ∃ x, r.counts[k]? = some x := ⟨_, List.getElem?_eq_getElem (by rw [HN.out]; exact hlt)⟩
   obtain ⟨B, off, rfl, hBlt, hcl⟩ := HS.out (by intro e; rw [e] at hx; simp at hx)
   have c0 : wr.cell? ⟨B, off + k * 3, none⟩ = some (.int .i64 c.1) := keepc HW.out.1 (by have := hcl k c hx 0 (.int .i64 c.1) rfl; simpa using this)
   have c1 : wr.cell? ⟨B, off + k * 3 + 1, none⟩ = some (.int .i64 c.2.1) := keepc HW.out.1 (by have := hcl k c hx 1 (.int .i64 c.2.1) rfl; simpa using this)
   have c2 : wr.cell? ⟨B, off + k * 3 + 2, none⟩ = some (.int .i64 c.2.2) := keepc HW.out.1 (by have := hcl k c hx 2 (.int .i64 c.2.2) rfl; simpa using this)
   have HXK : Aside (r.counts[k]? = some c) := hx
   have y0 := fun W => rcount_any c W
   unfold cntV at y0
   obtain ⟨vb, hvb⟩ : ∃ x, vcnt c = x := ⟨_, rfl⟩
   have HV : Aside (vcnt c = vb) := hvb
   rw [hvb] at y0
   obtain ⟨cs, ci, co⟩ := c
   simp only [] at c0 c1 c2 y0
   clear hcl hx hvb HB0 BA
   go_wp2_with fail
   refine (y0 _).mono ?_
   rintro e w2 ⟨rfl, hb2⟩
   have HW2 : Aside (Below w.heap.size w w2 ∧ w2.heap[w.heap.size]? = some (.cells #[.slice (some ⟨B, off, none⟩) m cp, .int .i64 r.first, .int .i64 r.rounds, .bool r.equal] 42 (0, 0))) := ⟨HW.out.1.trans (hb2.mono HW.out.1.size), (hb2.block _ (Array.getElem?_eq_some_iff.1 HW.out.2).1).trans HW.out.2⟩
   clear hb2 y0 c0 c1 c2 q0 q1 q2 HW
   cases vb with
   | false =>
    have HT : Aside (false = res) := by
     show _ = _
     rw [← HR.out]
     unfold vleg
     have : (r.counts.any fun c => !vcnt c) = true := List.any_eq_true.2 ⟨_, List.mem_of_getElem? HXK.out, by rw [HV.out]; rfl⟩
     rw [this]; simp
    have h9 := HT.out
    clear HR HT
    subst h9
    go_wp2
    go_ret
    exact ⟨rfl, HW2.out.1⟩
   | true =>
    have HA2 : Aside (∀ j c, j < k + 1 → r.counts[j]? = some c → vcnt c = true) := by
     intro j y hj hy
     by_cases hjk : j = k
     ·subst hjk; rw [HXK.out] at hy; cases hy; exact HV.out
     ·exact HA.out j y (by omega) hy
    go_wp2_with fail
    go_roundg (m - (k + 1))
    case measure => omega
    case rel => exact ⟨k + 1, by omega, by omega, by go_num, HW2.out, HA2.out⟩
  ·have hltz : ¬ (k : Int) < (m : Int) := by omega
   have hke : k = m := by omega
   subst hke
   have HT : Aside ((inb 1 8 (k : Int) && (inb 0 ((k : Int) - 1) r.first && inb 0 200 r.rounds)) = res) := by
    show _ = _
    rw [← HR.out]
    unfold vleg
    have : (r.counts.any fun c => !vcnt c) = false := by
     rw [List.any_eq_false]
     intro c hc
     obtain ⟨j, hj⟩ := List.mem_iff_getElem?.1 hc
     rw [HA.out j c (by have := (List.getElem?_eq_some_iff.1 hj).1; have := HN.out; omega) hj]; simp
    rw [this, HN.out]; simp
   clear HR HA HS HB0 BA
   have C1 := fun W => rin_any (k : Int) 1 8 W
   have C2 := fun W => rin_any r.first 0 ((k : Int) - 1) W
   have C3 := fun W => rin_any r.rounds 0 200 W
   have h18 : inb 1 8 (k : Int) = true → (k : Int) ≤ 8 := fun h => by unfold inb at h; simp at h; omega
   have H18 : Aside (inb 1 8 (k : Int) = true → (k : Int) ≤ 8) := h18
   generalize hb1 : inb 1 8 (k : Int) = b1 at C1 HT H18
   generalize inb 0 ((k : Int) - 1) r.first = b2 at C2 HT
   generalize inb 0 200 r.rounds = b3 at C3 HT
   clear h18 hb1
   cases b1 with
   | false =>
    go_wp2_with fail
    refine (C1 _).mono ?_
    rintro e w2 ⟨rfl, hb2⟩
    have h9 := HT.out
    clear HT C1 C2 C3
    replace h9 : false = res := h9
    subst h9
    go_wp2
    go_ret
    exact ⟨rfl, HW.out.1.trans (hb2.mono HW.out.1.size)⟩
   | true =>
    have hk8 : (k : Int) ≤ 8 := H18.out rfl
    clear H18
    go_wp2_with fail
    refine (C1 _).mono ?_
    rintro e w2 ⟨rfl, hb2⟩
    have B2 : Aside (Below w.heap.size w w2) := HW.out.1.trans (hb2.mono HW.out.1.size)
    replace q0 := keepc hb2 q0
    replace q1 := keepc hb2 q1
    replace q2 := keepc hb2 q2
    clear hb2 C1 HW
    cases b2 with
    | false =>
     have h9 : false = res := HT.out
     clear HT C3
     subst h9
     go_wp2_with fail
     refine (C2 _).mono ?_
     rintro e w3 ⟨rfl, hb3⟩
     go_wp2
     go_ret
     exact ⟨rfl, B2.out.trans (hb3.mono B2.out.size)⟩
    | true =>
     have h9 : b3 = res := HT.out
     clear HT
     subst h9
     go_wp2_with fail
     refine (C2 _).mono ?_
     rintro e w3 ⟨rfl, hb3⟩
     replace B2 : Aside (Below w.heap.size w w3) := B2.out.trans (hb3.mono B2.out.size)
     replace q2 := keepc hb3 q2
     clear hb3 C2
     go_wp2_with fail
     refine (C3 _).mono ?_
     rintro e w4 ⟨rfl, hb4⟩
     go_wp2
     go_ret
     exact ⟨rfl, B2.out.trans (hb4.mono B2.out.size)⟩
end
section
open Go.RowKit Go.Maps Go.Sort Go.Shelf Go.Deep
/-- What holds at the head of a round of Play. -/
structure PInv (r : LegR) (l : List (Int × List Int)) (vc : Value) (w : World) (L0 q : Nat) (g : LegG) (fs : List (Int × Int × Int)) (wr : World) : Prop where
 rul : wr.heap[w.heap.size]? = some (.cells #[vc, .int .i64 r.first, .int .i64 r.rounds, .bool r.equal] 42 (0, 0))
 zero : ZeroSt wr (w.heap.size + 1)
 bel : Below w.heap.size w wr
 leg : LegB r g L0 wr
 ok : g.Ok r (2 * q)
 jk : judgeK r l q = (g, fs)
 lo : w.heap.size + 2 ≤ L0
theorem lt2 {w : World} {vc : Value} {r : LegR} {W : World} (h : W = ((w.alloc (.cells #[vc, .int .i64 r.first, .int .i64 r.rounds, .bool r.equal] 42)).alloc (.cells #[.slice none 0 0, .slice none 0 0, .slice none 0 0, .int .i64 0, .int .i64 0, .bool false, .slice none 0 0] 51))) : W.heap[w.heap.size]? = some (.cells #[vc, .int .i64 r.first, .int .i64 r.rounds, .bool r.equal] 42 (0, 0)) ∧ ZeroSt W (w.heap.size + 1) ∧ Below w.heap.size w W ∧ W.heap.size = w.heap.size + 2 := by
 subst h
 refine ⟨?_, ?_, by (repeat' (first | exact Below.refl _ _ | assumption | (with_reducible refine Below.drew ?_) | (with_reducible refine Below.setCell ?_ (by (first | (simp; done) | (simp; omega))) _) | (with_reducible refine below_drewN' ?_ _) | (refine Below.alloc ?_ (by (try simp only [World.size_alloc, World.size_drew, World.size_setCell]); omega) _) | (refine Below.trans ?_ (Below.mono (by assumption) (by (try simp only [World.size_alloc, World.size_drew, World.size_setCell]); omega))))), by simp⟩
 ·exact (Below.heap_alloc _ _ _ (by simp; try omega)).trans (World.alloc_heap_new _ _)
 ·exact World.alloc_heap_new' _ _ _ (by simp)
/-- A leg is laid into a block of the same kind. -/
theorem LegB.put {r : LegR} {g : LegG} {L0 : Nat} {W W' : World} {cs : Array Value} {R' : RG} {es' : List Nat} {vl vd vi vw ve : Value} (hz : RgB W L0 cs) (hO : Outs [L0] W W') (hb : RgB W' L0 (rgC R' vl vd vi vw ve)) (hf : RfOk r g R' es') (hs : RfSl W vl vd vi vw ve g es') : LegB r g L0 W' :=
 ⟨R', es', vl, vd, vi, vw, ve, hb, hf, hs.rty (rty_outs hO hz)⟩
theorem LegB.same {r : LegR} {g : LegG} {W : World} {R' : RG} {es' : List Nat} {vl vd vi vw ve : Value} (hf : RfOk r g R' es') (hs : RfSl W vl vd vi vw ve g es') : SameAt W (.agg #[vl, vd, vi, .int .i64 R'.next, .int .i64 R'.round, .bool R'.over, vw]) (sameG g) :=
 ⟨vl, vd, vi, vw, by rw [show (sameG g).next = R'.next from hf.next.symm, show (sameG g).round = R'.round from hf.round.symm, show (sameG g).over = R'.over from hf.over.symm], hs.1.1, hs.2.1.1, hs.2.2.1.1, hs.2.2.2.1.1⟩
theorem SameAt.outs7 {W W' : World} {Z0 : Nat} {g : LegG} {nx rn : Int} {ov : Bool} {vl vd vi vw ve : Value} {es : List Nat} (hO : Outs [Z0] W W') (hz : ZeroSt W Z0) (hs : RfSl W vl vd vi vw ve g es) (h : SameAt W (.agg #[vl, vd, vi, .int .i64 nx, .int .i64 rn, .bool ov, vw]) (sameG g)) : SameAt W' (.agg #[vl, vd, vi, .int .i64 nx, .int .i64 rn, .bool ov, vw]) (sameG g) := by
 have hR : RTy 51 W W' := rty_outs hO hz
 obtain ⟨a1, a2, a3, a4, e, h1, h2, h3, h4⟩ := h
 simp only [Value.agg.injEq, Array.mk.injEq, List.cons.injEq, and_true] at e
 obtain ⟨rfl, rfl, rfl, e4, e5, e6, rfl⟩ := e
 refine ⟨_, _, _, _, by rw [← e4, ← e5, ← e6], ?_, ?_, ?_, ?_⟩
 ·exact (hs.1.rty hR (by decide)).1
 ·exact (hs.2.1.rty hR (by decide)).1
 ·exact (hs.2.2.1.rty hR (by decide)).1
 ·exact (hs.2.2.2.1.rty hR (by decide)).1
set_option maxRecDepth 100000 in
set_option maxHeartbeats 16000000 in
theorem rplay_any (r : LegR) (vc : Value) (lv : List (Int × Value × List Int)) (v : Value) (w : World) (hc : Sl w 3 encC vc r.counts) (hv : Sl w 2 encV v lv)
  (hb : ∀ x ∈ lv, Sl w 1 eI x.2.1 x.2.2 ∧ ∀ b ∈ x.2.2, -9223372036854775808 ≤ b ∧ b ≤ 9223372036854775807) :
  Calls Try.prog 25 #[legRV r vc, v] w (RPlayOk r (lv.map prV) w) := by
 have HC : Aside (Sl w 3 encC vc r.counts) := hc
 have HBV : Aside (∀ x ∈ lv, Sl w 1 eI x.2.1 x.2.2 ∧ ∀ b ∈ x.2.2, -9223372036854775808 ≤ b ∧ b ≤ 9223372036854775807) := hb
 have y1 : Aside (∀ W, Below w.heap.size w W → Calls Try.prog 24 #[.agg #[vc, .int .i64 r.first, .int .i64 r.rounds, .bool r.equal]] W (Ret (.bool (vleg r)) W)) := fun W hB => rrules_any r vc W (HC.out.below hB)
 have y2 : Aside (vleg r = true → ∀ W, Below w.heap.size w W → Calls Try.prog 49 #[.agg #[vc, .int .i64 r.first, .int .i64 r.rounds, .bool r.equal]] W (RBeginOk r W)) := fun hv W hB => rbegin_any r vc W (vleg_ok hv).1 (HC.out.below hB)
 have y3 : Aside (∀ (W : World) (g : LegG) (R : RG) (es : List Nat) (i : Nat) (vl vd vi vw ve : Value) (x : Int × Value × List Int), Below w.heap.size w W → vleg r = true → x ∈ lv → g.Ok r i → i ≤ 10000 → RfOk r g R es → RfSl W vl vd vi vw ve g es → ∀ tk, takeG r g x.1 x.2.2 = tk → Calls Try.prog 50 #[.agg #[vc, .int .i64 r.first, .int .i64 r.rounds, .bool r.equal], .agg (rgC R vl vd vi vw ve), .agg #[.int .i64 x.1, x.2.1]] W (fun e w' => Below W.heap.size W w' ∧ ∃ x, e = .returned x ∧ StepV r tk w' x)) := by
  intro W g R es i vl vd vi vw ve x hB hvl hx hg hi hf hs tk ht
  refine (rstep_any x.1 W vc vl vd vi vw ve x.2.1 x.2.2 hvl hg hi hf (HC.out.below hB) hs ((HBV.out x hx).1.below hB) (HBV.out x hx).2).mono ?_
  rintro e w' ⟨hB', R', es', a1, a2, a3, a4, a5, dt, rfl, h1, h2, h3⟩
  rw [ht] at h1 h2 h3 ⊢
  exact ⟨hB', _, rfl, R', es', a1, a2, a3, a4, a5, dt, rfl, h1, h2, h3⟩
 obtain ⟨m, hm⟩ : ∃ m, lv.length = m := ⟨_, rfl⟩
 obtain ⟨av, cv, rfl, hml, hvs⟩ := hv
 have HV : Aside (∀ q x, lv[q]? = some x → ∃ bv ov, av = some ⟨bv, ov, none⟩ ∧ w.cell? ⟨bv, ov + q * 2, none⟩ = some (.int .i64 x.1) ∧ w.cell? ⟨bv, ov + q * 2 + 1, none⟩ = some x.2.1) := by
  intro q x hx
  obtain ⟨bv, ov, h1, _, h2⟩ := hvs (fun e => by rw [e] at hx; simp at hx)
  have q0 := h2 q _ hx 0 (.int .i64 x.1) rfl
  have q1 := h2 q _ hx 1 x.2.1 rfl
  exact ⟨bv, ov, h1, by simpa using q0, by simpa using q1⟩
 have HM : Aside (lv.length = m ∧ (lv.map prV).length = m) := ⟨hm, by rw [List.length_map]; exact hm⟩
 rw [hm] at hml ⊢
 obtain ⟨l, hl⟩ : ∃ l, lv.map prV = l := ⟨_, rfl⟩
 have HL : Aside (lv.map prV = l) := hl
 rw [hl] at HM ⊢
 clear hc hb hvs hm hl
 unfold legRV
 go_enter Try.func25, Try.ntmps25
 go_upto_region 1 with (fail)
 obtain ⟨w0, hw0⟩ : ∃ u, u = ((w.alloc (.cells #[vc, .int .i64 r.first, .int .i64 r.rounds, .bool r.equal] 42)).alloc (.cells #[.slice none 0 0, .slice none 0 0, .slice none 0 0, .int .i64 0, .int .i64 0, .bool false, .slice none 0 0] 51)) := ⟨_, rfl⟩
 have H0 : Aside _ := lt2 hw0
 rw [← hw0]
 clear hw0
 have c0 := blk_cell H0.out.1 (i := 0) rfl
 have c1 := blk_cell H0.out.1 (i := 1) rfl
 have c2 := blk_cell H0.out.1 (i := 2) rfl
 have c3 := blk_cell H0.out.1 (i := 3) rfl
 go_wp2_with fail
 refine (y1.out _ H0.out.2.2.1).mono ?_
 rintro e w1 ⟨rfl, hb1⟩
 have H1 : Aside (w1.heap[w.heap.size]? = some (.cells #[vc, .int .i64 r.first, .int .i64 r.rounds, .bool r.equal] 42 (0, 0)) ∧ ZeroSt w1 (w.heap.size + 1) ∧ Below w.heap.size w w1 ∧ w.heap.size + 2 ≤ w1.heap.size) := ⟨(hb1.block _ (Array.getElem?_eq_some_iff.1 H0.out.1).1).trans H0.out.1, (hb1.block _ (Array.getElem?_eq_some_iff.1 H0.out.2.1).1).trans H0.out.2.1, H0.out.2.2.1.trans (hb1.mono H0.out.2.2.1.size), by have := hb1.size; have := H0.out.2.2.2; omega⟩
 clear hb1 c0 c1 c2 c3 H0 y1
 have z0 := blk_cell H1.out.2.1 (i := 0) rfl
 have z1 := blk_cell H1.out.2.1 (i := 1) rfl
 have z2 := blk_cell H1.out.2.1 (i := 2) rfl
 have z3 := blk_cell H1.out.2.1 (i := 3) rfl
 have z4 := blk_cell H1.out.2.1 (i := 4) rfl
 have z5 := blk_cell H1.out.2.1 (i := 5) rfl
 have z6 := blk_cell H1.out.2.1 (i := 6) rfl
 have zf := blk_free H1.out.2.1
 have zlt : w.heap.size + 1 < w1.heap.size := by have := H1.out.2.2.2; omega
 cases hvl : vleg r with
 | false =>
  have HE : Aside (judgeE r l = 2) := by show _ = _; unfold judgeE; rw [if_neg (by rw [hvl]; simp)]
  go_wp2_with fail
  refine ret7_play (wz := set7 w1 (w.heap.size + 1) (.slice none 0 0) (.slice none 0 0) (.slice none 0 0) (.int .i64 0) (.int .i64 0) (.bool false) (.slice none 0 0)) rfl rfl rfl rfl (set7_blk (.slice none 0 0) (.slice none 0 0) (.slice none 0 0) (.int .i64 0) (.int .i64 0) (.bool false) (.slice none 0 0) H1.out.2.1) ?_
  exact play_bad (set7_below H1.out.2.2.1 (by omega) (.slice none 0 0) (.slice none 0 0) (.slice none 0 0) (.int .i64 0) (.int .i64 0) (.bool false) (.slice none 0 0)) HE.out (by decide)
 | true =>
  have HVL : Aside (vleg r = true) := hvl
  clear hvl
  by_cases hlong : 2000 < m
  ·have hlz : (2000 : Int) < (m : Int) := by omega
   have HE : Aside (judgeE r l = 5) := by show _ = _; unfold judgeE; rw [if_pos HVL.out, HM.out.2, if_pos hlong]
   go_wp2_with fail
   refine ret7_play (wz := set7 w1 (w.heap.size + 1) (.slice none 0 0) (.slice none 0 0) (.slice none 0 0) (.int .i64 0) (.int .i64 0) (.bool false) (.slice none 0 0)) rfl rfl rfl rfl (set7_blk (.slice none 0 0) (.slice none 0 0) (.slice none 0 0) (.int .i64 0) (.int .i64 0) (.bool false) (.slice none 0 0) H1.out.2.1) ?_
   exact play_bad (set7_below H1.out.2.2.1 (by omega) (.slice none 0 0) (.slice none 0 0) (.slice none 0 0) (.int .i64 0) (.int .i64 0) (.bool false) (.slice none 0 0)) HE.out (by decide)
  ·have hlz : ¬ (2000 : Int) < (m : Int) := by omega
   have HE : Aside (judgeE r l = 0) := by show _ = _; unfold judgeE; rw [if_pos HVL.out, HM.out.2, if_neg hlong]
   have c0 := blk_cell H1.out.1 (i := 0) rfl
   have c1 := blk_cell H1.out.1 (i := 1) rfl
   have c2 := blk_cell H1.out.1 (i := 2) rfl
   have c3 := blk_cell H1.out.1 (i := 3) rfl
   go_wp2_with fail
   refine (y2.out HVL.out _ H1.out.2.2.1).mono ?_
   rintro e w2 ⟨vl, vd, vi, vw, ve, rfl, hsl, hb2⟩
   have H2 : Aside (w2.heap[w.heap.size]? = some (.cells #[vc, .int .i64 r.first, .int .i64 r.rounds, .bool r.equal] 42 (0, 0)) ∧ ZeroSt w2 (w.heap.size + 1) ∧ Below w.heap.size w w2 ∧ w.heap.size + 2 ≤ w2.heap.size) := ⟨(hb2.block _ (Array.getElem?_eq_some_iff.1 H1.out.1).1).trans H1.out.1, (hb2.block _ (Array.getElem?_eq_some_iff.1 H1.out.2.1).1).trans H1.out.2.1, H1.out.2.2.1.trans (hb2.mono H1.out.2.2.1.size), by have := hb2.size; have := H1.out.2.2.2; omega⟩
   clear hb2 c0 c1 c2 c3 H1 y2 z0 z1 z2 z3 z4 z5 z6 zf zlt
   have HS2 : Aside (RfSl w2 vl vd vi vw ve (beginG r) []) := hsl
   obtain ⟨h1, h2, h3, h4, h5⟩ := hsl
   obtain ⟨b1, f1, rfl, -, -⟩ := h1.1
   obtain ⟨b2, f2, rfl, -, -⟩ := h2.1
   obtain ⟨b3, f3, rfl, -, -⟩ := h3.1
   obtain ⟨b4, f4, rfl, -, -⟩ := h4.1
   obtain ⟨b5, f5, rfl, -, -⟩ := h5.1
   obtain ⟨n1, hn1⟩ : ∃ x, (beginG r).left.length = x := ⟨_, rfl⟩
   obtain ⟨n2, hn2⟩ : ∃ x, (beginG r).darts.length = x := ⟨_, rfl⟩
   obtain ⟨n3, hn3⟩ : ∃ x, (beginG r).inn.length = x := ⟨_, rfl⟩
   obtain ⟨n4, hn4⟩ : ∃ x, (beginG r).wins.length = x := ⟨_, rfl⟩
   obtain ⟨n5, hn5⟩ : ∃ x, (cI []).length = x := ⟨_, rfl⟩
   rw [hn1, hn2, hn3, hn4, hn5] at HS2 ⊢
   clear hn1 hn2 hn3 hn4 hn5 h1 h2 h3 h4 h5
   dsimp only
   apply_assumption
   refine wpList_plain rfl (fun KK hK => ?_)
   unfold Oper.wp
   go_simp
   refine hK _ _ ?_
   clear hK KK
   have HZB : Aside (RgB (w2.alloc (.cells zeroC 108)) w2.heap.size zeroC) := World.alloc_heap_new _ _
   have HRB : Aside (w2.heap.size = w2.heap.size) := rfl
   skip
   rw [HRB.out] at HZB
   refine wpList_plain rfl (fun KK hK => ?_)
   refine wp_store17 (B := w2.heap.size) (by rfl) (by rfl) HZB.out ?_
   refine hK _ _ ?_
   clear hK KK
   (try simp only [Act.put, List.setIfInBounds_toArray, List.set_cons_zero, List.set_cons_succ])
   obtain ⟨w3, hw3⟩ : ∃ u, u = set17 (w2.alloc (.cells zeroC 108)) w2.heap.size (.slice b1 n1 f1) (.slice b2 n2 f2) (.slice b3 n3 f3) (.int .i64 (rg0 r).next) (.int .i64 (rg0 r).round) (.bool (rg0 r).over) (.slice b4 n4 f4) (.slice b5 n5 f5) (.int .i64 ((rg0 r).last 0)) (.int .i64 ((rg0 r).last 1)) (.int .i64 ((rg0 r).last 2)) (.int .i64 ((rg0 r).last 3)) (.int .i64 ((rg0 r).last 4)) (.int .i64 ((rg0 r).last 5)) (.int .i64 ((rg0 r).last 6)) (.int .i64 ((rg0 r).last 7)) (.int .i64 (rg0 r).done) := ⟨_, rfl⟩
   have hO3 : Outs [w2.heap.size] (w2.alloc (.cells zeroC 108)) w3 := by rw [hw3]; exact outs17 _ _ (.slice b1 n1 f1) (.slice b2 n2 f2) (.slice b3 n3 f3) (.int .i64 (rg0 r).next) (.int .i64 (rg0 r).round) (.bool (rg0 r).over) (.slice b4 n4 f4) (.slice b5 n5 f5) (.int .i64 ((rg0 r).last 0)) (.int .i64 ((rg0 r).last 1)) (.int .i64 ((rg0 r).last 2)) (.int .i64 ((rg0 r).last 3)) (.int .i64 ((rg0 r).last 4)) (.int .i64 ((rg0 r).last 5)) (.int .i64 ((rg0 r).last 6)) (.int .i64 ((rg0 r).last 7)) (.int .i64 (rg0 r).done)
   have hA3 : Below w2.heap.size w2 (w2.alloc (.cells zeroC 108)) := (Below.refl _ _).alloc (Nat.le_refl _) _
   have hB3 : Below w2.heap.size w2 w3 := by rw [hw3]; exact below17 hA3 (Nat.le_of_eq HRB.out) (.slice b1 n1 f1) (.slice b2 n2 f2) (.slice b3 n3 f3) (.int .i64 (rg0 r).next) (.int .i64 (rg0 r).round) (.bool (rg0 r).over) (.slice b4 n4 f4) (.slice b5 n5 f5) (.int .i64 ((rg0 r).last 0)) (.int .i64 ((rg0 r).last 1)) (.int .i64 ((rg0 r).last 2)) (.int .i64 ((rg0 r).last 3)) (.int .i64 ((rg0 r).last 4)) (.int .i64 ((rg0 r).last 5)) (.int .i64 ((rg0 r).last 6)) (.int .i64 ((rg0 r).last 7)) (.int .i64 (rg0 r).done)
   have hR3 : RgB w3 w2.heap.size (rgC (rg0 r) (.slice b1 n1 f1) (.slice b2 n2 f2) (.slice b3 n3 f3) (.slice b4 n4 f4) (.slice b5 n5 f5)) := by rw [hw3]; exact rg17 (.slice b1 n1 f1) (.slice b2 n2 f2) (.slice b3 n3 f3) (.int .i64 (rg0 r).next) (.int .i64 (rg0 r).round) (.bool (rg0 r).over) (.slice b4 n4 f4) (.slice b5 n5 f5) (.int .i64 ((rg0 r).last 0)) (.int .i64 ((rg0 r).last 1)) (.int .i64 ((rg0 r).last 2)) (.int .i64 ((rg0 r).last 3)) (.int .i64 ((rg0 r).last 4)) (.int .i64 ((rg0 r).last 5)) (.int .i64 ((rg0 r).last 6)) (.int .i64 ((rg0 r).last 7)) (.int .i64 (rg0 r).done) HZB.out
   unfold zeroC at hw3
   rw [← hw3]
   clear hw3
   have HP3 : Aside (PInv r l vc w w2.heap.size 0 (beginG r) [] w3) := ⟨(hB3.block _ (Array.getElem?_eq_some_iff.1 H2.out.1).1).trans H2.out.1, (hB3.block _ (Array.getElem?_eq_some_iff.1 H2.out.2.1).1).trans H2.out.2.1, H2.out.2.2.1.trans (hB3.mono H2.out.2.2.1.size), ⟨rg0 r, [], _, _, _, _, _, hR3, rf_begin (vleg_ok HVL.out).1, HS2.out.below hB3⟩, (beginG_ok (vleg_ok HVL.out).1), rfl, by exact H2.out.2.2.2⟩
   clear hO3 hA3 hB3 hR3 HZB HS2 H2 HRB
   obtain ⟨L0, hL0⟩ : ∃ u, u = w2.heap.size := ⟨_, rfl⟩
   rw [← hL0] at HP3 ⊢
   clear hL0
   go_wp2_with fail
   go_loopg [8] m (fun gg i wr => ∃ (q : Nat) (g : LegG), q ≤ m ∧ m - q ≤ gg ∧ i = .int .i64 q ∧ Aside (PInv r l vc w L0 q g [] wr))
   case atStart => exact ⟨0, _, Nat.zero_le _, by omega, rfl, HP3⟩
   case round =>
    obtain ⟨q, g, hq, hgq, rfl, HP⟩ := hrel
    clear HP3
    by_cases hltq : q < m
    ·have hltz : (q : Int) < (m : Int) := by omega
     obtain ⟨x, hx⟩ : ∃ x, lv[q]? = some x := ⟨_, List.getElem?_eq_getElem (by rw [HM.out.1]; exact hltq)⟩
     obtain ⟨bv, ov, rfl, hv0, hv1⟩ := HV.out q x hx
     have HX : Aside (l[q]? = some (x.1, x.2.2) ∧ x ∈ lv) := ⟨by rw [← HL.out, List.getElem?_map, hx]; rfl, List.mem_of_getElem? hx⟩
     obtain ⟨R, es, vl, vd, vi, vw, ve, hleg, hf, hs⟩ := HP.out.leg
     obtain ⟨tk, htk⟩ : ∃ tk, takeG r g x.1 x.2.2 = tk := ⟨_, rfl⟩
     have HTK : Aside (takeG r g x.1 x.2.2 = tk) := htk
     have HSTEP : Aside _ := fun (W : World) (hB : Below wr.heap.size wr W) => y3.out W g R es (2 * q) vl vd vi vw ve x (HP.out.bel.trans (hB.mono HP.out.bel.size)) HVL.out HX.out.2 HP.out.ok (by omega) hf (hs.below hB) tk htk
     have hru := HP.out.rul
     replace hv0 := keepc HP.out.bel hv0
     replace hv1 := keepc HP.out.bel hv1
     clear hx hf hs htk
     go_wp2_with fail
     refine play9 hru hleg hv0 hv1 HSTEP hltq hltz (by kernel_rfl) (by rfl) (by rfl) (by rfl) (by rfl) (by rfl) ?rest9
     case rest9 =>
      intro ac w5 hL
      have e29 : ac.tmps.getD 29 undef = .agg #[vc, .int .i64 r.first, .int .i64 r.rounds, .bool r.equal] := hL.new 0 _ 29 rfl rfl rfl
      have e30 : ac.tmps.getD 30 undef = .agg (rgC R vl vd vi vw ve) := hL.new 1 _ 30 rfl rfl rfl
      have e31 : ac.tmps.getD 31 undef = .slice (some ⟨bv, ov, none⟩) m cv := hL.new 2 _ 31 rfl rfl rfl
      have e32 : ac.tmps.getD 32 undef = .int .i64 (q : Int) := hL.new 3 _ 32 rfl rfl rfl
      have e33 : ac.tmps.getD 33 undef = .pointer (some ⟨bv, ov + q * 2, none⟩) := hL.new 4 _ 33 rfl rfl rfl
      have e34 : ac.tmps.getD 34 undef = .agg #[.int .i64 x.1, x.2.1] := hL.new 5 _ 34 rfl rfl rfl
      obtain ⟨y35, e35⟩ : ∃ x, ac.tmps.getD 35 undef = x := ⟨_, rfl⟩
      obtain ⟨y28, e28⟩ : ∃ x, ac.tmps.getD 28 undef = x := ⟨_, rfl⟩
      obtain ⟨y36, e36⟩ : ∃ x, ac.tmps.getD 36 undef = x := ⟨_, rfl⟩
      obtain ⟨y37, e37⟩ : ∃ x, ac.tmps.getD 37 undef = x := ⟨_, rfl⟩
      have e38 : ac.tmps.getD 38 undef = .int .i64 tk.2.2 := hL.new 10 _ 38 rfl rfl rfl
      obtain ⟨g9, e9, n9, -, HB9⟩ := hL.cls.al rfl
      have hn13 := hL.new 13 _ 10 rfl rfl rfl
      obtain ⟨dt9, e10, hd9⟩ := id hn13
      clear hn13
      have e11 : ac.tmps.getD 11 undef = .int .i64 tk.2.2 := hL.new 14 _ 11 rfl rfl rfl
      have HCL : Aside ((CP 9 r tk.1 wr) (#[true, true, true, true, true, true, true, true, true, true, true, true, true, true, true]) ac w5) := hL.cls
      have BN : Below wr.heap.size wr w5 := hL.cls.bel
      have es_ := hL.sets [29, 30, 31, 32, 33, 34, 35, 28, 36, 37, 38, 9, 10, 11] (by decide +kernel)
      rw [List.foldl_cons, List.foldl_cons, List.foldl_cons, List.foldl_cons, List.foldl_cons, List.foldl_cons, List.foldl_cons, List.foldl_cons, List.foldl_cons, List.foldl_cons, List.foldl_cons, List.foldl_cons, List.foldl_cons, List.foldl_cons, List.foldl_nil, e29, e30, e31, e32, e33, e34, e35, e28, e36, e37, e38, e9, e10, e11] at es_
      rw [es_]
      clear es_ hL e29 e30 e31 e32 e33 e34 e35 e28 e36 e37 e38 e9 e10 e11
      refine wpAny_done (by decide +kernel) ?_ _
      simp only [List.setIfInBounds_toArray, List.set_cons_zero, List.set_cons_succ]
      (try clear HCL)
      have HP5 : Aside (w5.heap[w.heap.size]? = some (.cells #[vc, .int .i64 r.first, .int .i64 r.rounds, .bool r.equal] 42 (0, 0)) ∧ ZeroSt w5 (w.heap.size + 1) ∧ Below w.heap.size w w5) := ⟨(BN.block _ (Array.getElem?_eq_some_iff.1 HP.out.rul).1).trans HP.out.rul, (BN.block _ (Array.getElem?_eq_some_iff.1 HP.out.zero).1).trans HP.out.zero, HP.out.bel.trans (BN.mono HP.out.bel.size)⟩
      have HLG : Aside (RgB w5 L0 (rgC R vl vd vi vw ve)) := (BN.block _ (Array.getElem?_eq_some_iff.1 hleg).1).trans hleg
      have HN9 : Aside (wr.heap.size ≤ g9) := n9
      have HB5 : Aside (Below wr.heap.size wr w5) := BN
      replace HB9 : Aside (LegB r tk.1 g9 w5) := HB9 rfl
      have HDT : Aside (tk.2.2 ≠ 0 → dt9 = tk.2.1) := hd9
      clear n9 BN hleg hru hv0 hv1 HSTEP hd9
      obtain ⟨er, her⟩ : ∃ er, tk.2.2 = er := ⟨_, rfl⟩
      have HER : Aside (tk.2.2 = er) := her
      rw [her]
      clear her
      by_cases he : er = 0
      ·subst he
       go_upto_region 12 with (fail)
       obtain ⟨R', es', vl', vd', vi', vw', ve', hg9, hf9, hs9⟩ := HB9.out
       obtain ⟨h1, h2, h3, h4, h5⟩ := id hs9
       obtain ⟨b1, f1, rfl, -, -⟩ := h1.1
       obtain ⟨b2, f2, rfl, -, -⟩ := h2.1
       obtain ⟨b3, f3, rfl, -, -⟩ := h3.1
       obtain ⟨b4, f4, rfl, -, -⟩ := h4.1
       obtain ⟨b5, f5, rfl, -, -⟩ := h5.1
       clear h1 h2 h3 h4 h5
       refine wp_region_lit ?_
       refine wpList_plain rfl fun KK hK => wp_load17 (by rfl) hg9 (hK _ _ ?_)
       clear hK KK
       refine wpList_plain rfl fun KK hK => wp_store17 (B := L0) (by rfl) (by rfl) HLG.out (hK _ _ ?_)
       clear hK KK
       (try simp only [Act.put, List.setIfInBounds_toArray, List.set_cons_zero, List.set_cons_succ])
       obtain ⟨n1, hn1⟩ : ∃ x, tk.1.left.length = x := ⟨_, rfl⟩
       obtain ⟨n2, hn2⟩ : ∃ x, tk.1.darts.length = x := ⟨_, rfl⟩
       obtain ⟨n3, hn3⟩ : ∃ x, tk.1.inn.length = x := ⟨_, rfl⟩
       obtain ⟨n4, hn4⟩ : ∃ x, tk.1.wins.length = x := ⟨_, rfl⟩
       obtain ⟨n5, hn5⟩ : ∃ x, (cI es').length = x := ⟨_, rfl⟩
       rw [hn1, hn2, hn3, hn4, hn5] at hs9 ⊢
       clear hn1 hn2 hn3 hn4 hn5 hg9
       obtain ⟨w6, hw6⟩ : ∃ u, u = set17 w5 L0 (.slice b1 n1 f1) (.slice b2 n2 f2) (.slice b3 n3 f3) (.int .i64 R'.next) (.int .i64 R'.round) (.bool R'.over) (.slice b4 n4 f4) (.slice b5 n5 f5) (.int .i64 (R'.last 0)) (.int .i64 (R'.last 1)) (.int .i64 (R'.last 2)) (.int .i64 (R'.last 3)) (.int .i64 (R'.last 4)) (.int .i64 (R'.last 5)) (.int .i64 (R'.last 6)) (.int .i64 (R'.last 7)) (.int .i64 R'.done) := ⟨_, rfl⟩
       have hO6 : Outs [L0] w5 w6 := by rw [hw6]; exact outs17 _ _ (.slice b1 n1 f1) (.slice b2 n2 f2) (.slice b3 n3 f3) (.int .i64 R'.next) (.int .i64 R'.round) (.bool R'.over) (.slice b4 n4 f4) (.slice b5 n5 f5) (.int .i64 (R'.last 0)) (.int .i64 (R'.last 1)) (.int .i64 (R'.last 2)) (.int .i64 (R'.last 3)) (.int .i64 (R'.last 4)) (.int .i64 (R'.last 5)) (.int .i64 (R'.last 6)) (.int .i64 (R'.last 7)) (.int .i64 R'.done)
       have hR6 : RgB w6 L0 (rgC R' (.slice b1 n1 f1) (.slice b2 n2 f2) (.slice b3 n3 f3) (.slice b4 n4 f4) (.slice b5 n5 f5)) := by rw [hw6]; exact rg17 (.slice b1 n1 f1) (.slice b2 n2 f2) (.slice b3 n3 f3) (.int .i64 R'.next) (.int .i64 R'.round) (.bool R'.over) (.slice b4 n4 f4) (.slice b5 n5 f5) (.int .i64 (R'.last 0)) (.int .i64 (R'.last 1)) (.int .i64 (R'.last 2)) (.int .i64 (R'.last 3)) (.int .i64 (R'.last 4)) (.int .i64 (R'.last 5)) (.int .i64 (R'.last 6)) (.int .i64 (R'.last 7)) (.int .i64 R'.done) HLG.out
       rw [← hw6]
       clear hw6
       have HLO : Aside (w.heap.size + 2 ≤ L0) := HP.out.lo
       have HOK : Aside (judgeK r l q = (g, []) ∧ tk.1.Ok r (2 * (q + 1))) := ⟨HP.out.jk, by have := takeG_ok (vleg_ok HVL.out).1 HP.out.ok x.1 x.2.2; rw [HTK.out] at this; exact this⟩
       have HP6 : Aside (PInv r l vc w L0 (q + 1) tk.1 [] w6) := by
        have hjk := jk_good (r := r) HX.out.1 (by rw [HOK.out.1]; show (takeG r g x.1 x.2.2).2.2 = 0; rw [HTK.out]; exact HER.out)
        rw [HOK.out.1] at hjk
        have hjk2 : judgeK r l (q + 1) = (tk.1, []) := by rw [hjk]; show ((takeG r g x.1 x.2.2).1, _) = _; rw [HTK.out]
        have hlo := HLO.out
        exact ⟨(hO6.block _ (by simp only [List.mem_singleton]; omega) (Array.getElem?_eq_some_iff.1 HP5.out.1).1).trans HP5.out.1, (hO6.block _ (by simp only [List.mem_singleton]; omega) (Array.getElem?_eq_some_iff.1 HP5.out.2.1).1).trans HP5.out.2.1, HP5.out.2.2.trans (hO6.below (by simp only [List.mem_singleton, forall_eq]; omega) HP5.out.2.2.size), LegB.put HLG.out hO6 hR6 hf9 hs9, HOK.out.2, hjk2, hlo⟩
       have hO6' : Aside (Outs [L0] w5 w6) := hO6
       clear hs9 hf9 hR6 HLG hO6 HOK HB9 HTK
       have e1 : IntKind.i64.wrap ((q : Int) + 1) = (q : Int) + 1 := IntWalk.i64_in _ (by omega)
       go_wp2_with fail
       go_roundg (m - (q + 1))
       case measure => omega
       case rel => exact ⟨q + 1, tk.1, by omega, by omega, by go_num, HP6⟩
      ·have hne : (er != 0) = true := by simpa using he
       have hneq : (er == 0) = false := by simpa using he
       have HJK : Aside (judgeK r l q = (g, [])) := HP.out.jk
       have z0 := blk_cell HP5.out.2.1 (i := 0) rfl
       have z1 := blk_cell HP5.out.2.1 (i := 1) rfl
       have z2 := blk_cell HP5.out.2.1 (i := 2) rfl
       have z3 := blk_cell HP5.out.2.1 (i := 3) rfl
       have z4 := blk_cell HP5.out.2.1 (i := 4) rfl
       have z5 := blk_cell HP5.out.2.1 (i := 5) rfl
       have z6 := blk_cell HP5.out.2.1 (i := 6) rfl
       have zf := blk_free HP5.out.2.1
       have zlt : w.heap.size + 1 < w5.heap.size := (Array.getElem?_eq_some_iff.1 HP5.out.2.1).1
       have HE0 : Aside (¬ er = 0) := he
       clear he
       go_wp2_with fail
       refine ret7_play (wz := set7 w5 (w.heap.size + 1) (.slice none 0 0) (.slice none 0 0) (.slice none 0 0) (.int .i64 0) (.int .i64 0) (.bool false) (.slice none 0 0)) rfl rfl rfl rfl (set7_blk (.slice none 0 0) (.slice none 0 0) (.slice none 0 0) (.int .i64 0) (.int .i64 0) (.bool false) (.slice none 0 0) HP5.out.2.1) ?_
       have hq := play_wrong (w := w) (w' := set7 w5 (w.heap.size + 1) (.slice none 0 0) (.slice none 0 0) (.slice none 0 0) (.int .i64 0) (.int .i64 0) (.bool false) (.slice none 0 0)) (r := r) (l := l) (set7_below HP5.out.2.2 (by omega) (.slice none 0 0) (.slice none 0 0) (.slice none 0 0) (.int .i64 0) (.int .i64 0) (.bool false) (.slice none 0 0)) HE.out HX.out.1 (by rw [HJK.out]) (by rw [HJK.out]; show (takeG r g x.1 x.2.2).2.2 ≠ 0; rw [HTK.out, HER.out]; exact HE0.out)
       rw [HJK.out] at hq
       simp only [] at hq
       rw [HTK.out, HER.out] at hq
       exact hq
    ·have hltz : ¬ (q : Int) < (m : Int) := by omega
     have hqe : q = m := by omega
     subst hqe
     obtain ⟨R, es, vl, vd, vi, vw, ve, hleg, hf, hs⟩ := HP.out.leg
     have HSA : Aside (SameAt wr (.agg #[vl, vd, vi, .int .i64 R.next, .int .i64 R.round, .bool R.over, vw]) (sameG g)) := LegB.same hf hs
     have HRS : Aside (RfSl wr vl vd vi vw ve g es) := hs
     obtain ⟨h1, h2, h3, h4, h5⟩ := hs
     obtain ⟨b1, f1, rfl, -, -⟩ := h1.1
     obtain ⟨b2, f2, rfl, -, -⟩ := h2.1
     obtain ⟨b3, f3, rfl, -, -⟩ := h3.1
     obtain ⟨b4, f4, rfl, -, -⟩ := h4.1
     obtain ⟨n1, hn1⟩ : ∃ x, g.left.length = x := ⟨_, rfl⟩
     obtain ⟨n2, hn2⟩ : ∃ x, g.darts.length = x := ⟨_, rfl⟩
     obtain ⟨n3, hn3⟩ : ∃ x, g.inn.length = x := ⟨_, rfl⟩
     obtain ⟨n4, hn4⟩ : ∃ x, g.wins.length = x := ⟨_, rfl⟩
     rw [hn1, hn2, hn3, hn4] at hleg HSA HRS
     clear hn1 hn2 hn3 hn4 h1 h2 h3 h4 h5 hf
     have g0 := blk_cell hleg (i := 0) rfl
     have g1 := blk_cell hleg (i := 1) rfl
     have g2 := blk_cell hleg (i := 2) rfl
     have g3 := blk_cell hleg (i := 3) rfl
     have g4 := blk_cell hleg (i := 4) rfl
     have g5 := blk_cell hleg (i := 5) rfl
     have g6 := blk_cell hleg (i := 6) rfl
     have z0 := blk_cell HP.out.zero (i := 0) rfl
     have z1 := blk_cell HP.out.zero (i := 1) rfl
     have z2 := blk_cell HP.out.zero (i := 2) rfl
     have z3 := blk_cell HP.out.zero (i := 3) rfl
     have z4 := blk_cell HP.out.zero (i := 4) rfl
     have z5 := blk_cell HP.out.zero (i := 5) rfl
     have z6 := blk_cell HP.out.zero (i := 6) rfl
     have zf := blk_free HP.out.zero
     have zlt : w.heap.size + 1 < wr.heap.size := (Array.getElem?_eq_some_iff.1 HP.out.zero).1
     clear hleg
     go_wp2_with fail
     refine ret7_play (wz := set7 wr (w.heap.size + 1) (.slice b1 n1 f1) (.slice b2 n2 f2) (.slice b3 n3 f3) (.int .i64 R.next) (.int .i64 R.round) (.bool R.over) (.slice b4 n4 f4)) rfl rfl rfl rfl (set7_blk (.slice b1 n1 f1) (.slice b2 n2 f2) (.slice b3 n3 f3) (.int .i64 R.next) (.int .i64 R.round) (.bool R.over) (.slice b4 n4 f4) HP.out.zero) ?_
     have hj := HP.out.jk
     have hml : l.length = q := HM.out.2
     exact play_right (set7_below HP.out.bel (by omega) (.slice b1 n1 f1) (.slice b2 n2 f2) (.slice b3 n3 f3) (.int .i64 R.next) (.int .i64 R.round) (.bool R.over) (.slice b4 n4 f4)) HE.out (by rw [hml, hj]) (by rw [hml, hj]; exact SameAt.outs7 (set7_outs wr (w.heap.size + 1) (.slice b1 n1 f1) (.slice b2 n2 f2) (.slice b3 n3 f3) (.int .i64 R.next) (.int .i64 R.round) (.bool R.over) (.slice b4 n4 f4)) HP.out.zero HRS.out HSA.out)
end
end Go.Proofs.Ytgmlcgifagbjmaa
