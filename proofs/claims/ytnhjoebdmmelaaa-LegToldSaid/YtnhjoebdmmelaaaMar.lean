/- Leg: parts Ei, Ej. -/
import Derived.Deep.DeepCutAuto
import Derived.Test.YtnhjoebdmmelaaaMap
import Derived.Test.YtnhjoebdmmelaaaMaq
import Derived.Test.YtnhjoebdmmelaaaMao
set_option linter.unusedVariables false
set_option linter.unusedSimpArgs false
namespace Go.Proofs.Ytnhjoebdmmelaaa
section
open Go.RowKit Go.Maps Go.Sort Go.Shelf Go.Deep
def hcnt (h : Hnd) : List Cnt := (h.starts.take 5).map fun s => (2 + s % 300, h.gates % 3, h.gates / 3 % 3)
def hrulesF (h : Hnd) : LegR := ⟨hcnt h, if hcnt h = [] then 0 else h.first % ((hcnt h).length : Int), h.rounds % 20, h.equal⟩
theorem hcnt_len (h : Hnd) : (hcnt h).length = min 5 h.starts.length := by unfold hcnt; rw [List.length_map, List.length_take]
theorem hcnt_get {h : Hnd} {k : Nat} {x : Int} (hx : h.starts[k]? = some x) (hk : k < 5) : (hcnt h)[k]? = some (2 + x % 300, h.gates % 3, h.gates / 3 % 3) := by
 unfold hcnt
 rw [List.getElem?_map, List.getElem?_take_of_lt hk, hx]; rfl
structure HrInv (h : Hnd) (w : World) (vs vb : Value) (k : Nat) (v : Value) (W : World) : Prop where
 own : W.ownsRow (w.heap.size + 1 + 1 + 1) 24 3 v k ((((hcnt h).take k).map encC).flatten)
 blk : W.heap[w.heap.size + 1 + 1]? = some (.cells #[v, .int .i64 0, .int .i64 (h.rounds % 20), .bool h.equal] 42 (0, 0))
 box : W.heap[w.heap.size]? = some (.cells #[vs, .int .u8 h.gates, .bool h.equal, .int .u8 h.rounds, .int .u8 h.first, vb] 78 (0, 0))
 res : W.heap[w.heap.size + 1]? = some (.cells #[.slice none 0 0, .int .i64 0, .int .i64 0, .bool false] 42 (0, 0))
 bel : Below w.heap.size w W
 siz : w.heap.size + 1 + 1 + 1 ≤ W.heap.size
theorem HrInv.below {h : Hnd} {w W W' : World} {vs vb v : Value} {k : Nat} (i : HrInv h w vs vb k v W) (hB : Below W.heap.size W W') : HrInv h w vs vb k v W' := by
 have hs := i.siz
 exact ⟨ownsRow_below i.own hB, (hB.block _ (by omega)).trans i.blk, (hB.block _ (by omega)).trans i.box, (hB.block _ (by omega)).trans i.res, i.bel.trans (hB.mono (by omega)), Nat.le_trans hs hB.size⟩
theorem HrInv.grown {h : Hnd} {w U W : World} {vs vb v : Value} {k : Nat} (i : HrInv h w vs vb k v U) (hg : U.grownBy W v.ownBlock) :
  Below (w.heap.size + 1 + 1 + 1) U W := (Below.refl _ _).grown hg i.siz (fun j hj => (i.own.lt j hj).1)
theorem HrInv.step {h : Hnd} {w U W : World} {vs vb v v' : Value} {k : Nat} (i : HrInv h w vs vb k v U) (hg : U.grownBy W v.ownBlock) (ho : W.ownsRow (w.heap.size + 1 + 1 + 1) 24 3 v' (k + 1) ((((hcnt h).take (k + 1)).map encC).flatten)) :
  HrInv h w vs vb (k + 1) v' (W.setCell ⟨w.heap.size + 1 + 1, 0, none⟩ v') := by
 have hB := i.grown hg
 have hs := i.siz
 refine ⟨ownsRow_outs (S := [w.heap.size + 1 + 1]) (Outs.set (by simp) _ _ _) ho (by simp), Go.Joins.block_setCell (i := 0) ((hB.block _ (by omega)).trans i.blk) _, (Below.heap_setCell _ _ _ _ (by first | (simp; done) | (simp; omega) | omega)).trans ((hB.block _ (by omega)).trans i.box), (Below.heap_setCell _ _ _ _ (by first | (simp; done) | (simp; omega) | omega)).trans ((hB.block _ (by omega)).trans i.res), ?_, ?_⟩
 ·exact (i.bel.trans (hB.mono (by omega))).setCell (p := ⟨w.heap.size + 1 + 1, 0, none⟩) (by simp; omega) _
 ·have := hB.size; simp; omega
theorem owns_form3 {w : World} {b sz : Nat} {e : TypeId} {v : Value} {n : Nat} {xs : List Value} (h : w.ownsRow b e sz v n xs) : ∃ a c, v = .slice a n c := by
 rcases h.2 with ⟨h0, h1⟩ | ⟨g, cap, cur, e, _⟩
 ·exact ⟨_, _, by rw [h0, h1]⟩
 ·exact ⟨_, _, e⟩
def HRulesOk (h : Hnd) (w : World) (e : Ending) (w' : World) : Prop :=
 Below w.heap.size w w' ∧ ∃ vc, e = .returned (legRV (hrulesF h) vc) ∧ w'.ownsRow w.heap.size 24 3 vc (hcnt h).length (((hcnt h).map encC).flatten)
structure HrC (h : Hnd) (w : World) (vs vb : Value) (k : Nat) (v : Value) (xs ys : List Value) (cs : Array Value) (listed : Array Bool) (a : Act) (W : World) : Prop where
 blk : W.heap[w.heap.size + 1 + 1]? = some (.cells #[v, .int .i64 0, .int .i64 (h.rounds % 20), .bool h.equal] 42 (0, 0))
 box : W.heap[w.heap.size]? = some (.cells #[vs, .int .u8 h.gates, .bool h.equal, .int .u8 h.rounds, .int .u8 h.first, vb] 78 (0, 0))
 res : W.heap[w.heap.size + 1]? = some (.cells #[.slice none 0 0, .int .i64 0, .int .i64 0, .bool false] 42 (0, 0))
 bel : Below w.heap.size w W
 siz : w.heap.size + 1 + 1 + 1 ≤ W.heap.size
 pre : listed.getD 21 false = false → W.ownsRow (w.heap.size + 1 + 1 + 1) 24 3 v k xs
 one : listed.getD 20 false = true → listed.getD 21 false = false → ∃ g, a.tmps.getD 43 undef = .slice (some ⟨g, 0, none⟩) 1 1 ∧ W.heap[g]? = some (.cells cs 24 (0, 0))
 post : listed.getD 21 false = true → W.ownsRow (w.heap.size + 1 + 1 + 1) 24 3 (a.tmps.getD 44 undef) (k + 1) ys
section
variable {h : Hnd} {w W W' : World} {vs vb v : Value} {k : Nat} {xs ys : List Value} {cs : Array Value} {listed : Array Bool} {a : Act}
theorem HrC.start (i : HrInv h w vs vb k v W) (hx : (((hcnt h).take k).map encC).flatten = xs) (m : Nat) (a : Act) : HrC h w vs vb k v xs ys cs (Array.replicate m false) a W.drew := by
 subst hx
 refine ⟨i.blk, i.box, i.res, i.bel.drew, i.siz, fun _ => ownsRow_below i.own ((Below.refl _ _).drew), fun e => ?_, fun e => ?_⟩
 ·rw [rep_false] at e; cases e
 ·rw [rep_false] at e; cases e
theorem HrC.other (i : HrC h w vs vb k v xs ys cs listed a W) {q t : Nat} {x : Value} (hq : (decide (q ≠ 20) && decide (q ≠ 21) && decide (t ≠ 43) && decide (t ≠ 44)) = true) : HrC h w vs vb k v xs ys cs (listed.setIfInBounds q true) (a.put (some t) x) W := by
 simp only [Bool.and_eq_true, decide_eq_true_eq] at hq
 obtain ⟨⟨⟨q0, q1⟩, t0⟩, t1⟩ := hq
 refine ⟨i.blk, i.box, i.res, i.bel, i.siz, ?_, ?_, ?_⟩
 ·rw [getD_set_ne _ _ _ _ (Ne.symm q1)]; exact i.pre
 ·rw [getD_set_ne _ _ _ _ (Ne.symm q0), getD_set_ne _ _ _ _ (Ne.symm q1), getD_put (Ne.symm t0)]; exact i.one
 ·rw [getD_set_ne _ _ _ _ (Ne.symm q1), getD_put (Ne.symm t1)]; exact i.post
theorem HrC.build (i : HrC h w vs vb k v xs ys cs listed a W) (ht : 43 < a.tmps.size) (hn : listed.getD 21 false = false) : HrC h w vs vb k v xs ys cs (listed.setIfInBounds 20 true) (a.put (some 43) (.slice (some ⟨W.heap.size, 0, none⟩) 1 1)) (W.alloc (.cells cs 24)) := by
 have hB : Below W.heap.size W (W.alloc (.cells cs 24)) := (Below.refl _ _).alloc (Nat.le_refl _) _
 have hs := i.siz
 refine ⟨(hB.block _ (by omega)).trans i.blk, (hB.block _ (by omega)).trans i.box, (hB.block _ (by omega)).trans i.res, i.bel.trans (hB.mono i.bel.size), Nat.le_trans hs hB.size, fun _ => ownsRow_below (i.pre hn) hB, fun _ _ => ⟨W.heap.size, getDV_set_self _ _ _ _ ht, World.alloc_heap_new _ _⟩, fun e => ?_⟩
 rw [getD_set_ne _ _ _ _ (by decide), hn] at e; cases e
theorem HrC.app (i : HrC h w vs vb k v xs ys cs listed a W) (ht : 44 < a.tmps.size) (hl : 21 < listed.size) (hn : listed.getD 21 false = false) {v' : Value} (ho : W'.ownsRow (w.heap.size + 1 + 1 + 1) 24 3 v' (k + 1) ys) (hg : W.grownBy W' v.ownBlock) : HrC h w vs vb k v xs ys cs (listed.setIfInBounds 21 true) (a.put (some 44) v') W' := by
 have hs := i.siz
 have hk : ∀ j, j < w.heap.size + 1 + 1 + 1 → W'.heap[j]? = W.heap[j]? := fun j hj => hg.block j (by omega) (fun e => by have := ((i.pre hn).lt j e.symm).1; omega)
 refine ⟨(hk _ (by omega)).trans i.blk, (hk _ (by omega)).trans i.box, (hk _ (by omega)).trans i.res, i.bel.grown hg i.bel.size (fun b e => by have := ((i.pre hn).lt b e).1; omega), Nat.le_trans hs hg.size, fun e => ?_, fun _ e => ?_, fun _ => ?_⟩
 ·rw [getD_set_self _ _ _ hl] at e; cases e
 ·rw [getD_set_self _ _ _ hl] at e; cases e
 ·rw [show (a.put (some 44) v').tmps.getD 44 undef = v' from getDV_set_self _ _ _ _ ht]; exact ho
end
section
variable {w wr w5 : World} {h : Hnd} {n k bs os cp n0 c0 vc : Nat} {xx g0 c1 c2 c3 : Int} {b0 va : Option Addr} {xs : List Value}
set_option maxRecDepth 100000 in
set_option maxHeartbeats 16000000 in
theorem hru5 {ops : List Oper} {Q : Exit → Act → World → Prop} {a0 : Act} (HXS : Aside ((((hcnt h).take k).map encC).flatten = xs)) (HI : Aside (HrInv h w (.slice (some ⟨bs, os, none⟩) n cp) (.slice b0 n0 c0) k (.slice va k vc) wr)) (kx : wr.cell? ⟨bs, os + k, none⟩ = some (.int .u16 xx)) (HBX : Aside (∀ W, Below w.heap.size w W → W.cell? ⟨bs, os + k, none⟩ = some (.int .u16 xx))) (hlt : k < n) (hltz : (k : Int) < (n : Int)) (hk5 : k ≤ 5) (t1 : Int.tmod xx 300 = c1) (e1 : IntKind.i64.wrap xx = xx) (e2 : IntKind.i64.wrap (2 + c1) = 2 + c1) (e3 : IntKind.i64.wrap h.gates = h.gates) (t2 : Int.tmod h.gates 3 = c2) (t3 : Int.tdiv h.gates 3 = g0) (e4 : IntKind.i64.wrap g0 = g0) (t4 : Int.tmod g0 3 = c3) (f1 : IntKind.i64.wrap c1 = c1) (f2 : IntKind.i64.wrap c2 = c2) (f3 : IntKind.i64.wrap c3 = c3) (hops : regOps 5 Try.f33 = some ops) (hsz0 : a0.tmps.size = 59) (hs1 : a0.tmps.getD 1 undef = .pointer (some ⟨w.heap.size, 0, none⟩)) (hs3 : a0.tmps.getD 3 undef = .pointer (some ⟨(w.heap.size + 1 + 1), 0, none⟩)) (hs4 : a0.tmps.getD 4 undef = .int .i64 (k : Int))
  (hrest : ∀ (ac : Act) (w5 : World), LaidG ops.toArray a0 (fun (i : Nat) (x : Value) (ww : World) => (match i with | 0 => x = .pointer (some ⟨(w.heap.size + 1 + 1), 0, none⟩) | 1 => x = .slice va k vc | 2 => x = .pointer (some ⟨w.heap.size, 0, none⟩) | 3 => x = .slice (some ⟨bs, os, none⟩) n cp | 4 => x = .int .i64 (k : Int) | 5 => x = .pointer (some ⟨bs, os + k, none⟩) | 6 => x = .int .u16 xx | 7 => x = .int .i64 xx | 8 => x = .int .i64 c1 | 9 => x = .int .i64 (2 + c1) | 10 => x = .pointer (some ⟨w.heap.size, 1, none⟩) | 11 => x = .int .u8 h.gates | 12 => x = .int .i64 h.gates | 13 => x = .int .i64 c2 | 14 => x = .pointer (some ⟨w.heap.size, 1, none⟩) | 15 => x = .int .u8 h.gates | 16 => x = .int .i64 h.gates | 17 => x = .int .i64 g0 | 18 => x = .int .i64 c3 | 19 => x = .agg #[.int .i64 (2 + c1), .int .i64 c2, .int .i64 c3] | 20 => True | 21 => True | 22 => x = .pointer (some ⟨(w.heap.size + 1 + 1), 0, none⟩) | _ => True : Prop)) (HrC h w (.slice (some ⟨bs, os, none⟩) n cp) (.slice b0 n0 c0) k (.slice va k vc) xs (xs ++ [.int .i64 (2 + c1), .int .i64 c2, .int .i64 c3]) #[.int .i64 (2 + c1), .int .i64 c2, .int .i64 c3]) #[true, true, true, true, true, true, true, true, true, true, true, true, true, true, true, true, true, true, true, true, true, true, true, false] ac w5 → wpAny Try.prog .any ops.toArray Q 1 #[true, true, true, true, true, true, true, true, true, true, true, true, true, true, true, true, true, true, true, true, true, true, true, false] ac w5) : (Code.region 5 ops.toArray true).wp Try.prog Q a0 wr := by
 (conv at hops => lhs; whnf)
 obtain rfl := Option.some.inj hops
 clear hops
 obtain ⟨i0, hi, hz0, hz1, hz2⟩ := info_parts info_count
 refine region_laidK (fun _ _ => True) (fl := 16) [true, true, true, true, true, true, true, true, true, true, true, true, true, true, true, true, true, true, true, true, true, true, true, false] 1 (fun (i : Nat) (x : Value) (ww : World) => (match i with | 0 => x = .pointer (some ⟨(w.heap.size + 1 + 1), 0, none⟩) | 1 => x = .slice va k vc | 2 => x = .pointer (some ⟨w.heap.size, 0, none⟩) | 3 => x = .slice (some ⟨bs, os, none⟩) n cp | 4 => x = .int .i64 (k : Int) | 5 => x = .pointer (some ⟨bs, os + k, none⟩) | 6 => x = .int .u16 xx | 7 => x = .int .i64 xx | 8 => x = .int .i64 c1 | 9 => x = .int .i64 (2 + c1) | 10 => x = .pointer (some ⟨w.heap.size, 1, none⟩) | 11 => x = .int .u8 h.gates | 12 => x = .int .i64 h.gates | 13 => x = .int .i64 c2 | 14 => x = .pointer (some ⟨w.heap.size, 1, none⟩) | 15 => x = .int .u8 h.gates | 16 => x = .int .i64 h.gates | 17 => x = .int .i64 g0 | 18 => x = .int .i64 c3 | 19 => x = .agg #[.int .i64 (2 + c1), .int .i64 c2, .int .i64 c3] | 20 => True | 21 => True | 22 => x = .pointer (some ⟨(w.heap.size + 1 + 1), 0, none⟩) | _ => True : Prop)) (HrC h w (.slice (some ⟨bs, os, none⟩) n cp) (.slice b0 n0 c0) k (.slice va k vc) xs (xs ++ [.int .i64 (2 + c1), .int .i64 c2, .int .i64 c3]) #[.int .i64 (2 + c1), .int .i64 c2, .int .i64 c3]) (by kernel_rfl) rfl (by rw [hsz0]; decide +kernel) rfl (HrC.start HI.out HXS.out _ _) ?mono ?step hrest
 case mono =>
  intro i x ww ww' hB h
  match i, h with
  | 0, h => exact h
  | 1, h => exact h
  | 2, h => exact h
  | 3, h => exact h
  | 4, h => exact h
  | 5, h => exact h
  | 6, h => exact h
  | 7, h => exact h
  | 8, h => exact h
  | 9, h => exact h
  | 10, h => exact h
  | 11, h => exact h
  | 12, h => exact h
  | 13, h => exact h
  | 14, h => exact h
  | 15, h => exact h
  | 16, h => exact h
  | 17, h => exact h
  | 18, h => exact h
  | 19, h => exact h
  | 20, h => exact h
  | 21, h => exact h
  | 22, h => exact h
  | n + 23, h => exact h
 case step =>
  intro i o_ listed ac W hA ho hL he hcl hli hsz
  have hk1 : ac.tmps.getD 1 undef = .pointer (some ⟨w.heap.size, 0, none⟩) := (hL.kept 1 (by decide +kernel)).trans hs1
  have hk3 : ac.tmps.getD 3 undef = .pointer (some ⟨(w.heap.size + 1 + 1), 0, none⟩) := (hL.kept 3 (by decide +kernel)).trans hs3
  have hk4 : ac.tmps.getD 4 undef = .int .i64 (k : Int) := (hL.kept 4 (by decide +kernel)).trans hs4
  have k0 := blk_cell hL.cls.blk (i := 0) rfl
  have kb0 := blk_cell hL.cls.box (i := 0) rfl
  have kb1 := blk_cell hL.cls.box (i := 1) rfl
  have k_x := HBX.out W hL.cls.bel
  match i, hA, ho with
  | 0, _, ho =>
   cases ho
   refine wpOp_plain rfl rfl ?_
   unfold Oper.wp
   go_simp
   first | exact ⟨_, rfl, trivial, HrC.other (q := 0) (t := 23) hL.cls rfl, rfl⟩ | exact ⟨trivial, HrC.other (q := 0) (t := 23) hL.cls rfl⟩ | exact HrC.other (q := 0) (t := 23) hL.cls rfl
  | 1, _, ho =>
   cases ho
   have d0 : ac.tmps.getD 23 undef = .pointer (some ⟨(w.heap.size + 1 + 1), 0, none⟩) := hL.new 0 _ 23 rfl (he ⟨0, .data⟩ (by simp) rfl) rfl
   refine wpOp_plain rfl rfl ?_
   unfold Oper.wp
   go_simp
   first | exact ⟨_, rfl, trivial, HrC.other (q := 1) (t := 24) hL.cls rfl, rfl⟩ | exact ⟨trivial, HrC.other (q := 1) (t := 24) hL.cls rfl⟩ | exact HrC.other (q := 1) (t := 24) hL.cls rfl
  | 2, _, ho =>
   cases ho
   refine wpOp_plain rfl rfl ?_
   unfold Oper.wp
   go_simp
   first | exact ⟨_, rfl, trivial, HrC.other (q := 2) (t := 25) hL.cls rfl, rfl⟩ | exact ⟨trivial, HrC.other (q := 2) (t := 25) hL.cls rfl⟩ | exact HrC.other (q := 2) (t := 25) hL.cls rfl
  | 3, _, ho =>
   cases ho
   have d2 : ac.tmps.getD 25 undef = .pointer (some ⟨w.heap.size, 0, none⟩) := hL.new 2 _ 25 rfl (he ⟨2, .data⟩ (by simp) rfl) rfl
   refine wpOp_plain rfl rfl ?_
   unfold Oper.wp
   go_simp
   first | exact ⟨_, rfl, trivial, HrC.other (q := 3) (t := 26) hL.cls rfl, rfl⟩ | exact ⟨trivial, HrC.other (q := 3) (t := 26) hL.cls rfl⟩ | exact HrC.other (q := 3) (t := 26) hL.cls rfl
  | 4, _, ho =>
   cases ho
   refine wpOp_plain rfl rfl ?_
   unfold Oper.wp
   go_simp
   first | exact ⟨_, rfl, trivial, HrC.other (q := 4) (t := 27) hL.cls rfl, rfl⟩ | exact ⟨trivial, HrC.other (q := 4) (t := 27) hL.cls rfl⟩ | exact HrC.other (q := 4) (t := 27) hL.cls rfl
  | 5, _, ho =>
   cases ho
   have d3 : ac.tmps.getD 26 undef = .slice (some ⟨bs, os, none⟩) n cp := hL.new 3 _ 26 rfl (he ⟨3, .data⟩ (by simp) rfl) rfl
   have d4 : ac.tmps.getD 27 undef = .int .i64 (k : Int) := hL.new 4 _ 27 rfl (he ⟨4, .data⟩ (by simp) rfl) rfl
   refine wpOp_plain rfl rfl ?_
   unfold Oper.wp
   go_simp
   first | exact ⟨_, rfl, trivial, HrC.other (q := 5) (t := 28) hL.cls rfl, rfl⟩ | exact ⟨trivial, HrC.other (q := 5) (t := 28) hL.cls rfl⟩ | exact HrC.other (q := 5) (t := 28) hL.cls rfl
  | 6, _, ho =>
   cases ho
   have d5 : ac.tmps.getD 28 undef = .pointer (some ⟨bs, os + k, none⟩) := hL.new 5 _ 28 rfl (he ⟨5, .data⟩ (by simp) rfl) rfl
   refine wpOp_plain rfl rfl ?_
   unfold Oper.wp
   go_simp
   first | exact ⟨_, rfl, trivial, HrC.other (q := 6) (t := 29) hL.cls rfl, rfl⟩ | exact ⟨trivial, HrC.other (q := 6) (t := 29) hL.cls rfl⟩ | exact HrC.other (q := 6) (t := 29) hL.cls rfl
  | 7, _, ho =>
   cases ho
   have d6 : ac.tmps.getD 29 undef = .int .u16 xx := hL.new 6 _ 29 rfl (he ⟨6, .data⟩ (by simp) rfl) rfl
   refine wpOp_plain rfl rfl ?_
   unfold Oper.wp
   go_simp
   first | exact ⟨_, rfl, trivial, HrC.other (q := 7) (t := 30) hL.cls rfl, rfl⟩ | exact ⟨trivial, HrC.other (q := 7) (t := 30) hL.cls rfl⟩ | exact HrC.other (q := 7) (t := 30) hL.cls rfl
  | 8, _, ho =>
   cases ho
   have d7 : ac.tmps.getD 30 undef = .int .i64 xx := hL.new 7 _ 30 rfl (he ⟨7, .data⟩ (by simp) rfl) rfl
   refine wpOp_plain rfl rfl ?_
   unfold Oper.wp
   go_simp
   first | exact ⟨_, rfl, trivial, HrC.other (q := 8) (t := 31) hL.cls rfl, rfl⟩ | exact ⟨trivial, HrC.other (q := 8) (t := 31) hL.cls rfl⟩ | exact HrC.other (q := 8) (t := 31) hL.cls rfl
  | 9, _, ho =>
   cases ho
   have d8 : ac.tmps.getD 31 undef = .int .i64 c1 := hL.new 8 _ 31 rfl (he ⟨8, .data⟩ (by simp) rfl) rfl
   refine wpOp_plain rfl rfl ?_
   unfold Oper.wp
   go_simp
   first | exact ⟨_, rfl, trivial, HrC.other (q := 9) (t := 32) hL.cls rfl, rfl⟩ | exact ⟨trivial, HrC.other (q := 9) (t := 32) hL.cls rfl⟩ | exact HrC.other (q := 9) (t := 32) hL.cls rfl
  | 10, _, ho =>
   cases ho
   refine wpOp_plain rfl rfl ?_
   unfold Oper.wp
   go_simp
   first | exact ⟨_, rfl, trivial, HrC.other (q := 10) (t := 33) hL.cls rfl, rfl⟩ | exact ⟨trivial, HrC.other (q := 10) (t := 33) hL.cls rfl⟩ | exact HrC.other (q := 10) (t := 33) hL.cls rfl
  | 11, _, ho =>
   cases ho
   have d10 : ac.tmps.getD 33 undef = .pointer (some ⟨w.heap.size, 1, none⟩) := hL.new 10 _ 33 rfl (he ⟨10, .data⟩ (by simp) rfl) rfl
   refine wpOp_plain rfl rfl ?_
   unfold Oper.wp
   go_simp
   first | exact ⟨_, rfl, trivial, HrC.other (q := 11) (t := 34) hL.cls rfl, rfl⟩ | exact ⟨trivial, HrC.other (q := 11) (t := 34) hL.cls rfl⟩ | exact HrC.other (q := 11) (t := 34) hL.cls rfl
  | 12, _, ho =>
   cases ho
   have d11 : ac.tmps.getD 34 undef = .int .u8 h.gates := hL.new 11 _ 34 rfl (he ⟨11, .data⟩ (by simp) rfl) rfl
   refine wpOp_plain rfl rfl ?_
   unfold Oper.wp
   go_simp
   first | exact ⟨_, rfl, trivial, HrC.other (q := 12) (t := 35) hL.cls rfl, rfl⟩ | exact ⟨trivial, HrC.other (q := 12) (t := 35) hL.cls rfl⟩ | exact HrC.other (q := 12) (t := 35) hL.cls rfl
  | 13, _, ho =>
   cases ho
   have d12 : ac.tmps.getD 35 undef = .int .i64 h.gates := hL.new 12 _ 35 rfl (he ⟨12, .data⟩ (by simp) rfl) rfl
   refine wpOp_plain rfl rfl ?_
   unfold Oper.wp
   go_simp
   first | exact ⟨_, rfl, trivial, HrC.other (q := 13) (t := 36) hL.cls rfl, rfl⟩ | exact ⟨trivial, HrC.other (q := 13) (t := 36) hL.cls rfl⟩ | exact HrC.other (q := 13) (t := 36) hL.cls rfl
  | 14, _, ho =>
   cases ho
   refine wpOp_plain rfl rfl ?_
   unfold Oper.wp
   go_simp
   first | exact ⟨_, rfl, trivial, HrC.other (q := 14) (t := 37) hL.cls rfl, rfl⟩ | exact ⟨trivial, HrC.other (q := 14) (t := 37) hL.cls rfl⟩ | exact HrC.other (q := 14) (t := 37) hL.cls rfl
  | 15, _, ho =>
   cases ho
   have d14 : ac.tmps.getD 37 undef = .pointer (some ⟨w.heap.size, 1, none⟩) := hL.new 14 _ 37 rfl (he ⟨14, .data⟩ (by simp) rfl) rfl
   refine wpOp_plain rfl rfl ?_
   unfold Oper.wp
   go_simp
   first | exact ⟨_, rfl, trivial, HrC.other (q := 15) (t := 38) hL.cls rfl, rfl⟩ | exact ⟨trivial, HrC.other (q := 15) (t := 38) hL.cls rfl⟩ | exact HrC.other (q := 15) (t := 38) hL.cls rfl
  | 16, _, ho =>
   cases ho
   have d15 : ac.tmps.getD 38 undef = .int .u8 h.gates := hL.new 15 _ 38 rfl (he ⟨15, .data⟩ (by simp) rfl) rfl
   refine wpOp_plain rfl rfl ?_
   unfold Oper.wp
   go_simp
   first | exact ⟨_, rfl, trivial, HrC.other (q := 16) (t := 39) hL.cls rfl, rfl⟩ | exact ⟨trivial, HrC.other (q := 16) (t := 39) hL.cls rfl⟩ | exact HrC.other (q := 16) (t := 39) hL.cls rfl
  | 17, _, ho =>
   cases ho
   have d16 : ac.tmps.getD 39 undef = .int .i64 h.gates := hL.new 16 _ 39 rfl (he ⟨16, .data⟩ (by simp) rfl) rfl
   refine wpOp_plain rfl rfl ?_
   unfold Oper.wp
   go_simp
   first | exact ⟨_, rfl, trivial, HrC.other (q := 17) (t := 40) hL.cls rfl, rfl⟩ | exact ⟨trivial, HrC.other (q := 17) (t := 40) hL.cls rfl⟩ | exact HrC.other (q := 17) (t := 40) hL.cls rfl
  | 18, _, ho =>
   cases ho
   have d17 : ac.tmps.getD 40 undef = .int .i64 g0 := hL.new 17 _ 40 rfl (he ⟨17, .data⟩ (by simp) rfl) rfl
   refine wpOp_plain rfl rfl ?_
   unfold Oper.wp
   go_simp
   first | exact ⟨_, rfl, trivial, HrC.other (q := 18) (t := 41) hL.cls rfl, rfl⟩ | exact ⟨trivial, HrC.other (q := 18) (t := 41) hL.cls rfl⟩ | exact HrC.other (q := 18) (t := 41) hL.cls rfl
  | 19, _, ho =>
   cases ho
   have d9 : ac.tmps.getD 32 undef = .int .i64 (2 + c1) := hL.new 9 _ 32 rfl (he ⟨9, .data⟩ (by simp) rfl) rfl
   have d13 : ac.tmps.getD 36 undef = .int .i64 c2 := hL.new 13 _ 36 rfl (he ⟨13, .data⟩ (by simp) rfl) rfl
   have d18 : ac.tmps.getD 41 undef = .int .i64 c3 := hL.new 18 _ 41 rfl (he ⟨18, .data⟩ (by simp) rfl) rfl
   simp only [Array.getD_eq_getD_getElem?] at d9 d13 d18
   refine wpOp_plain rfl rfl ?_
   unfold Oper.wp
   go_simp
   first | exact ⟨_, rfl, trivial, HrC.other (q := 19) (t := 42) hL.cls rfl, rfl⟩ | exact ⟨trivial, HrC.other (q := 19) (t := 42) hL.cls rfl⟩ | exact HrC.other (q := 19) (t := 42) hL.cls rfl
  | 20, _, ho =>
   cases ho
   have d19 : ac.tmps.getD 42 undef = .agg #[.int .i64 (2 + c1), .int .i64 c2, .int .i64 c3] := hL.new 19 _ 42 rfl (he ⟨19, .data⟩ (by simp) rfl) rfl
   have hq : listed.getD 21 false = false := by
    cases hx : listed.getD 21 false with
    | false => rfl
    | true =>
     have h8 := hcl 21 _ rfl hx ⟨20, .data⟩ (by simp) rfl
     simp only [Array.getD_eq_getD_getElem?] at h8 hli
     rw [Array.getElem?_eq_getElem (show 20 < listed.size by rw [hsz]; decide)] at h8 hli
     rw [Option.getD_some] at h8 hli
     rw [h8] at hli
     exact absurd hli (by simp)
   simp only [Array.getD_eq_getD_getElem?] at d19
   refine wpOp_plain rfl rfl ?_
   unfold Oper.wp
   go_simp
   have hC := HrC.build hL.cls (by rw [hL.size, hsz0]; exact (by decide : (43 : Nat) < 59)) hq
   first | exact ⟨_, rfl, trivial, hC, trivial⟩ | exact ⟨_, rfl, hC⟩ | exact hC
  | 21, _, ho =>
   cases ho
   have d1 : ac.tmps.getD 24 undef = .slice va k vc := hL.new 1 _ 24 rfl (he ⟨1, .data⟩ (by simp) rfl) rfl
   have lb : listed.getD 20 false = true := he ⟨20, .data⟩ (by simp) rfl
   have ls : listed.getD 21 false = false := by
    simp only [Array.getD_eq_getD_getElem?] at hli ⊢
    rw [Array.getElem?_eq_getElem (show 21 < listed.size by rw [hsz]; decide)] at hli ⊢
    simpa using hli
   obtain ⟨g, g1, g3⟩ := hL.cls.one lb ls
   have hown := hL.cls.pre ls
   have hown2 : W.ownsRow (w.heap.size + 1 + 1 + 1) 24 3 (ac.tmps.getD 24 undef) k xs := by rw [d1]; exact hown
   refine wpOp_plain rfl rfl ?_
   refine wp_append_own_at (.tmp 24) (.tmp 43) 40 rfl (w.heap.size + 1 + 1 + 1) 24 i0 (.agg #[.int .i64 0, .int .i64 0, .int .i64 0]) 3 24 Try.underlying40 hi hz0 hz1 hz2 rfl (by decide) _ _ _ rfl hown2 ⟨g, 0, none⟩ 1 1 [.int .i64 (2 + c1), .int .i64 c2, .int .i64 c3] (by exact g1) rfl (by intro j u h; match j, h with | 0, h => (simp at h; subst h; exact blk_cell g3 rfl) | 1, h => (simp at h; subst h; exact blk_cell g3 rfl) | 2, h => (simp at h; subst h; exact blk_cell g3 rfl) | j + 3, h => simp at h) (by intro u hu; simp at hu; rcases hu with rfl | rfl | rfl <;> rfl) (by unfold maxLen; omega) (by omega) hL.cls.siz ?_
   intro v' W' hown' hg' hat'
   change W.grownBy W' (ac.tmps.getD 24 undef).ownBlock at hg'
   rw [d1] at hg'
   exact ⟨_, rfl, trivial, HrC.app hL.cls (by rw [hL.size, hsz0]; exact (by decide : (44 : Nat) < 59)) (by rw [hsz]; decide) ls hown' hg', trivial⟩
  | 22, _, ho =>
   cases ho
   refine wpOp_plain rfl rfl ?_
   unfold Oper.wp
   go_simp
   first | exact ⟨_, rfl, trivial, HrC.other (q := 22) (t := 45) hL.cls rfl, rfl⟩ | exact ⟨trivial, HrC.other (q := 22) (t := 45) hL.cls rfl⟩ | exact HrC.other (q := 22) (t := 45) hL.cls rfl
  | 23, hA, _ => cases hA
  | n + 24, hA, _ => simp at hA
end
end
section
open Go.RowKit Go.Maps Go.Sort Go.Shelf Go.Deep
theorem hr_fin {h : Hnd} {w W : World} {v : Value} {k : Nat} {fx : Int} (hk : (hcnt h).length = k) (hfx : fx = if k = 0 then 0 else h.first % (k : Int)) (ho : W.ownsRow (w.heap.size + 1 + 1 + 1) 24 3 v k ((((hcnt h).take k).map encC).flatten)) (hB : Below w.heap.size w W) : HRulesOk h w (.returned (.agg #[v, .int .i64 fx, .int .i64 (h.rounds % 20), .bool h.equal])) W := by
 subst hk
 rw [List.take_length] at ho
 refine ⟨hB, v, ?_, ownsRow_base ho (by omega)⟩
 have hf : (hrulesF h).first = fx := by
  rw [hfx]
  unfold hrulesF
  by_cases he : hcnt h = []
  ·rw [if_pos he, if_pos (by rw [he]; rfl)]
  ·rw [if_neg he, if_neg (fun e => he (List.eq_nil_of_length_eq_zero e))]
 unfold legRV
 rw [hf]
 rfl
theorem hr_next {h : Hnd} {w W : World} {vs vb v v' : Value} {k : Nat} {xs ys : List Value} {cs : Array Value} {listed : Array Bool} {a : Act} (i : HrC h w vs vb k v xs ys cs listed a W) (h21 : listed.getD 21 false = true) (hv : a.tmps.getD 44 undef = v') (hy : ys = ((((hcnt h).take (k + 1)).map encC).flatten)) : HrInv h w vs vb (k + 1) v' (W.setCell ⟨w.heap.size + 1 + 1, 0, none⟩ v') := by
 have ho := i.post h21
 rw [hv, hy] at ho
 have hs := i.siz
 refine ⟨ownsRow_outs (S := [w.heap.size + 1 + 1]) (Outs.set (by simp) _ _ _) ho (by simp), Go.Joins.block_setCell (i := 0) i.blk _, (Below.heap_setCell _ _ _ _ (by first | (simp; done) | (simp; omega) | omega)).trans i.box, (Below.heap_setCell _ _ _ _ (by first | (simp; done) | (simp; omega) | omega)).trans i.res, ?_, ?_⟩
 ·exact i.bel.setCell (p := ⟨w.heap.size + 1 + 1, 0, none⟩) (by simp; omega) _
 ·simp; exact hs
set_option maxRecDepth 100000 in
set_option maxHeartbeats 16000000 in
theorem hrules_any (h : Hnd) (vs vb : Value) (w : World) (hv : Sl w 1 eU16 vs h.starts) (h16 : ∀ x ∈ h.starts, 0 ≤ x ∧ x ≤ 65535) (hg8 : 0 ≤ h.gates ∧ h.gates ≤ 255) (hr8 : 0 ≤ h.rounds ∧ h.rounds ≤ 255) (hf8 : 0 ≤ h.first ∧ h.first ≤ 255) (hvb : ∃ a n c, vb = .slice a n c) :
  Calls Try.prog 33 #[hndV h vs vb] w (HRulesOk h w) := by
 obtain ⟨i0, hi, hz0, hz1, hz2⟩ := info_parts info_count
 obtain ⟨b0, n0, c0, rfl⟩ := hvb
 obtain ⟨a, cp, rfl, hl, hs⟩ := hv
 have HS : Aside (∀ k x, h.starts[k]? = some x → ∃ B off, a = some ⟨B, off, none⟩ ∧ w.cell? ⟨B, off + k, none⟩ = some (.int .u16 x)) := by
  intro k x hx
  obtain ⟨B, off, e1, _, e3⟩ := hs (by intro e; rw [e] at hx; simp at hx)
  refine ⟨B, off, e1, ?_⟩
  have := e3 k x hx 0 _ rfl
  simpa using this
 have H16 : Aside (∀ x ∈ h.starts, 0 ≤ x ∧ x ≤ 65535) := h16
 obtain ⟨n, hn⟩ : ∃ n, h.starts.length = n := ⟨_, rfl⟩
 have HN : Aside (h.starts.length = n) := hn
 rw [hn] at hl ⊢
 have HL : Aside ((hcnt h).length = min 5 n) := by show _ = _; rw [hcnt_len, hn]
 clear hs h16 hn
 unfold hndV
 have r1 : Int.tmod h.rounds 20 = h.rounds % 20 := Int.tmod_eq_emod_of_nonneg hr8.1
 have r2 : IntKind.i64.wrap h.rounds = h.rounds := IntWalk.i64_in _ (by omega)
 go_enter Try.func33, Try.ntmps33
 go_wp2_with fail
 obtain ⟨wa, hwa⟩ : ∃ u, u = ((w.alloc (.cells #[.slice a n cp, .int .u8 h.gates, .bool h.equal, .int .u8 h.rounds, .int .u8 h.first, .slice b0 n0 c0] 78)).alloc (.cells #[.slice none 0 0, .int .i64 0, .int .i64 0, .bool false] 42)).alloc (.cells #[.slice none 0 0, .int .i64 0, .int .i64 (h.rounds % 20), .bool h.equal] 42) := ⟨_, rfl⟩
 have HI0 : Aside (HrInv h w (.slice a n cp) (.slice b0 n0 c0) 0 (.slice none 0 0) wa) := by
  refine ⟨World.ownsRow_nil _ _ _ _, ?_, ?_, ?_, ?_, ?_⟩
  ·rw [hwa]; exact World.alloc_heap_new' _ _ _ (by simp)
  ·rw [hwa]; exact (Below.heap_alloc _ _ _ (by simp; omega)).trans ((Below.heap_alloc _ _ _ (by simp)).trans (World.alloc_heap_new _ _))
  ·rw [hwa]; exact (Below.heap_alloc _ _ _ (by simp)).trans (World.alloc_heap_new' _ _ _ (by simp))
  ·rw [hwa]; (repeat' (first | exact Below.refl _ _ | assumption | (with_reducible refine Below.drew ?_) | (with_reducible refine Below.setCell ?_ (by (first | (simp; done) | (simp; omega))) _) | (with_reducible refine below_drewN' ?_ _) | (refine Below.alloc ?_ (by (try simp only [World.size_alloc, World.size_drew, World.size_setCell]); omega) _) | (refine Below.trans ?_ (Below.mono (by assumption) (by (try simp only [World.size_alloc, World.size_drew, World.size_setCell]); omega)))))
  ·rw [hwa]; simp
 rw [← hwa]
 clear hwa r1 r2
 go_loopg [4] (min 5 n) (fun gg i wr => ∃ (k : Nat) (v : Value), k ≤ min 5 n ∧ min 5 n - k ≤ gg ∧ i = .int .i64 k ∧ Aside (HrInv h w (.slice a n cp) (.slice b0 n0 c0) k v wr))
 case atStart => exact ⟨0, _, Nat.zero_le _, by omega, rfl, HI0.out⟩
 case round =>
  clear HI0
  obtain ⟨k, v, hk, hg, rfl, HI⟩ := hrel
  obtain ⟨va, vc, rfl⟩ := owns_form3 HI.out.own
  have q0 : wr.cell? ⟨w.heap.size, 0, none⟩ = some (.slice a n cp) := blk_cell HI.out.box rfl
  have hlt0 : w.heap.size + 1 + 1 < wr.heap.size := by have := HI.out.siz; omega
  by_cases hlt : k < min 5 n
  ·have hltz : (k : Int) < (n : Int) := by omega
   have hlt5 : (k : Int) < 5 := by omega
   obtain ⟨x, hx⟩ : ∃ x, h.starts[k]? = some x := ⟨_, List.getElem?_eq_getElem (by rw [HN.out]; omega)⟩
   have hx16 := H16.out x (List.mem_of_getElem? hx)
   have HT : Aside ((((hcnt h).take (k + 1)).map encC).flatten = (((hcnt h).take k).map encC).flatten ++ [.int .i64 (2 + x % 300), .int .i64 (h.gates % 3), .int .i64 (h.gates / 3 % 3)]) := by
    show _ = _
    rw [take_snoc' (hcnt_get hx (by omega)), List.map_append, List.flatten_append]; simp [encC]
   obtain ⟨B, off, rfl, kw⟩ := HS.out k x hx
   have kx : wr.cell? ⟨B, off + k, none⟩ = some (.int .u16 x) := keepc HI.out.bel kw
   have q1 : wr.cell? ⟨w.heap.size, 1, none⟩ = some (.int .u8 h.gates) := blk_cell HI.out.box rfl
   have p0 : wr.cell? ⟨w.heap.size + 1 + 1, 0, none⟩ = some (.slice va k vc) := blk_cell HI.out.blk rfl
   have t1 : Int.tmod x 300 = x % 300 := Int.tmod_eq_emod_of_nonneg hx16.1
   have e1 : IntKind.i64.wrap x = x := IntWalk.i64_in _ (by omega)
   have e2 : IntKind.i64.wrap (2 + x % 300) = 2 + x % 300 := IntWalk.i64_in _ (by omega)
   have e3 : IntKind.i64.wrap h.gates = h.gates := IntWalk.i64_in _ (by omega)
   have t2 : Int.tmod h.gates 3 = h.gates % 3 := Int.tmod_eq_emod_of_nonneg hg8.1
   have t3 : Int.tdiv h.gates 3 = h.gates / 3 := Int.tdiv_eq_ediv_of_nonneg hg8.1
   have e4 : IntKind.i64.wrap (h.gates / 3) = h.gates / 3 := IntWalk.i64_in _ (by omega)
   have t4 : Int.tmod (h.gates / 3) 3 = h.gates / 3 % 3 := Int.tmod_eq_emod_of_nonneg (by omega)
   have HXS : Aside ((((hcnt h).take k).map encC).flatten = (((hcnt h).take k).map encC).flatten) := rfl
   have HBX : Aside (∀ W, Below w.heap.size w W → W.cell? ⟨B, off + k, none⟩ = some (.int .u16 x)) := fun W hB => keepc hB kw
   have f1 : IntKind.i64.wrap (x % 300) = x % 300 := IntWalk.i64_in _ (by omega)
   have f2 : IntKind.i64.wrap (h.gates % 3) = h.gates % 3 := IntWalk.i64_in _ (by omega)
   have f3 : IntKind.i64.wrap (h.gates / 3 % 3) = h.gates / 3 % 3 := IntWalk.i64_in _ (by omega)
   have hk5 : k ≤ 5 := by omega
   have hkn : k < n := by omega
   clear kw hx
   go_wp2_with fail
   obtain ⟨xs, hxs⟩ : ∃ xs, (((hcnt h).take k).map encC).flatten = xs := ⟨_, rfl⟩
   have HXS2 : Aside ((((hcnt h).take k).map encC).flatten = xs) := hxs
   refine hru5 (xs := xs) (n := n) HXS2 HI kx HBX hkn hltz hk5 t1 e1 e2 e3 t2 t3 e4 t4 f1 f2 f3 (by kernel_rfl) (by rfl) (by rfl) (by rfl) (by rfl) ?rest5
   case rest5 =>
    intro ac w5 hL
    have e23 : ac.tmps.getD 23 undef = .pointer (some ⟨(w.heap.size + 1 + 1), 0, none⟩) := hL.new 0 _ 23 rfl rfl rfl
    have e24 : ac.tmps.getD 24 undef = .slice va k vc := hL.new 1 _ 24 rfl rfl rfl
    have e25 : ac.tmps.getD 25 undef = .pointer (some ⟨w.heap.size, 0, none⟩) := hL.new 2 _ 25 rfl rfl rfl
    have e26 : ac.tmps.getD 26 undef = .slice (some ⟨B, off, none⟩) n cp := hL.new 3 _ 26 rfl rfl rfl
    have e27 : ac.tmps.getD 27 undef = .int .i64 (k : Int) := hL.new 4 _ 27 rfl rfl rfl
    have e28 : ac.tmps.getD 28 undef = .pointer (some ⟨B, off + k, none⟩) := hL.new 5 _ 28 rfl rfl rfl
    have e29 : ac.tmps.getD 29 undef = .int .u16 x := hL.new 6 _ 29 rfl rfl rfl
    have e30 : ac.tmps.getD 30 undef = .int .i64 x := hL.new 7 _ 30 rfl rfl rfl
    have e31 : ac.tmps.getD 31 undef = .int .i64 (x % 300) := hL.new 8 _ 31 rfl rfl rfl
    have e32 : ac.tmps.getD 32 undef = .int .i64 (2 + (x % 300)) := hL.new 9 _ 32 rfl rfl rfl
    have e33 : ac.tmps.getD 33 undef = .pointer (some ⟨w.heap.size, 1, none⟩) := hL.new 10 _ 33 rfl rfl rfl
    have e34 : ac.tmps.getD 34 undef = .int .u8 h.gates := hL.new 11 _ 34 rfl rfl rfl
    have e35 : ac.tmps.getD 35 undef = .int .i64 h.gates := hL.new 12 _ 35 rfl rfl rfl
    have e36 : ac.tmps.getD 36 undef = .int .i64 (h.gates % 3) := hL.new 13 _ 36 rfl rfl rfl
    have e37 : ac.tmps.getD 37 undef = .pointer (some ⟨w.heap.size, 1, none⟩) := hL.new 14 _ 37 rfl rfl rfl
    have e38 : ac.tmps.getD 38 undef = .int .u8 h.gates := hL.new 15 _ 38 rfl rfl rfl
    have e39 : ac.tmps.getD 39 undef = .int .i64 h.gates := hL.new 16 _ 39 rfl rfl rfl
    have e40 : ac.tmps.getD 40 undef = .int .i64 (h.gates / 3) := hL.new 17 _ 40 rfl rfl rfl
    have e41 : ac.tmps.getD 41 undef = .int .i64 (h.gates / 3 % 3) := hL.new 18 _ 41 rfl rfl rfl
    have e42 : ac.tmps.getD 42 undef = .agg #[.int .i64 (2 + (x % 300)), .int .i64 (h.gates % 3), .int .i64 (h.gates / 3 % 3)] := hL.new 19 _ 42 rfl rfl rfl
    obtain ⟨y43, e43⟩ : ∃ x, ac.tmps.getD 43 undef = x := ⟨_, rfl⟩
    obtain ⟨y44, e44⟩ : ∃ x, ac.tmps.getD 44 undef = x := ⟨_, rfl⟩
    have e45 : ac.tmps.getD 45 undef = .pointer (some ⟨(w.heap.size + 1 + 1), 0, none⟩) := hL.new 22 _ 45 rfl rfl rfl
    have HCL : Aside ((HrC h w (.slice (some ⟨B, off, none⟩) n cp) (.slice b0 n0 c0) k (.slice va k vc) xs (xs ++ [.int .i64 (2 + (x % 300)), .int .i64 (h.gates % 3), .int .i64 (h.gates / 3 % 3)]) #[.int .i64 (2 + (x % 300)), .int .i64 (h.gates % 3), .int .i64 (h.gates / 3 % 3)]) (#[true, true, true, true, true, true, true, true, true, true, true, true, true, true, true, true, true, true, true, true, true, true, true, false]) ac w5) := hL.cls
    have HC5 : Aside (HrC h w (.slice (some ⟨B, off, none⟩) n cp) (.slice b0 n0 c0) k (.slice va k vc) xs (xs ++ [.int .i64 (2 + (x % 300)), .int .i64 (h.gates % 3), .int .i64 (h.gates / 3 % 3)]) #[.int .i64 (2 + (x % 300)), .int .i64 (h.gates % 3), .int .i64 (h.gates / 3 % 3)] (#[true, true, true, true, true, true, true, true, true, true, true, true, true, true, true, true, true, true, true, true, true, true, true, false]) ac w5) := hL.cls
    have hy := HT.out
    rw [hxs] at hy
    have HN5 : Aside (HrInv h w (.slice (some ⟨B, off, none⟩) n cp) (.slice b0 n0 c0) (k + 1) y44 (w5.setCell ⟨w.heap.size + 1 + 1, 0, none⟩ y44)) := hr_next HC5.out rfl e44 hy.symm
    obtain ⟨a7, c7, rfl⟩ := owns_form3 HN5.out.own
    clear hy HCL
    have es_ := hL.sets [23, 24, 25, 26, 27, 28, 29, 30, 31, 32, 33, 34, 35, 36, 37, 38, 39, 40, 41, 42, 43, 44, 45] (by decide +kernel)
    rw [List.foldl_cons, List.foldl_cons, List.foldl_cons, List.foldl_cons, List.foldl_cons, List.foldl_cons, List.foldl_cons, List.foldl_cons, List.foldl_cons, List.foldl_cons, List.foldl_cons, List.foldl_cons, List.foldl_cons, List.foldl_cons, List.foldl_cons, List.foldl_cons, List.foldl_cons, List.foldl_cons, List.foldl_cons, List.foldl_cons, List.foldl_cons, List.foldl_cons, List.foldl_cons, List.foldl_nil, e23, e24, e25, e26, e27, e28, e29, e30, e31, e32, e33, e34, e35, e36, e37, e38, e39, e40, e41, e42, e43, e44, e45] at es_
    rw [es_]
    clear es_ hL e23 e24 e25 e26 e27 e28 e29 e30 e31 e32 e33 e34 e35 e36 e37 e38 e39 e40 e41 e42 e43 e44 e45
    simp only [List.setIfInBounds_toArray, List.set_cons_zero, List.set_cons_succ]
    have k0 := blk_cell HC5.out.blk (i := 0) rfl
    have kf := blk_free HC5.out.blk
    clear kx q0 q1 p0 HBX HXS HXS2 hxs
    refine wpAny_one (i := 23) (by decide +kernel) rfl rfl ?_
    unfold Oper.wp
    go_simp
    refine wpAny_done (by decide +kernel) ?_ _
    obtain ⟨w6, hw6⟩ : ∃ u, u = w5.setCell ⟨w.heap.size + 1 + 1, 0, none⟩ (.slice a7 (k + 1) c7) := ⟨_, rfl⟩
    rw [← hw6] at HN5 ⊢
    clear hw6 k0 kf HC5
    have e9 : IntKind.i64.wrap ((k : Int) + 1) = (k : Int) + 1 := IntWalk.i64_in _ (by omega)
    go_wp2_with fail
    go_roundg (min 5 n - (k + 1))
    case measure => omega
    case rel => exact ⟨k + 1, _, by omega, by omega, by go_num, HN5⟩
  ·have hke : k = min 5 n := by omega
   have HKE : Aside (k = min 5 n) := hke
   have p0 : wr.cell? ⟨w.heap.size + 1 + 1, 0, none⟩ = some (.slice va k vc) := blk_cell HI.out.blk rfl
   have p1 : wr.cell? ⟨w.heap.size + 1 + 1, 1, none⟩ = some (.int .i64 0) := blk_cell HI.out.blk rfl
   have p2 : wr.cell? ⟨w.heap.size + 1 + 1, 2, none⟩ = some (.int .i64 (h.rounds % 20)) := blk_cell HI.out.blk rfl
   have p3 : wr.cell? ⟨w.heap.size + 1 + 1, 3, none⟩ = some (.bool h.equal) := blk_cell HI.out.blk rfl
   have pf := blk_free HI.out.blk
   have q4 : wr.cell? ⟨w.heap.size, 4, none⟩ = some (.int .u8 h.first) := blk_cell HI.out.box rfl
   have r0 : wr.cell? ⟨w.heap.size + 1, 0, none⟩ = some (.slice none 0 0) := blk_cell HI.out.res rfl
   have r1 : wr.cell? ⟨w.heap.size + 1, 1, none⟩ = some (.int .i64 0) := blk_cell HI.out.res rfl
   have r2 : wr.cell? ⟨w.heap.size + 1, 2, none⟩ = some (.int .i64 0) := blk_cell HI.out.res rfl
   have r3 : wr.cell? ⟨w.heap.size + 1, 3, none⟩ = some (.bool false) := blk_cell HI.out.res rfl
   have rf := blk_free HI.out.res
   have hlt1 : w.heap.size + 1 < wr.heap.size := by omega
   have e3 : IntKind.i64.wrap h.first = h.first := IntWalk.i64_in _ (by omega)
   have HLE : Aside ((hcnt h).length = k) := by show _ = _; rw [HL.out, hke]
   have HCS : Aside (k = 0 ↔ hcnt h = []) := by
    show _ ↔ _
    rw [← HLE.out]
    exact List.length_eq_zero_iff
   clear hke
   by_cases hk0 : 0 < k
   ·have hkz : (0 : Int) < (k : Int) := by omega
    have hkn0 : ¬ (k : Int) = 0 := by omega
    have hkn1 : ¬ k = 0 := by omega
    have t5 : Int.tmod h.first (k : Int) = h.first % (k : Int) := Int.tmod_eq_emod_of_nonneg hf8.1
    have hm5 := Int.emod_lt_of_pos h.first hkz
    have hm6 := Int.emod_nonneg h.first hkn0
    have e4 : IntKind.i64.wrap (h.first % (k : Int)) = h.first % (k : Int) := IntWalk.i64_in _ (by omega)
    obtain ⟨fx, hfx⟩ : ∃ fx, h.first % (k : Int) = fx := ⟨_, rfl⟩
    rw [hfx] at t5 e4
    have HFX : Aside (h.first % (k : Int) = fx) := hfx
    have HK0 : Aside (0 < k) := hk0
    clear hm5 hm6 hfx
    by_cases hnk : n ≤ k
    ·have hz : ¬ (k : Int) < (n : Int) := by omega
     clear hlt hnk
     go_wp2_with fail
     refine bodyPost_ret (v := .agg #[.slice va k vc, .int .i64 fx, .int .i64 (h.rounds % 20), .bool h.equal]) (by simp [results, Try.results33, go_sem, hlt0, hlt1, p0, p1, p2, p3, r0, r1, r2, r3, pf, rf]) rfl ?_
     have hb1 : w.heap.size + 1 < w.heap.size + 1 + 1 + 1 := by omega
     have hb2 : w.heap.size + 1 + 1 < w.heap.size + 1 + 1 + 1 := by omega
     have hc1 : w.heap.size ≤ w.heap.size + 1 := by omega
     have hc2 : w.heap.size ≤ w.heap.size + 1 + 1 := by omega
     exact hr_fin HLE.out (by rw [if_neg hkn1]; exact HFX.out.symm) (ownsRow_setCell_below (ownsRow_setCell_below (ownsRow_setCell_below (ownsRow_setCell_below (ownsRow_setCell_below HI.out.own (a := ⟨w.heap.size + 1 + 1, 1, none⟩) hb2 _) (a := ⟨w.heap.size + 1, 0, none⟩) hb1 _) (a := ⟨w.heap.size + 1, 1, none⟩) hb1 _) (a := ⟨w.heap.size + 1, 2, none⟩) hb1 _) (a := ⟨w.heap.size + 1, 3, none⟩) hb1 _) (((((HI.out.bel.setCell (p := ⟨w.heap.size + 1 + 1, 1, none⟩) hc2 _).setCell (p := ⟨w.heap.size + 1, 0, none⟩) hc1 _).setCell (p := ⟨w.heap.size + 1, 1, none⟩) hc1 _).setCell (p := ⟨w.heap.size + 1, 2, none⟩) hc1 _).setCell (p := ⟨w.heap.size + 1, 3, none⟩) hc1 _)
    ·have hz : (k : Int) < (n : Int) := by omega
     have h5 : k = 5 := by have := HKE.out; omega
     have hz5 : ¬ (k : Int) < 5 := by omega
     have HN5 : Aside (k = 5) := h5
     clear hlt hnk h5
     go_wp2_with fail
     refine bodyPost_ret (v := .agg #[.slice va k vc, .int .i64 fx, .int .i64 (h.rounds % 20), .bool h.equal]) (by simp [results, Try.results33, go_sem, hlt0, hlt1, p0, p1, p2, p3, r0, r1, r2, r3, pf, rf]) rfl ?_
     have hb1 : w.heap.size + 1 < w.heap.size + 1 + 1 + 1 := by omega
     have hb2 : w.heap.size + 1 + 1 < w.heap.size + 1 + 1 + 1 := by omega
     have hc1 : w.heap.size ≤ w.heap.size + 1 := by omega
     have hc2 : w.heap.size ≤ w.heap.size + 1 + 1 := by omega
     exact hr_fin HLE.out (by rw [if_neg hkn1]; exact HFX.out.symm) (ownsRow_setCell_below (ownsRow_setCell_below (ownsRow_setCell_below (ownsRow_setCell_below (ownsRow_setCell_below HI.out.own (a := ⟨w.heap.size + 1 + 1, 1, none⟩) hb2 _) (a := ⟨w.heap.size + 1, 0, none⟩) hb1 _) (a := ⟨w.heap.size + 1, 1, none⟩) hb1 _) (a := ⟨w.heap.size + 1, 2, none⟩) hb1 _) (a := ⟨w.heap.size + 1, 3, none⟩) hb1 _) (((((HI.out.bel.setCell (p := ⟨w.heap.size + 1 + 1, 1, none⟩) hc2 _).setCell (p := ⟨w.heap.size + 1, 0, none⟩) hc1 _).setCell (p := ⟨w.heap.size + 1, 1, none⟩) hc1 _).setCell (p := ⟨w.heap.size + 1, 2, none⟩) hc1 _).setCell (p := ⟨w.heap.size + 1, 3, none⟩) hc1 _)
   ·obtain rfl : k = 0 := by omega
    have hn0 : n = 0 := by have := HKE.out; omega
    have hz : ¬ ((0 : Nat) : Int) < (n : Int) := by omega
    have hkz : ¬ (0 : Int) < ((0 : Nat) : Int) := by omega
    have HN0 : Aside (n = 0) := hn0
    clear hlt hk0 hn0
    go_wp2_with fail
    refine bodyPost_ret (v := .agg #[.slice va 0 vc, .int .i64 0, .int .i64 (h.rounds % 20), .bool h.equal]) (by simp [results, Try.results33, go_sem, hlt0, hlt1, p0, p1, p2, p3, r0, r1, r2, r3, pf, rf]) rfl ?_
    have hb1 : w.heap.size + 1 < w.heap.size + 1 + 1 + 1 := by omega
    have hb2 : w.heap.size + 1 + 1 < w.heap.size + 1 + 1 + 1 := by omega
    have hc1 : w.heap.size ≤ w.heap.size + 1 := by omega
    have hc2 : w.heap.size ≤ w.heap.size + 1 + 1 := by omega
    exact hr_fin HLE.out (by rw [if_pos rfl]) (ownsRow_setCell_below (ownsRow_setCell_below (ownsRow_setCell_below (ownsRow_setCell_below HI.out.own (a := ⟨w.heap.size + 1, 0, none⟩) hb1 _) (a := ⟨w.heap.size + 1, 1, none⟩) hb1 _) (a := ⟨w.heap.size + 1, 2, none⟩) hb1 _) (a := ⟨w.heap.size + 1, 3, none⟩) hb1 _) ((((HI.out.bel.setCell (p := ⟨w.heap.size + 1, 0, none⟩) hc1 _).setCell (p := ⟨w.heap.size + 1, 1, none⟩) hc1 _).setCell (p := ⟨w.heap.size + 1, 2, none⟩) hc1 _).setCell (p := ⟨w.heap.size + 1, 3, none⟩) hc1 _)
end
end Go.Proofs.Ytnhjoebdmmelaaa
