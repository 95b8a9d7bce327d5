/- Leg: parts Gc, Gf, Ha, Ib, Ic. -/
import Derived.Maps.AppendAt
import Derived.Test.YtnhjoebdmmelaaaMap
set_option linter.unusedVariables false
set_option linter.unusedSimpArgs false
namespace Go.Proofs.Ytnhjoebdmmelaaa
section
open Go.RowKit Go.Maps Go.Sort Go.Shelf Go.Deep
theorem getD_put {a : Act} {t u : Nat} {x : Value} (h : u ≠ t) : (a.put (some t) x).tmps.getD u undef = a.tmps.getD u undef := getDV_set_ne _ _ _ _ _ h
structure C12 (w : World) (r : LegR) (vc : Value) (k : Nat) (vb : Value) (R : RG) (vw ve : Value) (n : Nat) (base : World) (listed : Array Bool) (a : Act) (W : World) : Prop where
 out : Outs [w.heap.size + 1] base W
 blk : ∃ v0 v1 v2, StB w r vc k vb (rgC R v0 v1 v2 vw ve) W ∧ (listed.getD 14 false = true → v0 = a.tmps.getD 76 undef) ∧ (listed.getD 17 false = true → v1 = a.tmps.getD 80 undef) ∧ (listed.getD 20 false = true → v2 = a.tmps.getD 84 undef)
 ne : listed.getD 3 false = true → listed.getD 7 false = true → ∀ gl cl gd cd, a.tmps.getD 76 undef = rowV gl n cl → a.tmps.getD 80 undef = rowV gd n cd → gl ≠ gd
section
variable {w base W W' : World} {r : LegR} {vc vb vw ve : Value} {k n : Nat} {R : RG} {listed : Array Bool} {a : Act}
theorem rep_false (m i : Nat) : (Array.replicate m false).getD i false = false := by
 simp only [Array.getD_eq_getD_getElem?, Array.getElem?_replicate]
 split <;> rfl
theorem C12.start {v0 v1 v2 : Value} (h : StB w r vc k vb (rgC R v0 v1 v2 vw ve) base) (m : Nat) (a : Act) : C12 w r vc k vb R vw ve n base (Array.replicate m false) a base.drew := by
 have hB : Below base.heap.size base base.drew := (Below.refl _ _).drew
 refine ⟨Outs.of_below hB, ⟨v0, v1, v2, h.below hB, fun e => ?_, fun e => ?_, fun e => ?_⟩, fun e => ?_⟩
 all_goals (rw [rep_false] at e; cases e)
theorem C12.other (h : C12 w r vc k vb R vw ve n base listed a W) {i t : Nat} {x : Value} (hi : (decide (i ≠ 3) && decide (i ≠ 7) && decide (i ≠ 14) && decide (i ≠ 17) && decide (i ≠ 20) && decide (t ≠ 76) && decide (t ≠ 80) && decide (t ≠ 84)) = true) (hB : Below W.heap.size W W') : C12 w r vc k vb R vw ve n base (listed.setIfInBounds i true) (a.put (some t) x) W' := by
 simp only [Bool.and_eq_true, decide_eq_true_eq] at hi
 obtain ⟨⟨⟨⟨⟨⟨⟨i3, i7⟩, i14⟩, i17⟩, i20⟩, t76⟩, t80⟩, t84⟩ := hi
 obtain ⟨v0, v1, v2, h1, h2, h3, h4⟩ := h.blk
 refine ⟨h.out.trans (Outs.of_below hB), ⟨v0, v1, v2, h1.below hB, fun e => ?_, fun e => ?_, fun e => ?_⟩, fun e e' => ?_⟩
 ·rw [getD_set_ne _ _ _ _ (Ne.symm i14)] at e; rw [getD_put (Ne.symm t76)]; exact h2 e
 ·rw [getD_set_ne _ _ _ _ (Ne.symm i17)] at e; rw [getD_put (Ne.symm t80)]; exact h3 e
 ·rw [getD_set_ne _ _ _ _ (Ne.symm i20)] at e; rw [getD_put (Ne.symm t84)]; exact h4 e
 ·rw [getD_set_ne _ _ _ _ (Ne.symm i3)] at e; rw [getD_set_ne _ _ _ _ (Ne.symm i7)] at e'; rw [getD_put (Ne.symm t76), getD_put (Ne.symm t80)]; exact h.ne e e'
end
structure C17 (w : World) (r : LegR) (vc : Value) (k : Nat) (vb : Value) (R : RG) (vl vd vi vw ve : Value) (es : List Nat) (base : World) (listed : Array Bool) (a : Act) (W : World) : Prop where
 out : Outs [w.heap.size + 1] base W
 blk : ∃ v, StB w r vc k vb (rgC R vl vd vi vw v) W ∧ ((listed.getD 9 false = true → v = a.tmps.getD 138 undef) ∧ (listed.getD 9 false = false → v = ve))
 c0 : listed.getD 0 false = true → listed.getD 3 false = false → W.ownsRow base.heap.size 3 1 (a.tmps.getD 131 undef) 0 []
 c3 : listed.getD 3 false = true → listed.getD 7 false = false → W.ownsRow base.heap.size 3 1 (a.tmps.getD 134 undef) es.length ((cI es).map (Value.int .i64))
 c6 : listed.getD 6 false = true → listed.getD 7 false = false → ∃ g, a.tmps.getD 137 undef = .slice (some ⟨g, 0, none⟩) 1 1 ∧ (∀ b, (a.tmps.getD 131 undef).ownBlock = some b → listed.getD 0 false = true → listed.getD 3 false = false → b ≠ g) ∧ (W.heap[g]? = some (.cells #[.int .i64 (k : Int)] 3 (0, 0)))
 c7 : listed.getD 7 false = true → W.ownsRow base.heap.size 3 1 (a.tmps.getD 138 undef) (es.length + 1) ((cI (es ++ [k])).map (Value.int .i64))
theorem StB.grown {w : World} {r : LegR} {vc : Value} {k : Nat} {vb : Value} {cs : Array Value} {W W' : World} {ob : Option Nat} (h : StB w r vc k vb cs W) (hg : W.grownBy W' ob) (hb : ∀ b, ob = some b → w.heap.size + 4 ≤ b) : StB w r vc k vb cs W' := by
 have s := h.siz
 have hk : ∀ j, j < w.heap.size + 4 → W'.heap[j]? = W.heap[j]? := fun j hj => hg.block j (by omega) (fun e => by have := hb j e.symm; omega)
 exact ⟨(hk _ (by omega)).trans h.rul, (hk _ (by omega)).trans h.leg, (hk _ (by omega)).trans h.vis, (hk _ (by omega)).trans h.zero, ⟨hg.os.trans h.bel.os, hg.tape.trans h.bel.tape, hg.output.trans h.bel.output, Nat.le_trans h.bel.size hg.size, fun j hj => (hk j (by omega)).trans (h.bel.block j hj)⟩, Nat.le_trans s hg.size⟩
section
variable {w base W W' : World} {r : LegR} {vc vb vl vd vi vw ve : Value} {k : Nat} {R : RG} {es : List Nat} {listed : Array Bool} {a : Act}
theorem C17.start (h : StB w r vc k vb (rgC R vl vd vi vw ve) base) (m : Nat) (a : Act) : C17 w r vc k vb R vl vd vi vw ve es base (Array.replicate m false) a base.drew := by
 have hB : Below base.heap.size base base.drew := (Below.refl _ _).drew
 refine ⟨Outs.of_below hB, ⟨ve, h.below hB, fun e => ?_, fun _ => rfl⟩, fun e => ?_, fun e => ?_, fun e => ?_, fun e => ?_⟩
 all_goals (rw [rep_false] at e; cases e)
theorem C17.other (h : C17 w r vc k vb R vl vd vi vw ve es base listed a W) {i t : Nat} {x : Value} (hi : (decide (i ≠ 0) && decide (i ≠ 3) && decide (i ≠ 6) && decide (i ≠ 7) && decide (i ≠ 9) && decide (t ≠ 131) && decide (t ≠ 134) && decide (t ≠ 137) && decide (t ≠ 138)) = true) : C17 w r vc k vb R vl vd vi vw ve es base (listed.setIfInBounds i true) (a.put (some t) x) W := by
 simp only [Bool.and_eq_true, decide_eq_true_eq] at hi
 obtain ⟨⟨⟨⟨⟨⟨⟨⟨i0, i3⟩, i6⟩, i7⟩, i9⟩, t1⟩, t2⟩, t3⟩, t4⟩ := hi
 obtain ⟨v, h1, h2⟩ := h.blk
 refine ⟨h.out, ⟨v, h1, ?_⟩, ?_, ?_, ?_, ?_⟩
 ·rw [getD_set_ne _ _ _ _ (Ne.symm i9), getD_put (Ne.symm t4)]; exact h2
 ·rw [getD_set_ne _ _ _ _ (Ne.symm i0), getD_set_ne _ _ _ _ (Ne.symm i3), getD_put (Ne.symm t1)]; exact h.c0
 ·rw [getD_set_ne _ _ _ _ (Ne.symm i3), getD_set_ne _ _ _ _ (Ne.symm i7), getD_put (Ne.symm t2)]; exact h.c3
 ·rw [getD_set_ne _ _ _ _ (Ne.symm i6), getD_set_ne _ _ _ _ (Ne.symm i7), getD_set_ne _ _ _ _ (Ne.symm i0), getD_set_ne _ _ _ _ (Ne.symm i3), getD_put (Ne.symm t3), getD_put (Ne.symm t1)]; exact h.c6
 ·rw [getD_set_ne _ _ _ _ (Ne.symm i7), getD_put (Ne.symm t4)]; exact h.c7
theorem C17.old (h : C17 w r vc k vb R vl vd vi vw ve es base listed a W) (l9 : listed.getD 9 false = false) : W.cell? ⟨w.heap.size + 1, 7, none⟩ = some ve := by
 obtain ⟨v, h1, h2⟩ := h.blk
 rw [← h2.2 l9]
 exact blk_cell h1.leg rfl
end
def RfSl (w : World) (vl vd vi vw ve : Value) (g : LegG) (es : List Nat) : Prop := SlT 3 w 1 eI vl g.left ∧ SlT 3 w 1 eI vd g.darts ∧ SlT 4 w 1 eB vi g.inn ∧ SlT 3 w 1 eI vw g.wins ∧ SlT 3 w 1 eI ve (cI es)
theorem RfSl.below {w w' : World} {vl vd vi vw ve : Value} {g : LegG} {es : List Nat} (h : RfSl w vl vd vi vw ve g es) (hB : Below w.heap.size w w') : RfSl w' vl vd vi vw ve g es := ⟨h.1.below hB, h.2.1.below hB, h.2.2.1.below hB, h.2.2.2.1.below hB, h.2.2.2.2.below hB⟩
theorem StB.start (w : World) (r : LegR) (vc : Value) (k : Nat) (vb : Value) (cs : Array Value) : StB w r vc k vb cs ((((w.alloc (.cells #[vc, .int .i64 r.first, .int .i64 r.rounds, .bool r.equal] 42)).alloc (.cells cs 108)).alloc (.cells #[.int .i64 (k : Int), vb] 84)).alloc (.cells zeroC 108)) := by
 refine ⟨?_, ?_, ?_, ?_, by (repeat' (first | exact Below.refl _ _ | assumption | (with_reducible refine Below.drew ?_) | (with_reducible refine Below.setCell ?_ (by (first | (simp; done) | (simp; omega))) _) | (with_reducible refine below_drewN' ?_ _) | (refine Below.alloc ?_ (by (try simp only [World.size_alloc, World.size_drew, World.size_setCell]); omega) _) | (refine Below.trans ?_ (Below.mono (by assumption) (by (try simp only [World.size_alloc, World.size_drew, World.size_setCell]); omega))))), by simp⟩
 ·exact (Below.heap_alloc _ _ _ (by simp; try omega)).trans ((Below.heap_alloc _ _ _ (by simp; try omega)).trans ((Below.heap_alloc _ _ _ (by simp; try omega)).trans (World.alloc_heap_new _ _)))
 ·exact (Below.heap_alloc _ _ _ (by simp; try omega)).trans ((Below.heap_alloc _ _ _ (by simp; try omega)).trans (World.alloc_heap_new' _ _ _ (by simp)))
 ·exact (Below.heap_alloc _ _ _ (by simp; try omega)).trans (World.alloc_heap_new' _ _ _ (by simp))
 ·exact World.alloc_heap_new' _ _ _ (by simp)
end
section
open Go.RowKit Go.Maps Go.Sort Go.Shelf Go.Deep
def opsAt (n : Nat) : Code → Option (List Oper)
 | .region id ops _ => match Nat.beq id n with
  | true => some ops.toList
  | false => none
 | .seq x y => match opsAt n x with
  | some l => some l
  | none => opsAt n y
 | .cond _ x y => match opsAt n x with
  | some l => some l
  | none => opsAt n y
 | .block _ x => opsAt n x
 | .loop x => opsAt n x
 | .scope x => opsAt n x
 | .rangeFunc _ _ x y => match opsAt n x with
  | some l => some l
  | none => opsAt n y
 | _ => none
def regOps (n : Nat) (F : Func) : Option (List Oper) := match F.body with
 | some c => opsAt n c
 | none => none
theorem RfOk.congr {r : LegR} {g : LegG} {R R' : RG} {es : List Nat} (h : RfOk r g R es) (e1 : R'.next = R.next) (e2 : R'.round = R.round) (e3 : R'.over = R.over) (e4 : R'.last = R.last) (e5 : R'.done = R.done) : RfOk r g R' es := by
 obtain ⟨a, b, c, d, e⟩ := R
 obtain ⟨a', b', c', d', e'⟩ := R'
 simp only [] at e1 e2 e3 e4 e5
 subst e1 e2 e3 e4 e5
 exact h
theorem passG_same (r : LegR) (g : LegG) : (passG r g).left = g.left ∧ (passG r g).darts = g.darts ∧ (passG r g).inn = g.inn := by
 unfold passG
 split <;> exact ⟨rfl, rfl, rfl⟩
theorem passG_wins {r : LegR} {g : LegG} : (passG r g).wins = if (passF r g).2.2 = true then winL g else g.wins := by
 unfold passG
 split <;> rfl
theorem RfAt.won {X : Nat} {w w' : World} {vl vd vi vw ve v : Value} {r : LegR} {g : LegG} {es : List Nat} {base : Nat} {ws : List Nat} (h : RfAt X w vl vd vi vw ve g es) (hB : Below w.heap.size w w') (hp : (passF r g).2.2 = true) (hw : winL g = cI ws) (hown : w'.ownsRow base 3 1 v ws.length ((cI ws).map (Value.int .i64))) (hX : X + 2 < base) (hl : ws.length ≤ 1000) : RfAt X w' vl vd vi v ve (passG r g) es := by
 obtain ⟨e1, e2, e3⟩ := passG_same r g
 refine ⟨by rw [e1]; exact h.sl.below hB, by rw [e2]; exact h.sd.below hB, by rw [e3]; exact h.si.below hB, ?_, h.se.below hB⟩
 rw [passG_wins, if_pos hp, hw]
 exact SlN.own (base := base) (by rw [cI_len]; exact hown) hX (by rw [cI_len]; omega)
theorem RfAt.same {X : Nat} {w : World} {vl vd vi vw ve : Value} {r : LegR} {g : LegG} {es : List Nat} (h : RfAt X w vl vd vi vw ve g es) (hp : (passF r g).2.2 = false) : RfAt X w vl vd vi vw ve (passG r g) es := by
 obtain ⟨e1, e2, e3⟩ := passG_same r g
 refine ⟨by rw [e1]; exact h.sl, by rw [e2]; exact h.sd, by rw [e3]; exact h.si, ?_, h.se⟩
 rw [passG_wins, if_neg (by rw [hp]; simp)]
 exact h.sw
structure C15 (w : World) (r : LegR) (vc : Value) (k : Nat) (vb : Value) (rr rd nx : Int) (rl : Nat → Int) (vl vd vi vw ve : Value) (base : World) (listed : Array Bool) (_a : Act) (W : World) : Prop where
 out : Outs [w.heap.size + 1] base W
 blk : StB w r vc k vb (rgC ⟨if listed.getD 10 false = true then nx else (k : Int), rr, false, rl, if listed.getD 12 false = true then rd + 1 else rd⟩ vl vd vi vw ve) W
section
variable {w base W W' : World} {r : LegR} {vc vb vl vd vi vw ve : Value} {k : Nat} {rr rd nx : Int} {rl : Nat → Int} {listed : Array Bool} {a a' : Act}
theorem C15.start (h : StB w r vc k vb (rgC ⟨(k : Int), rr, false, rl, rd⟩ vl vd vi vw ve) base) (m : Nat) (a : Act) : C15 w r vc k vb rr rd nx rl vl vd vi vw ve base (Array.replicate m false) a base.drew := by
 have hB : Below base.heap.size base base.drew := (Below.refl _ _).drew
 refine ⟨Outs.of_below hB, ?_⟩
 rw [rep_false, rep_false]
 exact h.below hB
theorem C15.other (h : C15 w r vc k vb rr rd nx rl vl vd vi vw ve base listed a W) {i : Nat} (hi : (decide (i ≠ 10) && decide (i ≠ 12)) = true) : C15 w r vc k vb rr rd nx rl vl vd vi vw ve base (listed.setIfInBounds i true) a' W := by
 simp only [Bool.and_eq_true, decide_eq_true_eq] at hi
 refine ⟨h.out, ?_⟩
 rw [getD_set_ne _ _ _ _ (Ne.symm hi.1), getD_set_ne _ _ _ _ (Ne.symm hi.2)]
 exact h.blk
end
end
section
open Go.RowKit Go.Maps Go.Sort Go.Shelf Go.Deep
theorem wp_append_own_at {P : Program} {o : Oper} {a : Act} {w : World} {K : Act → World → Prop} {Q : Exit → Act → World → Prop} (s x : Operand) (t : TypeId)
  (ho : o.op = .call { callee := .builtin .append, args := #[s, x], argTypes := #[t, t] })
  (base : Nat) (e : TypeId) (i : TypeInfo) (z : Value) (size bytes : Nat) (ht : P.underlying t = some (.slice e)) (hi : P.info? e = some i) (hz : i.zero = some z)
  (hsize : i.size = size) (hby : i.bytes = bytes) (hzs : z.cells.size = size) (hsz : 0 < size)
  (v : Value) (n : Nat) (xs : List Value) (hs : a.eval s = v) (hown : w.ownsRow base e size v n xs)
  (ad : Addr) (m c : Nat) (news : List Value) (hx : a.eval x = .slice (some ad) m c) (hl : news.length = m * size) (hnews : ∀ j u, news[j]? = some u → w.cell? (ad.add j) = some u) (h1 : ∀ u ∈ news, u.oneCell' = true)
  (h63 : n + m ≤ maxLen) (hbytes : (n + m) * bytes ≤ 140737488355328) (hbase : base ≤ w.heap.size)
  (h : ∀ v' w', w'.ownsRow base e size v' (n + m) (xs ++ news) → w.grownBy w' v.ownBlock → (v'.ownBlock = v.ownBlock ∨ v'.ownBlock = some w.heap.size) → K (a.put o.dst v') w') : o.wp P a w K Q := by
 obtain ⟨v', w', hr, h2, h3, h4, h5⟩ := run_append_own_at (P := P) w base t o.type e i z size bytes ht hi hz hsize hby hzs hsz v n xs hown ad m c news hl hnews h1 h63 hbytes hbase
 unfold Oper.wp execOp
 simp only [ho, resolve, invoke, builtin, Sem.run_bind, Sem.run_pure, Result.andThen_ok, List.map_toArray, List.map_cons, List.map_nil, hs, hx, hr]
 exact h v' w' h2 h3 h5
structure GN where
 ib : Nat
 ia : Nat
 is : Nat
 tb : Nat
 ta : Nat
def bgN : Nat → GN
 | 0 => ⟨9, 10, 30, 25, 26⟩
 | 1 => ⟨14, 15, 33, 30, 31⟩
 | _ => ⟨26, 27, 36, 42, 43⟩
theorem bgN_ne' : ∀ i : Fin 3, ∀ j : Fin 3, (bgN i).ia ≠ (bgN j).ib ∧ (bgN i).is ≠ (bgN j).ib ∧ (bgN i).is ≠ (bgN j).ia ∧ (bgN i).ta ≠ (bgN j).tb ∧ (i ≠ j → (bgN i).ib ≠ (bgN j).ib ∧ (bgN i).ia ≠ (bgN j).ia ∧ (bgN i).is ≠ (bgN j).is ∧ (bgN i).tb ≠ (bgN j).tb ∧ (bgN i).ta ≠ (bgN j).ta) := by decide
theorem bgN_ne : ∀ i, i < 3 → ∀ j, j < 3 → (bgN i).ia ≠ (bgN j).ib ∧ (bgN i).is ≠ (bgN j).ib ∧ (bgN i).is ≠ (bgN j).ia ∧ (bgN i).ta ≠ (bgN j).tb ∧ (i ≠ j → (bgN i).ib ≠ (bgN j).ib ∧ (bgN i).ia ≠ (bgN j).ia ∧ (bgN i).is ≠ (bgN j).is ∧ (bgN i).tb ≠ (bgN j).tb ∧ (bgN i).ta ≠ (bgN j).ta) := fun i hi j hj => by
 have h := bgN_ne' ⟨i, hi⟩ ⟨j, hj⟩
 exact ⟨h.1, h.2.1, h.2.2.1, h.2.2.2.1, fun e => h.2.2.2.2 (fun e' => e (congrArg Fin.val e'))⟩
def bgFree (i t : Nat) : Bool := (List.range 3).all fun j => decide (i ≠ (bgN j).ib) && decide (i ≠ (bgN j).ia) && decide (i ≠ (bgN j).is) && decide (t ≠ (bgN j).tb) && decide (t ≠ (bgN j).ta)
structure GD where
 T : TypeId
 v : Value
 k : Nat
 xs : List Value
 x : Value
def grV (G : Nat → GD) (listed : Array Bool) (r : Nat → Value) (j : Nat) : Value := if listed.getD (bgN j).is false = true then r j else (G j).v
structure Gr (w : World) (Z L : Nat) (G : Nat → GD) (R : RG) (base : World) (listed : Array Bool) (a : Act) (r : Nat → Value) (W : World) : Prop where
 bel : Below w.heap.size w W
 siz : Z ≤ W.heap.size
 fix : ∀ j, j < Z → j ≠ L → W.heap[j]? = base.heap[j]?
 leg : RgB W L (rgC R (grV G listed r 0) (grV G listed r 1) (grV G listed r 2) (.slice none 0 0) (.slice none 0 0))
 row : ∀ j, j < 3 → (listed.getD (bgN j).ia false = false → r j = (G j).v ∧ W.ownsRow Z (G j).T 1 (r j) (G j).k (G j).xs) ∧ (listed.getD (bgN j).ia false = true → a.tmps.getD (bgN j).ta undef = r j ∧ W.ownsRow Z (G j).T 1 (r j) ((G j).k + 1) ((G j).xs ++ [(G j).x]))
 lt : ∀ j, j < 3 → ∀ g, (r j).ownBlock = some g → Z ≤ g ∧ g < W.heap.size
 one : ∀ j, j < 3 → listed.getD (bgN j).ib false = true → ∃ g, a.tmps.getD (bgN j).tb undef = .slice (some ⟨g, 0, none⟩) 1 1 ∧ Z ≤ g ∧ W.heap[g]? = some (.cells #[(G j).x] (G j).T (0, 0)) ∧ ∀ i, i < 3 → (r i).ownBlock ≠ some g
 dis : ∀ i, i < 3 → ∀ j, j < 3 → i ≠ j → ∀ g, (r i).ownBlock = some g → (r j).ownBlock ≠ some g
section
variable {w base W W' : World} {Z L : Nat} {G : Nat → GD} {R : RG} {listed : Array Bool} {a : Act} {r : Nat → Value}
theorem Gr.start (hb : Below w.heap.size w base) (hs : Z ≤ base.heap.size) (hl : RgB base L (rgC R (G 0).v (G 1).v (G 2).v (.slice none 0 0) (.slice none 0 0))) (hr : ∀ j, j < 3 → base.ownsRow Z (G j).T 1 (G j).v (G j).k (G j).xs) (hd : ∀ i, i < 3 → ∀ j, j < 3 → i ≠ j → ∀ g, ((G i).v).ownBlock = some g → ((G j).v).ownBlock ≠ some g) (m : Nat) (a : Act) : Gr w Z L G R base (Array.replicate m false) a (fun j => (G j).v) base.drew := by
 refine ⟨hb.drew, hs, fun _ _ _ => rfl, ?_, fun j hj => ⟨fun _ => ⟨rfl, hr j hj⟩, fun e => ?_⟩, fun j hj g hg => (hr j hj).lt g hg, fun j hj e => ?_, hd⟩
 ·unfold grV; rw [rep_false, rep_false, rep_false]; exact hl
 ·rw [rep_false] at e; cases e
 ·rw [rep_false] at e; cases e
theorem Gr.other (h : Gr w Z L G R base listed a r W) {i t : Nat} {x : Value} (hi : bgFree i t = true) : Gr w Z L G R base (listed.setIfInBounds i true) (a.put (some t) x) r W := by
 have hq : ∀ j, j < 3 → i ≠ (bgN j).ib ∧ i ≠ (bgN j).ia ∧ i ≠ (bgN j).is ∧ t ≠ (bgN j).tb ∧ t ≠ (bgN j).ta := fun j hj => by
  have := List.all_eq_true.1 hi j (List.mem_range.2 hj)
  simp only [Bool.and_eq_true, decide_eq_true_eq] at this
  exact ⟨this.1.1.1.1, this.1.1.1.2, this.1.1.2, this.1.2, this.2⟩
 refine ⟨h.bel, h.siz, h.fix, ?_, fun j hj => ?_, h.lt, fun j hj e => ?_, h.dis⟩
 ·have e : ∀ j, j < 3 → grV G (listed.setIfInBounds i true) r j = grV G listed r j := fun j hj => by
   unfold grV; rw [getD_set_ne _ _ _ _ (Ne.symm (hq j hj).2.2.1)]
  rw [e 0 (by decide), e 1 (by decide), e 2 (by decide)]; exact h.leg
 ·rw [getD_set_ne _ _ _ _ (Ne.symm (hq j hj).2.1), getD_put (Ne.symm (hq j hj).2.2.2.2)]; exact h.row j hj
 ·rw [getD_set_ne _ _ _ _ (Ne.symm (hq j hj).1)] at e
  rw [getD_put (Ne.symm (hq j hj).2.2.2.1)]; exact h.one j hj e
theorem Gr.build (h : Gr w Z L G R base listed a r W) (j : Nat) (hj : j < 3) (ht : (bgN j).tb < a.tmps.size) (hL : L < Z) : Gr w Z L G R base (listed.setIfInBounds (bgN j).ib true) (a.put (some (bgN j).tb) (.slice (some ⟨W.heap.size, 0, none⟩) 1 1)) r (W.alloc (.cells #[(G j).x] (G j).T)) := by
 have hB : Below W.heap.size W (W.alloc (.cells #[(G j).x] (G j).T)) := (Below.refl _ _).alloc (Nat.le_refl _) _
 refine ⟨h.bel.trans (hB.mono h.bel.size), Nat.le_trans h.siz hB.size, fun i hi hne => (hB.block i (Nat.lt_of_lt_of_le hi h.siz)).trans (h.fix i hi hne), ?_, fun i hi => ?_, fun i hi g hg => ⟨(h.lt i hi g hg).1, Nat.lt_of_lt_of_le (h.lt i hi g hg).2 hB.size⟩, fun i hi e => ?_, h.dis⟩
 ·have e : ∀ i, i < 3 → grV G (listed.setIfInBounds (bgN j).ib true) r i = grV G listed r i := fun i hi => by
   unfold grV; rw [getD_set_ne _ _ _ _ (bgN_ne i hi j hj).2.1]
  rw [e 0 (by decide), e 1 (by decide), e 2 (by decide)]
  exact (hB.block L (Nat.lt_of_lt_of_le hL h.siz)).trans h.leg
 ·rw [getD_set_ne _ _ _ _ (bgN_ne i hi j hj).1, getD_put (bgN_ne i hi j hj).2.2.2.1]
  have := h.row i hi
  exact ⟨fun e => ⟨(this.1 e).1, ownsRow_below (this.1 e).2 hB⟩, fun e => ⟨(this.2 e).1, ownsRow_below (this.2 e).2 hB⟩⟩
 ·by_cases hij : i = j
  ·subst hij
   refine ⟨W.heap.size, getDV_set_self _ _ _ _ ht, h.siz, World.alloc_heap_new _ _, fun q hq e => ?_⟩
   exact absurd (h.lt q hq _ e).2 (Nat.lt_irrefl _)
  ·have hn := (bgN_ne i hi j hj).2.2.2.2 hij
   rw [getD_set_ne _ _ _ _ hn.1] at e
   rw [getD_put hn.2.2.2.1]
   obtain ⟨g, g1, g2, g3, g4⟩ := h.one i hi e
   exact ⟨g, g1, g2, (hB.block g (Array.getElem?_eq_some_iff.1 g3).1).trans g3, g4⟩
theorem Gr.app (h : Gr w Z L G R base listed a r W) (j : Nat) (hj : j < 3) (hl : (bgN j).ia < listed.size) (ht : (bgN j).ta < a.tmps.size) (hL : L < Z) (hw : w.heap.size ≤ Z) (l3 : listed.getD (bgN j).is false = false) {v' : Value}
  (hown : W'.ownsRow Z (G j).T 1 v' ((G j).k + 1) ((G j).xs ++ [(G j).x])) (hg : W.grownBy W' (r j).ownBlock) (hat : v'.ownBlock = (r j).ownBlock ∨ v'.ownBlock = some W.heap.size) :
  Gr w Z L G R base (listed.setIfInBounds (bgN j).ia true) (a.put (some (bgN j).ta) v') (fun i => if i = j then v' else r i) W' := by
 have hz : ∀ b, (r j).ownBlock = some b → Z ≤ b := fun b e => (h.lt j hj b e).1
 have hk : ∀ q, q < W.heap.size → (r j).ownBlock ≠ some q → W'.heap[q]? = W.heap[q]? := fun q hq hne => hg.block q hq (fun e => hne e.symm)
 have hkZ : ∀ q, q < Z → W'.heap[q]? = W.heap[q]? := fun q hq => hk q (Nat.lt_of_lt_of_le hq h.siz) (fun e => by have := hz q e; omega)
 refine ⟨h.bel.grown hg h.bel.size (fun b e => by have := hz b e; omega), Nat.le_trans h.siz hg.size, fun q hq hne => (hkZ q hq).trans (h.fix q hq hne), ?_, fun i hi => ?_, fun i hi g e => ?_, fun i hi e => ?_, fun i hi q hq hne g e e' => ?_⟩
 ·have e : ∀ i, i < 3 → grV G (listed.setIfInBounds (bgN j).ia true) (fun i => if i = j then v' else r i) i = grV G listed r i := fun i hi => by
   unfold grV; rw [getD_set_ne _ _ _ _ (bgN_ne i hi j hj).2.2.1]
   by_cases hij : i = j
   ·subst hij; rw [if_neg (by rw [l3]; simp), if_neg (by rw [l3]; simp)]
   ·simp only [if_neg hij]
  rw [e 0 (by decide), e 1 (by decide), e 2 (by decide)]
  exact (hkZ L hL).trans h.leg
 ·by_cases hij : i = j
  ·subst hij
   rw [getD_set_self _ _ _ hl]
   simp only [if_pos]
   exact ⟨fun e => absurd e (by simp), fun _ => ⟨getDV_set_self _ _ _ _ ht, hown⟩⟩
  ·have hn := (bgN_ne i hi j hj).2.2.2.2 hij
   rw [getD_set_ne _ _ _ _ hn.2.1, getD_put hn.2.2.2.2]
   simp only [if_neg hij]
   have := h.row i hi
   have hne : (r i).ownBlock = none ∨ (r i).ownBlock ≠ (r j).ownBlock := by
    cases hc : (r i).ownBlock with
    | none => exact .inl rfl
    | some g => exact .inr (fun e => h.dis i hi j hj hij g hc e.symm)
   exact ⟨fun e => ⟨(this.1 e).1, (this.1 e).2.kept hg hne⟩, fun e => ⟨(this.2 e).1, (this.2 e).2.kept hg hne⟩⟩
 ·by_cases hij : i = j
  ·subst hij; simp only [if_pos] at e; exact hown.lt g e
  ·simp only [if_neg hij] at e; exact ⟨(h.lt i hi g e).1, Nat.lt_of_lt_of_le (h.lt i hi g e).2 hg.size⟩
 ·rw [getD_set_ne _ _ _ _ (Ne.symm (bgN_ne j hj i hi).1)] at e
  rw [getD_put (Ne.symm (bgN_ne j hj i hi).2.2.2.1)]
  obtain ⟨g, g1, g2, g3, g4⟩ := h.one i hi e
  have hgl := (Array.getElem?_eq_some_iff.1 g3).1
  refine ⟨g, g1, g2, (hk g hgl (g4 j hj)).trans g3, fun q hq => ?_⟩
  by_cases hqj : q = j
  ·simp only [if_pos hqj]
   rcases hat with h1 | h1
   ·rw [h1]; exact g4 j hj
   ·rw [h1]; intro e2; simp only [Option.some.injEq] at e2; omega
  ·simp only [if_neg hqj]; exact g4 q hq
 ·by_cases hij : i = j
  ·subst hij
   simp only [if_pos] at e
   simp only [if_neg (Ne.symm hne)] at e'
   rcases hat with h1 | h1
   ·rw [h1] at e; exact h.dis i hi q hq hne g e e'
   ·rw [h1] at e; simp only [Option.some.injEq] at e; have := (h.lt q hq g e').2; omega
  ·simp only [if_neg hij] at e
   by_cases hqj : q = j
   ·simp only [if_pos hqj] at e'
    rcases hat with h1 | h1
    ·rw [h1] at e'; exact h.dis i hi j hj hij g e e'
    ·rw [h1] at e'; simp only [Option.some.injEq] at e'; have := (h.lt i hi g e).2; omega
   ·simp only [if_neg hqj] at e'; exact h.dis i hi q hq hne g e e'
theorem Gr.st (h : Gr w Z L G R base listed a r W) (j : Nat) (hj : j < 3) (hl : (bgN j).is < listed.size) (hL : L < Z) (hw : w.heap.size ≤ L) (l1 : listed.getD (bgN j).ia false = true) (a' : Act) (ha : a'.tmps = a.tmps) : Gr w Z L G R base (listed.setIfInBounds (bgN j).is true) a' r (W.setCell ⟨L, j, none⟩ (r j)) := by
 have hk : ∀ q, q ≠ L → (W.setCell ⟨L, j, none⟩ (r j)).heap[q]? = W.heap[q]? := fun q hq => Below.heap_setCell _ _ _ _ hq
 refine ⟨h.bel.setCell (p := ⟨L, j, none⟩) hw _, by simp only [World.size_setCell]; exact h.siz, fun q hq hne => (hk q hne).trans (h.fix q hq hne), ?_, fun i hi => ?_, fun i hi g e => ⟨(h.lt i hi g e).1, by simp only [World.size_setCell]; exact (h.lt i hi g e).2⟩, fun i hi e => ?_, h.dis⟩
 ·have h1 : RgB (W.setCell ⟨L, j, none⟩ (r j)) L ((rgC R (grV G listed r 0) (grV G listed r 1) (grV G listed r 2) (.slice none 0 0) (.slice none 0 0)).setIfInBounds j (r j)) := Go.Joins.block_setCell h.leg _
  have e : ∀ i, i < 3 → grV G (listed.setIfInBounds (bgN j).is true) r i = if i = j then r j else grV G listed r i := fun i hi => by
   unfold grV
   by_cases hij : i = j
   ·subst hij; rw [getD_set_self _ _ _ hl, if_pos rfl, if_pos rfl]
   ·rw [getD_set_ne _ _ _ _ ((bgN_ne i hi j hj).2.2.2.2 hij).2.2.1, if_neg hij]
  rw [e 0 (by decide), e 1 (by decide), e 2 (by decide)]
  match j, hj with
  | 0, _ => exact h1
  | 1, _ => exact h1
  | 2, _ => exact h1
 ·rw [getD_set_ne _ _ _ _ (Ne.symm (bgN_ne j hj i hi).2.2.1), ha]
  have := h.row i hi
  have hs : ∀ {n : Nat} {xs : List Value}, W.ownsRow Z (G i).T 1 (r i) n xs → (W.setCell ⟨L, j, none⟩ (r j)).ownsRow Z (G i).T 1 (r i) n xs := fun h => ownsRow_setCell_below h (a := ⟨L, j, none⟩) hL _
  exact ⟨fun e => ⟨(this.1 e).1, hs (this.1 e).2⟩, fun e => ⟨(this.2 e).1, hs (this.2 e).2⟩⟩
 ·rw [getD_set_ne _ _ _ _ (Ne.symm (bgN_ne j hj i hi).2.1)] at e
  rw [ha]
  obtain ⟨g, g1, g2, g3, g4⟩ := h.one i hi e
  exact ⟨g, g1, g2, (hk g (by omega)).trans g3, g4⟩
end
end
section
open Go.RowKit Go.Maps Go.Sort Go.Shelf Go.Deep
structure RD where
 T : TypeId
 sz : Nat
 v : Value
 n : Nat
 xs : List Value
structure Rws (Z m : Nat) (D : Nat → RD) (W : World) : Prop where
 own : ∀ i, i < m → W.ownsRow Z (D i).T (D i).sz (D i).v (D i).n (D i).xs
 dis : ∀ i, i < m → ∀ j, j < m → i ≠ j → ∀ g, (D i).v.ownBlock = some g → (D j).v.ownBlock ≠ some g
def upd (D : Nat → RD) (i : Nat) (d : RD) : Nat → RD := fun j => if j = i then d else D j
theorem upd_self (D : Nat → RD) (i : Nat) (d : RD) : upd D i d i = d := if_pos rfl
theorem upd_ne {D : Nat → RD} {i j : Nat} {d : RD} (h : j ≠ i) : upd D i d j = D j := if_neg h
section
variable {Z m : Nat} {D : Nat → RD} {W W' : World}
theorem Rws.below (h : Rws Z m D W) (hB : Below W.heap.size W W') : Rws Z m D W' := ⟨fun i hi => ownsRow_below (h.own i hi) hB, h.dis⟩
theorem Rws.lt (h : Rws Z m D W) {i g : Nat} (hi : i < m) (hg : (D i).v.ownBlock = some g) : Z ≤ g ∧ g < W.heap.size := (h.own i hi).lt g hg
theorem Rws.set (h : Rws Z m D W) {a : Addr} (ha : a.block < Z) (x : Value) : Rws Z m D (W.setCell a x) := ⟨fun i hi => ownsRow_setCell_below (h.own i hi) ha x, h.dis⟩
theorem Rws.kept (h : Rws Z m D W) {ob : Option Nat} (hg : W.grownBy W' ob) (hne : ∀ i, i < m → ∀ g, (D i).v.ownBlock = some g → ob ≠ some g) : Rws Z m D W' := by
 refine ⟨fun i hi => (h.own i hi).kept hg ?_, h.dis⟩
 cases hc : (D i).v.ownBlock with
 | none => exact .inl rfl
 | some g => exact .inr (fun e => hne i hi g hc e.symm)
theorem Rws.app (h : Rws Z m D W) {i : Nat} (hi : i < m) {v' : Value} {n' : Nat} {xs' : List Value} (ho : W'.ownsRow Z (D i).T (D i).sz v' n' xs') (hg : W.grownBy W' (D i).v.ownBlock) (hat : v'.ownBlock = (D i).v.ownBlock ∨ v'.ownBlock = some W.heap.size) : Rws Z m (upd D i ⟨(D i).T, (D i).sz, v', n', xs'⟩) W' := by
 refine ⟨fun j hj => ?_, fun j hj k hk hne g e e' => ?_⟩
 ·by_cases hji : j = i
  ·subst hji; rw [upd_self]; exact ho
  ·rw [upd_ne hji]
   refine (h.own j hj).kept hg ?_
   cases hc : (D j).v.ownBlock with
   | none => exact .inl rfl
   | some g => exact .inr (fun e => h.dis j hj i hi hji g hc e.symm)
 ·by_cases hji : j = i
  ·subst hji
   rw [upd_self] at e
   rw [upd_ne (Ne.symm hne)] at e'
   rcases hat with h1 | h1
   ·exact h.dis j hj k hk hne g (h1.symm.trans e) e'
   ·rw [h1] at e; simp only [Option.some.injEq] at e; have := (h.lt hk e').2; omega
  ·rw [upd_ne hji] at e
   by_cases hki : k = i
   ·subst hki
    rw [upd_self] at e'
    rcases hat with h1 | h1
    ·exact h.dis j hj k hk hne g e (h1.symm.trans e')
    ·rw [h1] at e'; simp only [Option.some.injEq] at e'; have := (h.lt hj e).2; omega
   ·rw [upd_ne hki] at e'; exact h.dis j hj k hk hne g e e'
theorem Rws.put (h : Rws Z m D W) {i : Nat} (hi : i < m) (hs : (D i).sz = 1) {g n c k : Nat} (hv : (D i).v = .slice (some ⟨g, 0, none⟩) n c) (hk : k < (D i).n) (u : Value) : Rws Z m (upd D i ⟨(D i).T, (D i).sz, (D i).v, (D i).n, (D i).xs.set k u⟩) (W.setCell ⟨g, k, none⟩ u) := by
 have hgb : (D i).v.ownBlock = some g := by rw [hv]; rfl
 refine ⟨fun j hj => ?_, fun j hj q hq hne b e e' => ?_⟩
 ·by_cases hji : j = i
  ·subst hji
   rw [upd_self]
   obtain ⟨h1, h2⟩ := h.own j hj
   refine ⟨by simp only [List.length_set]; exact h1, ?_⟩
   rcases h2 with ⟨e1, _⟩ | ⟨g', cap, cur, e1, h3, h4, h5, h6, h7, h8⟩
   ·rw [hv] at e1; cases e1
   ·have e2 := e1
    rw [hv] at e1
    simp only [Value.slice.injEq, Option.some.injEq, Addr.mk.injEq, and_true] at e1
    obtain ⟨rfl, e3, e4⟩ := e1
    refine .inr ⟨g, cap, cur.setIfInBounds k u, e2, h3, Go.Joins.block_setCell h4 u, h5, h6, by rw [Array.size_setIfInBounds]; exact h7, ?_⟩
    rw [Array.toList_setIfInBounds, List.take_set, h8]
  ·rw [upd_ne hji]
   refine (h.own j hj).kept (row := some g) ⟨rfl, rfl, rfl, by simp, fun q _ hq => Below.heap_setCell _ _ _ _ (fun e => hq (by rw [e]))⟩ ?_
   cases hc : (D j).v.ownBlock with
   | none => exact .inl rfl
   | some b => exact .inr (fun e => h.dis j hj i hi hji b hc (by rw [hgb]; exact e.symm))
 ·have hx : ∀ q, (upd D i ⟨(D i).T, (D i).sz, (D i).v, (D i).n, (D i).xs.set k u⟩ q).v = (D q).v := fun q => by
   by_cases hqi : q = i
   ·subst hqi; rw [upd_self]
   ·rw [upd_ne hqi]
  rw [hx] at e e'
  exact h.dis j hj q hq hne b e e'
end
end
section
open Go.RowKit Go.Maps Go.Sort Go.Shelf Go.Deep
def NOk (N : Nat → GN) (q : Nat) : Prop := ∀ i, i < q → ∀ j, j < q → (N i).ia ≠ (N j).ib ∧ (N i).is ≠ (N j).ib ∧ (N i).is ≠ (N j).ia ∧ (N i).ta ≠ (N j).tb ∧ (i ≠ j → (N i).ib ≠ (N j).ib ∧ (N i).ia ≠ (N j).ia ∧ (N i).is ≠ (N j).is ∧ (N i).tb ≠ (N j).tb ∧ (N i).ta ≠ (N j).ta)
def NFree (N : Nat → GN) (q i t : Nat) : Bool := (List.range q).all fun j => decide (i ≠ (N j).ib) && decide (i ≠ (N j).ia) && decide (i ≠ (N j).is) && decide (t ≠ (N j).tb) && decide (t ≠ (N j).ta)
structure RwP where
 q : Nat
 m : Nat
 p : Nat → Nat
 f : Nat → Nat
 X : Nat → Value
structure RwP.Ok (c : RwP) : Prop where
 lt : ∀ j, j < c.q → c.p j < c.m
 inj : ∀ i, i < c.q → ∀ j, j < c.q → c.p i = c.p j → i = j
def rwV (c : RwP) (N : Nat → GN) (listed : Array Bool) (D E : Nat → RD) (j : Nat) : Value := if listed.getD (N j).is false = true then (E (c.p j)).v else (D (c.p j)).v
structure RwC (w : World) (Z L : Nat) (N : Nat → GN) (c : RwP) (D : Nat → RD) (TB : TypeId) (cs : Array Value) (base : World) (listed : Array Bool) (a : Act) (E : Nat → RD) (W : World) : Prop where
 bel : Below w.heap.size w W
 siz : Z ≤ W.heap.size
 fix : ∀ j, j < Z → j ≠ L → W.heap[j]? = base.heap[j]?
 leg : ∃ ds, W.heap[L]? = some (.cells ds TB (0, 0)) ∧ ds.size = cs.size ∧ (∀ j, j < c.q → ds[c.f j]? = some (rwV c N listed D E j)) ∧ ∀ k, (∀ j, j < c.q → k ≠ c.f j) → ds[k]? = cs[k]?
 rows : Rws Z c.m E W
 same : ∀ i, i < c.m → (∀ j, j < c.q → i ≠ c.p j) → E i = D i
 row : ∀ j, j < c.q → (listed.getD (N j).ia false = false → E (c.p j) = D (c.p j)) ∧ (listed.getD (N j).ia false = true → a.tmps.getD (N j).ta undef = (E (c.p j)).v ∧ E (c.p j) = ⟨(D (c.p j)).T, (D (c.p j)).sz, (E (c.p j)).v, (D (c.p j)).n + 1, (D (c.p j)).xs ++ [c.X j]⟩)
 one : ∀ j, j < c.q → listed.getD (N j).ib false = true → ∃ g, a.tmps.getD (N j).tb undef = .slice (some ⟨g, 0, none⟩) 1 1 ∧ Z ≤ g ∧ W.heap[g]? = some (.cells #[c.X j] (D (c.p j)).T (0, 0)) ∧ ∀ i, i < c.m → (E i).v.ownBlock ≠ some g
 sb : base.heap.size ≤ W.heap.size
 oth : ∀ j, j < base.heap.size → j ≠ L → (∀ i, i < c.m → (D i).v.ownBlock ≠ some j) → W.heap[j]? = base.heap[j]?
 org : ∀ i, i < c.m → ∀ g, (E i).v.ownBlock = some g → (D i).v.ownBlock = some g ∨ base.heap.size ≤ g
section
variable {w base W W' : World} {Z L : Nat} {N : Nat → GN} {c : RwP} {D E : Nat → RD} {TB : TypeId} {cs : Array Value} {listed : Array Bool} {a : Act}
theorem rwV_of {l l' : Array Bool} (h : ∀ j, j < c.q → l'.getD (N j).is false = l.getD (N j).is false) {j : Nat} (hj : j < c.q) : rwV c N l' D E j = rwV c N l D E j := by unfold rwV; rw [h j hj]
theorem RwC.start (hb : Below w.heap.size w base) (hs : Z ≤ base.heap.size) (hl : base.heap[L]? = some (.cells cs TB (0, 0))) (hf : ∀ j, j < c.q → cs[c.f j]? = some (D (c.p j)).v) (hr : Rws Z c.m D base) (m : Nat) (a : Act) : RwC w Z L N c D TB cs base (Array.replicate m false) a D base.drew := by
 refine ⟨hb.drew, hs, fun _ _ _ => rfl, ⟨cs, hl, rfl, fun j hj => ?_, fun _ _ => rfl⟩, hr.below ((Below.refl _ _).drew), fun _ _ _ => rfl, fun j hj => ⟨fun _ => rfl, fun e => ?_⟩, fun j hj e => ?_, Nat.le_refl _, fun _ _ _ _ => rfl, fun _ _ _ e => .inl e⟩
 ·unfold rwV; rw [rep_false]; exact hf j hj
 ·rw [rep_false] at e; cases e
 ·rw [rep_false] at e; cases e
theorem RwC.other (h : RwC w Z L N c D TB cs base listed a E W) {i t : Nat} {x : Value} (hi : NFree N c.q i t = true) : RwC w Z L N c D TB cs base (listed.setIfInBounds i true) (a.put (some t) x) E W := by
 have hq : ∀ j, j < c.q → i ≠ (N j).ib ∧ i ≠ (N j).ia ∧ i ≠ (N j).is ∧ t ≠ (N j).tb ∧ t ≠ (N j).ta := fun j hj => by
  have := List.all_eq_true.1 hi j (List.mem_range.2 hj)
  simp only [Bool.and_eq_true, decide_eq_true_eq] at this
  exact ⟨this.1.1.1.1, this.1.1.1.2, this.1.1.2, this.1.2, this.2⟩
 obtain ⟨ds, l1, l2, l3, l4⟩ := h.leg
 refine ⟨h.bel, h.siz, h.fix, ⟨ds, l1, l2, fun j hj => ?_, l4⟩, h.rows, h.same, fun j hj => ?_, fun j hj e => ?_, h.sb, h.oth, h.org⟩
 ·rw [rwV_of (fun j hj => getD_set_ne _ _ _ _ (Ne.symm (hq j hj).2.2.1)) hj]; exact l3 j hj
 ·rw [getD_set_ne _ _ _ _ (Ne.symm (hq j hj).2.1), getD_put (Ne.symm (hq j hj).2.2.2.2)]; exact h.row j hj
 ·rw [getD_set_ne _ _ _ _ (Ne.symm (hq j hj).1)] at e
  rw [getD_put (Ne.symm (hq j hj).2.2.2.1)]; exact h.one j hj e
theorem RwC.build (h : RwC w Z L N c D TB cs base listed a E W) (hN : NOk N c.q) (j : Nat) (hj : j < c.q) (ht : (N j).tb < a.tmps.size) (hL : L < Z) : RwC w Z L N c D TB cs base (listed.setIfInBounds (N j).ib true) (a.put (some (N j).tb) (.slice (some ⟨W.heap.size, 0, none⟩) 1 1)) E (W.alloc (.cells #[c.X j] (D (c.p j)).T)) := by
 have hB : Below W.heap.size W (W.alloc (.cells #[c.X j] (D (c.p j)).T)) := (Below.refl _ _).alloc (Nat.le_refl _) _
 obtain ⟨ds, l1, l2, l3, l4⟩ := h.leg
 refine ⟨h.bel.trans (hB.mono h.bel.size), Nat.le_trans h.siz hB.size, fun i hi hne => (hB.block i (Nat.lt_of_lt_of_le hi h.siz)).trans (h.fix i hi hne), ⟨ds, (hB.block L (Nat.lt_of_lt_of_le hL h.siz)).trans l1, l2, fun i hi => ?_, l4⟩, h.rows.below hB, h.same, fun i hi => ?_, fun i hi e => ?_, Nat.le_trans h.sb hB.size, fun j hj hne hr => (hB.block j (Nat.lt_of_lt_of_le hj h.sb)).trans (h.oth j hj hne hr), h.org⟩
 ·rw [rwV_of (fun i hi => getD_set_ne _ _ _ _ (hN i hi j hj).2.1) hi]; exact l3 i hi
 ·rw [getD_set_ne _ _ _ _ (hN i hi j hj).1, getD_put (hN i hi j hj).2.2.2.1]; exact h.row i hi
 ·by_cases hij : i = j
  ·subst hij
   refine ⟨W.heap.size, getDV_set_self _ _ _ _ ht, h.siz, World.alloc_heap_new _ _, fun q hq e => ?_⟩
   exact absurd (h.rows.lt hq e).2 (Nat.lt_irrefl _)
  ·have hn := (hN i hi j hj).2.2.2.2 hij
   rw [getD_set_ne _ _ _ _ hn.1] at e
   rw [getD_put hn.2.2.2.1]
   obtain ⟨g, g1, g2, g3, g4⟩ := h.one i hi e
   exact ⟨g, g1, g2, (hB.block g (Array.getElem?_eq_some_iff.1 g3).1).trans g3, g4⟩
theorem RwC.app (h : RwC w Z L N c D TB cs base listed a E W) (hN : NOk N c.q) (hc : c.Ok) (j : Nat) (hj : j < c.q) (hl : (N j).ia < listed.size) (ht : (N j).ta < a.tmps.size) (hL : L < Z) (hw : w.heap.size ≤ Z) (l2 : listed.getD (N j).ia false = false) (l3 : listed.getD (N j).is false = false) {v' : Value}
  (hown : W'.ownsRow Z (D (c.p j)).T (D (c.p j)).sz v' ((D (c.p j)).n + 1) ((D (c.p j)).xs ++ [c.X j])) (hg : W.grownBy W' (D (c.p j)).v.ownBlock) (hat : v'.ownBlock = (D (c.p j)).v.ownBlock ∨ v'.ownBlock = some W.heap.size) :
  ∃ E', RwC w Z L N c D TB cs base (listed.setIfInBounds (N j).ia true) (a.put (some (N j).ta) v') E' W' := by
 have hED : E (c.p j) = D (c.p j) := (h.row j hj).1 l2
 rw [← hED] at hown hg hat
 have hp := hc.lt j hj
 have hz : ∀ b, (E (c.p j)).v.ownBlock = some b → Z ≤ b := fun b e => (h.rows.lt hp e).1
 have hk : ∀ q, q < W.heap.size → (E (c.p j)).v.ownBlock ≠ some q → W'.heap[q]? = W.heap[q]? := fun q hq hne => hg.block q hq (fun e => hne e.symm)
 have hkZ : ∀ q, q < Z → W'.heap[q]? = W.heap[q]? := fun q hq => hk q (Nat.lt_of_lt_of_le hq h.siz) (fun e => by have := hz q e; omega)
 obtain ⟨ds, m1, m2, m3, m4⟩ := h.leg
 refine ⟨upd E (c.p j) ⟨(E (c.p j)).T, (E (c.p j)).sz, v', (E (c.p j)).n + 1, (E (c.p j)).xs ++ [c.X j]⟩, h.bel.grown hg h.bel.size (fun b e => by have := hz b e; omega), Nat.le_trans h.siz hg.size, fun q hq hne => (hkZ q hq).trans (h.fix q hq hne), ⟨ds, (hkZ L hL).trans m1, m2, fun i hi => ?_, m4⟩, h.rows.app hp hown hg hat, fun i hi hne => ?_, fun i hi => ?_, fun i hi e => ?_, Nat.le_trans h.sb hg.size, fun q hq hne hr => (hk q (Nat.lt_of_lt_of_le hq h.sb) (fun e => (h.org _ hp q e).elim (fun e2 => hr _ hp e2) (fun e2 => by omega))).trans (h.oth q hq hne hr), fun i hi g e => ?_⟩
 ·have : rwV c N (listed.setIfInBounds (N j).ia true) D (upd E (c.p j) ⟨(E (c.p j)).T, (E (c.p j)).sz, v', (E (c.p j)).n + 1, (E (c.p j)).xs ++ [c.X j]⟩) i = rwV c N listed D E i := by
   unfold rwV; rw [getD_set_ne _ _ _ _ (hN i hi j hj).2.2.1]
   by_cases hij : i = j
   ·subst hij; rw [if_neg (by rw [l3]; simp), if_neg (by rw [l3]; simp)]
   ·rw [upd_ne (fun e => hij (hc.inj i hi j hj e))]
  rw [this]; exact m3 i hi
 ·rw [upd_ne (hne j hj)]; exact h.same i hi hne
 ·by_cases hij : i = j
  ·subst hij
   rw [getD_set_self _ _ _ hl, upd_self]
   refine ⟨fun e => absurd e (by simp), fun _ => ⟨getDV_set_self _ _ _ _ ht, ?_⟩⟩
   rw [hED]
  ·have hn := (hN i hi j hj).2.2.2.2 hij
   rw [getD_set_ne _ _ _ _ hn.2.1, getD_put hn.2.2.2.2, upd_ne (fun e => hij (hc.inj i hi j hj e))]
   exact h.row i hi
 ·rw [getD_set_ne _ _ _ _ (Ne.symm (hN j hj i hi).1)] at e
  rw [getD_put (Ne.symm (hN j hj i hi).2.2.2.1)]
  obtain ⟨g, g1, g2, g3, g4⟩ := h.one i hi e
  have hgl := (Array.getElem?_eq_some_iff.1 g3).1
  refine ⟨g, g1, g2, (hk g hgl (g4 _ hp)).trans g3, fun q hq => ?_⟩
  by_cases hqj : q = c.p j
  ·subst hqj
   rw [upd_self]
   rcases hat with h1 | h1
   ·intro e2; exact g4 _ hp (h1.symm.trans e2)
   ·intro e2; rw [show (v'.ownBlock) = some W.heap.size from h1] at e2; simp only [Option.some.injEq] at e2; omega
  ·rw [upd_ne hqj]; exact g4 q hq
 ·by_cases hij : i = c.p j
  ·subst hij
   rw [upd_self] at e
   rcases hat with h1 | h1
   ·exact h.org _ hp g (h1.symm.trans e)
   ·rw [show v'.ownBlock = some W.heap.size from h1] at e; simp only [Option.some.injEq] at e; have := h.sb; exact .inr (by omega)
  ·rw [upd_ne hij] at e; exact h.org i hi g e
theorem RwC.st (h : RwC w Z L N c D TB cs base listed a E W) (hN : NOk N c.q) (hff : ∀ i, i < c.q → ∀ j, j < c.q → c.f i = c.f j → i = j) (j : Nat) (hj : j < c.q) (hl : (N j).is < listed.size) (hL : L < Z) (hw : w.heap.size ≤ L) (a' : Act) (ha : a'.tmps = a.tmps) : RwC w Z L N c D TB cs base (listed.setIfInBounds (N j).is true) a' E (W.setCell ⟨L, c.f j, none⟩ (E (c.p j)).v) := by
 have hk : ∀ q, q ≠ L → (W.setCell ⟨L, c.f j, none⟩ (E (c.p j)).v).heap[q]? = W.heap[q]? := fun q hq => Below.heap_setCell _ _ _ _ hq
 obtain ⟨ds, m1, m2, m3, m4⟩ := h.leg
 have hfl : c.f j < ds.size := (Array.getElem?_eq_some_iff.1 (m3 j hj)).1
 refine ⟨h.bel.setCell (p := ⟨L, c.f j, none⟩) hw _, by simp only [World.size_setCell]; exact h.siz, fun q hq hne => (hk q hne).trans (h.fix q hq hne), ⟨ds.setIfInBounds (c.f j) (E (c.p j)).v, Go.Joins.block_setCell m1 _, by simp [m2], fun i hi => ?_, fun k hkf => ?_⟩, h.rows.set hL _, h.same, fun i hi => ?_, fun i hi e => ?_, by simp only [World.size_setCell]; exact h.sb, fun q hq hne hr => (hk q hne).trans (h.oth q hq hne hr), h.org⟩
 ·unfold rwV
  by_cases hij : i = j
  ·subst hij
   rw [getD_set_self _ _ _ hl, if_pos rfl, Array.getElem?_setIfInBounds_self_of_lt hfl]
  ·rw [getD_set_ne _ _ _ _ ((hN i hi j hj).2.2.2.2 hij).2.2.1, Array.getElem?_setIfInBounds_ne (fun e => hij (hff i hi j hj e.symm))]
   exact m3 i hi
 ·rw [Array.getElem?_setIfInBounds_ne (fun e => hkf j hj e.symm)]; exact m4 k hkf
 ·rw [getD_set_ne _ _ _ _ (Ne.symm (hN j hj i hi).2.2.1), ha]; exact h.row i hi
 ·rw [getD_set_ne _ _ _ _ (Ne.symm (hN j hj i hi).2.1)] at e
  rw [ha]
  obtain ⟨g, g1, g2, g3, g4⟩ := h.one i hi e
  exact ⟨g, g1, g2, (hk g (by omega)).trans g3, g4⟩
theorem RwC.cell (h : RwC w Z L N c D TB cs base listed a E W) (j : Nat) (hj : j < c.q) (hl : listed.getD (N j).is false = false) : W.cell? ⟨L, c.f j, none⟩ = some (D (c.p j)).v := by
 obtain ⟨ds, m1, m2, m3, m4⟩ := h.leg
 have := m3 j hj
 unfold rwV at this
 rw [if_neg (by rw [hl]; simp)] at this
 exact blk_cell m1 this
end
end
end Go.Proofs.Ytnhjoebdmmelaaa
