/- Leg: parts T, Bf, Bi, U. -/
import Derived.Test.YtgmlcgifagbjmaaPaj
import Derived.Test.YtgmlcgifagbjmaaPag
import Derived.Test.YtgmlcgifagbjmaaPae
set_option linter.unusedVariables false
set_option linter.unusedSimpArgs false
namespace Go.Proofs.Ytgmlcgifagbjmaa
section
open Go.RowKit Go.Maps Go.Sort Go.Shelf Go.Deep
theorem ownsRow_below {w w' : World} {b : Nat} {e : TypeId} {size : Nat} {v : Value} {n : Nat} {xs : List Value} (h : w.ownsRow b e size v n xs) (hB : Below w.heap.size w w') : w'.ownsRow b e size v n xs := by
 obtain ⟨h1, h2⟩ := h
 refine ⟨h1, ?_⟩
 rcases h2 with h2 | ⟨g, cap, cur, h3, h4, h5, h6⟩
 ·exact .inl h2
 ·exact .inr ⟨g, cap, cur, h3, h4, (hB.block g (Array.getElem?_eq_some_iff.1 h5).1).trans h5, h6⟩
theorem step_append_own {P : Program} {ops : Array Oper} {o : Oper} {a : Act} {w : World} {K : Act → World → Prop} {Q : Exit → Act → World → Prop} {E : Prop}
  (hg : o.guard = none) (s x : Operand) (t : TypeId) (ho : o.op = .call { callee := .builtin .append, args := #[s, x], argTypes := #[t, t] })
  (base : Nat) (e : TypeId) (i : TypeInfo) (z : Value) (size bytes : Nat) (ht : P.underlying t = some (.slice e)) (hi : P.info? e = some i) (hz : i.zero = some z)
  (hsize : i.size = size) (hby : i.bytes = bytes) (hzs : z.cells.size = size) (hsz : 0 < size)
  (v : Value) (n : Nat) (xs : List Value) (hs : a.eval s = v) (hown : w.ownsRow base e size v n xs)
  (ad : Addr) (m c : Nat) (news : List Value) (hx : a.eval x = .slice (some ad) m c) (hl : news.length = m * size) (hnews : ∀ j u, news[j]? = some u → w.cell? (ad.add j) = some u) (h1 : ∀ u ∈ news, u.oneCell' = true)
  (h63 : n + m ≤ maxLen) (hbytes : (n + m) * bytes ≤ 140737488355328) (hbase : base ≤ w.heap.size)
  (h : ∀ v' w', w'.ownsRow base e size v' (n + m) (xs ++ news) → w.grownBy w' v.ownBlock → (v' = .slice none 0 0 ↔ v = .slice none 0 0 ∧ m = 0) → K (a.put o.dst v') w') :
  if Region.wanted o (yielded ops a.tmps) = true then Oper.wp P o a w K Q else E := by
 rw [if_pos (by simp [Region.wanted, hg])]
 exact wp_append_own w s x t ho base e i z size bytes ht hi hz hsize hby hzs hsz v n xs hs hown ad m c news hx hl hnews h1 h63 hbytes hbase h
theorem info_bool : (Try.prog.info? 4).map (fun i => (i.zero, i.size, i.bytes)) = some (some (.bool false), 1, 1) := by kernel_rfl
/-- What begin leaves. -/
def BeginOk (r : LegR) (w : World) (e : Ending) (w' : World) : Prop :=
 ∃ V gl gd gi M cl cd ci nn vc vw D, e = .returned (.pointer (some ⟨V, 0, none⟩)) ∧ LegW w' V gl gd gi M cl cd ci nn vc vw D r (beginG r) ∧ (∀ k ∈ [V, gl, gd, gi, M], w.heap.size ≤ k) ∧ nn = 0 ∧ Below w.heap.size w w'
def legRV (r : LegR) (vc : Value) : Value := .agg #[vc, .int .i64 r.first, .int .i64 r.rounds, .bool r.equal]
theorem owns_form {w : World} {b : Nat} {e : TypeId} {v : Value} {n : Nat} {xs : List Value} (h : w.ownsRow b e 1 v n xs) (hn : 0 < n) : ∃ g c, v = .slice (some ⟨g, 0, none⟩) n c := by
 rcases h.2 with ⟨_, h0⟩ | ⟨g, cap, cur, e, _⟩
 ·omega
 ·exact ⟨g, cap, e⟩
theorem keep_block {U w' : World} {v : Value} {Z n j : Nat} {e : TypeId} {xs : List Value} {o : Obj} (hrow : U.ownsRow Z e 1 v n xs) (hg : U.grownBy w' v.ownBlock) (hj : U.heap[j]? = some o) (hno : ∀ cur, o ≠ .cells cur e (0, 0)) : w'.heap[j]? = some o := by
 refine (hg.block j (Array.getElem?_eq_some_iff.1 hj).1 (fun h => ?_)).trans hj
 rcases ownsRow_ne_a hrow hj hno with h1 | h1
 ·rw [h1] at h; cases h
 ·exact h1 h.symm
theorem row_of_owns {w : World} {b g n c : Nat} {e : TypeId} {xs : List Value} (h : w.ownsRow b e 1 (.slice (some ⟨g, 0, none⟩) n c) n xs) : Row w g e xs ∧ b ≤ g := by
 have hx := h.1
 rcases h.2 with ⟨h0, _⟩ | ⟨g', cap, cur, e1, hb, hg, h1, _, h3, h4⟩
 ·cases h0
 ·simp only [Value.slice.injEq, Option.some.injEq, Addr.mk.injEq, and_true, true_and] at e1
  obtain ⟨rfl, rfl⟩ := e1
  refine ⟨⟨cur, hg, by omega, ?_⟩, hb⟩
  rw [hx]; exact h4
/-- What holds at the head of a round. -/
structure BegInv (r : LegR) (n : Nat) (w : World) (vc : Value) (V gd M Z kl ki : Nat) (vl vi : Value) (wr : World) : Prop where
 blk : wr.heap[V]? = some (.cells #[vc, .int .i64 r.first, .int .i64 r.rounds, .bool r.equal, vl, rowV gd n n, vi, .int .i64 r.first, .int .i64 0, .bool false, .slice none 0 0, .map (some M)] 118 (0, 0))
 left : wr.ownsRow Z 3 1 vl kl ((r.counts.take kl).map fun c => Value.int .i64 c.1)
 inn : wr.ownsRow Z 4 1 vi ki ((r.counts.take ki).map fun c => Value.bool (c.2.1 == 0))
 darts : Row wr gd 3 (List.replicate n (.int .i64 0))
 own : OwnM wr M 0 (.map [])
 bel : Below w.heap.size w wr
 siz : Z ≤ wr.heap.size
theorem BegInv.below {r : LegR} {n : Nat} {w : World} {vc : Value} {V gd M Z kl ki : Nat} {vl vi : Value} {wr w' : World} (h : BegInv r n w vc V gd M Z kl ki vl vi wr) (hB : Below wr.heap.size wr w') : BegInv r n w vc V gd M Z kl ki vl vi w' :=
 ⟨(hB.block V (Array.getElem?_eq_some_iff.1 h.blk).1).trans h.blk, ownsRow_below h.left hB, ownsRow_below h.inn hB, h.darts.same (hB.block gd h.darts.lt), ownsMap_below h.own hB, h.bel.trans (hB.mono h.bel.size), Nat.le_trans h.siz hB.size⟩
theorem ownsMap_sameT {w w' : World} {M n : Nat} {D : DataW Unit} (h : OwnM w M n D) (hb : w'.heap[M]? = w.heap[M]?) : OwnM w' M n D := by
 obtain ⟨es, clock, hbb, rest⟩ := h
 exact ⟨es, clock, hb.trans hbb, rest⟩
/-- The rows have grown, as the struct says. -/
theorem BegInv.left_step {r : LegR} {n : Nat} {w : World} {vc : Value} {V gd M Z kl ki : Nat} {vl vi v' : Value} {U w' : World} (h : BegInv r n w vc V gd M Z kl ki vl vi U) (hg : U.grownBy w' vl.ownBlock) (hown : w'.ownsRow Z 3 1 v' (kl + 1) ((r.counts.take (kl + 1)).map fun c => Value.int .i64 c.1)) (hV : V < Z) (hgd : gd < Z) (hM : M < Z) (hwZ : w.heap.size ≤ V) (hd : V ≠ gd) (hm : V ≠ M) :
  BegInv r n w vc V gd M Z (kl + 1) ki v' vi (w'.setCell ⟨V, 4, none⟩ v') := by
 have hne : ∀ j, j < Z → some j ≠ vl.ownBlock := fun j hj e => by have := h.left.lt j e.symm; omega
 have hb : ∀ j, j < Z → w'.heap[j]? = U.heap[j]? := fun j hj => hg.block j (Nat.lt_of_lt_of_le hj h.siz) (hne j hj)
 have hs : ∀ j, j ≠ V → (w'.setCell ⟨V, 4, none⟩ v').heap[j]? = w'.heap[j]? := fun j hj => Below.heap_setCell _ _ _ _ hj
 refine ⟨Go.Joins.block_setCell ((hb V hV).trans h.blk) _, ownsRow_setCell_below hown (a := ⟨V, 4, none⟩) hV _, ownsRow_setCell_below (h.inn.kept hg ?_) (a := ⟨V, 4, none⟩) hV _, h.darts.same ((hs gd (Ne.symm hd)).trans (hb gd hgd)), ownsMap_sameT h.own ((hs M (Ne.symm hm)).trans (hb M hM)),
  (h.bel.grown hg h.bel.size (fun j e => by have := h.left.lt j e; omega)).setCell (p := ⟨V, 4, none⟩) hwZ _, ?_⟩
 ·rcases h.left.2 with ⟨rfl, _⟩ | ⟨g1, c1, cur1, rfl, _, hg1, _⟩
  ·rcases h.inn.2 with ⟨rfl, _⟩ | ⟨g2, c2, cur2, rfl, _⟩
   ·exact .inl rfl
   ·exact .inr (by simp [Value.ownBlock])
  ·exact ownsRow_ne_a h.inn hg1 (fun cur e => by cases e)
 ·have := hg.size; have := h.siz; simp only [World.size_setCell]; omega
theorem BegInv.inn_step {r : LegR} {n : Nat} {w : World} {vc : Value} {V gd M Z kl ki : Nat} {vl vi v' : Value} {U w' : World} (h : BegInv r n w vc V gd M Z kl ki vl vi U) (hg : U.grownBy w' vi.ownBlock) (hown : w'.ownsRow Z 4 1 v' (ki + 1) ((r.counts.take (ki + 1)).map fun c => Value.bool (c.2.1 == 0))) (hV : V < Z) (hgd : gd < Z) (hM : M < Z) (hwZ : w.heap.size ≤ V) (hd : V ≠ gd) (hm : V ≠ M) :
  BegInv r n w vc V gd M Z kl (ki + 1) vl v' (w'.setCell ⟨V, 6, none⟩ v') := by
 have hne : ∀ j, j < Z → some j ≠ vi.ownBlock := fun j hj e => by have := h.inn.lt j e.symm; omega
 have hb : ∀ j, j < Z → w'.heap[j]? = U.heap[j]? := fun j hj => hg.block j (Nat.lt_of_lt_of_le hj h.siz) (hne j hj)
 have hs : ∀ j, j ≠ V → (w'.setCell ⟨V, 6, none⟩ v').heap[j]? = w'.heap[j]? := fun j hj => Below.heap_setCell _ _ _ _ hj
 refine ⟨Go.Joins.block_setCell ((hb V hV).trans h.blk) _, ownsRow_setCell_below (h.left.kept hg ?_) (a := ⟨V, 6, none⟩) hV _, ownsRow_setCell_below hown (a := ⟨V, 6, none⟩) hV _, h.darts.same ((hs gd (Ne.symm hd)).trans (hb gd hgd)), ownsMap_sameT h.own ((hs M (Ne.symm hm)).trans (hb M hM)),
  (h.bel.grown hg h.bel.size (fun j e => by have := h.inn.lt j e; omega)).setCell (p := ⟨V, 6, none⟩) hwZ _, ?_⟩
 ·rcases h.inn.2 with ⟨rfl, _⟩ | ⟨g1, c1, cur1, rfl, _, hg1, _⟩
  ·rcases h.left.2 with ⟨rfl, _⟩ | ⟨g2, c2, cur2, rfl, _⟩
   ·exact .inl rfl
   ·exact .inr (by simp [Value.ownBlock])
  ·exact ownsRow_ne_a h.left hg1 (fun cur e => by cases e)
 ·have := hg.size; have := h.siz; simp only [World.size_setCell]; omega
theorem BegInv.pre {r : LegR} {n : Nat} {w : World} {vc : Value} {V gd M Z kl ki : Nat} {vl vi v : Value} {U w' : World} (h : BegInv r n w vc V gd M Z kl ki vl vi U) (hg : U.grownBy w' v.ownBlock) (hV : V < Z) (hv : v = vl ∨ v = vi) : w'.heap[V]? = U.heap[V]? := by
 refine hg.block V (Nat.lt_of_lt_of_le hV h.siz) (fun e => ?_)
 rcases hv with rfl | rfl
 ·have := h.left.lt V e.symm; omega
 ·have := h.inn.lt V e.symm; omega
set_option maxRecDepth 100000 in
set_option maxHeartbeats 8000000 in
theorem begin_any (r : LegR) (vc : Value) (w : World) (hc : Sl w 3 encC vc r.counts) (hne : r.counts ≠ []) (hl : r.counts.length ≤ 1000) :
  Calls Try.prog 52 #[legRV r vc] w (BeginOk r w) := by
 obtain ⟨i0, hi, hz0, hz1, hz2⟩ := info_parts info_int
 obtain ⟨j0, ji, jz0, jz1, jz2⟩ := info_parts info_bool
 have HC : Aside (Sl w 3 encC vc r.counts) := hc
 obtain ⟨a, cp, rfl, hl1, hs⟩ := hc
 obtain ⟨b, off, rfl, hblt, hcl⟩ := hs hne
 have HCL : Aside (∀ j x, r.counts[j]? = some x → ∀ i y, (encC x)[i]? = some y → w.cell? ⟨b, off + j * 3 + i, none⟩ = some y) := hcl
 obtain ⟨n, hn⟩ : ∃ n, r.counts.length = n := ⟨_, rfl⟩
 have HN : Aside (r.counts.length = n) := hn
 rw [hn] at hl hl1 ⊢
 clear hs hcl hn
 unfold legRV
 have hmm := @run_makeMap Try.prog
 have hmk := run_make_row' (P := Try.prog) 48 3 (.int .i64 0) 8 Try.underlying48 info_int rfl .i64 .i64 n (by omega) (by omega)
 go_enter Try.func52, Try.ntmps52
 go_wp2
 obtain ⟨wa, hwa⟩ : ∃ u, u = (((w.alloc (.cells #[.slice (some ⟨b, off, none⟩) n cp, .int .i64 r.first, .int .i64 r.rounds, .bool r.equal] 42)).alloc (.map #[] 0)).alloc (.cells #[.slice (some ⟨b, off, none⟩) n cp, .int .i64 r.first, .int .i64 r.rounds, .bool r.equal, .slice none 0 0, .slice (some ⟨w.heap.size + 1 + 1 + 1, 0, none⟩) n n, .slice none 0 0, .int .i64 r.first, .int .i64 0, .bool false, .slice none 0 0, .map (some (w.heap.size + 1))] 118)).alloc (.cells (madeCells #[.int .i64 0] n) 3) := ⟨_, rfl⟩
 have hsz : wa.heap.size = w.heap.size + 1 + 1 + 1 + 1 := by rw [hwa]; simp
 have HI : Aside (BegInv r n w (.slice (some ⟨b, off, none⟩) n cp) (w.heap.size + 1 + 1) (w.heap.size + 1 + 1 + 1) (w.heap.size + 1) (w.heap.size + 1 + 1 + 1 + 1) 0 0 (.slice none 0 0) (.slice none 0 0) wa) := by
  refine ⟨?_, ⟨by simp, .inl ⟨rfl, rfl⟩⟩, ⟨by simp, .inl ⟨rfl, rfl⟩⟩, ?_, ?_, ?_, by omega⟩
  ·rw [hwa]; exact (Below.heap_alloc _ _ _ (by simp)).trans (World.alloc_heap_new' _ _ _ (by simp))
  ·refine ⟨madeCells #[.int .i64 0] n, by rw [hwa]; exact World.alloc_heap_new' _ _ _ (by simp), by simp [size_madeCells], by rw [toList_madeCells_one]; simp⟩
  ·rw [hwa]
   have h0 : OwnM ((w.alloc (.cells #[.slice (some ⟨b, off, none⟩) n cp, .int .i64 r.first, .int .i64 r.rounds, .bool r.equal] 42)).alloc (.map #[] 0)) (w.heap.size + 1) 0 (.map []) := by
    have := World.ownsMap_made (H := Unit) (w.alloc (.cells #[.slice (some ⟨b, off, none⟩) n cp, .int .i64 r.first, .int .i64 r.rounds, .bool r.equal] 42)) Try.prog 3 (plainElem Try.prog 3)
    rw [World.size_alloc] at this
    exact this
   exact (h0.alloc _).alloc _
  ·rw [hwa]; (repeat' (first | exact Below.refl _ _ | assumption | (with_reducible refine Below.drew ?_) | (with_reducible refine Below.setCell ?_ (by (first | (simp; done) | (simp; omega))) _) | (with_reducible refine below_drewN' ?_ _) | (refine Below.alloc ?_ (by (try simp only [World.size_alloc, World.size_drew, World.size_setCell]); omega) _) | (refine Below.trans ?_ (Below.mono (by assumption) (by (try simp only [World.size_alloc, World.size_drew, World.size_setCell]); omega)))))
 rw [← hwa]
 clear hwa hmm hmk
 go_loopg [28] n (fun gg i wr => ∃ (k : Nat) (vl vi : Value), k ≤ n ∧ n - k ≤ gg ∧ i = .int .i64 k ∧ Aside (BegInv r n w (.slice (some ⟨b, off, none⟩) n cp) (w.heap.size + 1 + 1) (w.heap.size + 1 + 1 + 1) (w.heap.size + 1) (w.heap.size + 1 + 1 + 1 + 1) k k vl vi wr))
 case atStart => exact ⟨0, _, _, Nat.zero_le _, by omega, rfl, HI.out⟩
 case round =>
  clear HI
  obtain ⟨k, vl, vi, hk, hg, rfl, HI⟩ := hrel
  by_cases hlt : k < n
  ·have hltz : (k : Int) < (n : Int) := by omega
   obtain ⟨c, hx⟩ : ∃ c, r.counts[k]? = some c := ⟨_, List.getElem?_eq_getElem (by rw [HN.out]; exact hlt)⟩
   have kc0 : wr.cell? ⟨b, off + k * 3, none⟩ = some (.int .i64 c.1) := keepc HI.out.bel (by have := HCL.out k c hx 0 (.int .i64 c.1) rfl; simpa using this)
   have kc1 : wr.cell? ⟨b, off + k * 3 + 1, none⟩ = some (.int .i64 c.2.1) := keepc HI.out.bel (by have := HCL.out k c hx 1 (.int .i64 c.2.1) rfl; simpa using this)
   have kc2 : wr.cell? ⟨b, off + k * 3 + 2, none⟩ = some (.int .i64 c.2.2) := keepc HI.out.bel (by have := HCL.out k c hx 2 (.int .i64 c.2.2) rfl; simpa using this)
   have HT : Aside (r.counts.take (k + 1) = r.counts.take k ++ [c]) := take_snoc' hx
   obtain ⟨c1, c2, c3⟩ := c
   simp only [] at kc0 kc1 kc2
   clear hx
   have x0 := fun W => begin1_any (c1, c2, c3) W
   unfold cntV standV at x0
   simp only [] at x0
   go_wp2_with fail
   refine (x0 _).mono ?_
   rintro e w1 ⟨rfl, hb1⟩
   have hB1 : Below wr.heap.size wr w1 := ((Below.refl _ wr).alloc (Nat.le_refl _) _).trans (hb1.mono (by simp))
   have hS1 : wr.heap.size ≤ w1.heap.size := hB1.size
   clear hb1 x0
   go_wp2_with fail
   obtain ⟨wq, hwq⟩ : ∃ u, u = w1.alloc (.cells #[.int .i64 c1, .bool (c2 == 0)] 99) := ⟨_, rfl⟩
   have HQ : Aside (BegInv r n w (.slice (some ⟨b, off, none⟩) n cp) (w.heap.size + 1 + 1) (w.heap.size + 1 + 1 + 1) (w.heap.size + 1) (w.heap.size + 1 + 1 + 1 + 1) k k vl vi wq) := by rw [hwq]; exact HI.out.below (hB1.alloc hB1.size _)
   have q0 : wq.cell? ⟨w1.heap.size, 0, none⟩ = some (.int .i64 c1) := by rw [hwq]; go_simp
   have q1 : wq.cell? ⟨w1.heap.size, 1, none⟩ = some (.bool (c2 == 0)) := by rw [hwq]; go_simp
   have qV : wq.cell? ⟨w.heap.size + 1 + 1, 4, none⟩ = some vl := blk_cell HQ.out.blk rfl
   have QB : Aside (wq.heap[w1.heap.size]? = some (.cells #[.int .i64 c1, .bool (c2 == 0)] 99 (0, 0))) := by rw [hwq]; exact World.alloc_heap_new _ _
   have hVq : w.heap.size + 1 + 1 < wq.heap.size := (Array.getElem?_eq_some_iff.1 HQ.out.blk).1
   have hrq : w1.heap.size < wq.heap.size := by rw [hwq]; simp
   rw [← hwq]
   have HI0 : Aside (w.heap.size + 1 + 1 + 1 + 1 ≤ w1.heap.size) := Nat.le_trans HI.out.siz hS1
   clear hwq kc0 kc1 kc2 HI hB1 hS1
   go_region_law (refine step_append_own rfl (.tmp 39) (.tmp 42) 48 rfl (w.heap.size + 1 + 1 + 1 + 1) 3 i0 (.int .i64 0) 1 8 Try.underlying48 hi hz0 hz1 hz2 rfl (by decide) vl k ((r.counts.take k).map fun c => Value.int .i64 c.1) (by simp [Act.eval, Act.put]) (ownsRow_below HQ.out.left (by (repeat' (first | exact Below.refl _ _ | assumption | (with_reducible refine Below.drew ?_) | (with_reducible refine Below.setCell ?_ (by (first | (simp; done) | (simp; omega))) _) | (with_reducible refine below_drewN' ?_ _) | (refine Below.alloc ?_ (by (try simp only [World.size_alloc, World.size_drew, World.size_setCell]); omega) _) | (refine Below.trans ?_ (Below.mono (by assumption) (by (try simp only [World.size_alloc, World.size_drew, World.size_setCell]); omega))))))) ⟨wq.heap.size, 0, none⟩ 1 1 [.int .i64 c1] (by simp [Act.eval, Act.put]) rfl (by intro j u h; match j, h with | 0, h => (simp at h; subst h; go_simp) | j + 1, h => simp at h) (ints_oneCell .i64 [c1]) (by unfold maxLen; omega) (by omega) (by have := HQ.out.siz; simp; omega) ?_; intro v7 w7 hown7 hgrow7 hnil7; obtain ⟨g7, p7, rfl⟩ := owns_form hown7 (by omega); have hq7 := HQ.out.below (w' := (wq.alloc (.cells #[.int .i64 c1] 3)).drew) (by (repeat' (first | exact Below.refl _ _ | assumption | (with_reducible refine Below.drew ?_) | (with_reducible refine Below.setCell ?_ (by (first | (simp; done) | (simp; omega))) _) | (with_reducible refine below_drewN' ?_ _) | (refine Below.alloc ?_ (by (try simp only [World.size_alloc, World.size_drew, World.size_setCell]); omega) _) | (refine Below.trans ?_ (Below.mono (by assumption) (by (try simp only [World.size_alloc, World.size_drew, World.size_setCell]); omega)))))); have hb7 := (hq7.pre hgrow7 (by omega) (.inl rfl)).trans hq7.blk; have k7 : w7.cell? ⟨w.heap.size + 1 + 1, 4, none⟩ = some vl := blk_cell hb7 rfl; have f7 := blk_free hb7 4; have S7 : Aside (BegInv r n w (.slice (some ⟨b, off, none⟩) n cp) (w.heap.size + 1 + 1) (w.heap.size + 1 + 1 + 1) (w.heap.size + 1) (w.heap.size + 1 + 1 + 1 + 1) (k + 1) k (rowV g7 (k + 1) p7) vi (w7.setCell ⟨w.heap.size + 1 + 1, 4, none⟩ (rowV g7 (k + 1) p7))) := hq7.left_step hgrow7 (by rw [HT.out, List.map_append]; exact hown7) (by omega) (by omega) (by omega) (by omega) (by omega) (by omega); have C7 : Aside (w7.heap[w1.heap.size]? = some (.cells #[.int .i64 c1, .bool (c2 == 0)] 99 (0, 0))) := keep_block hq7.left hgrow7 ((Below.heap_alloc (wq.drew) _ _ hrq).trans QB.out) (fun cur e => by cases e); clear hown7 hb7 hgrow7 hnil7 hq7)
   all_goals
    obtain ⟨ws, hws⟩ : ∃ u, u = w7.setCell ⟨w.heap.size + 1 + 1, 4, none⟩ (rowV g7 (k + 1) p7) := ⟨_, rfl⟩
    have HS7 : Aside (BegInv r n w (.slice (some ⟨b, off, none⟩) n cp) (w.heap.size + 1 + 1) (w.heap.size + 1 + 1 + 1) (w.heap.size + 1) (w.heap.size + 1 + 1 + 1 + 1) (k + 1) k (rowV g7 (k + 1) p7) vi ws) := by rw [hws]; exact S7.out
    have hnV : w1.heap.size ≠ w.heap.size + 1 + 1 := by have := HI0.out; omega
    have CS : Aside (ws.heap[w1.heap.size]? = some (.cells #[.int .i64 c1, .bool (c2 == 0)] 99 (0, 0))) := by rw [hws]; exact (Below.heap_setCell _ _ _ _ hnV).trans C7.out
    have r1 : ws.cell? ⟨w1.heap.size, 1, none⟩ = some (.bool (c2 == 0)) := blk_cell CS.out rfl
    have rV : ws.cell? ⟨w.heap.size + 1 + 1, 6, none⟩ = some vi := blk_cell HS7.out.blk rfl
    have hVs : w.heap.size + 1 + 1 < ws.heap.size := (Array.getElem?_eq_some_iff.1 HS7.out.blk).1
    have hrs : w1.heap.size < ws.heap.size := (Array.getElem?_eq_some_iff.1 CS.out).1
    rw [← hws]
    clear hws S7 q0 q1 qV hVq hrq k7 f7 HQ C7 QB hnV
    go_wp2_with fail
    go_region_law (refine step_append_own rfl (.tmp 52) (.tmp 55) 49 rfl (w.heap.size + 1 + 1 + 1 + 1) 4 j0 (.bool false) 1 1 Try.underlying49 ji jz0 jz1 jz2 rfl (by decide) vi k ((r.counts.take k).map fun c => Value.bool (c.2.1 == 0)) (by simp [Act.eval, Act.put]) (ownsRow_below HS7.out.inn (by (repeat' (first | exact Below.refl _ _ | assumption | (with_reducible refine Below.drew ?_) | (with_reducible refine Below.setCell ?_ (by (first | (simp; done) | (simp; omega))) _) | (with_reducible refine below_drewN' ?_ _) | (refine Below.alloc ?_ (by (try simp only [World.size_alloc, World.size_drew, World.size_setCell]); omega) _) | (refine Below.trans ?_ (Below.mono (by assumption) (by (try simp only [World.size_alloc, World.size_drew, World.size_setCell]); omega))))))) ⟨ws.heap.size, 0, none⟩ 1 1 [.bool (c2 == 0)] (by simp [Act.eval, Act.put]) rfl (by intro j u h; match j, h with | 0, h => (simp at h; subst h; go_simp) | j + 1, h => simp at h) (by intro u hu; simp at hu; subst hu; rfl) (by unfold maxLen; omega) (by omega) (by have := HS7.out.siz; simp; omega) ?_; intro v8 w8 hown8 hgrow8 hnil8; obtain ⟨g8, p8, rfl⟩ := owns_form hown8 (by omega); have hq8 := HS7.out.below (w' := (ws.alloc (.cells #[.bool (c2 == 0)] 4)).drew) (by (repeat' (first | exact Below.refl _ _ | assumption | (with_reducible refine Below.drew ?_) | (with_reducible refine Below.setCell ?_ (by (first | (simp; done) | (simp; omega))) _) | (with_reducible refine below_drewN' ?_ _) | (refine Below.alloc ?_ (by (try simp only [World.size_alloc, World.size_drew, World.size_setCell]); omega) _) | (refine Below.trans ?_ (Below.mono (by assumption) (by (try simp only [World.size_alloc, World.size_drew, World.size_setCell]); omega)))))); have hb8 := (hq8.pre hgrow8 (by omega) (.inr rfl)).trans hq8.blk; have k8 : w8.cell? ⟨w.heap.size + 1 + 1, 6, none⟩ = some vi := blk_cell hb8 rfl; have f8 := blk_free hb8 6; have S8 : Aside (BegInv r n w (.slice (some ⟨b, off, none⟩) n cp) (w.heap.size + 1 + 1) (w.heap.size + 1 + 1 + 1) (w.heap.size + 1) (w.heap.size + 1 + 1 + 1 + 1) (k + 1) (k + 1) (rowV g7 (k + 1) p7) (rowV g8 (k + 1) p8) (w8.setCell ⟨w.heap.size + 1 + 1, 6, none⟩ (rowV g8 (k + 1) p8))) := hq8.inn_step hgrow8 (by rw [HT.out, List.map_append]; exact hown8) (by omega) (by omega) (by omega) (by omega) (by omega) (by omega); clear hown8 hb8 hgrow8 hnil8 hq8)
    all_goals
     obtain ⟨wt, hwt⟩ : ∃ u, u = w8.setCell ⟨w.heap.size + 1 + 1, 6, none⟩ (rowV g8 (k + 1) p8) := ⟨_, rfl⟩
     have HT8 : Aside (BegInv r n w (.slice (some ⟨b, off, none⟩) n cp) (w.heap.size + 1 + 1) (w.heap.size + 1 + 1 + 1) (w.heap.size + 1) (w.heap.size + 1 + 1 + 1 + 1) (k + 1) (k + 1) (rowV g7 (k + 1) p7) (rowV g8 (k + 1) p8) wt) := by rw [hwt]; exact S8.out
     rw [← hwt]
     clear hwt S8 r1 rV hVs hrs k8 f8 HS7
     go_wp2_with fail
     go_roundg (n - (k + 1))
     case measure => omega
     case rel => exact ⟨k + 1, _, _, by omega, by omega, by go_num, HT8.out⟩
  ·have hltz : ¬ (k : Int) < (n : Int) := by omega
   have : k = n := by omega
   subst this
   have hne0 : 0 < k := by have := HN.out; have := List.length_pos_iff.2 hne; omega
   obtain ⟨gl, cl, rfl⟩ := owns_form HI.out.left hne0
   obtain ⟨gi, ci, rfl⟩ := owns_form HI.out.inn hne0
   go_wp2
   go_ret
   have h := HI.out
   obtain ⟨rl, zl⟩ := row_of_owns h.left
   obtain ⟨ri, zi⟩ := row_of_owns h.inn
   have htk : r.counts.take k = r.counts := List.take_of_length_le (by rw [HN.out]; exact Nat.le_refl _)
   rw [htk] at rl ri
   have hgg : gl ≠ gi := by
    intro e
    obtain ⟨c1, e1, _⟩ := rl
    obtain ⟨c2, e2, _⟩ := ri
    rw [← e, e1] at e2
    cases e2
   refine ⟨w.heap.size + 1 + 1, gl, w.heap.size + 1 + 1 + 1, gi, w.heap.size + 1, cl, k, ci, 0, .slice (some ⟨b, off, none⟩) k cp, .slice none 0 0, .map [], rfl, ?_, ?_, rfl, h.bel⟩
   ·refine ⟨by rw [HN.out]; exact h.blk, by unfold beginG; rw [List.map_map]; exact rl, by unfold beginG; rw [List.map_map]; have := h.darts; rw [← HN.out] at this; rw [show (List.map (Value.int IntKind.i64 ∘ fun _ => (0 : Int)) r.counts) = List.replicate r.counts.length (.int .i64 0) from List.map_const' ..]; exact this, by unfold beginG; rw [List.map_map]; exact ri, h.own, Rep.empty, by have := HC.out.below h.bel; rw [HN.out] at this; exact this, ⟨none, 0, rfl, by simp [beginG], fun h => absurd rfl h⟩, by simp [beginG], by simp [beginG], by simp [beginG], ?_, ?_, ?_, ?_, ?_, ?_⟩
    ·simp only [List.mem_cons, List.not_mem_nil, or_false, not_or]; omega
    ·simp only [List.mem_cons, List.not_mem_nil, or_false, not_or]; omega
    ·simp only [List.mem_cons, List.not_mem_nil, or_false, not_or]; omega
    ·omega
    ·intro b' o' n' c' e
     simp only [Value.slice.injEq, Option.some.injEq, Addr.mk.injEq, and_true] at e
     obtain ⟨⟨rfl, _⟩, _⟩ := e
     simp only [List.mem_cons, List.not_mem_nil, or_false, not_or]; omega
    ·intro b' o' n' c' e; simp at e
   ·intro j hj
    simp only [List.mem_cons, List.not_mem_nil, or_false] at hj
    omega
end
section
open Go.RowKit Go.Maps Go.Sort Go.Shelf Go.Deep
theorem run_append_none {P : Program} (w : World) (base : Nat) (t ty e : TypeId) (i : TypeInfo) (size cp : Nat) (ht : P.underlying t = some (.slice e)) (hi : P.info? e = some i)
  (v : Value) (n : Nat) (xs : List Value) (hown : w.ownsRow base e size v n xs) :
  (Builtin.append_ #[t, t] ty #[v, .slice none 0 cp]).run P w = .ok v w := by
 rcases hown.2 with ⟨rfl, rfl⟩ | ⟨g, cap, cur, rfl, _, _, hnc, _⟩
 ·simp [Builtin.append_, run_underlying ht, sizeOf, typeInfo, hi, Builtin.lenOf, Builtin.firstCells]
 ·simp [Builtin.append_, run_underlying ht, sizeOf, typeInfo, hi, Builtin.lenOf, Builtin.firstCells, hnc, storeCells]
theorem nil_or_some {a : Option Addr} : a = none ∨ ∃ b, a = some b := by cases a with | none => exact .inl rfl | some b => exact .inr ⟨b, rfl⟩
/-- A row of the call's own, where it lies. -/
theorem sl_owns {α : Type} {w : World} {base : Nat} {e : TypeId} {k : Nat} {enc : α → List Value} {xs : List α} {v : Value} (hk : ∀ x, (enc x).length = k) (hl : xs.length ≤ 9223372036854775807) (h : w.ownsRow base e k v xs.length ((xs.map enc).flatten)) : Sl w k enc v xs := by
 by_cases hne : xs = []
 ·subst hne
  rcases h.2 with ⟨rfl, _⟩ | ⟨g, cap, cur, rfl, hb, hg, _⟩
  ·exact ⟨none, 0, rfl, by simp, fun h => absurd rfl h⟩
  ·exact ⟨_, cap, rfl, by simp, fun h => absurd rfl h⟩
 ·obtain ⟨g, c, rfl, _, _, h2⟩ := sl_of_row hk hl hne h
  exact h2
end
section
open Go.RowKit Go.Maps Go.Sort Go.Shelf Go.Deep
/-- A row whose block is known: its type, its cells. -/
def RowB {α : Type} (w : World) (size : Nat) (enc : α → List Value) (e : TypeId) (v : Value) (ys : List α) : Prop :=
 ∃ g c cs, v = .slice (some ⟨g, 0, none⟩) ys.length c ∧ ys.length ≤ 9223372036854775807 ∧ w.heap[g]? = some (.cells cs e (0, 0)) ∧ ∀ j y, ys[j]? = some y → ∀ i u, (enc y)[i]? = some u → cs[j * size + i]? = some u
theorem RowB.sl {α : Type} {w : World} {size : Nat} {enc : α → List Value} {e : TypeId} {v : Value} {ys : List α} (h : RowB w size enc e v ys) : Sl w size enc v ys := by
 obtain ⟨g, c, cs, rfl, hl, hg, hc⟩ := h
 exact ⟨_, c, rfl, hl, fun _ => ⟨g, 0, rfl, (Array.getElem?_eq_some_iff.1 hg).1, fun j y hj i u hu => by rw [Nat.zero_add]; exact blk_cell hg (hc j y hj i u hu)⟩⟩
/-- Blocks stay, but for those of one type. -/
def RTy (T : TypeId) (W W' : World) : Prop := W.heap.size ≤ W'.heap.size ∧ ∀ k, k < W.heap.size → (∀ cs, W.heap[k]? ≠ some (.cells cs T (0, 0))) → W'.heap[k]? = W.heap[k]?
theorem RTy.refl (T : TypeId) (W : World) : RTy T W W := ⟨Nat.le_refl _, fun _ _ _ => rfl⟩
theorem RTy.of_below {T : TypeId} {W W' : World} (h : Below W.heap.size W W') : RTy T W W' := ⟨h.size, fun k hk _ => h.block k hk⟩
theorem RTy.put {T : TypeId} {W W' : World} {g : Nat} {F : Obj} {cs : Array Value} (h : Put g F W W') (hg : W.heap[g]? = some (.cells cs T (0, 0))) : RTy T W W' := ⟨by rw [h.size]; exact Nat.le_refl _, fun k _ hk => h.block k (fun e => hk cs (e ▸ hg))⟩
theorem RTy.keep {T T' : TypeId} {W W' : World} {k : Nat} {cs : Array Value} (h : RTy T W W') (hT : T' ≠ T) (hk : W.heap[k]? = some (.cells cs T' (0, 0))) : W'.heap[k]? = some (.cells cs T' (0, 0)) :=
 (h.2 k (Array.getElem?_eq_some_iff.1 hk).1 (fun c e => by rw [hk] at e; injection e with e; injection e with _ e2; exact hT e2)).trans hk
theorem RowB.rt {α : Type} {T : TypeId} {W W' : World} {size : Nat} {enc : α → List Value} {e : TypeId} {v : Value} {ys : List α} (h : RowB W size enc e v ys) (hR : RTy T W W') (hT : e ≠ T) : RowB W' size enc e v ys := by
 obtain ⟨g, c, cs, h1, hl, hg, hc⟩ := h
 exact ⟨g, c, cs, h1, hl, hR.keep hT hg, hc⟩
theorem RowB.below {α : Type} {W W' : World} {size : Nat} {enc : α → List Value} {e : TypeId} {v : Value} {ys : List α} (h : RowB W size enc e v ys) (hB : Below W.heap.size W W') : RowB W' size enc e v ys := by
 obtain ⟨g, c, cs, h1, hl, hg, hc⟩ := h
 exact ⟨g, c, cs, h1, hl, (hB.block g (Array.getElem?_eq_some_iff.1 hg).1).trans hg, hc⟩
theorem run_append_fresh {α : Type} {P : Program} (w : World) (t ty e : TypeId) (i : TypeInfo) (z : Value) (size bytes : Nat) (ht : P.underlying t = some (.slice e)) (hi : P.info? e = some i) (hz : i.zero = some z)
  (hsize : i.size = size) (hby : i.bytes = bytes) (hzs : z.cells.size = size) (hsz : 0 < size) (g : Nat) (hg : w.heap[g]? = some (.cells #[] e (0, 0)))
  {enc : α → List Value} {ys : List α} {vy : Value} (hy : Sl w size enc vy ys) (henc : ∀ y, (enc y).length = size) (h1 : ∀ y ∈ ys, ∀ u ∈ enc y, u.oneCell' = true)
  (h63 : ys.length ≤ maxLen) (hbytes : ys.length * bytes ≤ 140737488355328) :
  ∃ v' w', (Builtin.append_ #[t, t] ty #[.slice (some ⟨g, 0, none⟩) 0 0, vy]).run P w = .ok v' w' ∧ RowB w' size enc e v' ys ∧ Below w.heap.size w w' := by
 have hglt := (Array.getElem?_eq_some_iff.1 hg).1
 obtain ⟨ad, cp, rfl, hl, hc⟩ := hy
 subst hsize
 have hfl := flat_len enc i.size henc ys
 by_cases h0 : ys = []
 ·subst h0
  rcases nil_or_some (a := ad) with rfl | ⟨ad, rfl⟩
  ·have hr := run_append_none (P := P) w 0 t ty e i i.size cp ht hi (.slice (some ⟨g, 0, none⟩) 0 0) 0 [] ⟨by simp, .inr ⟨g, 0, #[], rfl, Nat.zero_le _, hg, Nat.le_refl _, Nat.zero_le _, by simp, by simp⟩⟩
   exact ⟨_, w, hr, ⟨g, 0, #[], rfl, by simp, hg, fun j y h => by simp at h⟩, Below.refl _ _⟩
  ·have hr := run_append_room (P := P) w t ty e i ht hi g 0 0 #[] hg ad 0 cp [] (by simp) (by intro j u h; simp at h) (by simp) (Nat.le_refl _) (by simp)
   refine ⟨_, _, hr, ⟨g, 0, _, rfl, by simp, setRow_heap w g #[] _ e (0, 0) hg, fun j y h => by simp at h⟩, ⟨rfl, rfl, rfl, by simp [World.setRow], fun k hk => ?_⟩⟩
   by_cases hkg : k = g
   ·subst hkg; rw [setRow_heap w k #[] _ e (0, 0) hg, hg]; simp
   ·exact setRow_other w g k _ hkg
 ·obtain ⟨b, off, rfl, hb, hcl⟩ := hc h0
  have hpos : 0 < ys.length := List.length_pos_iff.2 h0
  have hnews : ∀ j u, ((ys.map enc).flatten)[j]? = some u → w.cell? ((⟨b, off, none⟩ : Addr).add j) = some u := by
   intro j u hu
   obtain ⟨q, y, i', hq, hi', rfl⟩ := flat_inv enc i.size henc ys j u hu
   have := hcl q y hq i' u hi'
   rw [Nat.add_assoc] at this
   unfold Addr.add
   split
   ·rename_i h0
    rw [h0, Nat.add_zero] at this
    exact this
   ·exact this
  have hr := run_append_grow (P := P) w t ty e i z ht hi hz ⟨g, 0, none⟩ 0 0 [] (by simp) (by intro j v h; simp at h) ⟨b, off, none⟩ ys.length cp ((ys.map enc).flatten) (by rw [hfl]) hnews (by omega) (by unfold maxLen at h63; omega) (growslice_fits (by omega) (by rw [Nat.zero_add, hby]; exact hbytes))
  refine ⟨_, _, hr, ?_, ((Below.refl _ w).drew).alloc (Nat.le_refl _) _⟩
  have hge := grownCap_ge w (0 + ys.length) 0 e
  refine ⟨w.heap.size, _, _, by rw [Nat.zero_add], hl, heap_alloc_new w.drew _, fun j y hj i' u hu => ?_⟩
  have hf := flat_get enc i.size henc ys j y i' u hj hu
  have hlt := (List.getElem?_eq_some_iff.1 hf).1
  rw [Array.getElem?_append_left (by simpa using hlt), Array.getElem?_append_right (by simp)]
  simpa using hf
/-- append([]T{}, v...) at the operation. -/
theorem wp_append_fresh {α : Type} {P : Program} (w : World) {o : Oper} {a : Act} {K : Act → World → Prop} {Q : Exit → Act → World → Prop} (s x : Operand) (t : TypeId)
  (ho : o.op = .call { callee := .builtin .append, args := #[s, x], argTypes := #[t, t] })
  (e : TypeId) (i : TypeInfo) (z : Value) (size bytes : Nat) (ht : P.underlying t = some (.slice e)) (hi : P.info? e = some i) (hz : i.zero = some z)
  (hsize : i.size = size) (hby : i.bytes = bytes) (hzs : z.cells.size = size) (hsz : 0 < size) (g : Nat) (hg : w.heap[g]? = some (.cells #[] e (0, 0))) (hs : a.eval s = .slice (some ⟨g, 0, none⟩) 0 0)
  {enc : α → List Value} {ys : List α} {vy : Value} (hx : a.eval x = vy) (hy : Sl w size enc vy ys) (henc : ∀ y, (enc y).length = size) (h1 : ∀ y ∈ ys, ∀ u ∈ enc y, u.oneCell' = true)
  (h63 : ys.length ≤ maxLen) (hbytes : ys.length * bytes ≤ 140737488355328)
  (h : ∀ v' w', RowB w' size enc e v' ys → Below w.heap.size w w' → K (a.put o.dst v') w') : o.wp P a w K Q := by
 obtain ⟨v', w', hr, h2, h3⟩ := run_append_fresh (P := P) w t o.type e i z size bytes ht hi hz hsize hby hzs hsz g hg hy henc h1 h63 hbytes
 unfold Oper.wp execOp
 simp only [ho, resolve, invoke, builtin, Sem.run_bind, Sem.run_pure, Result.andThen_ok, List.map_toArray, List.map_cons, List.map_nil, hs, hx, hr]
 exact h v' w' h2 h3
theorem wpList_append_fresh {α : Type} {P : Program} (w : World) {ops : Array Oper} {rest : List Oper} {o : Oper} {a : Act} {Q : Exit → Act → World → Prop} (hgd : o.guard = none) (s x : Operand) (t : TypeId)
  (ho : o.op = .call { callee := .builtin .append, args := #[s, x], argTypes := #[t, t] })
  (e : TypeId) (i : TypeInfo) (z : Value) (size bytes : Nat) (ht : P.underlying t = some (.slice e)) (hi : P.info? e = some i) (hz : i.zero = some z)
  (hsize : i.size = size) (hby : i.bytes = bytes) (hzs : z.cells.size = size) (hsz : 0 < size) (g : Nat) (hg : w.heap[g]? = some (.cells #[] e (0, 0))) (hs : a.eval s = .slice (some ⟨g, 0, none⟩) 0 0)
  {enc : α → List Value} {ys : List α} {vy : Value} (hx : a.eval x = vy) (hy : Sl w size enc vy ys) (henc : ∀ y, (enc y).length = size) (h1 : ∀ y ∈ ys, ∀ u ∈ enc y, u.oneCell' = true)
  (h63 : ys.length ≤ maxLen) (hbytes : ys.length * bytes ≤ 140737488355328)
  (h : ∀ v' w', RowB w' size enc e v' ys → Below w.heap.size w w' → wpList P ops Q rest (a.put o.dst v') w') : wpList P ops Q (o :: rest) a w :=
 wpList_plain hgd fun _ hK => wp_append_fresh w s x t ho e i z size bytes ht hi hz hsize hby hzs hsz g hg hs hx hy henc h1 h63 hbytes fun v' w' h2 h3 => hK _ _ (h v' w' h2 h3)
end
section
open Go.RowKit Go.Maps Go.Sort Go.Shelf Go.Deep
/-- What each player has left. -/
def leftP (ls : List Int) : List (Int × Int) := (evL ls.length).zip ls
def winL (g : LegG) : List Int := if g.ended = [] then leastL (leftP g.left) else leastL g.ended
theorem leftP_length (ls : List Int) : (leftP ls).length = ls.length := by simp [leftP, evL_length]
theorem evL_get {n k : Nat} (h : k < n) : (evL n)[k]? = some (k : Int) := by
 unfold evL
 rw [List.getElem?_map, List.getElem?_range h]; rfl
theorem leftP_get {ls : List Int} {k : Nat} {x : Int} (h : ls[k]? = some x) : (leftP ls)[k]? = some ((k : Int), x) := by
 have hk := (List.getElem?_eq_some_iff.1 h).1
 exact (List.getElem?_zip_eq_some (z := ((k : Int), x))).2 ⟨evL_get hk, h⟩
theorem leftP_fresh (ls : List Int) (k : Nat) : (k : Int) ∉ ((leftP ls).take k).map (·.1) := by
 intro hm
 rw [List.map_take] at hm
 have h1 : (leftP ls).map (·.1) = evL ls.length := by
  unfold leftP
  exact List.map_fst_zip (by rw [evL_length]; exact Nat.le_refl _)
 rw [h1] at hm
 obtain ⟨j, hj, e⟩ := List.getElem_of_mem hm
 have hjk : j < k := by simp at hj; omega
 rw [List.getElem_take] at e
 have h2 : (evL ls.length)[j]? = some (k : Int) := by rw [List.getElem?_eq_getElem (by simp at hj; omega), e]
 have hjl : j < ls.length := by simp [evL_length] at hj; omega
 rw [evL_get hjl] at h2
 simp at h2
 omega
theorem leastL_ne {ps : List (Int × Int)} (h : ps ≠ []) : leastL ps ≠ [] := by
 intro e
 have hp : (leastL ps).Perm (leastU (mn (ps.map (·.2))) ps) := List.mergeSort_perm _ _
 rw [e] at hp
 exact leastU_ne h hp.symm.eq_nil
theorem winL_ne {g : LegG} (h : g.left ≠ []) : winL g ≠ [] := by
 unfold winL
 split
 ·refine leastL_ne (fun e => ?_)
  have := leftP_length g.left
  rw [e] at this
  exact h (List.eq_nil_of_length_eq_zero (by simpa using this.symm))
 ·rename_i hne
  exact leastL_ne hne
set_option maxRecDepth 100000 in
set_option maxHeartbeats 4000000 in
theorem winners_any {V gl gd gi M cl cd ci nn : Nat} {vc vw : Value} {D : DataW Unit} {r : LegR} {g : LegG} (w : World) (h : LegW w V gl gd gi M cl cd ci nn vc vw D r g) (hne : r.counts ≠ []) (hn : r.counts.length ≤ 1000) (he : g.ended.length ≤ 1000) (hl : ∀ x ∈ g.left, -9223372036854775808 ≤ x ∧ x ≤ 9223372036854775807) :
  Calls Try.prog 88 #[.pointer (some ⟨V, 0, none⟩)] w (RetOwn (winL g) w) := by
 have HW : Aside (winL g = if g.ended = [] then leastL (leftP g.left) else leastL g.ended) := rfl
 have hl1 := h.l1
 have HO : Aside (OwnM w M nn D ∧ Rep D g.ended) := ⟨h.own, h.rep⟩
 have HL : Aside (Row w gl 3 (g.left.map (Value.int .i64)) ∧ ∀ x ∈ g.left, -9223372036854775808 ≤ x ∧ x ≤ 9223372036854775807) := ⟨h.left, hl⟩
 have hblk := h.blk
 have hVl : V < w.heap.size := (Array.getElem?_eq_some_iff.1 hblk).1
 obtain ⟨a, cp, rfl, hlc, _⟩ := h.counts
 have k11 : w.cell? ⟨V, 11, none⟩ = some (.map (some M)) := blk_cell hblk rfl
 have k0 : w.cell? ⟨V, 0, none⟩ = some (.slice a r.counts.length cp) := blk_cell hblk rfl
 have k4 : w.cell? ⟨V, 4, none⟩ = some (rowV gl r.counts.length cl) := blk_cell hblk rfl
 have HRL : Aside (winL g = winL g) := rfl
 generalize winL g = res at *
 have hsize := h.rep.size
 have hown := h.own
 have hgne : g.left ≠ [] := by intro e; rw [e] at hl1; exact hne (List.eq_nil_of_length_eq_zero (by simpa using hl1.symm))
 have HGN : Aside (g.left ≠ []) := hgne
 clear h hblk hl hgne
 obtain ⟨n, hnn⟩ : ∃ n, r.counts.length = n := ⟨_, rfl⟩
 have HN : Aside (g.left.length = n) := by rw [← hnn]; exact hl1
 rw [hnn] at hn hlc k0 k4
 clear hnn hl1 hne
 by_cases hz : g.ended = []
 ·have hs0 : Maps.size D = 0 := by rw [hsize, hz]; rfl
  have HR : Aside (res = leastL (leftP g.left)) := by
   show _ = _
   rw [HW.out, if_pos hz]
  clear HW hz hsize he
  have hmm := @run_makeMap Try.prog
  go_enter Try.func88, Try.ntmps88
  go_wp2_with (at_len; refine wpList_len_own _ rfl _ 116 rfl 3 3 Try.underlying116 _ M nn _ rfl hown ?_)
  have B1 : Aside (Below w.heap.size w (w.alloc (.map #[] 0))) := (Below.refl _ _).alloc (Nat.le_refl _) _
  clear hmm hown
  go_loopw [23] (fun i wr => ∃ (k : Nat) (D2 : DataW Unit), k ≤ n ∧ i = .int .i64 k ∧ OwnM wr w.heap.size k D2 ∧ Aside (Rep D2 ((leftP g.left).take k)) ∧ Aside (Below w.heap.size w wr)) (fun i _ => n - (intOf i).toNat)
  case atStart => exact ⟨0, _, Nat.zero_le _, rfl, World.ownsMap_made _ _ _ _, by rw [List.take_zero]; exact Rep.empty, B1.out⟩
  case round =>
   obtain ⟨k, D2, hk, rfl, hown2, HR2, HBW⟩ := hrel
   by_cases hlt : k < n
   ·have hltz : (k : Int) < (n : Int) := by omega
    obtain ⟨x, hx⟩ : ∃ x, g.left[k]? = some x := ⟨_, List.getElem?_eq_getElem (by rw [HN.out]; exact hlt)⟩
    have j4 : wr.cell? ⟨V, 4, none⟩ = some (rowV gl n cl) := keepc HBW.out k4
    have jx : wr.cell? ⟨gl, k, none⟩ = some (.int .i64 x) := keepc HBW.out (HL.out.1.cell (by rw [List.getElem?_map, hx]; rfl))
    have hxb := HL.out.2 x (List.mem_of_getElem? hx)
    have HT : Aside ((leftP g.left).take (k + 1) = (leftP g.left).take k ++ [((k : Int), x)]) := take_snoc' (leftP_get hx)
    have HF : Aside ((k : Int) ∉ ((leftP g.left).take k).map (·.1)) := leftP_fresh _ _
    have hkey : keyOf Try.prog 3 (.int .i64 (k : Int)) = some (.int .i64 k) := keyOf_int_mk Try.underlying3 (WalkArith.wf_i64 (by omega))
    have hwf : (Lit.int .i64 x).wf = true := WalkArith.wf_i64 (by omega)
    have hkn : k + 1 ≤ 1000 := by omega
    clear hx hxb
    go_wp2_with (at_mapUpdate; refine wpList_mapUpdate_own _ rfl _ _ _ 116 rfl 3 3 int_k Try.underlying116 (plainElem (H := Unit) Try.prog 3) w.heap.size k _ rfl hown2 (by unfold maxLen; omega) _ _ _ rfl rfl hkey _ [] (plainElem_int Try.underlying3 hwf) ?_; intro w3 hown3 hgrow3)
    go_roundw
    case rel => exact ⟨k + 1, _, by omega, by go_num, hown3, by rw [HT.out]; exact HR2.out.put HF.out, HBW.out.grown hgrow3 (by have := HBW.out.size; omega) (fun j hj => by cases hj; exact Nat.le_refl _)⟩
    case measure => simp [intOf]; omega
   ·have hltz : ¬ (k : Int) < (n : Int) := by omega
    have : k = n := by omega
    subst this
    have HR3 : Aside (Rep D2 (leftP g.left)) := by
     have h1 := HR2.out
     rw [List.take_of_length_le (by rw [leftP_length, HN.out]; exact Nat.le_refl _)] at h1
     exact h1
    have x2 := least_any w.heap.size k D2 (leftP g.left) wr hown2 HR3.out (by
     intro e
     have := leftP_length g.left
     rw [e] at this
     exact HGN.out (List.eq_nil_of_length_eq_zero (by simpa using this.symm))) (by rw [leftP_length, HN.out]; exact hn)
    clear hown2 HR2
    go_wp2_with fail
    refine x2.mono ?_
    rintro e w4 ⟨v4, rfl, hrow4, hnil4, hb4⟩
    have H4 : Aside _ := hrow4
    have H5 : Aside (v4 = .slice none 0 0 ↔ leastL (leftP g.left) = []) := hnil4
    clear hrow4 hnil4 x2
    go_wp2
    go_ret
    exact ⟨_, rfl, by rw [HR.out]; exact ownsRow_base H4.out HBW.out.size, by rw [HR.out]; exact H5.out, HBW.out.trans (hb4.mono HBW.out.size)⟩
 ·have hs0 : (0 : Int) < ((Maps.size D : Nat) : Int) := by
   rw [hsize]; have := List.length_pos_iff.2 hz; omega
  have HR : Aside (res = leastL g.ended) := by
   show _ = _
   rw [HW.out, if_neg hz]
  have x2 := least_any M nn D g.ended w HO.out.1 HO.out.2 hz he
  clear HW hz hsize
  go_enter Try.func88, Try.ntmps88
  go_wp2_with (first | (at_len; refine wpList_len_own _ rfl _ 116 rfl 3 3 Try.underlying116 _ M nn _ rfl hown ?_) | (go_at_call 79; refine x2.mono ?_; rintro e w4 ⟨v4, rfl, hrow4, hnil4, hb4⟩; have H4 : Aside _ := hrow4; have H5 : Aside (v4 = .slice none 0 0 ↔ leastL g.ended = []) := hnil4; clear hrow4 hnil4))
  go_ret
  exact ⟨_, rfl, by rw [HR.out]; exact H4.out, by rw [HR.out]; exact H5.out, hb4⟩
end
end Go.Proofs.Ytgmlcgifagbjmaa
