/- Leg, part T: a leg before the first visit. -/
import Derived.Test.YthcgbceapabikaaS
set_option linter.unusedVariables false
set_option linter.unusedSimpArgs false
namespace Go.Proofs.Ythcgbceapabikaa
open Go.RowKit Go.Maps Go.Sort Go.Shelf Go.Deep

theorem ownsRow_below {w w' : World} {b : Nat} {e : TypeId} {size : Nat} {v : Value} {n : Nat} {xs : List Value} (h : w.ownsRow b e size v n xs) (hB : Below w.heap.size w w') : w'.ownsRow b e size v n xs := by
  obtain ⟨h1, h2⟩ := h
  refine ⟨h1, ?_⟩
  rcases h2 with h2 | ⟨g, cap, cur, h3, h4, h5, h6⟩
  · exact .inl h2
  · exact .inr ⟨g, cap, cur, h3, h4, (hB.block g (Array.getElem?_eq_some_iff.1 h5).1).trans h5, h6⟩
theorem step_append_own {P : Program} {ops : Array Oper} {o : Oper} {a : Act} {w : World} {K : Act → World → Prop} {Q : Exit → Act → World → Prop} {E : Prop}
    (hg : o.guard = none) (s x : Operand) (t : TypeId) (ho : o.op = .call { callee := .builtin .append, args := #[s, x], argTypes := #[t, t] })
    (base : Nat) (e : TypeId) (i : TypeInfo) (z : Value) (size bytes : Nat) (ht : P.underlying t = some (.slice e)) (hi : P.info? e = some i) (hz : i.zero = some z)
    (hsize : i.size = size) (hby : i.bytes = bytes) (hzs : z.cells.size = size) (hsz : 0 < size)
    (v : Value) (n : Nat) (xs : List Value) (hs : a.eval s = v) (hown : w.ownsRow base e size v n xs)
    (ad : Addr) (m c : Nat) (news : List Value) (hx : a.eval x = .slice (some ad) m c) (hl : news.length = m * size) (hnews : ∀ j u, news[j]? = some u → w.cell? (ad.add j) = some u) (h1 : ∀ u ∈ news, u.oneCell' = true)
    (h63 : n + m ≤ maxLen) (hbytes : (n + m) * bytes ≤ 140737488355328) (hbase : base ≤ w.heap.size)
    (h : ∀ v' w', w'.ownsRow base e size v' (n + m) (xs ++ news) → w.grownBy w' v.ownBlock → (v' = .slice none 0 0 ↔ v = .slice none 0 0 ∧ m = 0) → K (a.put o.dst v') w') :
    if Region.wanted o (yielded ops a.tmps) = true then Oper.wp P o a w K Q else E := by
  rw [if_pos (by simp [Region.wanted, hg])]
  exact wp_append_own w s x t ho base e i z size bytes ht hi hz hsize hby hzs hsz v n xs hs hown ad m c news hx hl hnews h1 h63 hbytes hbase h
theorem info_bool : (Try.prog.info? 4).map (fun i => (i.zero, i.size, i.bytes)) = some (some (.bool false), 1, 1) := by kernel_rfl

/-- What begin leaves. -/
def BeginOk (r : LegR) (w : World) (e : Ending) (w' : World) : Prop :=
  ∃ V gl gd gi M cl cd ci nn vc vw D, e = .returned (.pointer (some ⟨V, 0, none⟩)) ∧ LegW w' V gl gd gi M cl cd ci nn vc vw D r (beginG r) ∧ (∀ k ∈ [V, gl, gd, gi, M], w.heap.size ≤ k) ∧ nn = 0 ∧ Below w.heap.size w w'

def legRV (r : LegR) (vc : Value) : Value := .agg #[vc, .int .i64 r.first, .int .i64 r.rounds, .bool r.equal]

theorem owns_form {w : World} {b : Nat} {e : TypeId} {v : Value} {n : Nat} {xs : List Value} (h : w.ownsRow b e 1 v n xs) (hn : 0 < n) : ∃ g c, v = .slice (some ⟨g, 0, none⟩) n c := by
  rcases h.2 with ⟨_, h0⟩ | ⟨g, cap, cur, e, _⟩
  · omega
  · exact ⟨g, cap, e⟩
theorem keep_block {U w' : World} {v : Value} {Z n j : Nat} {e : TypeId} {xs : List Value} {o : Obj} (hrow : U.ownsRow Z e 1 v n xs) (hg : U.grownBy w' v.ownBlock) (hj : U.heap[j]? = some o) (hno : ∀ cur, o ≠ .cells cur e (0, 0)) : w'.heap[j]? = some o := by
  refine (hg.block j (Array.getElem?_eq_some_iff.1 hj).1 (fun h => ?_)).trans hj
  rcases ownsRow_ne_a hrow hj hno with h1 | h1
  · rw [h1] at h; cases h
  · exact h1 h.symm
theorem row_of_owns {w : World} {b g n c : Nat} {e : TypeId} {xs : List Value} (h : w.ownsRow b e 1 (.slice (some ⟨g, 0, none⟩) n c) n xs) : Row w g e xs ∧ b ≤ g := by
  have hx := h.1
  rcases h.2 with ⟨h0, _⟩ | ⟨g', cap, cur, e1, hb, hg, h1, _, h3, h4⟩
  · cases h0
  · simp only [Value.slice.injEq, Option.some.injEq, Addr.mk.injEq, and_true, true_and] at e1
    obtain ⟨rfl, rfl⟩ := e1
    refine ⟨⟨cur, hg, by omega, ?_⟩, hb⟩
    rw [hx]; exact h4
/-- What holds at the head of a round. -/
structure BegInv (r : LegR) (n : Nat) (w : World) (vc : Value) (V gd M Z kl ki : Nat) (vl vi : Value) (wr : World) : Prop where
  blk : wr.heap[V]? = some (.cells #[vc, .int .i64 r.first, .int .i64 r.rounds, .bool r.equal, vl, rowV gd n n, vi, .int .i64 r.first, .int .i64 0, .bool false, .slice none 0 0, .map (some M)] 118 (0, 0))
  left : wr.ownsRow Z 3 1 vl kl ((r.counts.take kl).map fun c => Value.int .i64 c.1)
  inn : wr.ownsRow Z 4 1 vi ki ((r.counts.take ki).map fun c => Value.bool (c.2.1 == 0))
  darts : Row wr gd 3 (List.replicate n (.int .i64 0))
  own : OwnM wr M 0 (.map [])
  bel : Below w.heap.size w wr
  siz : Z ≤ wr.heap.size
theorem BegInv.below {r : LegR} {n : Nat} {w : World} {vc : Value} {V gd M Z kl ki : Nat} {vl vi : Value} {wr w' : World} (h : BegInv r n w vc V gd M Z kl ki vl vi wr) (hB : Below wr.heap.size wr w') : BegInv r n w vc V gd M Z kl ki vl vi w' :=
  ⟨(hB.block V (Array.getElem?_eq_some_iff.1 h.blk).1).trans h.blk, ownsRow_below h.left hB, ownsRow_below h.inn hB, h.darts.same (hB.block gd h.darts.lt), ownsMap_below h.own hB, h.bel.trans (hB.mono h.bel.size), Nat.le_trans h.siz hB.size⟩
theorem ownsMap_sameT {w w' : World} {M n : Nat} {D : DataW Unit} (h : OwnM w M n D) (hb : w'.heap[M]? = w.heap[M]?) : OwnM w' M n D := by
  obtain ⟨es, clock, hbb, rest⟩ := h
  exact ⟨es, clock, hb.trans hbb, rest⟩
/-- The rows have grown, as the struct says. -/
theorem BegInv.left_step {r : LegR} {n : Nat} {w : World} {vc : Value} {V gd M Z kl ki : Nat} {vl vi v' : Value} {U w' : World} (h : BegInv r n w vc V gd M Z kl ki vl vi U) (hg : U.grownBy w' vl.ownBlock) (hown : w'.ownsRow Z 3 1 v' (kl + 1) ((r.counts.take (kl + 1)).map fun c => Value.int .i64 c.1)) (hV : V < Z) (hgd : gd < Z) (hM : M < Z) (hwZ : w.heap.size ≤ V) (hd : V ≠ gd) (hm : V ≠ M) :
    BegInv r n w vc V gd M Z (kl + 1) ki v' vi (w'.setCell ⟨V, 4, none⟩ v') := by
  have hne : ∀ j, j < Z → some j ≠ vl.ownBlock := fun j hj e => by have := h.left.lt j e.symm; omega
  have hb : ∀ j, j < Z → w'.heap[j]? = U.heap[j]? := fun j hj => hg.block j (Nat.lt_of_lt_of_le hj h.siz) (hne j hj)
  have hs : ∀ j, j ≠ V → (w'.setCell ⟨V, 4, none⟩ v').heap[j]? = w'.heap[j]? := fun j hj => Below.heap_setCell _ _ _ _ hj
  refine ⟨Go.Joins.block_setCell ((hb V hV).trans h.blk) _, ownsRow_setCell_below hown (a := ⟨V, 4, none⟩) hV _, ownsRow_setCell_below (h.inn.kept hg ?_) (a := ⟨V, 4, none⟩) hV _, h.darts.same ((hs gd (Ne.symm hd)).trans (hb gd hgd)), ownsMap_sameT h.own ((hs M (Ne.symm hm)).trans (hb M hM)),
    (h.bel.grown hg h.bel.size (fun j e => by have := h.left.lt j e; omega)).setCell (p := ⟨V, 4, none⟩) hwZ _, ?_⟩
  · rcases h.left.2 with ⟨rfl, _⟩ | ⟨g1, c1, cur1, rfl, _, hg1, _⟩
    · rcases h.inn.2 with ⟨rfl, _⟩ | ⟨g2, c2, cur2, rfl, _⟩
      · exact .inl rfl
      · exact .inr (by simp [Value.ownBlock])
    · exact ownsRow_ne_a h.inn hg1 (fun cur e => by cases e)
  · have := hg.size; have := h.siz; simp only [World.size_setCell]; omega
theorem BegInv.inn_step {r : LegR} {n : Nat} {w : World} {vc : Value} {V gd M Z kl ki : Nat} {vl vi v' : Value} {U w' : World} (h : BegInv r n w vc V gd M Z kl ki vl vi U) (hg : U.grownBy w' vi.ownBlock) (hown : w'.ownsRow Z 4 1 v' (ki + 1) ((r.counts.take (ki + 1)).map fun c => Value.bool (c.2.1 == 0))) (hV : V < Z) (hgd : gd < Z) (hM : M < Z) (hwZ : w.heap.size ≤ V) (hd : V ≠ gd) (hm : V ≠ M) :
    BegInv r n w vc V gd M Z kl (ki + 1) vl v' (w'.setCell ⟨V, 6, none⟩ v') := by
  have hne : ∀ j, j < Z → some j ≠ vi.ownBlock := fun j hj e => by have := h.inn.lt j e.symm; omega
  have hb : ∀ j, j < Z → w'.heap[j]? = U.heap[j]? := fun j hj => hg.block j (Nat.lt_of_lt_of_le hj h.siz) (hne j hj)
  have hs : ∀ j, j ≠ V → (w'.setCell ⟨V, 6, none⟩ v').heap[j]? = w'.heap[j]? := fun j hj => Below.heap_setCell _ _ _ _ hj
  refine ⟨Go.Joins.block_setCell ((hb V hV).trans h.blk) _, ownsRow_setCell_below (h.left.kept hg ?_) (a := ⟨V, 6, none⟩) hV _, ownsRow_setCell_below hown (a := ⟨V, 6, none⟩) hV _, h.darts.same ((hs gd (Ne.symm hd)).trans (hb gd hgd)), ownsMap_sameT h.own ((hs M (Ne.symm hm)).trans (hb M hM)),
    (h.bel.grown hg h.bel.size (fun j e => by have := h.inn.lt j e; omega)).setCell (p := ⟨V, 6, none⟩) hwZ _, ?_⟩
  · rcases h.inn.2 with ⟨rfl, _⟩ | ⟨g1, c1, cur1, rfl, _, hg1, _⟩
    · rcases h.left.2 with ⟨rfl, _⟩ | ⟨g2, c2, cur2, rfl, _⟩
      · exact .inl rfl
      · exact .inr (by simp [Value.ownBlock])
    · exact ownsRow_ne_a h.left hg1 (fun cur e => by cases e)
  · have := hg.size; have := h.siz; simp only [World.size_setCell]; omega
theorem BegInv.pre {r : LegR} {n : Nat} {w : World} {vc : Value} {V gd M Z kl ki : Nat} {vl vi v : Value} {U w' : World} (h : BegInv r n w vc V gd M Z kl ki vl vi U) (hg : U.grownBy w' v.ownBlock) (hV : V < Z) (hv : v = vl ∨ v = vi) : w'.heap[V]? = U.heap[V]? := by
  refine hg.block V (Nat.lt_of_lt_of_le hV h.siz) (fun e => ?_)
  rcases hv with rfl | rfl
  · have := h.left.lt V e.symm; omega
  · have := h.inn.lt V e.symm; omega

set_option maxRecDepth 100000 in
set_option maxHeartbeats 8000000 in
theorem begin_any (r : LegR) (vc : Value) (w : World) (hc : Sl w 3 encC vc r.counts) (hne : r.counts ≠ []) (hl : r.counts.length ≤ 1000) :
    Calls Try.prog 52 #[legRV r vc] w (BeginOk r w) := by
  obtain ⟨i0, hi, hz0, hz1, hz2⟩ := info_parts info_int
  obtain ⟨j0, ji, jz0, jz1, jz2⟩ := info_parts info_bool
  have HC : Aside (Sl w 3 encC vc r.counts) := hc
  obtain ⟨a, cp, rfl, hl1, hs⟩ := hc
  obtain ⟨b, off, rfl, hblt, hcl⟩ := hs hne
  have HCL : Aside (∀ j x, r.counts[j]? = some x → ∀ i y, (encC x)[i]? = some y → w.cell? ⟨b, off + j * 3 + i, none⟩ = some y) := hcl
  obtain ⟨n, hn⟩ : ∃ n, r.counts.length = n := ⟨_, rfl⟩
  have HN : Aside (r.counts.length = n) := hn
  rw [hn] at hl hl1 ⊢
  clear hs hcl hn
  unfold legRV
  have hmm := @run_makeMap Try.prog
  have hmk := run_make_row' (P := Try.prog) 48 3 (.int .i64 0) 8 Try.underlying48 info_int rfl .i64 .i64 n (by omega) (by omega)
  go_enter Try.func52, Try.ntmps52
  go_wp2
  obtain ⟨wa, hwa⟩ : ∃ u, u = (((w.alloc (.cells #[.slice (some ⟨b, off, none⟩) n cp, .int .i64 r.first, .int .i64 r.rounds, .bool r.equal] 42)).alloc (.map #[] 0)).alloc (.cells #[.slice (some ⟨b, off, none⟩) n cp, .int .i64 r.first, .int .i64 r.rounds, .bool r.equal, .slice none 0 0, .slice (some ⟨w.heap.size + 1 + 1 + 1, 0, none⟩) n n, .slice none 0 0, .int .i64 r.first, .int .i64 0, .bool false, .slice none 0 0, .map (some (w.heap.size + 1))] 118)).alloc (.cells (madeCells #[.int .i64 0] n) 3) := ⟨_, rfl⟩
  have hsz : wa.heap.size = w.heap.size + 1 + 1 + 1 + 1 := by rw [hwa]; simp
  have HI : Aside (BegInv r n w (.slice (some ⟨b, off, none⟩) n cp) (w.heap.size + 1 + 1) (w.heap.size + 1 + 1 + 1) (w.heap.size + 1) (w.heap.size + 1 + 1 + 1 + 1) 0 0 (.slice none 0 0) (.slice none 0 0) wa) := by
    refine ⟨?_, ⟨by simp, .inl ⟨rfl, rfl⟩⟩, ⟨by simp, .inl ⟨rfl, rfl⟩⟩, ?_, ?_, ?_, by omega⟩
    · rw [hwa]; exact (Below.heap_alloc _ _ _ (by simp)).trans (World.alloc_heap_new' _ _ _ (by simp))
    · refine ⟨madeCells #[.int .i64 0] n, by rw [hwa]; exact World.alloc_heap_new' _ _ _ (by simp), by simp [size_madeCells], by rw [toList_madeCells_one]; simp⟩
    · rw [hwa]
      have h0 : OwnM ((w.alloc (.cells #[.slice (some ⟨b, off, none⟩) n cp, .int .i64 r.first, .int .i64 r.rounds, .bool r.equal] 42)).alloc (.map #[] 0)) (w.heap.size + 1) 0 (.map []) := by
        have := World.ownsMap_made (H := Unit) (w.alloc (.cells #[.slice (some ⟨b, off, none⟩) n cp, .int .i64 r.first, .int .i64 r.rounds, .bool r.equal] 42)) Try.prog 3 (plainElem Try.prog 3)
        rw [World.size_alloc] at this
        exact this
      exact (h0.alloc _).alloc _
    · rw [hwa]; (repeat' (first | exact Below.refl _ _ | assumption | (with_reducible refine Below.drew ?_) | (with_reducible refine Below.setCell ?_ (by (first | (simp; done) | (simp; omega))) _) | (with_reducible refine below_drewN' ?_ _) | (refine Below.alloc ?_ (by (try simp only [World.size_alloc, World.size_drew, World.size_setCell]); omega) _) | (refine Below.trans ?_ (Below.mono (by assumption) (by (try simp only [World.size_alloc, World.size_drew, World.size_setCell]); omega)))))
  rw [← hwa]
  clear hwa hmm hmk
  go_loopg [28] n (fun gg i wr => ∃ (k : Nat) (vl vi : Value), k ≤ n ∧ n - k ≤ gg ∧ i = .int .i64 k ∧ Aside (BegInv r n w (.slice (some ⟨b, off, none⟩) n cp) (w.heap.size + 1 + 1) (w.heap.size + 1 + 1 + 1) (w.heap.size + 1) (w.heap.size + 1 + 1 + 1 + 1) k k vl vi wr))
  case atStart => exact ⟨0, _, _, Nat.zero_le _, by omega, rfl, HI.out⟩
  case round =>
    clear HI
    obtain ⟨k, vl, vi, hk, hg, rfl, HI⟩ := hrel
    by_cases hlt : k < n
    · have hltz : (k : Int) < (n : Int) := by omega
      obtain ⟨c, hx⟩ : ∃ c, r.counts[k]? = some c := ⟨_, List.getElem?_eq_getElem (by rw [HN.out]; exact hlt)⟩
      have kc0 : wr.cell? ⟨b, off + k * 3, none⟩ = some (.int .i64 c.1) := keepc HI.out.bel (by have := HCL.out k c hx 0 (.int .i64 c.1) rfl; simpa using this)
      have kc1 : wr.cell? ⟨b, off + k * 3 + 1, none⟩ = some (.int .i64 c.2.1) := keepc HI.out.bel (by have := HCL.out k c hx 1 (.int .i64 c.2.1) rfl; simpa using this)
      have kc2 : wr.cell? ⟨b, off + k * 3 + 2, none⟩ = some (.int .i64 c.2.2) := keepc HI.out.bel (by have := HCL.out k c hx 2 (.int .i64 c.2.2) rfl; simpa using this)
      have HT : Aside (r.counts.take (k + 1) = r.counts.take k ++ [c]) := take_snoc' hx
      obtain ⟨c1, c2, c3⟩ := c
      simp only [] at kc0 kc1 kc2
      clear hx
      have x0 := fun W => begin1_any (c1, c2, c3) W
      unfold cntV standV at x0
      simp only [] at x0
      go_wp2_with fail
      refine (x0 _).mono ?_
      rintro e w1 ⟨rfl, hb1⟩
      have hB1 : Below wr.heap.size wr w1 := ((Below.refl _ wr).alloc (Nat.le_refl _) _).trans (hb1.mono (by simp))
      have hS1 : wr.heap.size ≤ w1.heap.size := hB1.size
      clear hb1 x0
      go_wp2_with fail
      obtain ⟨wq, hwq⟩ : ∃ u, u = w1.alloc (.cells #[.int .i64 c1, .bool (c2 == 0)] 99) := ⟨_, rfl⟩
      have HQ : Aside (BegInv r n w (.slice (some ⟨b, off, none⟩) n cp) (w.heap.size + 1 + 1) (w.heap.size + 1 + 1 + 1) (w.heap.size + 1) (w.heap.size + 1 + 1 + 1 + 1) k k vl vi wq) := by rw [hwq]; exact HI.out.below (hB1.alloc hB1.size _)
      have q0 : wq.cell? ⟨w1.heap.size, 0, none⟩ = some (.int .i64 c1) := by rw [hwq]; go_simp
      have q1 : wq.cell? ⟨w1.heap.size, 1, none⟩ = some (.bool (c2 == 0)) := by rw [hwq]; go_simp
      have qV : wq.cell? ⟨w.heap.size + 1 + 1, 4, none⟩ = some vl := blk_cell HQ.out.blk rfl
      have QB : Aside (wq.heap[w1.heap.size]? = some (.cells #[.int .i64 c1, .bool (c2 == 0)] 99 (0, 0))) := by rw [hwq]; exact World.alloc_heap_new _ _
      have hVq : w.heap.size + 1 + 1 < wq.heap.size := (Array.getElem?_eq_some_iff.1 HQ.out.blk).1
      have hrq : w1.heap.size < wq.heap.size := by rw [hwq]; simp
      rw [← hwq]
      have HI0 : Aside (w.heap.size + 1 + 1 + 1 + 1 ≤ w1.heap.size) := Nat.le_trans HI.out.siz hS1
      clear hwq kc0 kc1 kc2 HI hB1 hS1
      go_region_law (refine step_append_own rfl (.tmp 39) (.tmp 42) 48 rfl (w.heap.size + 1 + 1 + 1 + 1) 3 i0 (.int .i64 0) 1 8 Try.underlying48 hi hz0 hz1 hz2 rfl (by decide) vl k ((r.counts.take k).map fun c => Value.int .i64 c.1) (by simp [Act.eval, Act.put]) (ownsRow_below HQ.out.left (by (repeat' (first | exact Below.refl _ _ | assumption | (with_reducible refine Below.drew ?_) | (with_reducible refine Below.setCell ?_ (by (first | (simp; done) | (simp; omega))) _) | (with_reducible refine below_drewN' ?_ _) | (refine Below.alloc ?_ (by (try simp only [World.size_alloc, World.size_drew, World.size_setCell]); omega) _) | (refine Below.trans ?_ (Below.mono (by assumption) (by (try simp only [World.size_alloc, World.size_drew, World.size_setCell]); omega))))))) ⟨wq.heap.size, 0, none⟩ 1 1 [.int .i64 c1] (by simp [Act.eval, Act.put]) rfl (by intro j u h; match j, h with | 0, h => (simp at h; subst h; go_simp) | j + 1, h => simp at h) (ints_oneCell .i64 [c1]) (by unfold maxLen; omega) (by omega) (by have := HQ.out.siz; simp; omega) ?_; intro v7 w7 hown7 hgrow7 hnil7; obtain ⟨g7, p7, rfl⟩ := owns_form hown7 (by omega); have hq7 := HQ.out.below (w' := (wq.alloc (.cells #[.int .i64 c1] 3)).drew) (by (repeat' (first | exact Below.refl _ _ | assumption | (with_reducible refine Below.drew ?_) | (with_reducible refine Below.setCell ?_ (by (first | (simp; done) | (simp; omega))) _) | (with_reducible refine below_drewN' ?_ _) | (refine Below.alloc ?_ (by (try simp only [World.size_alloc, World.size_drew, World.size_setCell]); omega) _) | (refine Below.trans ?_ (Below.mono (by assumption) (by (try simp only [World.size_alloc, World.size_drew, World.size_setCell]); omega)))))); have hb7 := (hq7.pre hgrow7 (by omega) (.inl rfl)).trans hq7.blk; have k7 : w7.cell? ⟨w.heap.size + 1 + 1, 4, none⟩ = some vl := blk_cell hb7 rfl; have f7 := blk_free hb7 4; have S7 : Aside (BegInv r n w (.slice (some ⟨b, off, none⟩) n cp) (w.heap.size + 1 + 1) (w.heap.size + 1 + 1 + 1) (w.heap.size + 1) (w.heap.size + 1 + 1 + 1 + 1) (k + 1) k (rowV g7 (k + 1) p7) vi (w7.setCell ⟨w.heap.size + 1 + 1, 4, none⟩ (rowV g7 (k + 1) p7))) := hq7.left_step hgrow7 (by rw [HT.out, List.map_append]; exact hown7) (by omega) (by omega) (by omega) (by omega) (by omega) (by omega); have C7 : Aside (w7.heap[w1.heap.size]? = some (.cells #[.int .i64 c1, .bool (c2 == 0)] 99 (0, 0))) := keep_block hq7.left hgrow7 ((Below.heap_alloc (wq.drew) _ _ hrq).trans QB.out) (fun cur e => by cases e); clear hown7 hb7 hgrow7 hnil7 hq7)
      all_goals
        obtain ⟨ws, hws⟩ : ∃ u, u = w7.setCell ⟨w.heap.size + 1 + 1, 4, none⟩ (rowV g7 (k + 1) p7) := ⟨_, rfl⟩
        have HS7 : Aside (BegInv r n w (.slice (some ⟨b, off, none⟩) n cp) (w.heap.size + 1 + 1) (w.heap.size + 1 + 1 + 1) (w.heap.size + 1) (w.heap.size + 1 + 1 + 1 + 1) (k + 1) k (rowV g7 (k + 1) p7) vi ws) := by rw [hws]; exact S7.out
        have hnV : w1.heap.size ≠ w.heap.size + 1 + 1 := by have := HI0.out; omega
        have CS : Aside (ws.heap[w1.heap.size]? = some (.cells #[.int .i64 c1, .bool (c2 == 0)] 99 (0, 0))) := by rw [hws]; exact (Below.heap_setCell _ _ _ _ hnV).trans C7.out
        have r1 : ws.cell? ⟨w1.heap.size, 1, none⟩ = some (.bool (c2 == 0)) := blk_cell CS.out rfl
        have rV : ws.cell? ⟨w.heap.size + 1 + 1, 6, none⟩ = some vi := blk_cell HS7.out.blk rfl
        have hVs : w.heap.size + 1 + 1 < ws.heap.size := (Array.getElem?_eq_some_iff.1 HS7.out.blk).1
        have hrs : w1.heap.size < ws.heap.size := (Array.getElem?_eq_some_iff.1 CS.out).1
        rw [← hws]
        clear hws S7 q0 q1 qV hVq hrq k7 f7 HQ C7 QB hnV
        go_wp2_with fail
        go_region_law (refine step_append_own rfl (.tmp 52) (.tmp 55) 49 rfl (w.heap.size + 1 + 1 + 1 + 1) 4 j0 (.bool false) 1 1 Try.underlying49 ji jz0 jz1 jz2 rfl (by decide) vi k ((r.counts.take k).map fun c => Value.bool (c.2.1 == 0)) (by simp [Act.eval, Act.put]) (ownsRow_below HS7.out.inn (by (repeat' (first | exact Below.refl _ _ | assumption | (with_reducible refine Below.drew ?_) | (with_reducible refine Below.setCell ?_ (by (first | (simp; done) | (simp; omega))) _) | (with_reducible refine below_drewN' ?_ _) | (refine Below.alloc ?_ (by (try simp only [World.size_alloc, World.size_drew, World.size_setCell]); omega) _) | (refine Below.trans ?_ (Below.mono (by assumption) (by (try simp only [World.size_alloc, World.size_drew, World.size_setCell]); omega))))))) ⟨ws.heap.size, 0, none⟩ 1 1 [.bool (c2 == 0)] (by simp [Act.eval, Act.put]) rfl (by intro j u h; match j, h with | 0, h => (simp at h; subst h; go_simp) | j + 1, h => simp at h) (by intro u hu; simp at hu; subst hu; rfl) (by unfold maxLen; omega) (by omega) (by have := HS7.out.siz; simp; omega) ?_; intro v8 w8 hown8 hgrow8 hnil8; obtain ⟨g8, p8, rfl⟩ := owns_form hown8 (by omega); have hq8 := HS7.out.below (w' := (ws.alloc (.cells #[.bool (c2 == 0)] 4)).drew) (by (repeat' (first | exact Below.refl _ _ | assumption | (with_reducible refine Below.drew ?_) | (with_reducible refine Below.setCell ?_ (by (first | (simp; done) | (simp; omega))) _) | (with_reducible refine below_drewN' ?_ _) | (refine Below.alloc ?_ (by (try simp only [World.size_alloc, World.size_drew, World.size_setCell]); omega) _) | (refine Below.trans ?_ (Below.mono (by assumption) (by (try simp only [World.size_alloc, World.size_drew, World.size_setCell]); omega)))))); have hb8 := (hq8.pre hgrow8 (by omega) (.inr rfl)).trans hq8.blk; have k8 : w8.cell? ⟨w.heap.size + 1 + 1, 6, none⟩ = some vi := blk_cell hb8 rfl; have f8 := blk_free hb8 6; have S8 : Aside (BegInv r n w (.slice (some ⟨b, off, none⟩) n cp) (w.heap.size + 1 + 1) (w.heap.size + 1 + 1 + 1) (w.heap.size + 1) (w.heap.size + 1 + 1 + 1 + 1) (k + 1) (k + 1) (rowV g7 (k + 1) p7) (rowV g8 (k + 1) p8) (w8.setCell ⟨w.heap.size + 1 + 1, 6, none⟩ (rowV g8 (k + 1) p8))) := hq8.inn_step hgrow8 (by rw [HT.out, List.map_append]; exact hown8) (by omega) (by omega) (by omega) (by omega) (by omega) (by omega); clear hown8 hb8 hgrow8 hnil8 hq8)
        all_goals
          obtain ⟨wt, hwt⟩ : ∃ u, u = w8.setCell ⟨w.heap.size + 1 + 1, 6, none⟩ (rowV g8 (k + 1) p8) := ⟨_, rfl⟩
          have HT8 : Aside (BegInv r n w (.slice (some ⟨b, off, none⟩) n cp) (w.heap.size + 1 + 1) (w.heap.size + 1 + 1 + 1) (w.heap.size + 1) (w.heap.size + 1 + 1 + 1 + 1) (k + 1) (k + 1) (rowV g7 (k + 1) p7) (rowV g8 (k + 1) p8) wt) := by rw [hwt]; exact S8.out
          rw [← hwt]
          clear hwt S8 r1 rV hVs hrs k8 f8 HS7
          go_wp2_with fail
          go_roundg (n - (k + 1))
          case measure => omega
          case rel => exact ⟨k + 1, _, _, by omega, by omega, by go_num, HT8.out⟩
    · have hltz : ¬ (k : Int) < (n : Int) := by omega
      have : k = n := by omega
      subst this
      have hne0 : 0 < k := by have := HN.out; have := List.length_pos_iff.2 hne; omega
      obtain ⟨gl, cl, rfl⟩ := owns_form HI.out.left hne0
      obtain ⟨gi, ci, rfl⟩ := owns_form HI.out.inn hne0
      go_wp2
      go_ret
      have h := HI.out
      obtain ⟨rl, zl⟩ := row_of_owns h.left
      obtain ⟨ri, zi⟩ := row_of_owns h.inn
      have htk : r.counts.take k = r.counts := List.take_of_length_le (by rw [HN.out]; exact Nat.le_refl _)
      rw [htk] at rl ri
      have hgg : gl ≠ gi := by
        intro e
        obtain ⟨c1, e1, _⟩ := rl
        obtain ⟨c2, e2, _⟩ := ri
        rw [← e, e1] at e2
        cases e2
      refine ⟨w.heap.size + 1 + 1, gl, w.heap.size + 1 + 1 + 1, gi, w.heap.size + 1, cl, k, ci, 0, .slice (some ⟨b, off, none⟩) k cp, .slice none 0 0, .map [], rfl, ?_, ?_, rfl, h.bel⟩
      · refine ⟨by rw [HN.out]; exact h.blk, by unfold beginG; rw [List.map_map]; exact rl, by unfold beginG; rw [List.map_map]; have := h.darts; rw [← HN.out] at this; rw [show (List.map (Value.int IntKind.i64 ∘ fun _ => (0 : Int)) r.counts) = List.replicate r.counts.length (.int .i64 0) from List.map_const' ..]; exact this, by unfold beginG; rw [List.map_map]; exact ri, h.own, Rep.empty, by have := HC.out.below h.bel; rw [HN.out] at this; exact this, ⟨none, 0, rfl, by simp [beginG], fun h => absurd rfl h⟩, by simp [beginG], by simp [beginG], by simp [beginG], ?_, ?_, ?_, ?_, ?_, ?_⟩
        · simp only [List.mem_cons, List.not_mem_nil, or_false, not_or]; omega
        · simp only [List.mem_cons, List.not_mem_nil, or_false, not_or]; omega
        · simp only [List.mem_cons, List.not_mem_nil, or_false, not_or]; omega
        · omega
        · intro b' o' n' c' e
          simp only [Value.slice.injEq, Option.some.injEq, Addr.mk.injEq, and_true] at e
          obtain ⟨⟨rfl, _⟩, _⟩ := e
          simp only [List.mem_cons, List.not_mem_nil, or_false, not_or]; omega
        · intro b' o' n' c' e; simp at e
      · intro j hj
        simp only [List.mem_cons, List.not_mem_nil, or_false] at hj
        omega
end Go.Proofs.Ythcgbceapabikaa
