/- Leg, part Bi: a copy by append to an empty row: nothing old is touched. -/
import Derived.Test.YthcgbceapabikaaBf
import Derived.Test.YthcgbceapabikaaYj
set_option linter.unusedVariables false
set_option linter.unusedSimpArgs false
namespace Go.Proofs.Ythcgbceapabikaa
open Go.RowKit Go.Maps Go.Sort Go.Shelf Go.Deep

/-- A row whose block is known: its type, its cells. -/
def RowB {α : Type} (w : World) (size : Nat) (enc : α → List Value) (e : TypeId) (v : Value) (ys : List α) : Prop :=
  ∃ g c cs, v = .slice (some ⟨g, 0, none⟩) ys.length c ∧ ys.length ≤ 9223372036854775807 ∧ w.heap[g]? = some (.cells cs e (0, 0)) ∧ ∀ j y, ys[j]? = some y → ∀ i u, (enc y)[i]? = some u → cs[j * size + i]? = some u
theorem RowB.sl {α : Type} {w : World} {size : Nat} {enc : α → List Value} {e : TypeId} {v : Value} {ys : List α} (h : RowB w size enc e v ys) : Sl w size enc v ys := by
  obtain ⟨g, c, cs, rfl, hl, hg, hc⟩ := h
  exact ⟨_, c, rfl, hl, fun _ => ⟨g, 0, rfl, (Array.getElem?_eq_some_iff.1 hg).1, fun j y hj i u hu => by rw [Nat.zero_add]; exact blk_cell hg (hc j y hj i u hu)⟩⟩
/-- Blocks stay, but for those of one type. -/
def RTy (T : TypeId) (W W' : World) : Prop := W.heap.size ≤ W'.heap.size ∧ ∀ k, k < W.heap.size → (∀ cs, W.heap[k]? ≠ some (.cells cs T (0, 0))) → W'.heap[k]? = W.heap[k]?
theorem RTy.refl (T : TypeId) (W : World) : RTy T W W := ⟨Nat.le_refl _, fun _ _ _ => rfl⟩
theorem RTy.of_below {T : TypeId} {W W' : World} (h : Below W.heap.size W W') : RTy T W W' := ⟨h.size, fun k hk _ => h.block k hk⟩
theorem RTy.put {T : TypeId} {W W' : World} {g : Nat} {F : Obj} {cs : Array Value} (h : Put g F W W') (hg : W.heap[g]? = some (.cells cs T (0, 0))) : RTy T W W' := ⟨by rw [h.size]; exact Nat.le_refl _, fun k _ hk => h.block k (fun e => hk cs (e ▸ hg))⟩
theorem RTy.keep {T T' : TypeId} {W W' : World} {k : Nat} {cs : Array Value} (h : RTy T W W') (hT : T' ≠ T) (hk : W.heap[k]? = some (.cells cs T' (0, 0))) : W'.heap[k]? = some (.cells cs T' (0, 0)) :=
  (h.2 k (Array.getElem?_eq_some_iff.1 hk).1 (fun c e => by rw [hk] at e; injection e with e; injection e with _ e2; exact hT e2)).trans hk
theorem RowB.rt {α : Type} {T : TypeId} {W W' : World} {size : Nat} {enc : α → List Value} {e : TypeId} {v : Value} {ys : List α} (h : RowB W size enc e v ys) (hR : RTy T W W') (hT : e ≠ T) : RowB W' size enc e v ys := by
  obtain ⟨g, c, cs, h1, hl, hg, hc⟩ := h
  exact ⟨g, c, cs, h1, hl, hR.keep hT hg, hc⟩
theorem RowB.below {α : Type} {W W' : World} {size : Nat} {enc : α → List Value} {e : TypeId} {v : Value} {ys : List α} (h : RowB W size enc e v ys) (hB : Below W.heap.size W W') : RowB W' size enc e v ys := by
  obtain ⟨g, c, cs, h1, hl, hg, hc⟩ := h
  exact ⟨g, c, cs, h1, hl, (hB.block g (Array.getElem?_eq_some_iff.1 hg).1).trans hg, hc⟩
theorem run_append_fresh {α : Type} {P : Program} (w : World) (t ty e : TypeId) (i : TypeInfo) (z : Value) (size bytes : Nat) (ht : P.underlying t = some (.slice e)) (hi : P.info? e = some i) (hz : i.zero = some z)
    (hsize : i.size = size) (hby : i.bytes = bytes) (hzs : z.cells.size = size) (hsz : 0 < size) (g : Nat) (hg : w.heap[g]? = some (.cells #[] e (0, 0)))
    {enc : α → List Value} {ys : List α} {vy : Value} (hy : Sl w size enc vy ys) (henc : ∀ y, (enc y).length = size) (h1 : ∀ y ∈ ys, ∀ u ∈ enc y, u.oneCell' = true)
    (h63 : ys.length ≤ maxLen) (hbytes : ys.length * bytes ≤ 140737488355328) :
    ∃ v' w', (Builtin.append_ #[t, t] ty #[.slice (some ⟨g, 0, none⟩) 0 0, vy]).run P w = .ok v' w' ∧ RowB w' size enc e v' ys ∧ Below w.heap.size w w' := by
  have hglt := (Array.getElem?_eq_some_iff.1 hg).1
  obtain ⟨ad, cp, rfl, hl, hc⟩ := hy
  subst hsize
  have hfl := flat_len enc i.size henc ys
  by_cases h0 : ys = []
  · subst h0
    rcases nil_or_some (a := ad) with rfl | ⟨ad, rfl⟩
    · have hr := run_append_none (P := P) w 0 t ty e i i.size cp ht hi (.slice (some ⟨g, 0, none⟩) 0 0) 0 [] ⟨by simp, .inr ⟨g, 0, #[], rfl, Nat.zero_le _, hg, Nat.le_refl _, Nat.zero_le _, by simp, by simp⟩⟩
      exact ⟨_, w, hr, ⟨g, 0, #[], rfl, by simp, hg, fun j y h => by simp at h⟩, Below.refl _ _⟩
    · have hr := run_append_room (P := P) w t ty e i ht hi g 0 0 #[] hg ad 0 cp [] (by simp) (by intro j u h; simp at h) (by simp) (Nat.le_refl _) (by simp)
      refine ⟨_, _, hr, ⟨g, 0, _, rfl, by simp, setRow_heap w g #[] _ e (0, 0) hg, fun j y h => by simp at h⟩, ⟨rfl, rfl, rfl, by simp [World.setRow], fun k hk => ?_⟩⟩
      by_cases hkg : k = g
      · subst hkg; rw [setRow_heap w k #[] _ e (0, 0) hg, hg]; simp
      · exact setRow_other w g k _ hkg
  · obtain ⟨b, off, rfl, hb, hcl⟩ := hc h0
    have hpos : 0 < ys.length := List.length_pos_iff.2 h0
    have hnews : ∀ j u, ((ys.map enc).flatten)[j]? = some u → w.cell? ((⟨b, off, none⟩ : Addr).add j) = some u := by
      intro j u hu
      obtain ⟨q, y, i', hq, hi', rfl⟩ := flat_inv enc i.size henc ys j u hu
      have := hcl q y hq i' u hi'
      rw [Nat.add_assoc] at this
      unfold Addr.add
      split
      · rename_i h0
        rw [h0, Nat.add_zero] at this
        exact this
      · exact this
    have hr := run_append_grow (P := P) w t ty e i z ht hi hz ⟨g, 0, none⟩ 0 0 [] (by simp) (by intro j v h; simp at h) ⟨b, off, none⟩ ys.length cp ((ys.map enc).flatten) (by rw [hfl]) hnews (by omega) (by unfold maxLen at h63; omega) (growslice_fits (by omega) (by rw [Nat.zero_add, hby]; exact hbytes))
    refine ⟨_, _, hr, ?_, ((Below.refl _ w).drew).alloc (Nat.le_refl _) _⟩
    have hge := grownCap_ge w (0 + ys.length) 0 e
    refine ⟨w.heap.size, _, _, by rw [Nat.zero_add], hl, heap_alloc_new w.drew _, fun j y hj i' u hu => ?_⟩
    have hf := flat_get enc i.size henc ys j y i' u hj hu
    have hlt := (List.getElem?_eq_some_iff.1 hf).1
    rw [Array.getElem?_append_left (by simpa using hlt), Array.getElem?_append_right (by simp)]
    simpa using hf
/-- append([]T{}, v...) at the operation. -/
theorem wp_append_fresh {α : Type} {P : Program} (w : World) {o : Oper} {a : Act} {K : Act → World → Prop} {Q : Exit → Act → World → Prop} (s x : Operand) (t : TypeId)
    (ho : o.op = .call { callee := .builtin .append, args := #[s, x], argTypes := #[t, t] })
    (e : TypeId) (i : TypeInfo) (z : Value) (size bytes : Nat) (ht : P.underlying t = some (.slice e)) (hi : P.info? e = some i) (hz : i.zero = some z)
    (hsize : i.size = size) (hby : i.bytes = bytes) (hzs : z.cells.size = size) (hsz : 0 < size) (g : Nat) (hg : w.heap[g]? = some (.cells #[] e (0, 0))) (hs : a.eval s = .slice (some ⟨g, 0, none⟩) 0 0)
    {enc : α → List Value} {ys : List α} {vy : Value} (hx : a.eval x = vy) (hy : Sl w size enc vy ys) (henc : ∀ y, (enc y).length = size) (h1 : ∀ y ∈ ys, ∀ u ∈ enc y, u.oneCell' = true)
    (h63 : ys.length ≤ maxLen) (hbytes : ys.length * bytes ≤ 140737488355328)
    (h : ∀ v' w', RowB w' size enc e v' ys → Below w.heap.size w w' → K (a.put o.dst v') w') : o.wp P a w K Q := by
  obtain ⟨v', w', hr, h2, h3⟩ := run_append_fresh (P := P) w t o.type e i z size bytes ht hi hz hsize hby hzs hsz g hg hy henc h1 h63 hbytes
  unfold Oper.wp execOp
  simp only [ho, resolve, invoke, builtin, Sem.run_bind, Sem.run_pure, Result.andThen_ok, List.map_toArray, List.map_cons, List.map_nil, hs, hx, hr]
  exact h v' w' h2 h3
theorem wpList_append_fresh {α : Type} {P : Program} (w : World) {ops : Array Oper} {rest : List Oper} {o : Oper} {a : Act} {Q : Exit → Act → World → Prop} (hgd : o.guard = none) (s x : Operand) (t : TypeId)
    (ho : o.op = .call { callee := .builtin .append, args := #[s, x], argTypes := #[t, t] })
    (e : TypeId) (i : TypeInfo) (z : Value) (size bytes : Nat) (ht : P.underlying t = some (.slice e)) (hi : P.info? e = some i) (hz : i.zero = some z)
    (hsize : i.size = size) (hby : i.bytes = bytes) (hzs : z.cells.size = size) (hsz : 0 < size) (g : Nat) (hg : w.heap[g]? = some (.cells #[] e (0, 0))) (hs : a.eval s = .slice (some ⟨g, 0, none⟩) 0 0)
    {enc : α → List Value} {ys : List α} {vy : Value} (hx : a.eval x = vy) (hy : Sl w size enc vy ys) (henc : ∀ y, (enc y).length = size) (h1 : ∀ y ∈ ys, ∀ u ∈ enc y, u.oneCell' = true)
    (h63 : ys.length ≤ maxLen) (hbytes : ys.length * bytes ≤ 140737488355328)
    (h : ∀ v' w', RowB w' size enc e v' ys → Below w.heap.size w w' → wpList P ops Q rest (a.put o.dst v') w') : wpList P ops Q (o :: rest) a w :=
  wpList_plain hgd fun _ hK => wp_append_fresh w s x t ho e i z size bytes ht hi hz hsize hby hzs hsz g hg hs hx hy henc h1 h63 hbytes fun v' w' h2 h3 => hK _ _ (h v' w' h2 h3)
end Go.Proofs.Ythcgbceapabikaa
