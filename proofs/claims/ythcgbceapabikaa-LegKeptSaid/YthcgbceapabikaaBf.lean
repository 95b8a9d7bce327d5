/- Leg, part Bf: a copy of a row by append. -/
import Derived.Test.YthcgbceapabikaaBe
import Derived.Test.YthcgbceapabikaaT
set_option linter.unusedVariables false
set_option linter.unusedSimpArgs false
namespace Go.Proofs.Ythcgbceapabikaa
open Go.RowKit Go.Maps Go.Sort Go.Shelf Go.Deep

theorem run_append_none {P : Program} (w : World) (base : Nat) (t ty e : TypeId) (i : TypeInfo) (size cp : Nat) (ht : P.underlying t = some (.slice e)) (hi : P.info? e = some i)
    (v : Value) (n : Nat) (xs : List Value) (hown : w.ownsRow base e size v n xs) :
    (Builtin.append_ #[t, t] ty #[v, .slice none 0 cp]).run P w = .ok v w := by
  rcases hown.2 with ⟨rfl, rfl⟩ | ⟨g, cap, cur, rfl, _, _, hnc, _⟩
  · simp [Builtin.append_, run_underlying ht, sizeOf, typeInfo, hi, Builtin.lenOf, Builtin.firstCells]
  · simp [Builtin.append_, run_underlying ht, sizeOf, typeInfo, hi, Builtin.lenOf, Builtin.firstCells, hnc, storeCells]
theorem nil_or_some {a : Option Addr} : a = none ∨ ∃ b, a = some b := by cases a with | none => exact .inl rfl | some b => exact .inr ⟨b, rfl⟩
/-- append(row, v...), v a row that lies in memory, whatever its address. -/
theorem wpList_append_sl {α : Type} {P : Program} (w : World) {ops : Array Oper} {rest : List Oper} {o : Oper} {a : Act} {Q : Exit → Act → World → Prop} (hgd : o.guard = none) (s x : Operand) (t : TypeId)
    (ho : o.op = .call { callee := .builtin .append, args := #[s, x], argTypes := #[t, t] })
    (base : Nat) (e : TypeId) (i : TypeInfo) (z : Value) (size bytes : Nat) (ht : P.underlying t = some (.slice e)) (hi : P.info? e = some i) (hz : i.zero = some z)
    (hsize : i.size = size) (hby : i.bytes = bytes) (hzs : z.cells.size = size) (hsz : 0 < size)
    (v : Value) (n : Nat) (xs : List Value) (hs : a.eval s = v) (hown : w.ownsRow base e size v n xs)
    {enc : α → List Value} {ys : List α} {vy : Value} (hx : a.eval x = vy) (hy : Sl w size enc vy ys) (henc : ∀ y, (enc y).length = size) (h1 : ∀ y ∈ ys, ∀ u ∈ enc y, u.oneCell' = true)
    (h63 : n + ys.length ≤ maxLen) (hbytes : (n + ys.length) * bytes ≤ 140737488355328) (hbase : base ≤ w.heap.size)
    (h : ∀ v' w', w'.ownsRow base e size v' (n + ys.length) (xs ++ (ys.map enc).flatten) → w.grownBy w' v.ownBlock → wpList P ops Q rest (a.put o.dst v') w') : wpList P ops Q (o :: rest) a w := by
  obtain ⟨ad, cp, rfl, hl, hc⟩ := hy
  have hfl := flat_len enc size henc ys
  have h1' : ∀ u ∈ (ys.map enc).flatten, u.oneCell' = true := by
    intro u hu
    obtain ⟨l, hl, hu⟩ := List.mem_flatten.1 hu
    obtain ⟨y, hy, rfl⟩ := List.mem_map.1 hl
    exact h1 y hy u hu
  rcases nil_or_some (a := ad) with rfl | ⟨ad, rfl⟩
  · have hy0 : ys = [] := by
      by_cases h0 : ys = []
      · exact h0
      · obtain ⟨_, _, h2, _⟩ := hc h0; cases h2
    subst hy0
    refine wpList_plain hgd fun _ hK => ?_
    have hr := run_append_none (P := P) w base t o.type e i size cp ht hi v n xs hown
    unfold Oper.wp execOp
    simp only [ho, resolve, invoke, builtin, Sem.run_bind, Sem.run_pure, Result.andThen_ok, List.map_toArray, List.map_cons, List.map_nil, hs, hx, List.length_nil, hr]
    exact hK _ _ (h v w (by simpa using hown) (World.grownBy.refl w _))
  · refine wpList_append_own w hgd s x t ho base e i z size bytes ht hi hz hsize hby hzs hsz v n xs hs hown ad ys.length cp ((ys.map enc).flatten) hx (by rw [hfl]) ?_ h1' h63 hbytes hbase (fun v' w' h2 h3 _ => h v' w' h2 h3)
    intro j u hu
    obtain ⟨q, y, i', hq, hi', rfl⟩ := flat_inv enc size henc ys j u hu
    obtain ⟨b, off, h2, _, h3⟩ := hc (by intro h0; subst h0; simp at hq)
    cases h2
    have := h3 q y hq i' u hi'
    rw [Nat.add_assoc] at this
    unfold Addr.add
    split
    · rename_i h0
      rw [h0, Nat.add_zero] at this
      exact this
    · exact this
/-- A row of the call's own, where it lies. -/
theorem sl_owns {α : Type} {w : World} {base : Nat} {e : TypeId} {k : Nat} {enc : α → List Value} {xs : List α} {v : Value} (hk : ∀ x, (enc x).length = k) (hl : xs.length ≤ 9223372036854775807) (h : w.ownsRow base e k v xs.length ((xs.map enc).flatten)) : Sl w k enc v xs := by
  by_cases hne : xs = []
  · subst hne
    rcases h.2 with ⟨rfl, _⟩ | ⟨g, cap, cur, rfl, hb, hg, _⟩
    · exact ⟨none, 0, rfl, by simp, fun h => absurd rfl h⟩
    · exact ⟨_, cap, rfl, by simp, fun h => absurd rfl h⟩
  · obtain ⟨g, c, rfl, _, _, h2⟩ := sl_of_row hk hl hne h
    exact h2
end Go.Proofs.Ythcgbceapabikaa
