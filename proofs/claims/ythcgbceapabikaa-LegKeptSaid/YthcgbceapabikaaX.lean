/- Leg, part X: a visit's effect on a leg, as data; what holds while a leg is played. -/
import Derived.Test.YthcgbceapabikaaW
import Derived.Test.YthcgbceapabikaaBa
import Derived.Test.YthcgbceapabikaaYj
set_option linter.unusedVariables false
set_option linter.unusedSimpArgs false
namespace Go.Proofs.Ythcgbceapabikaa
open Go.RowKit Go.Maps Go.Sort Go.Shelf Go.Deep

theorem putA_mem {ps : List (Int × Int)} {k v : Int} {q : Int × Int} (h : q ∈ putA ps k v) : q.1 = k ∨ q ∈ ps := by
  unfold putA at h
  split at h
  · obtain ⟨x, hx, rfl⟩ := List.mem_map.1 h
    split
    · exact .inl rfl
    · exact .inr hx
  · rcases List.mem_append.1 h with h | h
    · exact .inr h
    · simp at h; subst h; exact .inl rfl
theorem nodup_bd : ∀ (n : Nat) (xs : List Int), xs.Nodup → (∀ x ∈ xs, 0 ≤ x ∧ x < (n : Int)) → xs.length ≤ n := by
  intro n
  induction n with
  | zero =>
    intro xs _ h
    cases xs with
    | nil => exact Nat.le_refl _
    | cons x xs => have := h x (by simp); omega
  | succ n ih =>
    intro xs hn h
    have h1 := ih (xs.erase (n : Int)) (hn.erase _) (fun x hx => by
      have h2 := h x (List.mem_of_mem_erase hx)
      have h3 : x ≠ (n : Int) := fun e => by
        subst e
        exact (List.Nodup.mem_erase_iff hn).1 hx |>.1 rfl
      omega)
    rw [List.length_erase] at h1
    split at h1 <;> omega

/-- What a visit leaves. -/
def takeT (r : LegR) (g : LegG) (k : Nat) (bs : List Int) : Thr × Int × Int := thr (r.counts.getD k (0, 0, 0)) (g.inn.getD k false) (g.left.getD k 0) bs
def hitG (g : LegG) (k : Nat) (t : Thr) : LegG :=
  { g with left := g.left.set k t.left, inn := g.inn.set k t.inn, darts := g.darts.set k (g.darts.getD k 0 + t.darts), ended := if t.won = true then putA g.ended k t.darts else g.ended }
def takeG (r : LegR) (g : LegG) (p : Int) (bs : List Int) : LegG × Int × Int :=
  if g.over = true then (g, -1, 33)
  else if inb 0 ((r.counts.length : Int) - 1) p = true then
    (if p = g.next then
      (if (takeT r g p.toNat bs).2.2 = 0 then (passG r (hitG g p.toNat (takeT r g p.toNat bs).1), -1, 0) else (g, (takeT r g p.toNat bs).2.1, (takeT r g p.toNat bs).2.2))
    else (g, -1, 30))
  else (g, -1, 2)

theorem thrL_bd (c : Cnt) (in0 : Bool) (left0 : Int) (h0 : 0 ≤ left0) (h1 : left0 ≤ 1001) : ∀ (bs : List Int) (t : Thr) (i : Nat), t.Ok i → 0 ≤ (thrL c in0 left0 t i bs).1.left ∧ (thrL c in0 left0 t i bs).1.left ≤ 1001 ∧ 0 ≤ (thrL c in0 left0 t i bs).1.darts ∧ (thrL c in0 left0 t i bs).1.darts ≤ 3 := by
  intro bs
  have z : 0 ≤ Thr.zero.left ∧ Thr.zero.left ≤ 1001 ∧ 0 ≤ Thr.zero.darts ∧ Thr.zero.darts ≤ 3 := by decide
  induction bs with
  | nil =>
    intro t i h
    unfold thrL
    split
    · have := h.l0; have := h.l1; have := h.d; have := h.n3
      unfold Thr.fin
      split <;> simp only [] <;> omega
    · exact z
  | cons b bs ih =>
    intro t i h
    unfold thrL
    split
    · exact z
    · rename_i he
      split
      · rename_i hb
        exact ih _ _ (h.step (by simpa using he) c hb)
      · exact z
theorem thr_bd (c : Cnt) (in0 : Bool) (left : Int) (bs : List Int) (h0 : 0 ≤ left) (h1 : left ≤ 1001) : 0 ≤ (thr c in0 left bs).1.left ∧ (thr c in0 left bs).1.left ≤ 1001 ∧ 0 ≤ (thr c in0 left bs).1.darts ∧ (thr c in0 left bs).1.darts ≤ 3 :=
  thrL_bd c in0 left h0 h1 bs _ 0 ⟨h0, h1, rfl, by omega⟩

/-- Laws of a leg that are valid. -/
structure LegR.Ok (r : LegR) : Prop where
  ne : r.counts ≠ []
  n8 : r.counts.length ≤ 8
  cnt : ∀ c ∈ r.counts, vcnt c = true
  f0 : 0 ≤ r.first
  f1 : r.first < (r.counts.length : Int)
/-- What holds while a leg is played. -/
structure LegG.Ok (r : LegR) (g : LegG) (i : Nat) : Prop where
  left : ∀ x ∈ g.left, 0 ≤ x ∧ x ≤ 1001
  darts : ∀ x ∈ g.darts, 0 ≤ x ∧ x ≤ 3 * (i : Int)
  ended : ∀ q ∈ g.ended, 0 ≤ q.1 ∧ q.1 < (r.counts.length : Int)
  next : g.over = false → 0 ≤ g.next ∧ g.next < (r.counts.length : Int)
  r0 : 0 ≤ g.round
  r1 : g.round ≤ (i : Int)
theorem beginG_ok {r : LegR} (h : r.Ok) : (beginG r).Ok r 0 := by
  refine ⟨fun x hx => ?_, fun x hx => ?_, (fun q hq => by cases hq), fun _ => ⟨h.f0, h.f1⟩, Int.le_refl _, Int.le_refl _⟩
  · obtain ⟨c, hc, rfl⟩ := List.mem_map.1 hx
    have := vcnt_bd (h.cnt c hc)
    omega
  · obtain ⟨c, hc, rfl⟩ := List.mem_map.1 hx
    simp
theorem LegG.Ok.mono {r : LegR} {g : LegG} {i j : Nat} (h : g.Ok r i) (hij : i ≤ j) : g.Ok r j :=
  ⟨h.left, fun x hx => by have := h.darts x hx; omega, h.ended, h.next, h.r0, by have := h.r1; omega⟩
theorem mem_set_or {α : Type} {xs : List α} {k : Nat} {x y : α} (h : y ∈ xs.set k x) : y = x ∨ y ∈ xs := by
  rcases List.mem_or_eq_of_mem_set h with h | h
  · exact .inr h
  · exact .inl h
theorem hitG_ok {r : LegR} {g : LegG} {i k : Nat} {t : Thr} (h : g.Ok r i) (hk : k < r.counts.length) (t0 : 0 ≤ t.left) (t1 : t.left ≤ 1001) (d0 : 0 ≤ t.darts) (d1 : t.darts ≤ 3) : (hitG g k t).Ok r (i + 1) := by
  have hg : 0 ≤ g.darts.getD k 0 ∧ g.darts.getD k 0 ≤ 3 * (i : Int) := by
    rw [List.getD_eq_getElem?_getD]
    cases hx : g.darts[k]? with
    | none => simp; omega
    | some x => exact h.darts x (List.mem_of_getElem? hx)
  refine ⟨fun x hx => ?_, fun x hx => ?_, fun q hq => ?_, h.next, h.r0, by have := h.r1; show g.round ≤ _; omega⟩
  · rcases mem_set_or hx with rfl | hx
    · exact ⟨t0, t1⟩
    · exact h.left x hx
  · rcases mem_set_or hx with rfl | hx
    · omega
    · have := h.darts x hx; omega
  · unfold hitG at hq
    simp only [] at hq
    split at hq
    · rcases putA_mem hq with e | hq
      · omega
      · exact h.ended q hq
    · exact h.ended q hq
theorem passG_ok {r : LegR} {g : LegG} {i : Nat} (hr : r.Ok) (h : g.Ok r i) : (passG r g).Ok r (i + 1) := by
  have hn : 0 < (r.counts.length : Int) := by have := List.length_pos_iff.2 hr.ne; omega
  have h0 := h.r0
  have h1 := h.r1
  have hrd : 0 ≤ (passF r g).2.1 ∧ (passF r g).2.1 ≤ (i : Int) + 1 := by
    unfold passF
    dsimp only
    split <;> split <;> simp only [] <;> omega
  unfold passG
  split
  · exact ⟨h.left, fun x hx => by have := h.darts x hx; omega, h.ended, fun ho => by simp at ho, hrd.1, hrd.2⟩
  · rename_i h3
    refine ⟨h.left, fun x hx => by have := h.darts x hx; omega, h.ended, fun _ => ?_, hrd.1, hrd.2⟩
    have key : ∀ (c : Bool) (rd nx : Int), ¬ (if c = true then ((-1 : Int), rd, true) else (nx, rd, false)).2.2 = true → (if c = true then ((-1 : Int), rd, true) else (nx, rd, false)).1 = nx := by
      intro c rd nx; cases c <;> simp
    have : (passF r g).1 = (g.next + 1) % (r.counts.length : Int) := key _ _ _ h3
    show 0 ≤ (passF r g).1 ∧ _
    rw [this]
    exact ⟨Int.emod_nonneg _ (by omega), Int.emod_lt_of_pos _ hn⟩
theorem takeG_ok {r : LegR} {g : LegG} {i : Nat} (hr : r.Ok) (h : g.Ok r i) (p : Int) (bs : List Int) : (takeG r g p bs).1.Ok r (i + 2) := by
  unfold takeG
  split
  · exact h.mono (by omega)
  · split
    · rename_i hp
      unfold inb at hp
      simp only [decide_eq_true_eq] at hp
      split
      · split
        · refine passG_ok hr (hitG_ok h (by omega) ?_ ?_ ?_ ?_)
          all_goals
            have hl : 0 ≤ g.left.getD p.toNat 0 ∧ g.left.getD p.toNat 0 ≤ 1001 := by
              rw [List.getD_eq_getElem?_getD]
              cases hx : g.left[p.toNat]? with
              | none => simp
              | some x => exact h.left x (List.mem_of_getElem? hx)
            have hb := thr_bd (r.counts.getD p.toNat (0, 0, 0)) (g.inn.getD p.toNat false) (g.left.getD p.toNat 0) bs hl.1 hl.2
            unfold takeT
          · exact hb.1
          · exact hb.2.1
          · exact hb.2.2.1
          · exact hb.2.2.2
        · exact h.mono (by omega)
      · exact h.mono (by omega)
    · exact h.mono (by omega)

/-- Blocks away from the leg's own ones may change. -/
theorem LegW.same {w w' : World} {V gl gd gi M cl cd ci nn : Nat} {vc vw : Value} {D : DataW Unit} {r : LegR} {g : LegG} (h : LegW w V gl gd gi M cl cd ci nn vc vw D r g) (hO : Outs [] w w') : LegW w' V gl gd gi M cl cd ci nn vc vw D r g := by
  have hs : ∀ k, k < w.heap.size → w'.heap[k]? = w.heap[k]? := fun k hk => hO.block k (by simp) hk
  exact ⟨(hs V (Array.getElem?_eq_some_iff.1 h.blk).1).trans h.blk, h.left.same (hs _ h.left.lt), h.darts.same (hs _ h.darts.lt), h.inn.same (hs _ h.inn.lt), ownsMap_same h.own (hs _ h.own.lt), h.rep, hO.sl h.counts (fun _ _ _ _ _ => by simp), hO.sl h.wins (fun _ _ _ _ _ => by simp), h.l1, h.l2, h.l3, h.d1, h.d2, h.d3, h.d4, h.cout, h.wout⟩
theorem LegW.below {w w' : World} {V gl gd gi M cl cd ci nn : Nat} {vc vw : Value} {D : DataW Unit} {r : LegR} {g : LegG} (h : LegW w V gl gd gi M cl cd ci nn vc vw D r g) (hB : Below w.heap.size w w') : LegW w' V gl gd gi M cl cd ci nn vc vw D r g := h.same (Outs.of_below hB)
theorem LegW.setL {w : World} {V gl gd gi M cl cd ci nn : Nat} {vc vw : Value} {D : DataW Unit} {r : LegR} {g : LegG} (h : LegW w V gl gd gi M cl cd ci nn vc vw D r g) (k : Nat) (x : Int) (hk : k < r.counts.length) : LegW (w.setCell ⟨gl, k, none⟩ (.int .i64 x)) V gl gd gi M cl cd ci nn vc vw D r { g with left := g.left.set k x } := by
  have d1 := h.d1
  have d2 := h.d2
  simp only [List.mem_cons, List.not_mem_nil, or_false, not_or] at d1 d2
  have hO : Outs [gl] w (w.setCell ⟨gl, k, none⟩ (.int .i64 x)) := Outs.set (by simp) _ _ _
  have hs : ∀ j, j ≠ gl → (w.setCell ⟨gl, k, none⟩ (.int .i64 x)).heap[j]? = w.heap[j]? := fun j hj => Below.heap_setCell _ _ _ _ hj
  refine ⟨(hs V d1.1).trans h.blk, ?_, h.darts.same (hs _ (Ne.symm d2.1)), h.inn.same (hs _ (Ne.symm d2.2.1)), ownsMap_same h.own (hs _ (Ne.symm d2.2.2)), h.rep, ?_, ?_, by simp [h.l1], h.l2, h.l3, h.d1, h.d2, h.d3, h.d4, h.cout, h.wout⟩
  · have := h.left.set k (.int .i64 x) (by simp [h.l1]; exact hk)
    rw [← List.map_set] at this
    exact this
  · exact hO.sl h.counts (fun b o n c e => by
      have := h.cout b o n c e
      simp only [List.mem_cons, List.not_mem_nil, or_false, not_or] at this ⊢
      exact this.2.1)
  · exact hO.sl h.wins (fun b o n c e => by
      have := h.wout b o n c e
      simp only [List.mem_cons, List.not_mem_nil, or_false, not_or] at this ⊢
      exact this.2.1)
theorem LegW.setD {w : World} {V gl gd gi M cl cd ci nn : Nat} {vc vw : Value} {D : DataW Unit} {r : LegR} {g : LegG} (h : LegW w V gl gd gi M cl cd ci nn vc vw D r g) (k : Nat) (x : Int) (hk : k < r.counts.length) : LegW (w.setCell ⟨gd, k, none⟩ (.int .i64 x)) V gl gd gi M cl cd ci nn vc vw D r { g with darts := g.darts.set k x } := by
  have d1 := h.d1
  have d2 := h.d2
  have d3 := h.d3
  simp only [List.mem_cons, List.not_mem_nil, or_false, not_or] at d1 d2 d3
  have hO : Outs [gd] w (w.setCell ⟨gd, k, none⟩ (.int .i64 x)) := Outs.set (by simp) _ _ _
  have hs : ∀ j, j ≠ gd → (w.setCell ⟨gd, k, none⟩ (.int .i64 x)).heap[j]? = w.heap[j]? := fun j hj => Below.heap_setCell _ _ _ _ hj
  refine ⟨(hs V d1.2.1).trans h.blk, h.left.same (hs _ d2.1), ?_, h.inn.same (hs _ (Ne.symm d3.1)), ownsMap_same h.own (hs _ (Ne.symm d3.2)), h.rep, ?_, ?_, h.l1, by simp [h.l2], h.l3, h.d1, h.d2, h.d3, h.d4, h.cout, h.wout⟩
  · have := h.darts.set k (.int .i64 x) (by simp [h.l2]; exact hk)
    rw [← List.map_set] at this
    exact this
  · exact hO.sl h.counts (fun b o n c e => by
      have := h.cout b o n c e
      simp only [List.mem_cons, List.not_mem_nil, or_false, not_or] at this ⊢
      exact this.2.2.1)
  · exact hO.sl h.wins (fun b o n c e => by
      have := h.wout b o n c e
      simp only [List.mem_cons, List.not_mem_nil, or_false, not_or] at this ⊢
      exact this.2.2.1)
theorem LegW.setI {w : World} {V gl gd gi M cl cd ci nn : Nat} {vc vw : Value} {D : DataW Unit} {r : LegR} {g : LegG} (h : LegW w V gl gd gi M cl cd ci nn vc vw D r g) (k : Nat) (x : Bool) (hk : k < r.counts.length) : LegW (w.setCell ⟨gi, k, none⟩ (.bool x)) V gl gd gi M cl cd ci nn vc vw D r { g with inn := g.inn.set k x } := by
  have d1 := h.d1
  have d2 := h.d2
  have d3 := h.d3
  simp only [List.mem_cons, List.not_mem_nil, or_false, not_or] at d1 d2 d3
  have hO : Outs [gi] w (w.setCell ⟨gi, k, none⟩ (.bool x)) := Outs.set (by simp) _ _ _
  have hs : ∀ j, j ≠ gi → (w.setCell ⟨gi, k, none⟩ (.bool x)).heap[j]? = w.heap[j]? := fun j hj => Below.heap_setCell _ _ _ _ hj
  refine ⟨(hs V d1.2.2.1).trans h.blk, h.left.same (hs _ d2.2.1), h.darts.same (hs _ d3.1), ?_, ownsMap_same h.own (hs _ (Ne.symm h.d4)), h.rep, ?_, ?_, h.l1, h.l2, by simp [h.l3], h.d1, h.d2, h.d3, h.d4, h.cout, h.wout⟩
  · have := h.inn.set k (.bool x) (by simp [h.l3]; exact hk)
    rw [← List.map_set] at this
    exact this
  · exact hO.sl h.counts (fun b o n c e => by
      have := h.cout b o n c e
      simp only [List.mem_cons, List.not_mem_nil, or_false, not_or] at this ⊢
      exact this.2.2.2.1)
  · exact hO.sl h.wins (fun b o n c e => by
      have := h.wout b o n c e
      simp only [List.mem_cons, List.not_mem_nil, or_false, not_or] at this ⊢
      exact this.2.2.2.1)
theorem LegW.setM {w w' : World} {V gl gd gi M cl cd ci nn n' : Nat} {vc vw : Value} {D D' : DataW Unit} {r : LegR} {g : LegG} {es : List (Int × Int)} (h : LegW w V gl gd gi M cl cd ci nn vc vw D r g) (hg : w.grownBy w' (some M)) (hown : OwnM w' M n' D') (hrep : Rep D' es) : LegW w' V gl gd gi M cl cd ci n' vc vw D' r { g with ended := es } := by
  have d1 := h.d1
  have d2 := h.d2
  have d3 := h.d3
  simp only [List.mem_cons, List.not_mem_nil, or_false, not_or] at d1 d2 d3
  have hO : Outs [M] w w' := Outs.grown hg (by simp)
  have hs : ∀ j, j ≠ M → j < w.heap.size → w'.heap[j]? = w.heap[j]? := fun j hj hl => hO.block j (by simpa using hj) hl
  refine ⟨(hs V d1.2.2.2 (Array.getElem?_eq_some_iff.1 h.blk).1).trans h.blk, h.left.same (hs _ d2.2.2 h.left.lt), h.darts.same (hs _ d3.2 h.darts.lt), h.inn.same (hs _ h.d4 h.inn.lt), hown, hrep, ?_, ?_, h.l1, h.l2, h.l3, h.d1, h.d2, h.d3, h.d4, h.cout, h.wout⟩
  · exact hO.sl h.counts (fun b o n c e => by
      have := h.cout b o n c e
      simp only [List.mem_cons, List.not_mem_nil, or_false, not_or] at this ⊢
      exact this.2.2.2.2)
  · exact hO.sl h.wins (fun b o n c e => by
      have := h.wout b o n c e
      simp only [List.mem_cons, List.not_mem_nil, or_false, not_or] at this ⊢
      exact this.2.2.2.2)
end Go.Proofs.Ythcgbceapabikaa
