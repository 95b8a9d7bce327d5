/- A region that draws its order and whose operations, but for the last ones, which wait for all others, only read or call what makes memory: one walk of the first ones in the text's order, then the last ones. -/
import Derived.Test.YthcgbceapabikaaRg
set_option linter.unusedVariables false
set_option linter.unusedSimpArgs false
namespace Go.Proofs.Ythcgbceapabikaa
open Go.RowKit Go.Shelf

/-- What the law asks of the text: n the number of the first ones. -/
def tailB (fl n : Nat) (l : List Oper) : Bool :=
  Region.lexB .any (l.take n).toArray && decide (n ≤ l.length) &&
  ((List.range n).all fun i => match l[i]? with
    | none => false
    | some o => (o.after.all fun e => !Region.binds .any e || decide (e.on < i)) && (match o.guard with | none => true | some g => decide (g.1 < n))) &&
  ((List.range l.length).all fun i => decide (i < n) || (List.range n).all fun j => reach l.toArray fl i j)

/-- Which operations have come up: those of the first ones, and no other one. -/
def heads (L : Array Bool) (k : Nat) : Array Bool := (L.toList ++ List.replicate k false).toArray

theorem heads_lt {L : Array Bool} {k i : Nat} {d : Bool} (h : i < L.size) : (heads L k).getD i d = L.getD i d := by
  have h1 : i < L.toList.length := by simpa using h
  simp only [heads, Array.getD_eq_getD_getElem?, List.getElem?_toArray]
  rw [List.getElem?_append_left h1]
  simp
theorem heads_ge {L : Array Bool} {k i : Nat} (h : L.size ≤ i) : (heads L k).getD i false = false := by
  have h1 : L.toList.length ≤ i := by simpa using h
  simp only [heads, Array.getD_eq_getD_getElem?, List.getElem?_toArray]
  rw [List.getElem?_append_right h1, List.getElem?_replicate]
  split <;> rfl
theorem heads_set {L : Array Bool} {k i : Nat} (h : i < L.size) : (heads L k).setIfInBounds i true = heads (L.setIfInBounds i true) k := by
  have h1 : i < L.toList.length := by simpa using h
  simp only [heads, List.setIfInBounds_toArray, Array.toList_setIfInBounds]
  rw [List.set_append_left _ _ h1]
theorem heads_size (L : Array Bool) (k : Nat) : (heads L k).size = L.size + k := by simp [heads]

theorem wpAny_more {P : Program} {ops : Array Oper} {Q : Exit → Act → World → Prop} : ∀ (f : Nat) (L : Array Bool) (a : Act) (w : World), wpAny P .any ops Q f L a w → wpAny P .any ops Q (f + 1) L a w
  | 0, L, a, w, h => ⟨fun _ => h.2, fun i hi => by rw [h.1] at hi; cases hi⟩
  | f + 1, L, a, w, h => ⟨h.1, fun i hi => wpOp_mono (fun a' w' h' => wpAny_more f _ a' w' h') (h.2 i hi)⟩
theorem wpAny_most {P : Program} {ops : Array Oper} {Q : Exit → Act → World → Prop} (g : Nat) (L : Array Bool) (a : Act) (w : World) (h : wpAny P .any ops Q g L a w) : ∀ f, wpAny P .any ops Q (f + g) L a w
  | 0 => by rw [Nat.zero_add]; exact h
  | f + 1 => by rw [Nat.add_right_comm]; exact wpAny_more _ _ _ _ (wpAny_most g L a w h f)

theorem tail_aux {P : Program} {ops head : Array Oper} {Q : Exit → Act → World → Prop} {C : World → Prop} {fl n k : Nat} (hsz : ops.size = n + k) (hh : head.size = n) (hget : ∀ i, i < n → head[i]? = ops[i]?)
    (hb : ∀ i o, i < n → ops[i]? = some o → ∀ e ∈ o.after.toList, Region.binds .any e = true → e.on < i) (hg : ∀ i o g, i < n → ops[i]? = some o → o.guard = some g → g.1 < n)
    (ht : ∀ i, n ≤ i → i < n + k → ∀ j, j < n → reach ops fl i j = true) :
    ∀ (fuel : Nat) (L : Array Bool) (a : Act) (w : World), L.size = n → (∀ i o, ops[i]? = some o → (heads L k).getD i false = true → ∀ e ∈ o.after.toList, Region.binds .any e = true → (heads L k).getD e.on false = true) → C w →
      wpAnyQ P .any head C (fun a' => ∀ w', C w' → wpAny P .any ops Q k (heads (Array.replicate n true) k) a' w') fuel L a → wpAny P .any ops Q (fuel + k) (heads L k) a w := by
  -- which ones may come up
  have hready : ∀ (L : Array Bool), L.size = n → ∀ i, i < n → (i ∈ Region.ready .any ops (heads L k) ↔ i ∈ Region.ready .any head L) := by
    intro L hL i hi
    unfold Region.ready
    simp only [List.mem_filter, List.mem_range, hh, hsz, hget i hi, heads_lt (k := k) (d := true) (show i < L.size by omega)]
    have : i < n + k := by omega
    simp only [hi, this, true_and]
    cases ho : ops[i]? with
    | none => simp
    | some o =>
      have : (o.after.all fun e => !Region.binds .any e || (heads L k).getD e.on false) = (o.after.all fun e => !Region.binds .any e || L.getD e.on false) := by
        rw [Bool.eq_iff_iff, Array.all_eq_true', Array.all_eq_true']
        refine forall_congr' fun e => ?_
        refine imp_congr_right fun he => ?_
        cases hbd : Region.binds .any e with
        | false => simp
        | true =>
          have := hb i o hi ho e (by simpa using he) hbd
          rw [heads_lt (show e.on < L.size by omega)]
      simp only [Option.map_some, Option.getD_some, this]
  -- where none of the first ones may come up, all have
  have hall : ∀ (L : Array Bool), L.size = n → Region.ready .any head L = [] → L = Array.replicate n true := by
    intro L hL hr
    have key : ∀ m i, i < m → i < n → L.getD i true = true := by
      intro m
      induction m with
      | zero => intro i hi; omega
      | succ m ih =>
        intro i him hi
        by_cases hlt : i < m
        · exact ih i hlt hi
        · have him' : i = m := by omega
          cases hv : L.getD i true with
          | true => rfl
          | false =>
            exfalso
            have : i ∈ Region.ready .any head L := by
              unfold Region.ready
              rw [List.mem_filter, List.mem_range]
              refine ⟨by omega, ?_⟩
              obtain ⟨o, ho⟩ : ∃ o, ops[i]? = some o := ⟨_, Array.getElem?_eq_getElem (by omega)⟩
              rw [hv, hget i hi, ho]
              simp only [Bool.not_false, Bool.true_and, Option.map_some, Option.getD_some, Array.all_eq_true']
              intro e he
              cases hbd : Region.binds .any e with
              | false => simp
              | true =>
                have hlt' := hb i o hi ho e (by simpa using he) hbd
                have := ih e.on (by omega) (by omega)
                simp only [Array.getD_eq_getD_getElem?] at this ⊢
                rw [Array.getElem?_eq_getElem (by omega)] at this ⊢
                simpa using this
            rw [hr] at this; cases this
    apply Array.ext
    · simpa using hL
    · intro i h1 h2
      have := key (i + 1) i (by omega) (by omega)
      simp only [Array.getD_eq_getD_getElem?] at this
      rw [Array.getElem?_eq_getElem h1] at this
      simpa using this
  -- the last ones wait
  have hwait : ∀ (L : Array Bool), L.size = n → (∀ i o, ops[i]? = some o → (heads L k).getD i false = true → ∀ e ∈ o.after.toList, Region.binds .any e = true → (heads L k).getD e.on false = true) → Region.ready .any head L ≠ [] → ∀ i ∈ Region.ready .any ops (heads L k), i < n := by
    intro L hL hcl hne i hi
    by_cases hin : i < n
    · exact hin
    · exfalso
      obtain ⟨j, hj⟩ : ∃ j, j ∈ Region.ready .any head L := List.exists_mem_of_ne_nil _ hne
      unfold Region.ready at hi hj
      rw [List.mem_filter, List.mem_range, Bool.and_eq_true] at hi hj
      obtain ⟨i1, i2, i3⟩ := hi
      obtain ⟨j1, j2, _⟩ := hj
      obtain ⟨o, ho⟩ : ∃ o, ops[i]? = some o := ⟨_, Array.getElem?_eq_getElem i1⟩
      rw [ho] at i3
      simp only [Option.map_some, Option.getD_some, Array.all_eq_true'] at i3
      have hl := reach_listed hcl fl i j o ho (fun e he hbd => by have := i3 e (by simpa using he); rw [hbd] at this; simpa using this) (ht i (by omega) (by omega) j (by omega))
      rw [heads_lt (show j < L.size by omega)] at hl
      simp only [Array.getD_eq_getD_getElem?] at j2 hl
      rw [Array.getElem?_eq_getElem (show j < L.size by omega)] at j2 hl
      rw [Option.getD_some] at j2 hl
      rw [hl] at j2; cases j2
  have hopQ : ∀ i a w (K : Act → Prop) (K' : Act → World → Prop), i < n → C w → (∀ a w, C w → K a → K' a w) → qOp P head C i K a → wpOp P ops Q i K' a w := by
    intro i a w K K' hi hC hK hq
    obtain ⟨o, ho⟩ : ∃ o, ops[i]? = some o := ⟨_, Array.getElem?_eq_getElem (by omega)⟩
    have hwt : Region.wanted o (yielded head a.tmps) = Region.wanted o (yielded ops a.tmps) := by
      unfold Region.wanted
      cases hgd : o.guard with
      | none => rfl
      | some g =>
        have := hg i o g hi ho hgd
        obtain ⟨g1, g2⟩ := g
        simp only [yielded, hget g1 this]
    refine wpOp_of_qOp (ops := ops) hC hK ?_
    unfold qOp at hq ⊢
    rw [hget i hi] at hq
    rw [ho] at hq ⊢
    simp only [hwt] at hq
    exact hq
  intro fuel
  induction fuel with
  | zero =>
    intro L a w hL _ hC h
    rw [Nat.zero_add]
    rw [hall L hL h.1]
    exact h.2 w hC
  | succ fuel ih =>
    intro L a w hL hcl hC h
    by_cases hr : Region.ready .any head L = []
    · have := h.1 hr w hC
      rw [← hall L hL hr] at this
      exact wpAny_most _ _ _ _ this (fuel + 1)
    · rw [Nat.add_right_comm]
      have hw := hwait L hL hcl hr
      refine ⟨fun h0 => ?_, fun i hi => ?_⟩
      · exfalso
        obtain ⟨j, hj⟩ : ∃ j, j ∈ Region.ready .any head L := List.exists_mem_of_ne_nil _ hr
        have hjn : j < n := by
          have := hj
          unfold Region.ready at this
          rw [List.mem_filter, List.mem_range] at this
          omega
        have := (hready L hL j hjn).2 hj
        rw [h0] at this; cases this
      · have hin := hw i hi
        have hi' := (hready L hL i hin).1 hi
        refine hopQ i a w _ _ hin hC (fun a' w' hC' hK => ?_) (h.2 i hi')
        rw [heads_set (by omega)]
        refine ih (L.setIfInBounds i true) a' w' (by simpa using hL) (fun j o hj hlj e he hbd => ?_) hC' hK
        rw [← heads_set (by omega)] at hlj ⊢
        have mono : ∀ q, (heads L k).getD q false = true → ((heads L k).setIfInBounds i true).getD q false = true := by
          intro q hq
          by_cases hqi : q = i
          · subst hqi; exact getD_set_self _ _ _ (by rw [heads_size]; omega)
          · rw [getD_set_ne _ _ _ _ hqi]; exact hq
        by_cases hji : j = i
        · subst hji
          unfold Region.ready at hi
          rw [List.mem_filter, Bool.and_eq_true] at hi
          have h3 := hi.2.2
          rw [hj] at h3
          simp only [Option.map_some, Option.getD_some, Array.all_eq_true'] at h3
          have := h3 e (by simpa using he)
          rw [hbd] at this
          exact mono _ (by simpa using this)
        · rw [getD_set_ne _ _ _ _ hji] at hlj
          exact mono _ (hcl j o hj hlj e he hbd)

/-- The law: n how many come first. -/
theorem region_tail {P : Program} {id : Nat} {Q : Exit → Act → World → Prop} {a : Act} {w : World} {l : List Oper} (n : Nat) (C : World → Prop) (fl : Nat) (hm : P.follows .mixedOrders = true) (hB : tailB fl n l = true) (hC : C w.drew)
    (h : wpQuiet P (l.take n).toArray C (fun a' => ∀ w', C w' → wpAny P .any l.toArray Q (l.length - n) (heads (Array.replicate n true) (l.length - n)) a' w') (l.take n) a) : (Code.region id l.toArray true).wp P Q a w := by
  unfold tailB at hB
  simp only [Bool.and_eq_true, decide_eq_true_eq, List.all_eq_true, List.mem_range, Bool.or_eq_true, Bool.not_eq_true'] at hB
  obtain ⟨⟨⟨h1, h2⟩, h3⟩, h4⟩ := hB
  refine wp_region_any hm ?_
  have hlen : (l.take n).length = n := by simp; omega
  simp only [Region.lexB, Bool.and_eq_true] at h1
  have hq := wpAnyQ_lex (C := C) (md := .any) h1.1 (l.take n) 0 (Array.replicate (l.take n).toArray.size false) a (by simp) (by simpa using h1.2) h
  have := tail_aux (P := P) (ops := l.toArray) (head := (l.take n).toArray) (Q := Q) (C := C) (fl := fl) (n := n) (k := l.length - n) (by simp; omega) (by simpa using hlen)
    (fun i hi => by simp only [List.getElem?_toArray]; rw [List.getElem?_take_of_lt hi])
    (fun i o hi ho e he hbd => by
      have := h3 i hi
      rw [show l[i]? = some o by simpa using ho] at this
      simp only [Bool.and_eq_true, Array.all_eq_true'] at this
      have := this.1 e (by simpa using he)
      rw [hbd] at this; simpa using this)
    (fun i o g hi ho hg => by
      have := h3 i hi
      rw [show l[i]? = some o by simpa using ho] at this
      simp only [Bool.and_eq_true, hg, decide_eq_true_eq] at this
      exact this.2)
    (fun i hi hi2 j hj => by
      have := h4 i (by omega)
      rcases this with h | h
      · omega
      · exact h j hj)
    (l.take n).length (Array.replicate n false) a { w with drawn := w.drawn + 1 } (by simp)
    (fun i o _ hl => by
      by_cases hin : i < n
      · rw [heads_lt (by simpa using hin)] at hl
        simp [Array.getD_eq_getD_getElem?, hin] at hl
      · rw [heads_ge (by simp; omega)] at hl; cases hl)
    hC (by simpa [hlen] using hq)
  have e1 : heads (Array.replicate n false) (l.length - n) = Array.replicate l.toArray.size false := by
    apply Array.ext'
    simp only [heads, Array.toList_replicate, List.size_toArray, List.replicate_append_replicate]
    rw [show n + (l.length - n) = l.length by omega]
  rw [e1, hlen, show n + (l.length - n) = l.toArray.size by simp; omega] at this
  exact this
end Go.Proofs.Ythcgbceapabikaa
