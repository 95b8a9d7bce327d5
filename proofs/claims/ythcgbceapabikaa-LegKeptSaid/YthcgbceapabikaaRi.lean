/- As Rg; each operation is told, too, that what has come up has come up with all that it waits for. -/
import Derived.Test.YthcgbceapabikaaRg
set_option linter.unusedVariables false
set_option linter.unusedSimpArgs false
namespace Go.Proofs.Ythcgbceapabikaa
open Go.RowKit Go.Shelf

/-- The edges are as the rule asks: an operation of the first kind waits for such ones before it alone, one of the second kind for all of the first kind; each of the first kind has a slot of its own. -/
def layableC (A : Nat → Bool) (n : Nat) (ops : Array Oper) (fl : Nat := 3) : Bool :=
  (List.range ops.size).all fun i => match ops[i]? with
    | none => false
    | some o =>
      if A i then (o.after.all fun e => !Region.binds .any e || (A e.on && decide (e.on < i))) && (match o.dst with
        | none => false
        | some t => decide (t < n) && (List.range ops.size).all fun j => decide (j = i) || (match ops[j]? with | none => true | some o' => !decide (o'.dst = some t)))
      else (List.range ops.size).all fun j => !A j || reach ops fl i j

theorem wpAny_laidC {P : Program} {ops : Array Oper} {Q : Exit → Act → World → Prop} (A : Nat → Bool) (a0 : Act) (D : Nat → Value → World → Prop) (C : World → Prop) {fl : Nat} (hok : layableC A a0.tmps.size ops fl = true) (nB : Nat)
    (hD : ∀ i x w w', Below w.heap.size w w' → D i x w → D i x w')
    (hstep : ∀ i o listed a w, A i = true → ops[i]? = some o → Laid ops a0 D C listed a w → (∀ e ∈ o.after.toList, Region.binds .any e = true → listed.getD e.on false = true) → (∀ k o, ops[k]? = some o → listed.getD k false = true → ∀ e ∈ o.after.toList, Region.binds .any e = true → listed.getD e.on false = true) → listed.getD i true = false → listed.size = ops.size →
      wpOp P ops Q i (fun a' w' => ∃ x, a' = a.put o.dst x ∧ Below w.heap.size w w' ∧ C w' ∧ D i x w') a w)
    (hrest : ∀ listed a w, listed.size = ops.size → (∀ i, i < ops.size → listed.getD i false = A i) → Laid ops a0 D C listed a w → wpAny P .any ops Q nB listed a w) :
    ∀ (k : Nat) (l : List Nat) (listed : Array Bool) (a : Act) (w : World), l.length = k → l.Nodup → (∀ i, i ∈ l ↔ i < ops.size ∧ A i = true ∧ listed.getD i true = false) → listed.size = ops.size → (∀ i, listed.getD i false = true → A i = true) → (∀ k o, ops[k]? = some o → listed.getD k false = true → ∀ e ∈ o.after.toList, Region.binds .any e = true → listed.getD e.on false = true) →
      Laid ops a0 D C listed a w → wpAny P .any ops Q (k + nB) listed a w := by
  intro k
  induction k with
  | zero =>
    intro l listed a w hk _ hl hsz hA hcl hL
    rw [Nat.zero_add]
    refine hrest listed a w hsz (fun i hi => ?_) hL
    have hnl : l = [] := List.eq_nil_of_length_eq_zero hk
    cases h : A i with
    | true =>
      cases h2 : listed.getD i true with
      | true => simp only [Array.getD_eq_getD_getElem?] at h2 ⊢; rw [Array.getElem?_eq_getElem (by omega)] at h2 ⊢; simpa using h2
      | false => have := (hl i).2 ⟨hi, h, h2⟩; rw [hnl] at this; cases this
    | false =>
      cases h2 : listed.getD i false with
      | true => rw [hA i h2] at h; cases h
      | false => rfl
  | succ k ih =>
    intro l listed a w hk hnd hl hsz hA hcl hL
    rw [Nat.add_right_comm]
    have key : ∀ i o, ops[i]? = some o → (if A i then (o.after.all fun e => !Region.binds .any e || (A e.on && decide (e.on < i))) && (match o.dst with
        | none => false
        | some t => decide (t < a0.tmps.size) && (List.range ops.size).all fun j => decide (j = i) || (match ops[j]? with | none => true | some o' => !decide (o'.dst = some t)))
      else (List.range ops.size).all fun j => !A j || reach ops fl i j) = true := by
      intro i o ho
      unfold layableC at hok
      rw [List.all_eq_true] at hok
      have := hok i (List.mem_range.2 (Array.getElem?_eq_some_iff.1 ho).1)
      simpa only [ho] using this
    have hne : l ≠ [] := by intro e; rw [e] at hk; cases hk
    -- the first one that is not listed may come up
    have hready : Region.ready .any ops listed ≠ [] := by
      obtain ⟨m, hm, hmin⟩ : ∃ m, m ∈ l ∧ ∀ j ∈ l, m ≤ j := by
        have : ∀ (q : List Nat), q ≠ [] → ∃ m, m ∈ q ∧ ∀ j ∈ q, m ≤ j := by
          intro q
          induction q with
          | nil => intro h; exact absurd rfl h
          | cons x xs ihx =>
            intro _
            by_cases hx : xs = []
            · subst hx; exact ⟨x, by simp, by simp⟩
            · obtain ⟨m, hm, hmm⟩ := ihx hx
              by_cases hc : x ≤ m
              · exact ⟨x, by simp, fun j hj => by
                  rcases List.mem_cons.1 hj with rfl | hj
                  · exact Nat.le_refl _
                  · exact Nat.le_trans hc (hmm j hj)⟩
              · exact ⟨m, List.mem_cons_of_mem _ hm, fun j hj => by
                  rcases List.mem_cons.1 hj with rfl | hj
                  · omega
                  · exact hmm j hj⟩
        exact this l hne
      obtain ⟨h1, h2, h3⟩ := (hl m).1 hm
      obtain ⟨o, ho⟩ : ∃ o, ops[m]? = some o := ⟨_, Array.getElem?_eq_getElem h1⟩
      have hk2 := key m o ho
      rw [if_pos h2, Bool.and_eq_true, Array.all_eq_true'] at hk2
      intro e
      have hin : m ∈ Region.ready .any ops listed := by
        unfold Region.ready
        rw [List.mem_filter, List.mem_range]
        refine ⟨h1, ?_⟩
        rw [h3, ho]
        simp only [Bool.not_false, Bool.true_and, Option.map_some, Option.getD_some, Array.all_eq_true']
        intro x hx
        have h4 := hk2.1 x hx
        cases hb : Region.binds .any x with
        | false => simp
        | true =>
          rw [hb] at h4
          simp only [Bool.not_true, Bool.false_or, Bool.and_eq_true, decide_eq_true_eq] at h4 ⊢
          have hxl : x.on ∉ l := fun hx' => by have := hmin _ hx'; omega
          cases h5 : listed.getD x.on true with
          | true => simp only [Array.getD_eq_getD_getElem?] at h5 ⊢; rw [Array.getElem?_eq_getElem (by omega)] at h5 ⊢; simpa using h5
          | false => exact absurd ((hl x.on).2 ⟨by omega, h4.1, h5⟩) hxl
      rw [e] at hin; cases hin
    refine ⟨fun h => absurd h hready, fun i hi => ?_⟩
    unfold Region.ready at hi
    rw [List.mem_filter, List.mem_range, Bool.and_eq_true] at hi
    obtain ⟨h1, h2, h3⟩ := hi
    obtain ⟨o, ho⟩ : ∃ o, ops[i]? = some o := ⟨_, Array.getElem?_eq_getElem h1⟩
    rw [ho] at h3
    simp only [Option.map_some, Option.getD_some, Array.all_eq_true'] at h3
    have hedge : ∀ e ∈ o.after.toList, Region.binds .any e = true → listed.getD e.on false = true := by
      intro e he hb
      have := h3 e (by simpa using he)
      rw [hb] at this; simpa using this
    have hk2 := key i o ho
    by_cases hAi : A i = true
    · rw [if_pos hAi, Bool.and_eq_true] at hk2
      obtain ⟨t, ht⟩ : ∃ t, o.dst = some t := by
        cases hd : o.dst with
        | none => rw [hd] at hk2; exact absurd hk2.2 (by simp)
        | some t => exact ⟨t, rfl⟩
      have hk3 := hk2.2
      rw [ht] at hk3
      simp only [Bool.and_eq_true, decide_eq_true_eq, List.all_eq_true, List.mem_range] at hk3
      have huniq : ∀ j o', ops[j]? = some o' → j ≠ i → o'.dst ≠ some t := by
        intro j o' hj hji
        have := hk3.2 j (Array.getElem?_eq_some_iff.1 hj).1
        rw [hj] at this
        simpa [hji] using this
      refine wpOp_mono ?_ (hstep i o listed a w hAi ho hL hedge hcl (by simpa using h2) hsz)
      rintro a' w' ⟨x, rfl, hB, hC, hDx⟩
      have hli : listed.getD i true = false := by simpa using h2
      have hput : a.put o.dst x = { a with tmps := a.tmps.setIfInBounds t x } := by rw [ht]; rfl
      have hil : i ∈ l := (hl i).2 ⟨h1, hAi, hli⟩
      refine ih (l.erase i) (listed.setIfInBounds i true) _ w' (by rw [List.length_erase_of_mem hil, hk]; rfl) (hnd.erase i) (fun j => ?_) (by simpa using hsz) (fun j hj => ?_) (fun j o' hj hlj e he hb => ?_) ⟨hC, ?_, ?_, ?_, ?_⟩
      · rw [hnd.mem_erase_iff, hl]
        by_cases hj : j = i
        · subst hj; simp [getD_set_self _ _ _ (show j < listed.size by omega)]
        · simp [hj, getD_set_ne _ _ _ _ hj]
      · by_cases hj2 : j = i
        · subst hj2; exact hAi
        · rw [getD_set_ne _ _ _ _ hj2] at hj; exact hA j hj
      · have mono : ∀ q, listed.getD q false = true → (listed.setIfInBounds i true).getD q false = true := by
          intro q hq
          by_cases hqi : q = i
          · subst hqi; exact getD_set_self _ _ _ (by omega)
          · rw [getD_set_ne _ _ _ _ hqi]; exact hq
        by_cases hj2 : j = i
        · subst hj2
          rw [ho] at hj; cases hj
          exact mono _ (hedge e he hb)
        · rw [getD_set_ne _ _ _ _ hj2] at hlj
          exact mono _ (hcl j o' hj hlj e he hb)
      · rw [hput]; exact hL.defers
      · rw [hput]; simpa using hL.size
      · intro t' h'
        have hne' : t' ≠ t := by
          intro e; subst e
          have := h' i o ho ht
          rw [getD_set_self _ _ _ (by omega)] at this; cases this
        rw [hput, getDV_set_ne _ _ _ _ _ hne']
        refine hL.old t' fun j o' hj hd => ?_
        have h5 := h' j o' hj hd
        by_cases hj2 : j = i
        · subst hj2; exact hli
        · rwa [getD_set_ne _ _ _ _ hj2] at h5
      · intro j o' t' hj hlj hd
        rw [hput]
        by_cases hj2 : j = i
        · subst hj2
          rw [ho] at hj; cases hj
          rw [ht] at hd; cases hd
          rw [getDV_set_self _ _ _ _ (by rw [hL.size]; exact hk3.1)]; exact hDx
        · have hne' : t' ≠ t := fun e => huniq j o' hj hj2 (by rw [hd, e])
          rw [getDV_set_ne _ _ _ _ _ hne']
          rw [getD_set_ne _ _ _ _ hj2] at hlj
          exact hD _ _ _ _ hB (hL.new j o' t' hj hlj hd)
    · exfalso
      rw [if_neg hAi, List.all_eq_true] at hk2
      obtain ⟨m, hm⟩ : ∃ m, m ∈ l := List.exists_mem_of_ne_nil l hne
      obtain ⟨g1, g2, g3⟩ := (hl m).1 hm
      have h4 := hk2 m (List.mem_range.2 g1)
      rw [g2] at h4
      simp only [Bool.not_true, Bool.false_or] at h4
      have h5 := reach_listed hcl fl i m o ho hedge h4
      simp only [Array.getD_eq_getD_getElem?] at h5 g3
      rw [Array.getElem?_eq_getElem (show m < listed.size by omega)] at h5 g3
      rw [Option.getD_some] at h5 g3
      rw [h5] at g3; cases g3

/-- The rule at a region: A the operations that only make memory, nB how many others there are. -/
theorem region_laidC {P : Program} {id : Nat} {Q : Exit → Act → World → Prop} {a0 : Act} {w : World} {l : List Oper} (LA : List Bool) (nB : Nat) (D : Nat → Value → World → Prop) (C : World → Prop) (hm : P.follows .mixedOrders = true)
    (hlen : LA.length = l.length) {fl : Nat} (hok : layableC (fun i => LA.getD i false) a0.tmps.size l.toArray fl = true) (hnB : (LA.filter _root_.id).length + nB = l.length) (hC : C w.drew)
    (hD : ∀ i x w w', Below w.heap.size w w' → D i x w → D i x w')
    (hstep : ∀ i o listed a w, LA.getD i false = true → l[i]? = some o → Laid l.toArray a0 D C listed a w → (∀ e ∈ o.after.toList, Region.binds .any e = true → listed.getD e.on false = true) → (∀ k o, l[k]? = some o → listed.getD k false = true → ∀ e ∈ o.after.toList, Region.binds .any e = true → listed.getD e.on false = true) → listed.getD i true = false → listed.size = l.length →
      wpOp P l.toArray Q i (fun a' w' => ∃ x, a' = a.put o.dst x ∧ Below w.heap.size w w' ∧ C w' ∧ D i x w') a w)
    (hrest : ∀ a w, Laid l.toArray a0 D C LA.toArray a w → wpAny P .any l.toArray Q nB LA.toArray a w) : (Code.region id l.toArray true).wp P Q a0 w := by
  refine wp_region_any hm ?_
  have hk : ((List.range l.length).filter fun i => LA.getD i false).length = (LA.filter _root_.id).length := by
    rw [← hlen]
    clear hok hnB hstep hrest hlen
    induction LA with
    | nil => rfl
    | cons b bs ih =>
      rw [List.length_cons, List.range_succ_eq_map, List.filter_cons, List.filter_map, List.filter_cons]
      simp only [List.getD_cons_zero, Function.comp_def, List.getD_cons_succ, List.length_map, _root_.id]
      simp only [List.getD_eq_getElem?_getD] at ih
      cases b <;> simp [ih]
  have h := wpAny_laidC (P := P) (ops := l.toArray) (Q := Q) (fun i => LA.getD i false) a0 D C hok nB hD (fun i o listed a w hA ho hL he hc h1 h2 => hstep i o listed a w hA (by simpa using ho) hL he (fun k o hk => hc k o (by simpa using hk)) h1 (by simpa using h2)) (fun listed a w hsz hl hL => by
      have : listed = LA.toArray := by
        apply Array.ext
        · simpa [hlen] using hsz
        · intro i h1 h2
          have := hl i (by omega)
          simp only [Array.getD_eq_getD_getElem?, Array.getElem?_eq_getElem h1, Option.getD_some, List.getD_eq_getElem?_getD] at this
          rw [this]
          have h3 : i < LA.length := by simpa using h2
          simp [List.getElem?_eq_getElem h3]
      subst this
      exact hrest a w hL) ((LA.filter _root_.id).length) ((List.range l.length).filter fun i => LA.getD i false) (Array.replicate l.toArray.size false) a0 { w with drawn := w.drawn + 1 } hk
      (List.nodup_range.filter _) (fun i => by
        simp only [List.mem_filter, List.mem_range, Array.getD_eq_getD_getElem?]
        constructor
        · rintro ⟨h1, h2⟩
          exact ⟨by simpa using h1, h2, by simp [h1]⟩
        · rintro ⟨h1, h2, _⟩
          exact ⟨by simpa using h1, h2⟩) (by simp) (fun i h => by
        simp only [Array.getD_eq_getD_getElem?, Array.getElem?_replicate] at h
        split at h <;> simp at h) (fun k o _ h => by
        simp only [Array.getD_eq_getD_getElem?, Array.getElem?_replicate] at h
        split at h <;> simp at h)
      ⟨hC, rfl, rfl, fun _ _ => rfl, fun i o t _ h _ => by
        simp only [Array.getD_eq_getD_getElem?, Array.getElem?_replicate] at h
        split at h <;> simp at h⟩
  have hnB' : (LA.filter _root_.id).length + nB = l.toArray.size := by simpa using hnB
  rw [hnB'] at h
  exact h


/-- A slot into which one operation writes that waits for this one. -/
theorem Laid.kept3 {l : List Oper} {a0 : Act} {D : Nat → Value → World → Prop} {C : World → Prop} {listed : Array Bool} {a : Act} {w : World} (h : Laid l.toArray a0 D C listed a w)
    (hcl : ∀ k o, l[k]? = some o → listed.getD k false = true → ∀ e ∈ o.after.toList, Region.binds .any e = true → listed.getD e.on false = true) (hsz : listed.size = l.length) (t i j f : Nat) (hli : listed.getD i true = false)
    (hc : (l.zipIdx.all fun p => !decide (p.1.dst = some t) || decide (p.2 = j)) = true) (hr : reach l.toArray f j i = true) : a.tmps.getD t undef = a0.tmps.getD t undef := by
  refine h.old t fun q o ho hd => ?_
  rw [List.all_eq_true] at hc
  have hq : l[q]? = some o := by simpa using ho
  have := hc (o, q) (List.mem_zipIdx_iff_getElem?.2 hq)
  have hqj : q = j := by simpa [hd] using this
  subst hqj
  cases hx : listed.getD q true with
  | false => rfl
  | true =>
    have hsi : i < listed.size := by
      rcases Nat.lt_or_ge i listed.size with h1 | h1
      · exact h1
      · rw [Array.getD_eq_getD_getElem?, Array.getElem?_eq_none h1] at hli; cases hli
    by_cases hqs : q < listed.size
    · have hx2 : listed.getD q false = true := by
        rw [Array.getD_eq_getD_getElem?, Array.getElem?_eq_getElem hqs] at hx ⊢; exact hx
      have h3 := reach_listed (ops := l.toArray) (listed := listed) (fun k o hk => hcl k o (by simpa using hk)) f q i o ho (hcl q o hq hx2) hr
      rw [Array.getD_eq_getD_getElem?, Array.getElem?_eq_getElem hsi] at h3 hli
      simp at h3 hli
      rw [h3] at hli; cases hli
    · exact absurd (by rw [hsz]; exact (List.getElem?_eq_some_iff.1 hq).1) hqs
end Go.Proofs.Ythcgbceapabikaa
