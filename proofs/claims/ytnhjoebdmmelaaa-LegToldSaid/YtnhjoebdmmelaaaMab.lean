/- Leg: parts Rg, Rt, D, E. -/
import Derived.Deep.RegionLawGrows
import Derived.Lib.SmallJoins
import Derived.Test.YtnhjoebdmmelaaaMaa
set_option linter.unusedVariables false
set_option linter.unusedSimpArgs false
namespace Go.Proofs.Ytnhjoebdmmelaaa
section
open Go.RowKit Go.Shelf
structure Laid (ops : Array Oper) (a0 : Act) (D : Nat → Value → World → Prop) (C : World → Prop) (listed : Array Bool) (a : Act) (w : World) : Prop where
 cls : C w
 defers : a.defers = a0.defers
 size : a.tmps.size = a0.tmps.size
 old : ∀ t, (∀ i o, ops[i]? = some o → o.dst = some t → listed.getD i true = false) → a.tmps.getD t undef = a0.tmps.getD t undef
 new : ∀ i o t, ops[i]? = some o → listed.getD i false = true → o.dst = some t → D i (a.tmps.getD t undef) w
def reach (ops : Array Oper) : Nat → Nat → Nat → Bool
 | 0, _, _ => false
 | f + 1, i, j => match ops[i]? with
  | none => false
  | some o => o.after.any fun e => Region.binds .any e && (decide (e.on = j) || reach ops f e.on j)
theorem reach_listed {ops : Array Oper} {listed : Array Bool} (hc : ∀ k o, ops[k]? = some o → listed.getD k false = true → ∀ e ∈ o.after.toList, Region.binds .any e = true → listed.getD e.on false = true) :
  ∀ (f i j : Nat) (o : Oper), ops[i]? = some o → (∀ e ∈ o.after.toList, Region.binds .any e = true → listed.getD e.on false = true) → reach ops f i j = true → listed.getD j false = true := by
 intro f
 induction f with
 | zero => intro i j o _ _ h; simp [reach] at h
 | succ f ih =>
  intro i j o ho he h
  simp only [reach, ho, Array.any_eq_true', Bool.and_eq_true, Bool.or_eq_true, decide_eq_true_eq] at h
  obtain ⟨e, hm, hb, h⟩ := h
  have hl := he e (by simpa using hm) hb
  rcases h with rfl | h
  ·exact hl
  ·cases ho' : ops[e.on]? with
   | none =>
    cases f with
    | zero => simp [reach] at h
    | succ f => simp [reach, ho'] at h
   | some o' => exact ih e.on j o' ho' (hc e.on o' ho' hl) h
def layable (A : Nat → Bool) (n : Nat) (ops : Array Oper) (fl : Nat := 3) : Bool :=
 (List.range ops.size).all fun i => match ops[i]? with
  | none => false
  | some o =>
   if A i then (o.after.all fun e => !Region.binds .any e || (A e.on && decide (e.on < i))) && (match o.dst with
    | none => false
    | some t => decide (t < n) && (List.range ops.size).all fun j => decide (j = i) || (match ops[j]? with | none => true | some o' => !decide (o'.dst = some t)))
   else (List.range ops.size).all fun j => !A j || reach ops fl i j
theorem getD_set_self (l : Array Bool) (i : Nat) (d : Bool) (h : i < l.size) : (l.setIfInBounds i true).getD i d = true := by
 simp [Array.getD_eq_getD_getElem?, h]
theorem getD_set_ne (l : Array Bool) (i j : Nat) (d : Bool) (h : j ≠ i) : (l.setIfInBounds i true).getD j d = l.getD j d := by
 simp [Array.getD_eq_getD_getElem?, Array.getElem?_setIfInBounds, Ne.symm h]
theorem getDV_set_self (l : Array Value) (i : Nat) (v d : Value) (h : i < l.size) : (l.setIfInBounds i v).getD i d = v := by
 simp [Array.getD_eq_getD_getElem?, h]
theorem getDV_set_ne (l : Array Value) (i j : Nat) (v d : Value) (h : j ≠ i) : (l.setIfInBounds i v).getD j d = l.getD j d := by
 simp [Array.getD_eq_getD_getElem?, Array.getElem?_setIfInBounds, Ne.symm h]
theorem wpAny_laid {P : Program} {ops : Array Oper} {Q : Exit → Act → World → Prop} (A : Nat → Bool) (a0 : Act) (D : Nat → Value → World → Prop) (C : World → Prop) {fl : Nat} (hok : layable A a0.tmps.size ops fl = true) (nB : Nat)
  (hD : ∀ i x w w', Below w.heap.size w w' → D i x w → D i x w')
  (hstep : ∀ i o listed a w, A i = true → ops[i]? = some o → Laid ops a0 D C listed a w → (∀ e ∈ o.after.toList, Region.binds .any e = true → listed.getD e.on false = true) →
   wpOp P ops Q i (fun a' w' => ∃ x, a' = a.put o.dst x ∧ Below w.heap.size w w' ∧ C w' ∧ D i x w') a w)
  (hrest : ∀ listed a w, listed.size = ops.size → (∀ i, i < ops.size → listed.getD i false = A i) → Laid ops a0 D C listed a w → wpAny P .any ops Q nB listed a w) :
  ∀ (k : Nat) (l : List Nat) (listed : Array Bool) (a : Act) (w : World), l.length = k → l.Nodup → (∀ i, i ∈ l ↔ i < ops.size ∧ A i = true ∧ listed.getD i true = false) → listed.size = ops.size → (∀ i, listed.getD i false = true → A i = true) → (∀ k o, ops[k]? = some o → listed.getD k false = true → ∀ e ∈ o.after.toList, Region.binds .any e = true → listed.getD e.on false = true) →
   Laid ops a0 D C listed a w → wpAny P .any ops Q (k + nB) listed a w := by
 intro k
 induction k with
 | zero =>
  intro l listed a w hk _ hl hsz hA hcl hL
  rw [Nat.zero_add]
  refine hrest listed a w hsz (fun i hi => ?_) hL
  have hnl : l = [] := List.eq_nil_of_length_eq_zero hk
  cases h : A i with
  | true =>
   cases h2 : listed.getD i true with
   | true => simp only [Array.getD_eq_getD_getElem?] at h2 ⊢; rw [Array.getElem?_eq_getElem (by omega)] at h2 ⊢; simpa using h2
   | false => have := (hl i).2 ⟨hi, h, h2⟩; rw [hnl] at this; cases this
  | false =>
   cases h2 : listed.getD i false with
   | true => rw [hA i h2] at h; cases h
   | false => rfl
 | succ k ih =>
  intro l listed a w hk hnd hl hsz hA hcl hL
  rw [Nat.add_right_comm]
  have key : ∀ i o, ops[i]? = some o → (if A i then (o.after.all fun e => !Region.binds .any e || (A e.on && decide (e.on < i))) && (match o.dst with
    | none => false
    | some t => decide (t < a0.tmps.size) && (List.range ops.size).all fun j => decide (j = i) || (match ops[j]? with | none => true | some o' => !decide (o'.dst = some t)))
   else (List.range ops.size).all fun j => !A j || reach ops fl i j) = true := by
   intro i o ho
   unfold layable at hok
   rw [List.all_eq_true] at hok
   have := hok i (List.mem_range.2 (Array.getElem?_eq_some_iff.1 ho).1)
   simpa only [ho] using this
  have hne : l ≠ [] := by intro e; rw [e] at hk; cases hk
  have hready : Region.ready .any ops listed ≠ [] := by
   obtain ⟨m, hm, hmin⟩ : ∃ m, m ∈ l ∧ ∀ j ∈ l, m ≤ j := by
    have : ∀ (q : List Nat), q ≠ [] → ∃ m, m ∈ q ∧ ∀ j ∈ q, m ≤ j := by
     intro q
     induction q with
     | nil => intro h; exact absurd rfl h
     | cons x xs ihx =>
      intro _
      by_cases hx : xs = []
      ·subst hx; exact ⟨x, by simp, by simp⟩
      ·obtain ⟨m, hm, hmm⟩ := ihx hx
       by_cases hc : x ≤ m
       ·exact ⟨x, by simp, fun j hj => by
         rcases List.mem_cons.1 hj with rfl | hj
         ·exact Nat.le_refl _
         ·exact Nat.le_trans hc (hmm j hj)⟩
       ·exact ⟨m, List.mem_cons_of_mem _ hm, fun j hj => by
         rcases List.mem_cons.1 hj with rfl | hj
         ·omega
         ·exact hmm j hj⟩
    exact this l hne
   obtain ⟨h1, h2, h3⟩ := (hl m).1 hm
   obtain ⟨o, ho⟩ : ∃ o, ops[m]? = some o := ⟨_, Array.getElem?_eq_getElem h1⟩
   have hk2 := key m o ho
   rw [if_pos h2, Bool.and_eq_true, Array.all_eq_true'] at hk2
   intro e
   have hin : m ∈ Region.ready .any ops listed := by
    unfold Region.ready
    rw [List.mem_filter, List.mem_range]
    refine ⟨h1, ?_⟩
    rw [h3, ho]
    simp only [Bool.not_false, Bool.true_and, Option.map_some, Option.getD_some, Array.all_eq_true']
    intro x hx
    have h4 := hk2.1 x hx
    cases hb : Region.binds .any x with
    | false => simp
    | true =>
     rw [hb] at h4
     simp only [Bool.not_true, Bool.false_or, Bool.and_eq_true, decide_eq_true_eq] at h4 ⊢
     have hxl : x.on ∉ l := fun hx' => by have := hmin _ hx'; omega
     cases h5 : listed.getD x.on true with
     | true => simp only [Array.getD_eq_getD_getElem?] at h5 ⊢; rw [Array.getElem?_eq_getElem (by omega)] at h5 ⊢; simpa using h5
     | false => exact absurd ((hl x.on).2 ⟨by omega, h4.1, h5⟩) hxl
   rw [e] at hin; cases hin
  refine ⟨fun h => absurd h hready, fun i hi => ?_⟩
  unfold Region.ready at hi
  rw [List.mem_filter, List.mem_range, Bool.and_eq_true] at hi
  obtain ⟨h1, h2, h3⟩ := hi
  obtain ⟨o, ho⟩ : ∃ o, ops[i]? = some o := ⟨_, Array.getElem?_eq_getElem h1⟩
  rw [ho] at h3
  simp only [Option.map_some, Option.getD_some, Array.all_eq_true'] at h3
  have hedge : ∀ e ∈ o.after.toList, Region.binds .any e = true → listed.getD e.on false = true := by
   intro e he hb
   have := h3 e (by simpa using he)
   rw [hb] at this; simpa using this
  have hk2 := key i o ho
  by_cases hAi : A i = true
  ·rw [if_pos hAi, Bool.and_eq_true] at hk2
   obtain ⟨t, ht⟩ : ∃ t, o.dst = some t := by
    cases hd : o.dst with
    | none => rw [hd] at hk2; exact absurd hk2.2 (by simp)
    | some t => exact ⟨t, rfl⟩
   have hk3 := hk2.2
   rw [ht] at hk3
   simp only [Bool.and_eq_true, decide_eq_true_eq, List.all_eq_true, List.mem_range] at hk3
   have huniq : ∀ j o', ops[j]? = some o' → j ≠ i → o'.dst ≠ some t := by
    intro j o' hj hji
    have := hk3.2 j (Array.getElem?_eq_some_iff.1 hj).1
    rw [hj] at this
    simpa [hji] using this
   refine wpOp_mono ?_ (hstep i o listed a w hAi ho hL hedge)
   rintro a' w' ⟨x, rfl, hB, hC, hDx⟩
   have hli : listed.getD i true = false := by simpa using h2
   have hput : a.put o.dst x = { a with tmps := a.tmps.setIfInBounds t x } := by rw [ht]; rfl
   have hil : i ∈ l := (hl i).2 ⟨h1, hAi, hli⟩
   refine ih (l.erase i) (listed.setIfInBounds i true) _ w' (by rw [List.length_erase_of_mem hil, hk]; rfl) (hnd.erase i) (fun j => ?_) (by simpa using hsz) (fun j hj => ?_) (fun j o' hj hlj e he hb => ?_) ⟨hC, ?_, ?_, ?_, ?_⟩
   ·rw [hnd.mem_erase_iff, hl]
    by_cases hj : j = i
    ·subst hj; simp [getD_set_self _ _ _ (show j < listed.size by omega)]
    ·simp [hj, getD_set_ne _ _ _ _ hj]
   ·by_cases hj2 : j = i
    ·subst hj2; exact hAi
    ·rw [getD_set_ne _ _ _ _ hj2] at hj; exact hA j hj
   ·have mono : ∀ q, listed.getD q false = true → (listed.setIfInBounds i true).getD q false = true := by
     intro q hq
     by_cases hqi : q = i
     ·subst hqi; exact getD_set_self _ _ _ (by omega)
     ·rw [getD_set_ne _ _ _ _ hqi]; exact hq
    by_cases hj2 : j = i
    ·subst hj2
     rw [ho] at hj; cases hj
     exact mono _ (hedge e he hb)
    ·rw [getD_set_ne _ _ _ _ hj2] at hlj
     exact mono _ (hcl j o' hj hlj e he hb)
   ·rw [hput]; exact hL.defers
   ·rw [hput]; simpa using hL.size
   ·intro t' h'
    have hne' : t' ≠ t := by
     intro e; subst e
     have := h' i o ho ht
     rw [getD_set_self _ _ _ (by omega)] at this; cases this
    rw [hput, getDV_set_ne _ _ _ _ _ hne']
    refine hL.old t' fun j o' hj hd => ?_
    have h5 := h' j o' hj hd
    by_cases hj2 : j = i
    ·subst hj2; exact hli
    ·rwa [getD_set_ne _ _ _ _ hj2] at h5
   ·intro j o' t' hj hlj hd
    rw [hput]
    by_cases hj2 : j = i
    ·subst hj2
     rw [ho] at hj; cases hj
     rw [ht] at hd; cases hd
     rw [getDV_set_self _ _ _ _ (by rw [hL.size]; exact hk3.1)]; exact hDx
    ·have hne' : t' ≠ t := fun e => huniq j o' hj hj2 (by rw [hd, e])
     rw [getDV_set_ne _ _ _ _ _ hne']
     rw [getD_set_ne _ _ _ _ hj2] at hlj
     exact hD _ _ _ _ hB (hL.new j o' t' hj hlj hd)
  ·exfalso
   rw [if_neg hAi, List.all_eq_true] at hk2
   obtain ⟨m, hm⟩ : ∃ m, m ∈ l := List.exists_mem_of_ne_nil l hne
   obtain ⟨g1, g2, g3⟩ := (hl m).1 hm
   have h4 := hk2 m (List.mem_range.2 g1)
   rw [g2] at h4
   simp only [Bool.not_true, Bool.false_or] at h4
   have h5 := reach_listed hcl fl i m o ho hedge h4
   simp only [Array.getD_eq_getD_getElem?] at h5 g3
   rw [Array.getElem?_eq_getElem (show m < listed.size by omega)] at h5 g3
   rw [Option.getD_some] at h5 g3
   rw [h5] at g3; cases g3
theorem region_laid {P : Program} {id : Nat} {Q : Exit → Act → World → Prop} {a0 : Act} {w : World} {l : List Oper} (LA : List Bool) (nB : Nat) (D : Nat → Value → World → Prop) (C : World → Prop) (hm : P.follows .mixedOrders = true)
  (hlen : LA.length = l.length) {fl : Nat} (hok : layable (fun i => LA.getD i false) a0.tmps.size l.toArray fl = true) (hnB : (LA.filter _root_.id).length + nB = l.length) (hC : C w.drew)
  (hD : ∀ i x w w', Below w.heap.size w w' → D i x w → D i x w')
  (hstep : ∀ i o listed a w, LA.getD i false = true → l[i]? = some o → Laid l.toArray a0 D C listed a w → (∀ e ∈ o.after.toList, Region.binds .any e = true → listed.getD e.on false = true) →
   wpOp P l.toArray Q i (fun a' w' => ∃ x, a' = a.put o.dst x ∧ Below w.heap.size w w' ∧ C w' ∧ D i x w') a w)
  (hrest : ∀ a w, Laid l.toArray a0 D C LA.toArray a w → wpAny P .any l.toArray Q nB LA.toArray a w) : (Code.region id l.toArray true).wp P Q a0 w := by
 refine wp_region_any hm ?_
 have hk : ((List.range l.length).filter fun i => LA.getD i false).length = (LA.filter _root_.id).length := by
  rw [← hlen]
  clear hok hnB hstep hrest hlen
  induction LA with
  | nil => rfl
  | cons b bs ih =>
   rw [List.length_cons, List.range_succ_eq_map, List.filter_cons, List.filter_map, List.filter_cons]
   simp only [List.getD_cons_zero, Function.comp_def, List.getD_cons_succ, List.length_map, _root_.id]
   simp only [List.getD_eq_getElem?_getD] at ih
   cases b <;> simp [ih]
 have h := wpAny_laid (P := P) (ops := l.toArray) (Q := Q) (fun i => LA.getD i false) a0 D C hok nB hD (fun i o listed a w hA ho => hstep i o listed a w hA (by simpa using ho)) (fun listed a w hsz hl hL => by
   have : listed = LA.toArray := by
    apply Array.ext
    ·simpa [hlen] using hsz
    ·intro i h1 h2
     have := hl i (by omega)
     simp only [Array.getD_eq_getD_getElem?, Array.getElem?_eq_getElem h1, Option.getD_some, List.getD_eq_getElem?_getD] at this
     rw [this]
     have h3 : i < LA.length := by simpa using h2
     simp [List.getElem?_eq_getElem h3]
   subst this
   exact hrest a w hL) ((LA.filter _root_.id).length) ((List.range l.length).filter fun i => LA.getD i false) (Array.replicate l.toArray.size false) a0 { w with drawn := w.drawn + 1 } hk
   (List.nodup_range.filter _) (fun i => by
    simp only [List.mem_filter, List.mem_range, Array.getD_eq_getD_getElem?]
    constructor
    ·rintro ⟨h1, h2⟩
     exact ⟨by simpa using h1, h2, by simp [h1]⟩
    ·rintro ⟨h1, h2, _⟩
     exact ⟨by simpa using h1, h2⟩) (by simp) (fun i h => by
    simp only [Array.getD_eq_getD_getElem?, Array.getElem?_replicate] at h
    split at h <;> simp at h) (fun k o _ h => by
    simp only [Array.getD_eq_getD_getElem?, Array.getElem?_replicate] at h
    split at h <;> simp at h)
   ⟨hC, rfl, rfl, fun _ _ => rfl, fun i o t _ h _ => by
    simp only [Array.getD_eq_getD_getElem?, Array.getElem?_replicate] at h
    split at h <;> simp at h⟩
 have hnB' : (LA.filter _root_.id).length + nB = l.toArray.size := by simpa using hnB
 rw [hnB'] at h
 exact h
theorem wpAny_one {P : Program} {ops : Array Oper} {Q : Exit → Act → World → Prop} {fuel i : Nat} {o : Oper} {listed : Array Bool} {a : Act} {w : World} (hr : Region.ready .any ops listed = [i]) (ho : ops[i]? = some o) (hg : o.guard = none)
  (h : o.wp P a w (wpAny P .any ops Q fuel (listed.setIfInBounds i true)) Q) : wpAny P .any ops Q (fuel + 1) listed a w := by
 refine wpAny_all hr (by simp) ?_
 intro j hj
 simp only [List.mem_singleton] at hj
 subst hj
 unfold wpOp
 simp only [ho]
 rw [if_pos (by simp [Region.wanted, hg])]
 exact .inl h
theorem wpOp_plain {P : Program} {ops : Array Oper} {Q : Exit → Act → World → Prop} {i : Nat} {o : Oper} {K : Act → World → Prop} {a : Act} {w : World} (ho : ops[i]? = some o) (hg : o.guard = none) (h : o.wp P a w K Q) : wpOp P ops Q i K a w := by
 unfold wpOp
 simp only [ho]
 rw [if_pos (by simp [Region.wanted, hg])]
 exact .inl h
theorem Laid.kept {l : List Oper} {a0 : Act} {D : Nat → Value → World → Prop} {C : World → Prop} {listed : Array Bool} {a : Act} {w : World} (h : Laid l.toArray a0 D C listed a w) (t : Nat) (hc : (l.all fun o => !decide (o.dst = some t)) = true) : a.tmps.getD t undef = a0.tmps.getD t undef := by
 refine h.old t fun i o ho hd => ?_
 rw [List.all_eq_true] at hc
 have hm : o ∈ l := List.mem_of_getElem? (i := i) (by simpa using ho)
 have := hc o hm
 simp [hd] at this
theorem getV_lt (t : Array Value) (j : Nat) (h : j < t.size) : t[j] = t.getD j undef := by
 rw [Array.getD_eq_getD_getElem?, Array.getElem?_eq_getElem h]; rfl
theorem Laid.sets {l : List Oper} {a0 : Act} {D : Nat → Value → World → Prop} {C : World → Prop} {listed : Array Bool} {a : Act} {w : World} (h : Laid l.toArray a0 D C listed a w) (ts : List Nat)
  (hc : (l.zipIdx.all fun p => (match p.1.dst with | some d => ts.contains d | none => true) || !listed.getD p.2 true) = true) : a = { tmps := ts.foldl (fun t d => t.setIfInBounds d (a.tmps.getD d undef)) a0.tmps, defers := a0.defers } := by
 have hsz : ∀ (ts : List Nat) (t : Array Value), (ts.foldl (fun t d => t.setIfInBounds d (a.tmps.getD d undef)) t).size = t.size := by
  intro ts
  induction ts with
  | nil => intro t; rfl
  | cons x xs ih => intro t; rw [List.foldl_cons, ih]; simp
 have hg : ∀ (ts : List Nat) (t : Array Value) (j : Nat), j < t.size → (ts.foldl (fun t d => t.setIfInBounds d (a.tmps.getD d undef)) t).getD j undef = if ts.contains j then a.tmps.getD j undef else t.getD j undef := by
  intro ts
  induction ts with
  | nil => intro t j _; simp
  | cons x xs ih =>
   intro t j hj
   rw [List.foldl_cons, ih _ _ (by simpa using hj)]
   by_cases hx : j = x
   ·subst hx
    rw [getDV_set_self _ _ _ _ hj]
    simp
   ·rw [getDV_set_ne _ _ _ _ _ hx]
    simp [hx]
 have key : a.tmps = ts.foldl (fun t d => t.setIfInBounds d (a.tmps.getD d undef)) a0.tmps := by
  apply Array.ext
  ·rw [hsz]; exact h.size
  ·intro j h1 h2
   refine (getV_lt _ _ h1).trans (Eq.trans ?_ (getV_lt _ _ h2).symm)
   rw [hg _ _ _ (by rw [← h.size]; exact h1)]
   by_cases hn : ts.contains j = true
   ·rw [if_pos hn]
   ·rw [if_neg hn]
    refine h.old j fun i o ho hd => ?_
    rw [List.all_eq_true] at hc
    have := hc (o, i) (List.mem_zipIdx_iff_getElem?.2 (by simpa using ho))
    rw [hd] at this
    simp only [Bool.or_eq_true, Bool.not_eq_true'] at this
    rcases this with h3 | h3
    ·exact absurd h3 hn
    ·exact h3
 rw [← key]
 have hd := h.defers
 obtain ⟨t1, d1⟩ := a
 simp only [] at hd
 rw [hd]
end
section
open Go.RowKit Go.Shelf
def tailB (fl n : Nat) (l : List Oper) : Bool :=
 Region.lexB .any (l.take n).toArray && decide (n ≤ l.length) &&
 ((List.range n).all fun i => match l[i]? with
  | none => false
  | some o => (o.after.all fun e => !Region.binds .any e || decide (e.on < i)) && (match o.guard with | none => true | some g => decide (g.1 < n))) &&
 ((List.range l.length).all fun i => decide (i < n) || (List.range n).all fun j => reach l.toArray fl i j)
def heads (L : Array Bool) (k : Nat) : Array Bool := (L.toList ++ List.replicate k false).toArray
theorem heads_lt {L : Array Bool} {k i : Nat} {d : Bool} (h : i < L.size) : (heads L k).getD i d = L.getD i d := by
 have h1 : i < L.toList.length := by simpa using h
 simp only [heads, Array.getD_eq_getD_getElem?, List.getElem?_toArray]
 rw [List.getElem?_append_left h1]
 simp
theorem heads_ge {L : Array Bool} {k i : Nat} (h : L.size ≤ i) : (heads L k).getD i false = false := by
 have h1 : L.toList.length ≤ i := by simpa using h
 simp only [heads, Array.getD_eq_getD_getElem?, List.getElem?_toArray]
 rw [List.getElem?_append_right h1, List.getElem?_replicate]
 split <;> rfl
theorem heads_set {L : Array Bool} {k i : Nat} (h : i < L.size) : (heads L k).setIfInBounds i true = heads (L.setIfInBounds i true) k := by
 have h1 : i < L.toList.length := by simpa using h
 simp only [heads, List.setIfInBounds_toArray, Array.toList_setIfInBounds]
 rw [List.set_append_left _ _ h1]
theorem heads_size (L : Array Bool) (k : Nat) : (heads L k).size = L.size + k := by simp [heads]
theorem wpAny_more {P : Program} {ops : Array Oper} {Q : Exit → Act → World → Prop} : ∀ (f : Nat) (L : Array Bool) (a : Act) (w : World), wpAny P .any ops Q f L a w → wpAny P .any ops Q (f + 1) L a w
 | 0, L, a, w, h => ⟨fun _ => h.2, fun i hi => by rw [h.1] at hi; cases hi⟩
 | f + 1, L, a, w, h => ⟨h.1, fun i hi => wpOp_mono (fun a' w' h' => wpAny_more f _ a' w' h') (h.2 i hi)⟩
theorem wpAny_most {P : Program} {ops : Array Oper} {Q : Exit → Act → World → Prop} (g : Nat) (L : Array Bool) (a : Act) (w : World) (h : wpAny P .any ops Q g L a w) : ∀ f, wpAny P .any ops Q (f + g) L a w
 | 0 => by rw [Nat.zero_add]; exact h
 | f + 1 => by rw [Nat.add_right_comm]; exact wpAny_more _ _ _ _ (wpAny_most g L a w h f)
theorem tail_aux {P : Program} {ops head : Array Oper} {Q : Exit → Act → World → Prop} {C : World → Prop} {fl n k : Nat} (hsz : ops.size = n + k) (hh : head.size = n) (hget : ∀ i, i < n → head[i]? = ops[i]?)
  (hb : ∀ i o, i < n → ops[i]? = some o → ∀ e ∈ o.after.toList, Region.binds .any e = true → e.on < i) (hg : ∀ i o g, i < n → ops[i]? = some o → o.guard = some g → g.1 < n)
  (ht : ∀ i, n ≤ i → i < n + k → ∀ j, j < n → reach ops fl i j = true) :
  ∀ (fuel : Nat) (L : Array Bool) (a : Act) (w : World), L.size = n → (∀ i o, ops[i]? = some o → (heads L k).getD i false = true → ∀ e ∈ o.after.toList, Region.binds .any e = true → (heads L k).getD e.on false = true) → C w →
   wpAnyQ P .any head C (fun a' => ∀ w', C w' → wpAny P .any ops Q k (heads (Array.replicate n true) k) a' w') fuel L a → wpAny P .any ops Q (fuel + k) (heads L k) a w := by
 have hready : ∀ (L : Array Bool), L.size = n → ∀ i, i < n → (i ∈ Region.ready .any ops (heads L k) ↔ i ∈ Region.ready .any head L) := by
  intro L hL i hi
  unfold Region.ready
  simp only [List.mem_filter, List.mem_range, hh, hsz, hget i hi, heads_lt (k := k) (d := true) (show i < L.size by omega)]
  have : i < n + k := by omega
  simp only [hi, this, true_and]
  cases ho : ops[i]? with
  | none => simp
  | some o =>
   have : (o.after.all fun e => !Region.binds .any e || (heads L k).getD e.on false) = (o.after.all fun e => !Region.binds .any e || L.getD e.on false) := by
    rw [Bool.eq_iff_iff, Array.all_eq_true', Array.all_eq_true']
    refine forall_congr' fun e => ?_
    refine imp_congr_right fun he => ?_
    cases hbd : Region.binds .any e with
    | false => simp
    | true =>
     have := hb i o hi ho e (by simpa using he) hbd
     rw [heads_lt (show e.on < L.size by omega)]
   simp only [Option.map_some, Option.getD_some, this]
 have hall : ∀ (L : Array Bool), L.size = n → Region.ready .any head L = [] → L = Array.replicate n true := by
  intro L hL hr
  have key : ∀ m i, i < m → i < n → L.getD i true = true := by
   intro m
   induction m with
   | zero => intro i hi; omega
   | succ m ih =>
    intro i him hi
    by_cases hlt : i < m
    ·exact ih i hlt hi
    ·have him' : i = m := by omega
     cases hv : L.getD i true with
     | true => rfl
     | false =>
      exfalso
      have : i ∈ Region.ready .any head L := by
       unfold Region.ready
       rw [List.mem_filter, List.mem_range]
       refine ⟨by omega, ?_⟩
       obtain ⟨o, ho⟩ : ∃ o, ops[i]? = some o := ⟨_, Array.getElem?_eq_getElem (by omega)⟩
       rw [hv, hget i hi, ho]
       simp only [Bool.not_false, Bool.true_and, Option.map_some, Option.getD_some, Array.all_eq_true']
       intro e he
       cases hbd : Region.binds .any e with
       | false => simp
       | true =>
        have hlt' := hb i o hi ho e (by simpa using he) hbd
        have := ih e.on (by omega) (by omega)
        simp only [Array.getD_eq_getD_getElem?] at this ⊢
        rw [Array.getElem?_eq_getElem (by omega)] at this ⊢
        simpa using this
      rw [hr] at this; cases this
  apply Array.ext
  ·simpa using hL
  ·intro i h1 h2
   have := key (i + 1) i (by omega) (by omega)
   simp only [Array.getD_eq_getD_getElem?] at this
   rw [Array.getElem?_eq_getElem h1] at this
   simpa using this
 have hwait : ∀ (L : Array Bool), L.size = n → (∀ i o, ops[i]? = some o → (heads L k).getD i false = true → ∀ e ∈ o.after.toList, Region.binds .any e = true → (heads L k).getD e.on false = true) → Region.ready .any head L ≠ [] → ∀ i ∈ Region.ready .any ops (heads L k), i < n := by
  intro L hL hcl hne i hi
  by_cases hin : i < n
  ·exact hin
  ·exfalso
   obtain ⟨j, hj⟩ : ∃ j, j ∈ Region.ready .any head L := List.exists_mem_of_ne_nil _ hne
   unfold Region.ready at hi hj
   rw [List.mem_filter, List.mem_range, Bool.and_eq_true] at hi hj
   obtain ⟨i1, i2, i3⟩ := hi
   obtain ⟨j1, j2, _⟩ := hj
   obtain ⟨o, ho⟩ : ∃ o, ops[i]? = some o := ⟨_, Array.getElem?_eq_getElem i1⟩
   rw [ho] at i3
   simp only [Option.map_some, Option.getD_some, Array.all_eq_true'] at i3
   have hl := reach_listed hcl fl i j o ho (fun e he hbd => by have := i3 e (by simpa using he); rw [hbd] at this; simpa using this) (ht i (by omega) (by omega) j (by omega))
   rw [heads_lt (show j < L.size by omega)] at hl
   simp only [Array.getD_eq_getD_getElem?] at j2 hl
   rw [Array.getElem?_eq_getElem (show j < L.size by omega)] at j2 hl
   rw [Option.getD_some] at j2 hl
   rw [hl] at j2; cases j2
 have hopQ : ∀ i a w (K : Act → Prop) (K' : Act → World → Prop), i < n → C w → (∀ a w, C w → K a → K' a w) → qOp P head C i K a → wpOp P ops Q i K' a w := by
  intro i a w K K' hi hC hK hq
  obtain ⟨o, ho⟩ : ∃ o, ops[i]? = some o := ⟨_, Array.getElem?_eq_getElem (by omega)⟩
  have hwt : Region.wanted o (yielded head a.tmps) = Region.wanted o (yielded ops a.tmps) := by
   unfold Region.wanted
   cases hgd : o.guard with
   | none => rfl
   | some g =>
    have := hg i o g hi ho hgd
    obtain ⟨g1, g2⟩ := g
    simp only [yielded, hget g1 this]
  refine wpOp_of_qOp (ops := ops) hC hK ?_
  unfold qOp at hq ⊢
  rw [hget i hi] at hq
  rw [ho] at hq ⊢
  simp only [hwt] at hq
  exact hq
 intro fuel
 induction fuel with
 | zero =>
  intro L a w hL _ hC h
  rw [Nat.zero_add]
  rw [hall L hL h.1]
  exact h.2 w hC
 | succ fuel ih =>
  intro L a w hL hcl hC h
  by_cases hr : Region.ready .any head L = []
  ·have := h.1 hr w hC
   rw [← hall L hL hr] at this
   exact wpAny_most _ _ _ _ this (fuel + 1)
  ·rw [Nat.add_right_comm]
   have hw := hwait L hL hcl hr
   refine ⟨fun h0 => ?_, fun i hi => ?_⟩
   ·exfalso
    obtain ⟨j, hj⟩ : ∃ j, j ∈ Region.ready .any head L := List.exists_mem_of_ne_nil _ hr
    have hjn : j < n := by
     have := hj
     unfold Region.ready at this
     rw [List.mem_filter, List.mem_range] at this
     omega
    have := (hready L hL j hjn).2 hj
    rw [h0] at this; cases this
   ·have hin := hw i hi
    have hi' := (hready L hL i hin).1 hi
    refine hopQ i a w _ _ hin hC (fun a' w' hC' hK => ?_) (h.2 i hi')
    rw [heads_set (by omega)]
    refine ih (L.setIfInBounds i true) a' w' (by simpa using hL) (fun j o hj hlj e he hbd => ?_) hC' hK
    rw [← heads_set (by omega)] at hlj ⊢
    have mono : ∀ q, (heads L k).getD q false = true → ((heads L k).setIfInBounds i true).getD q false = true := by
     intro q hq
     by_cases hqi : q = i
     ·subst hqi; exact getD_set_self _ _ _ (by rw [heads_size]; omega)
     ·rw [getD_set_ne _ _ _ _ hqi]; exact hq
    by_cases hji : j = i
    ·subst hji
     unfold Region.ready at hi
     rw [List.mem_filter, Bool.and_eq_true] at hi
     have h3 := hi.2.2
     rw [hj] at h3
     simp only [Option.map_some, Option.getD_some, Array.all_eq_true'] at h3
     have := h3 e (by simpa using he)
     rw [hbd] at this
     exact mono _ (by simpa using this)
    ·rw [getD_set_ne _ _ _ _ hji] at hlj
     exact mono _ (hcl j o hj hlj e he hbd)
theorem region_tail {P : Program} {id : Nat} {Q : Exit → Act → World → Prop} {a : Act} {w : World} {l : List Oper} (n : Nat) (C : World → Prop) (fl : Nat) (hm : P.follows .mixedOrders = true) (hB : tailB fl n l = true) (hC : C w.drew)
  (h : wpQuiet P (l.take n).toArray C (fun a' => ∀ w', C w' → wpAny P .any l.toArray Q (l.length - n) (heads (Array.replicate n true) (l.length - n)) a' w') (l.take n) a) : (Code.region id l.toArray true).wp P Q a w := by
 unfold tailB at hB
 simp only [Bool.and_eq_true, decide_eq_true_eq, List.all_eq_true, List.mem_range, Bool.or_eq_true, Bool.not_eq_true'] at hB
 obtain ⟨⟨⟨h1, h2⟩, h3⟩, h4⟩ := hB
 refine wp_region_any hm ?_
 have hlen : (l.take n).length = n := by simp; omega
 simp only [Region.lexB, Bool.and_eq_true] at h1
 have hq := wpAnyQ_lex (C := C) (md := .any) h1.1 (l.take n) 0 (Array.replicate (l.take n).toArray.size false) a (by simp) (by simpa using h1.2) h
 have := tail_aux (P := P) (ops := l.toArray) (head := (l.take n).toArray) (Q := Q) (C := C) (fl := fl) (n := n) (k := l.length - n) (by simp; omega) (by simpa using hlen)
  (fun i hi => by simp only [List.getElem?_toArray]; rw [List.getElem?_take_of_lt hi])
  (fun i o hi ho e he hbd => by
   have := h3 i hi
   rw [show l[i]? = some o by simpa using ho] at this
   simp only [Bool.and_eq_true, Array.all_eq_true'] at this
   have := this.1 e (by simpa using he)
   rw [hbd] at this; simpa using this)
  (fun i o g hi ho hg => by
   have := h3 i hi
   rw [show l[i]? = some o by simpa using ho] at this
   simp only [Bool.and_eq_true, hg, decide_eq_true_eq] at this
   exact this.2)
  (fun i hi hi2 j hj => by
   have := h4 i (by omega)
   rcases this with h | h
   ·omega
   ·exact h j hj)
  (l.take n).length (Array.replicate n false) a { w with drawn := w.drawn + 1 } (by simp)
  (fun i o _ hl => by
   by_cases hin : i < n
   ·rw [heads_lt (by simpa using hin)] at hl
    simp [Array.getD_eq_getD_getElem?, hin] at hl
   ·rw [heads_ge (by simp; omega)] at hl; cases hl)
  hC (by simpa [hlen] using hq)
 have e1 : heads (Array.replicate n false) (l.length - n) = Array.replicate l.toArray.size false := by
  apply Array.ext'
  simp only [heads, Array.toList_replicate, List.size_toArray, List.replicate_append_replicate]
  rw [show n + (l.length - n) = l.length by omega]
 rw [e1, hlen, show n + (l.length - n) = l.toArray.size by simp; omega] at this
 exact this
end
section
open Go.RowKit Go.Shelf
def hitV (b : Int) : Value := .agg #[.int .i64 b]
set_option maxHeartbeats 400000 in
theorem factor_any (b : Int) (w : World) (h1 : -9223372036854775808 ≤ b) (h2 : b ≤ 9223372036854775807) :
  Calls Try.prog 83 #[hitV b] w (Ret (.int .i64 (fac b)) w) := by
 unfold hitV fac
 go_enter Try.func83, Try.ntmps83
 go_wp2
 go_ret
 exact ⟨rfl, by (repeat' (first | exact Below.refl _ _ | assumption | (with_reducible refine Below.drew ?_) | (with_reducible refine Below.setCell ?_ (by (first | (simp; done) | (simp; omega))) _) | (with_reducible refine below_drewN' ?_ _) | (refine Below.alloc ?_ (by (try simp only [World.size_alloc, World.size_drew, World.size_setCell]); omega) _) | (refine Below.trans ?_ (Below.mono (by assumption) (by (try simp only [World.size_alloc, World.size_drew, World.size_setCell]); omega)))))⟩
set_option maxHeartbeats 400000 in
theorem number_any (b : Int) (w : World) (h1 : -9223372036854775808 ≤ b) (h2 : b ≤ 9223372036854775807) :
  Calls Try.prog 84 #[hitV b] w (Ret (.int .i64 (num b)) w) := by
 unfold hitV num
 go_enter Try.func84, Try.ntmps84
 go_wp2
 go_ret
 exact ⟨rfl, by (repeat' (first | exact Below.refl _ _ | assumption | (with_reducible refine Below.drew ?_) | (with_reducible refine Below.setCell ?_ (by (first | (simp; done) | (simp; omega))) _) | (with_reducible refine below_drewN' ?_ _) | (refine Below.alloc ?_ (by (try simp only [World.size_alloc, World.size_drew, World.size_setCell]); omega) _) | (refine Below.trans ?_ (Below.mono (by assumption) (by (try simp only [World.size_alloc, World.size_drew, World.size_setCell]); omega)))))⟩
theorem fac_eq {b : Int} (h : 0 ≤ b) : fac b = b / 100 := Int.tdiv_eq_ediv_of_nonneg h
theorem num_eq {b : Int} (h : 0 ≤ b) : num b = b % 100 := Int.tmod_eq_emod_of_nonneg h
set_option maxRecDepth 100000 in
set_option maxHeartbeats 1000000 in
theorem score_any (b : Int) (w : World) (h0 : 0 ≤ b) (h1 : b ≤ 420) :
  Calls Try.prog 97 #[hitV b] w (Ret (.int .i64 (sc b)) w) := by
 have x1 := fun W => factor_any b W (by omega) (by omega)
 have x2 := fun W => number_any b W (by omega) (by omega)
 rw [fac_eq h0] at x1
 rw [num_eq h0] at x2
 obtain ⟨s0, s1⟩ := sc_bd h0 h1
 unfold sc at *
 unfold hitV at *
 generalize b / 100 = f at *
 generalize b % 100 = g at *
 have e1 : IntKind.i64.wrap (f * g) = f * g := IntWalk.i64_in _ (by omega)
 go_enter Try.func97, Try.ntmps97
 go_wp2_with fail
 obtain ⟨w1, hw1⟩ : ∃ w1, w1 = w.alloc (.cells #[.int .i64 b] 134) := ⟨_, rfl⟩
 have k0 : w1.cell? ⟨w.heap.size, 0, none⟩ = some (.int .i64 b) := by rw [hw1]; go_simp
 have B1 : Below w.heap.size w w1 := by rw [hw1]; (repeat' (first | exact Below.refl _ _ | assumption | (with_reducible refine Below.drew ?_) | (with_reducible refine Below.setCell ?_ (by (first | (simp; done) | (simp; omega))) _) | (with_reducible refine below_drewN' ?_ _) | (refine Below.alloc ?_ (by (try simp only [World.size_alloc, World.size_drew, World.size_setCell]); omega) _) | (refine Below.trans ?_ (Below.mono (by assumption) (by (try simp only [World.size_alloc, World.size_drew, World.size_setCell]); omega)))))
 rw [← hw1]
 clear hw1
 have MK : Aside (∀ w', Below w1.heap.size w1 w' → (Below w1.heap.size w1 w' ∧ w'.cell? ⟨w.heap.size, 0, none⟩ = some (.int .i64 b))) := fun w' hB => ⟨hB, keepc hB k0⟩
 refine region_class (fun w' => Below w1.heap.size w1 w' ∧ w'.cell? ⟨w.heap.size, 0, none⟩ = some (.int .i64 b)) (by kernel_rfl) (by kernel_rfl) (MK.out _ ((Below.refl _ _).drew)) ?_
 iterate 6 (first | go_big_quiet_skip | (go_big_quiet_want; unfold Oper.quiet; apply Exists.intro; refine ⟨fun W hW => ?_, ?_⟩; (go_split_ands; unfold Oper.quietAt; go_simp; first | rfl | exact ⟨rfl, rfl⟩ | ((first | (with_reducible refine (x1 _).mono ?_) | (with_reducible refine (x2 _).mono ?_)); rintro e w2 ⟨rfl, hb2⟩; exact ⟨rfl, MK.out _ (Below.trans (by assumption) (Below.mono (by assumption) (Below.size (by assumption))))⟩)); go_big_quiet_on; (try simp only [Act.put, List.setIfInBounds_toArray, List.set_cons_zero, List.set_cons_succ])))
 refine wpQuiet_nil ?_
 intro W hW
 obtain ⟨hBW, hkW⟩ := hW
 have hB2 : Aside (Below w.heap.size w W) := B1.trans (hBW.mono B1.size)
 clear hBW B1
 go_wp2
 go_ret
 exact ⟨rfl, hB2.out⟩
set_option maxRecDepth 100000 in
set_option maxHeartbeats 1000000 in
theorem valid_any (b : Int) (w : World) (h1 : -9223372036854775808 ≤ b) (h2 : b ≤ 9223372036854775807) :
  Calls Try.prog 69 #[hitV b] w (Ret (.bool (vbed b)) w) := by
 have x1 := fun W => factor_any b W h1 h2
 have x2 := fun W => number_any b W h1 h2
 have y1 := fun W k hk t x => within_any 1 4 _ [x] _ (sl_one W k hk t x)
 have y2 := fun W k hk t x => within_any 1 20 _ [x] _ (sl_one W k hk t x)
 simp only [List.all_cons, List.all_nil, Bool.and_true] at y1 y2
 unfold hitV at *
 unfold vbed
 by_cases c0 : b = 0
 ·subst c0
  simp only [decide_true, Bool.true_or]
  go_enter Try.func69, Try.ntmps69
  go_wp2
  go_ret
  exact ⟨rfl, by (repeat' (first | exact Below.refl _ _ | assumption | (with_reducible refine Below.drew ?_) | (with_reducible refine Below.setCell ?_ (by (first | (simp; done) | (simp; omega))) _) | (with_reducible refine below_drewN' ?_ _) | (refine Below.alloc ?_ (by (try simp only [World.size_alloc, World.size_drew, World.size_setCell]); omega) _) | (refine Below.trans ?_ (Below.mono (by assumption) (by (try simp only [World.size_alloc, World.size_drew, World.size_setCell]); omega)))))⟩
 by_cases c1 : b = 125
 ·subst c1
  simp only [decide_true, Bool.true_or, Bool.or_true]
  go_enter Try.func69, Try.ntmps69
  go_wp2
  go_ret
  exact ⟨rfl, by (repeat' (first | exact Below.refl _ _ | assumption | (with_reducible refine Below.drew ?_) | (with_reducible refine Below.setCell ?_ (by (first | (simp; done) | (simp; omega))) _) | (with_reducible refine below_drewN' ?_ _) | (refine Below.alloc ?_ (by (try simp only [World.size_alloc, World.size_drew, World.size_setCell]); omega) _) | (refine Below.trans ?_ (Below.mono (by assumption) (by (try simp only [World.size_alloc, World.size_drew, World.size_setCell]); omega)))))⟩
 by_cases c2 : b = 225
 ·subst c2
  simp only [decide_true, Bool.true_or, Bool.or_true]
  go_enter Try.func69, Try.ntmps69
  go_wp2
  go_ret
  exact ⟨rfl, by (repeat' (first | exact Below.refl _ _ | assumption | (with_reducible refine Below.drew ?_) | (with_reducible refine Below.setCell ?_ (by (first | (simp; done) | (simp; omega))) _) | (with_reducible refine below_drewN' ?_ _) | (refine Below.alloc ?_ (by (try simp only [World.size_alloc, World.size_drew, World.size_setCell]); omega) _) | (refine Below.trans ?_ (Below.mono (by assumption) (by (try simp only [World.size_alloc, World.size_drew, World.size_setCell]); omega)))))⟩
 simp only [c0, c1, c2, decide_false, Bool.false_or]
 have b0 : (b == 0) = false := by simpa using c0
 have b1 : (b == 125) = false := by simpa using c1
 have b2 : (b == 225) = false := by simpa using c2
 generalize fac b = f at *
 generalize num b = g at *
 have y1 := fun W k hk t => y1 W k hk t f
 have y2 := fun W k hk t => y2 W k hk t g
 generalize inb 1 4 f = r1 at *
 generalize inb 1 20 g = r2 at *
 cases r1 with
 | true =>
  rw [Bool.true_and]
  go_enter Try.func69, Try.ntmps69
  go_wp2_with (first | (go_at_call 83; (with_reducible refine (x1 _).mono ?_); rintro e w1 ⟨rfl, hb1⟩; (obtain ⟨hc1, hf1⟩ := bcell hb1; have z1 := hb1.size; (try simp only [World.size_alloc, World.size_drew, World.size_setCell] at z1); (try have q1a : w.heap.size < w1.heap.size := by omega); (try have q1b : w.heap.size + 1 < w1.heap.size := by omega); (try have q1c : w.heap.size + 1 + 1 < w1.heap.size := by omega); (try have q1d : w.heap.size + 1 + 1 + 1 < w1.heap.size := by omega); (try have q1e : wr.heap.size < w1.heap.size := by omega); (try have q1f : wr.heap.size + 1 < w1.heap.size := by omega))) | (go_at_call 84; (with_reducible refine (x2 _).mono ?_); rintro e w3 ⟨rfl, hb3⟩; (obtain ⟨hc3, hf3⟩ := bcell hb3; have z3 := hb3.size; (try simp only [World.size_alloc, World.size_drew, World.size_setCell] at z3); (try have q3a : w.heap.size < w3.heap.size := by omega); (try have q3b : w.heap.size + 1 < w3.heap.size := by omega); (try have q3c : w.heap.size + 1 + 1 < w3.heap.size := by omega); (try have q3d : w.heap.size + 1 + 1 + 1 < w3.heap.size := by omega); (try have q3e : wr.heap.size < w3.heap.size := by omega); (try have q3f : wr.heap.size + 1 < w3.heap.size := by omega); (try have q3g : w2.heap.size < w3.heap.size := by omega); (try have q3h : w2.heap.size + 1 < w3.heap.size := by omega))) | (go_at_call 47; (with_reducible refine (y1 _ _ (by simp) _).mono ?_); rintro e w2 ⟨rfl, hb2⟩; (obtain ⟨hc2, hf2⟩ := bcell hb2; have z2 := hb2.size; (try simp only [World.size_alloc, World.size_drew, World.size_setCell] at z2); (try have q2a : w.heap.size < w2.heap.size := by omega); (try have q2b : w.heap.size + 1 < w2.heap.size := by omega); (try have q2c : w.heap.size + 1 + 1 < w2.heap.size := by omega); (try have q2d : w.heap.size + 1 + 1 + 1 < w2.heap.size := by omega); (try have q2e : wr.heap.size < w2.heap.size := by omega); (try have q2f : wr.heap.size + 1 < w2.heap.size := by omega); (try have q2g : w1.heap.size < w2.heap.size := by omega); (try have q2h : w1.heap.size + 1 < w2.heap.size := by omega))) | (go_at_call 47; (with_reducible refine (y2 _ _ (by simp) _).mono ?_); rintro e w4 ⟨rfl, hb4⟩; (obtain ⟨hc4, hf4⟩ := bcell hb4; have z4 := hb4.size; (try simp only [World.size_alloc, World.size_drew, World.size_setCell] at z4); (try have q4a : w.heap.size < w4.heap.size := by omega); (try have q4b : w.heap.size + 1 < w4.heap.size := by omega); (try have q4c : w.heap.size + 1 + 1 < w4.heap.size := by omega); (try have q4d : w.heap.size + 1 + 1 + 1 < w4.heap.size := by omega); (try have q4e : wr.heap.size < w4.heap.size := by omega); (try have q4f : wr.heap.size + 1 < w4.heap.size := by omega); (try have q4g : w3.heap.size < w4.heap.size := by omega); (try have q4h : w3.heap.size + 1 < w4.heap.size := by omega))))
  go_ret
  exact ⟨rfl, by (repeat' (first | exact Below.refl _ _ | assumption | (with_reducible refine Below.drew ?_) | (with_reducible refine Below.setCell ?_ (by (first | (simp; done) | (simp; omega))) _) | (with_reducible refine below_drewN' ?_ _) | (refine Below.alloc ?_ (by (try simp only [World.size_alloc, World.size_drew, World.size_setCell]); omega) _) | (refine Below.trans ?_ (Below.mono (by assumption) (by (try simp only [World.size_alloc, World.size_drew, World.size_setCell]); omega)))))⟩
 | false =>
  rw [Bool.false_and]
  go_enter Try.func69, Try.ntmps69
  go_wp2_with (first | (go_at_call 83; (with_reducible refine (x1 _).mono ?_); rintro e w1 ⟨rfl, hb1⟩; (obtain ⟨hc1, hf1⟩ := bcell hb1; have z1 := hb1.size; (try simp only [World.size_alloc, World.size_drew, World.size_setCell] at z1); (try have q1a : w.heap.size < w1.heap.size := by omega); (try have q1b : w.heap.size + 1 < w1.heap.size := by omega); (try have q1c : w.heap.size + 1 + 1 < w1.heap.size := by omega); (try have q1d : w.heap.size + 1 + 1 + 1 < w1.heap.size := by omega); (try have q1e : wr.heap.size < w1.heap.size := by omega); (try have q1f : wr.heap.size + 1 < w1.heap.size := by omega))) | (go_at_call 47; (with_reducible refine (y1 _ _ (by simp) _).mono ?_); rintro e w2 ⟨rfl, hb2⟩; (obtain ⟨hc2, hf2⟩ := bcell hb2; have z2 := hb2.size; (try simp only [World.size_alloc, World.size_drew, World.size_setCell] at z2); (try have q2a : w.heap.size < w2.heap.size := by omega); (try have q2b : w.heap.size + 1 < w2.heap.size := by omega); (try have q2c : w.heap.size + 1 + 1 < w2.heap.size := by omega); (try have q2d : w.heap.size + 1 + 1 + 1 < w2.heap.size := by omega); (try have q2e : wr.heap.size < w2.heap.size := by omega); (try have q2f : wr.heap.size + 1 < w2.heap.size := by omega); (try have q2g : w1.heap.size < w2.heap.size := by omega); (try have q2h : w1.heap.size + 1 < w2.heap.size := by omega))))
  go_ret
  exact ⟨rfl, by (repeat' (first | exact Below.refl _ _ | assumption | (with_reducible refine Below.drew ?_) | (with_reducible refine Below.setCell ?_ (by (first | (simp; done) | (simp; omega))) _) | (with_reducible refine below_drewN' ?_ _) | (refine Below.alloc ?_ (by (try simp only [World.size_alloc, World.size_drew, World.size_setCell]); omega) _) | (refine Below.trans ?_ (Below.mono (by assumption) (by (try simp only [World.size_alloc, World.size_drew, World.size_setCell]); omega)))))⟩
set_option maxRecDepth 100000 in
set_option maxHeartbeats 1000000 in
theorem opens_any (g b : Int) (w : World) (h0 : 0 ≤ b) (h1 : b ≤ 420) (hg : inb 0 2 g = true) :
  Calls Try.prog 95 #[hitV b, .int .i64 g] w (Ret (.bool (opn g b)) w) := by
 have x1 := fun W => factor_any b W (by omega) (by omega)
 rw [fac_eq h0] at x1
 have hf : 0 ≤ b / 100 ∧ b / 100 ≤ 4 := by omega
 obtain ⟨f0, f1⟩ := hf
 unfold hitV at *
 unfold opn
 have hg' : g = 0 ∨ g = 1 ∨ g = 2 := by unfold inb at hg; simp at hg; omega
 clear hg
 rcases hg' with rfl | rfl | rfl
 ·simp only [show ¬ ((0 : Int) = 1) by decide, show ¬ ((0 : Int) = 2) by decide, if_false]
  by_cases c : b = 0
  ·subst c
   go_enter Try.func95, Try.ntmps95
   go_wp2
   go_ret
   exact ⟨rfl, by (repeat' (first | exact Below.refl _ _ | assumption | (with_reducible refine Below.drew ?_) | (with_reducible refine Below.setCell ?_ (by (first | (simp; done) | (simp; omega))) _) | (with_reducible refine below_drewN' ?_ _) | (refine Below.alloc ?_ (by (try simp only [World.size_alloc, World.size_drew, World.size_setCell]); omega) _) | (refine Below.trans ?_ (Below.mono (by assumption) (by (try simp only [World.size_alloc, World.size_drew, World.size_setCell]); omega)))))⟩
  ·have c' : (b != 0) = true := by simpa using c
   have c2 : decide (b ≠ 0) = true := by simpa using c
   rw [c2]
   go_enter Try.func95, Try.ntmps95
   go_wp2
   go_ret
   exact ⟨rfl, by (repeat' (first | exact Below.refl _ _ | assumption | (with_reducible refine Below.drew ?_) | (with_reducible refine Below.setCell ?_ (by (first | (simp; done) | (simp; omega))) _) | (with_reducible refine below_drewN' ?_ _) | (refine Below.alloc ?_ (by (try simp only [World.size_alloc, World.size_drew, World.size_setCell]); omega) _) | (refine Below.trans ?_ (Below.mono (by assumption) (by (try simp only [World.size_alloc, World.size_drew, World.size_setCell]); omega)))))⟩
 ·simp only [if_true]
  generalize b / 100 = f at *
  by_cases c : 2 < f
  ·have e : decide (f = 2) = false := by simp; omega
   rw [e]
   clear e
   go_enter Try.func95, Try.ntmps95
   go_wp2_with (go_at_call 83; (with_reducible refine (x1 _).mono ?_); rintro e w1 ⟨rfl, hb1⟩; (obtain ⟨hc1, hf1⟩ := bcell hb1; have z1 := hb1.size; (try simp only [World.size_alloc, World.size_drew, World.size_setCell] at z1); (try have q1a : w.heap.size < w1.heap.size := by omega); (try have q1b : w.heap.size + 1 < w1.heap.size := by omega); (try have q1c : w.heap.size + 1 + 1 < w1.heap.size := by omega); (try have q1d : w.heap.size + 1 + 1 + 1 < w1.heap.size := by omega); (try have q1e : wr.heap.size < w1.heap.size := by omega); (try have q1f : wr.heap.size + 1 < w1.heap.size := by omega)))
   go_ret
   exact ⟨rfl, by (repeat' (first | exact Below.refl _ _ | assumption | (with_reducible refine Below.drew ?_) | (with_reducible refine Below.setCell ?_ (by (first | (simp; done) | (simp; omega))) _) | (with_reducible refine below_drewN' ?_ _) | (refine Below.alloc ?_ (by (try simp only [World.size_alloc, World.size_drew, World.size_setCell]); omega) _) | (refine Below.trans ?_ (Below.mono (by assumption) (by (try simp only [World.size_alloc, World.size_drew, World.size_setCell]); omega)))))⟩
  ·have e : decide (f = 2) = decide (2 ≤ f) := by rw [decide_eq_decide]; omega
   rw [e]
   clear e
   go_enter Try.func95, Try.ntmps95
   go_wp2_with (first | (go_at_call 83; (with_reducible refine (x1 w).mono ?_); rintro e w1 ⟨rfl, hb1⟩; (obtain ⟨hc1, hf1⟩ := bcell hb1; have z1 := hb1.size; (try simp only [World.size_alloc, World.size_drew, World.size_setCell] at z1); (try have q1a : w.heap.size < w1.heap.size := by omega); (try have q1b : w.heap.size + 1 < w1.heap.size := by omega); (try have q1c : w.heap.size + 1 + 1 < w1.heap.size := by omega); (try have q1d : w.heap.size + 1 + 1 + 1 < w1.heap.size := by omega); (try have q1e : wr.heap.size < w1.heap.size := by omega); (try have q1f : wr.heap.size + 1 < w1.heap.size := by omega))) | (go_at_call 83; (with_reducible refine (x1 _).mono ?_); rintro e w1 ⟨rfl, hb1⟩; (obtain ⟨hc1, hf1⟩ := bcell hb1; have z1 := hb1.size; (try simp only [World.size_alloc, World.size_drew, World.size_setCell] at z1); (try have q1a : w.heap.size < w1.heap.size := by omega); (try have q1b : w.heap.size + 1 < w1.heap.size := by omega); (try have q1c : w.heap.size + 1 + 1 < w1.heap.size := by omega); (try have q1d : w.heap.size + 1 + 1 + 1 < w1.heap.size := by omega); (try have q1e : wr.heap.size < w1.heap.size := by omega); (try have q1f : wr.heap.size + 1 < w1.heap.size := by omega))) | (go_at_call 83; (with_reducible refine (x1 _).mono ?_); rintro e w2 ⟨rfl, hb2⟩; (obtain ⟨hc2, hf2⟩ := bcell hb2; have z2 := hb2.size; (try simp only [World.size_alloc, World.size_drew, World.size_setCell] at z2); (try have q2a : w.heap.size < w2.heap.size := by omega); (try have q2b : w.heap.size + 1 < w2.heap.size := by omega); (try have q2c : w.heap.size + 1 + 1 < w2.heap.size := by omega); (try have q2d : w.heap.size + 1 + 1 + 1 < w2.heap.size := by omega); (try have q2e : wr.heap.size < w2.heap.size := by omega); (try have q2f : wr.heap.size + 1 < w2.heap.size := by omega); (try have q2g : w1.heap.size < w2.heap.size := by omega); (try have q2h : w1.heap.size + 1 < w2.heap.size := by omega))))
   go_ret
   exact ⟨rfl, by (repeat' (first | exact Below.refl _ _ | assumption | (with_reducible refine Below.drew ?_) | (with_reducible refine Below.setCell ?_ (by (first | (simp; done) | (simp; omega))) _) | (with_reducible refine below_drewN' ?_ _) | (refine Below.alloc ?_ (by (try simp only [World.size_alloc, World.size_drew, World.size_setCell]); omega) _) | (refine Below.trans ?_ (Below.mono (by assumption) (by (try simp only [World.size_alloc, World.size_drew, World.size_setCell]); omega)))))⟩
 ·simp only [show ¬ ((2 : Int) = 1) by decide, if_false, if_true]
  generalize b / 100 = f at *
  go_enter Try.func95, Try.ntmps95
  go_wp2_with (go_at_call 83; (with_reducible refine (x1 _).mono ?_); rintro e w1 ⟨rfl, hb1⟩; (obtain ⟨hc1, hf1⟩ := bcell hb1; have z1 := hb1.size; (try simp only [World.size_alloc, World.size_drew, World.size_setCell] at z1); (try have q1a : w.heap.size < w1.heap.size := by omega); (try have q1b : w.heap.size + 1 < w1.heap.size := by omega); (try have q1c : w.heap.size + 1 + 1 < w1.heap.size := by omega); (try have q1d : w.heap.size + 1 + 1 + 1 < w1.heap.size := by omega); (try have q1e : wr.heap.size < w1.heap.size := by omega); (try have q1f : wr.heap.size + 1 < w1.heap.size := by omega)))
  go_ret
  exact ⟨rfl, by (repeat' (first | exact Below.refl _ _ | assumption | (with_reducible refine Below.drew ?_) | (with_reducible refine Below.setCell ?_ (by (first | (simp; done) | (simp; omega))) _) | (with_reducible refine below_drewN' ?_ _) | (refine Below.alloc ?_ (by (try simp only [World.size_alloc, World.size_drew, World.size_setCell]); omega) _) | (refine Below.trans ?_ (Below.mono (by assumption) (by (try simp only [World.size_alloc, World.size_drew, World.size_setCell]); omega)))))⟩
set_option maxRecDepth 100000 in
set_option maxHeartbeats 1000000 in
theorem bust_any (left out b : Int) (w : World) (h0 : 0 ≤ b) (h1 : b ≤ 420) (hg : inb 0 2 out = true) (l0 : 0 ≤ left) (l1 : left ≤ 1001) :
  Calls Try.prog 96 #[hitV b, .int .i64 left, .int .i64 out] w (Ret (.bool (bst left out b)) w) := by
 have x1 := fun W => score_any b W h0 h1
 have x2 := fun W => opens_any out b W h0 h1 hg
 obtain ⟨s0, s1⟩ := sc_bd h0 h1
 unfold hitV at *
 unfold bst
 generalize opn out b = r at *
 generalize sc b = s at *
 by_cases c0 : left - s = 0
 ·rw [if_pos c0]
  have c0' : (left - s == 0) = true := by simpa using c0
  go_enter Try.func96, Try.ntmps96
  go_wp2_with (first | (go_at_call 97; (with_reducible refine (x1 _).mono ?_); rintro e w1 ⟨rfl, hb1⟩; (obtain ⟨hc1, hf1⟩ := bcell hb1; have z1 := hb1.size; (try simp only [World.size_alloc, World.size_drew, World.size_setCell] at z1); (try have q1a : w.heap.size < w1.heap.size := by omega); (try have q1b : w.heap.size + 1 < w1.heap.size := by omega); (try have q1c : w.heap.size + 1 + 1 < w1.heap.size := by omega); (try have q1d : w.heap.size + 1 + 1 + 1 < w1.heap.size := by omega); (try have q1e : wr.heap.size < w1.heap.size := by omega); (try have q1f : wr.heap.size + 1 < w1.heap.size := by omega))) | (go_at_call 95; (with_reducible refine (x2 _).mono ?_); rintro e w2 ⟨rfl, hb2⟩; (obtain ⟨hc2, hf2⟩ := bcell hb2; have z2 := hb2.size; (try simp only [World.size_alloc, World.size_drew, World.size_setCell] at z2); (try have q2a : w.heap.size < w2.heap.size := by omega); (try have q2b : w.heap.size + 1 < w2.heap.size := by omega); (try have q2c : w.heap.size + 1 + 1 < w2.heap.size := by omega); (try have q2d : w.heap.size + 1 + 1 + 1 < w2.heap.size := by omega); (try have q2e : wr.heap.size < w2.heap.size := by omega); (try have q2f : wr.heap.size + 1 < w2.heap.size := by omega); (try have q2g : w1.heap.size < w2.heap.size := by omega); (try have q2h : w1.heap.size + 1 < w2.heap.size := by omega))))
  go_ret
  exact ⟨rfl, by (repeat' (first | exact Below.refl _ _ | assumption | (with_reducible refine Below.drew ?_) | (with_reducible refine Below.setCell ?_ (by (first | (simp; done) | (simp; omega))) _) | (with_reducible refine below_drewN' ?_ _) | (refine Below.alloc ?_ (by (try simp only [World.size_alloc, World.size_drew, World.size_setCell]); omega) _) | (refine Below.trans ?_ (Below.mono (by assumption) (by (try simp only [World.size_alloc, World.size_drew, World.size_setCell]); omega)))))⟩
 ·rw [if_neg c0]
  have c0' : (left - s == 0) = false := by simpa using c0
  by_cases c1 : left - s = 1
  ·rw [if_pos c1]
   have c1' : (left - s == 1) = true := by simpa using c1
   have e : decide (out ≠ 0) = (out != 0) := by rw [Bool.eq_iff_iff]; simp
   rw [e]
   clear e
   go_enter Try.func96, Try.ntmps96
   go_wp2_with (first | (go_at_call 97; (with_reducible refine (x1 _).mono ?_); rintro e w1 ⟨rfl, hb1⟩; (obtain ⟨hc1, hf1⟩ := bcell hb1; have z1 := hb1.size; (try simp only [World.size_alloc, World.size_drew, World.size_setCell] at z1); (try have q1a : w.heap.size < w1.heap.size := by omega); (try have q1b : w.heap.size + 1 < w1.heap.size := by omega); (try have q1c : w.heap.size + 1 + 1 < w1.heap.size := by omega); (try have q1d : w.heap.size + 1 + 1 + 1 < w1.heap.size := by omega); (try have q1e : wr.heap.size < w1.heap.size := by omega); (try have q1f : wr.heap.size + 1 < w1.heap.size := by omega))))
   go_ret
   exact ⟨rfl, by (repeat' (first | exact Below.refl _ _ | assumption | (with_reducible refine Below.drew ?_) | (with_reducible refine Below.setCell ?_ (by (first | (simp; done) | (simp; omega))) _) | (with_reducible refine below_drewN' ?_ _) | (refine Below.alloc ?_ (by (try simp only [World.size_alloc, World.size_drew, World.size_setCell]); omega) _) | (refine Below.trans ?_ (Below.mono (by assumption) (by (try simp only [World.size_alloc, World.size_drew, World.size_setCell]); omega)))))⟩
  ·rw [if_neg c1]
   have c1' : (left - s == 1) = false := by simpa using c1
   go_enter Try.func96, Try.ntmps96
   go_wp2_with (first | (go_at_call 97; (with_reducible refine (x1 _).mono ?_); rintro e w1 ⟨rfl, hb1⟩; (obtain ⟨hc1, hf1⟩ := bcell hb1; have z1 := hb1.size; (try simp only [World.size_alloc, World.size_drew, World.size_setCell] at z1); (try have q1a : w.heap.size < w1.heap.size := by omega); (try have q1b : w.heap.size + 1 < w1.heap.size := by omega); (try have q1c : w.heap.size + 1 + 1 < w1.heap.size := by omega); (try have q1d : w.heap.size + 1 + 1 + 1 < w1.heap.size := by omega); (try have q1e : wr.heap.size < w1.heap.size := by omega); (try have q1f : wr.heap.size + 1 < w1.heap.size := by omega))))
   go_ret
   exact ⟨rfl, by (repeat' (first | exact Below.refl _ _ | assumption | (with_reducible refine Below.drew ?_) | (with_reducible refine Below.setCell ?_ (by (first | (simp; done) | (simp; omega))) _) | (with_reducible refine below_drewN' ?_ _) | (refine Below.alloc ?_ (by (try simp only [World.size_alloc, World.size_drew, World.size_setCell]); omega) _) | (refine Below.trans ?_ (Below.mono (by assumption) (by (try simp only [World.size_alloc, World.size_drew, World.size_setCell]); omega)))))⟩
end
section
open Go.RowKit Go.Shelf
structure Only (V : Nat) (w w' : World) : Prop where
 os : w'.os = w.os
 tape : w'.tape = w.tape
 output : w'.output = w.output
 size : w.heap.size ≤ w'.heap.size
 block : ∀ k, k ≠ V → k < w.heap.size → w'.heap[k]? = w.heap[k]?
theorem Only.refl (V : Nat) (w : World) : Only V w w := ⟨rfl, rfl, rfl, Nat.le_refl _, fun _ _ _ => rfl⟩
theorem Only.trans {V : Nat} {a b c : World} (h : Only V a b) (k : Only V b c) : Only V a c :=
 ⟨k.os.trans h.os, k.tape.trans h.tape, k.output.trans h.output, Nat.le_trans h.size k.size, fun i h1 h2 => (k.block i h1 (Nat.lt_of_lt_of_le h2 h.size)).trans (h.block i h1 h2)⟩
theorem Only.of_below {V : Nat} {w w' : World} (h : Below w.heap.size w w') : Only V w w' := ⟨h.os, h.tape, h.output, h.size, fun k _ hk => h.block k hk⟩
theorem Only.set (V i : Nat) (w : World) (x : Value) : Only V w (w.setCell ⟨V, i, none⟩ x) := ⟨rfl, rfl, rfl, by simp [World.setCell], fun k hk _ => Below.heap_setCell _ _ _ _ hk⟩
theorem Only.below {V : Nat} {w w' : World} (h : Only V w w') (hV : V ≤ w.heap.size) : Below V w w' := ⟨h.os, h.tape, h.output, h.size, fun k hk => h.block k (by omega) (by omega)⟩
theorem Only.cell {V : Nat} {w w' : World} (h : Only V w w') {k i : Nat} {x : Value} (hk : k ≠ V) (hx : w.cell? ⟨k, i, none⟩ = some x) : w'.cell? ⟨k, i, none⟩ = some x :=
 (World.cell?_of_block (w := w) (a := ⟨k, i, none⟩) (h.block k hk (World.block_lt_of_cell? w _ hx))).trans hx
theorem Only.cells {V : Nat} {w w' : World} (h : Only V w w') {k : Nat} {o : Obj} (hk : k ≠ V) (hx : w.heap[k]? = some o) : w'.heap[k]? = some o :=
 (h.block k hk (Array.getElem?_eq_some_iff.1 hx).1).trans hx
theorem Only.sl {α : Type} {V : Nat} {w w' : World} {k : Nat} {enc : α → List Value} {a : Option Addr} {n c : Nat} {xs : List α} (h : Only V w w') (hV : ∀ g o, a = some ⟨g, o, none⟩ → g ≠ V) (hs : Sl w k enc (.slice a n c) xs) : Sl w' k enc (.slice a n c) xs := by
 obtain ⟨a', c', e, hl, hs⟩ := hs
 simp only [Value.slice.injEq] at e
 obtain ⟨rfl, rfl, rfl⟩ := e
 refine ⟨a, c, rfl, hl, fun hne => ?_⟩
 obtain ⟨b, off, rfl, hb, hc⟩ := hs hne
 exact ⟨b, off, rfl, Nat.lt_of_lt_of_le hb h.size, fun j x hx i y hy => h.cell (hV b off rfl) (hc j x hx i y hy)⟩
theorem blk_cell {w : World} {V : Nat} {cs : Array Value} {T : TypeId} (h : w.heap[V]? = some (.cells cs T (0, 0))) {i : Nat} {x : Value} (hx : cs[i]? = some x) : w.cell? ⟨V, i, none⟩ = some x := by
 simp [World.cell?, h, hx]
theorem blk_free {w : World} {V : Nat} {cs : Array Value} {T : TypeId} (h : w.heap[V]? = some (.cells cs T (0, 0))) (i : Nat) : w.frozen? ⟨V, i, none⟩ = false := by
 simp [World.frozen?, h]
def VisAt (w : World) (V : Nat) (t : Thr) (c : Cnt) : Prop :=
 w.heap[V]? = some (.cells #[.int .i64 t.left, .int .i64 t.score, .int .i64 t.darts, .bool t.inn, .bool t.bust, .bool t.won, .int .i64 c.1, .int .i64 c.2.1, .int .i64 c.2.2] 132 (0, 0))
set_option maxRecDepth 100000 in
set_option maxHeartbeats 1000000 in
theorem ended_any (V : Nat) (t : Thr) (c : Cnt) (w : World) (hV : VisAt w V t c) :
  Calls Try.prog 68 #[.pointer (some ⟨V, 0, none⟩)] w (Ret (.bool t.ended) w) := by
 unfold VisAt at hV
 have k2 := blk_cell hV (i := 2) rfl
 have k4 := blk_cell hV (i := 4) rfl
 have k5 := blk_cell hV (i := 5) rfl
 clear hV
 unfold Thr.ended
 generalize t.won = wn at *
 generalize t.bust = bs at *
 generalize t.darts = d at *
 cases wn with
 | true =>
  rw [Bool.true_or]
  go_enter Try.func68, Try.ntmps68
  go_wp2
  go_ret
  exact ⟨rfl, by (repeat' (first | exact Below.refl _ _ | assumption | (with_reducible refine Below.drew ?_) | (with_reducible refine Below.setCell ?_ (by (first | (simp; done) | (simp; omega))) _) | (with_reducible refine below_drewN' ?_ _) | (refine Below.alloc ?_ (by (try simp only [World.size_alloc, World.size_drew, World.size_setCell]); omega) _) | (refine Below.trans ?_ (Below.mono (by assumption) (by (try simp only [World.size_alloc, World.size_drew, World.size_setCell]); omega)))))⟩
 | false =>
  rw [Bool.false_or]
  cases bs with
  | true =>
   rw [Bool.true_or]
   go_enter Try.func68, Try.ntmps68
   go_wp2
   go_ret
   exact ⟨rfl, by (repeat' (first | exact Below.refl _ _ | assumption | (with_reducible refine Below.drew ?_) | (with_reducible refine Below.setCell ?_ (by (first | (simp; done) | (simp; omega))) _) | (with_reducible refine below_drewN' ?_ _) | (refine Below.alloc ?_ (by (try simp only [World.size_alloc, World.size_drew, World.size_setCell]); omega) _) | (refine Below.trans ?_ (Below.mono (by assumption) (by (try simp only [World.size_alloc, World.size_drew, World.size_setCell]); omega)))))⟩
  | false =>
   rw [Bool.false_or]
   have e : decide (d = 3) = (d == 3) := by rw [Bool.eq_iff_iff]; simp
   rw [e]
   clear e
   go_enter Try.func68, Try.ntmps68
   go_wp2
   go_ret
   exact ⟨rfl, by (repeat' (first | exact Below.refl _ _ | assumption | (with_reducible refine Below.drew ?_) | (with_reducible refine Below.setCell ?_ (by (first | (simp; done) | (simp; omega))) _) | (with_reducible refine below_drewN' ?_ _) | (refine Below.alloc ?_ (by (try simp only [World.size_alloc, World.size_drew, World.size_setCell]); omega) _) | (refine Below.trans ?_ (Below.mono (by assumption) (by (try simp only [World.size_alloc, World.size_drew, World.size_setCell]); omega)))))⟩
end
end Go.Proofs.Ytnhjoebdmmelaaa
