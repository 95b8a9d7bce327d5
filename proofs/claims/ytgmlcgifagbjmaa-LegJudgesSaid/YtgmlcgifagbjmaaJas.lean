/- Leg: parts Ga, Gb. -/
import Derived.Test.YtgmlcgifagbjmaaJar
import Derived.Test.YtgmlcgifagbjmaaJam
import Derived.Test.YtgmlcgifagbjmaaJak
import Derived.Test.YtgmlcgifagbjmaaJap
set_option linter.unusedVariables false
set_option linter.unusedSimpArgs false
namespace Go.Proofs.Ytgmlcgifagbjmaa
section
open Go.RowKit Go.Maps Go.Sort Go.Shelf
theorem loW_mn {ps : List Nat} {ns : List Int} (h : ps ≠ []) : loW ps ns ps.length = mn (ps.map fun p => ns.getD p 0) := by
 unfold loW
 rw [List.take_length]
 apply mn_fold
 cases ps with
 | nil => exact absurd rfl h
 | cons x xs => rfl
theorem range_sorted (n : Nat) : (List.range n).Pairwise (· < ·) := List.pairwise_lt_range
theorem cI_sorted {l : List Nat} (h : l.Pairwise (· < ·)) : (cI l).Pairwise (· < ·) := by
 unfold cI
 exact List.pairwise_map.2 (h.imp (fun h => by omega))
/-- The keys with the least number, by going through all numbers of players. -/
theorem least_over {ps : List (Int × Int)} {es : List Nat} {ns : List Int} (hes : cI es = ps.map (·.1)) (hnd : es.Nodup) (hv : ∀ q ∈ ps, ns.getD q.1.toNat 0 = q.2) (hlt : ∀ e ∈ es, e < ns.length) (hne : es ≠ []) : leastL ps = cI (overW es ns) := by
 have hpn : ps ≠ [] := fun e => by rw [e] at hes; exact hne (List.eq_nil_of_length_eq_zero (by have := congrArg List.length hes; simpa [cI_len] using this))
 have hm : mn (ps.map (·.2)) = loW es ns es.length := by
  rw [loW_mn hne]
  have e1 : ps.map (·.2) = (ps.map (·.1)).map (fun x => ns.getD x.toNat 0) := by
   rw [List.map_map]
   exact List.map_congr_left (fun q hq => (hv q hq).symm)
  rw [e1, ← hes]
  unfold cI
  rw [List.map_map]
  rfl
 have hkeys : (ps.map (·.1)).Nodup := by
  rw [← hes]
  unfold cI
  exact List.pairwise_map.2 (hnd.imp (fun h e => h (by omega)))
 unfold leastL overW
 rw [hm]
 generalize loW es ns es.length = m
 have hs : (cI (ovK es ns m ns.length)).Pairwise (· < ·) := cI_sorted (by unfold ovK; exact (range_sorted _).sublist List.filter_sublist)
 have hp : (leastU m ps).Perm (cI (ovK es ns m ns.length)) := by
  refine (List.perm_ext_iff_of_nodup ?_ (hs.imp (fun h => by omega))).2 fun x => ?_
  ·exact hkeys.sublist (by unfold leastU; exact (List.filter_sublist).map _)
  ·constructor
   ·intro hx
    obtain ⟨q, hq, rfl⟩ := List.mem_map.1 hx
    obtain ⟨hq, hqm⟩ := List.mem_filter.1 hq
    have h1 : q.1 ∈ cI es := by rw [hes]; exact List.mem_map_of_mem hq
    obtain ⟨e, he, hee⟩ := List.mem_map.1 h1
    have h2 := hv q hq
    rw [← hee] at h2 ⊢
    rw [mem_cI]
    unfold ovK
    simp only [Int.toNat_natCast] at h2
    have h3 : q.2 = m := by simpa using hqm
    exact List.mem_filter.2 ⟨List.mem_range.2 (hlt e he), by rw [h2, h3]; simp [he]⟩
   ·intro hx
    obtain ⟨e, he, rfl⟩ := List.mem_map.1 hx
    unfold ovK at he
    obtain ⟨_, he⟩ := List.mem_filter.1 he
    simp only [Bool.and_eq_true, decide_eq_true_eq] at he
    have h1 : ((e : Nat) : Int) ∈ ps.map (·.1) := by rw [← hes]; exact mem_cI.2 he.1
    obtain ⟨q, hq, hqe⟩ := List.mem_map.1 h1
    have h2 := hv q hq
    have h4 : q.1.toNat = e := by rw [hqe]; simp
    rw [h4] at h2
    exact List.mem_map.2 ⟨q, List.mem_filter.2 ⟨hq, by rw [← h2, he.2]; simp⟩, hqe⟩
 have h1 : ((leastU m ps).mergeSort (fun x y => decide (x ≤ y))).Perm (cI (ovK es ns m ns.length)) := (List.mergeSort_perm _ _).trans hp
 have h2 : ((leastU m ps).mergeSort (fun x y => decide (x ≤ y))).Pairwise (· ≤ ·) := by
  have := List.pairwise_mergeSort (le := fun (x y : Int) => decide (x ≤ y)) (fun a b c h1 h2 => by simp at h1 h2 ⊢; omega) (fun a b => by simp; omega) (leastU m ps)
  exact this.imp (fun h => by simpa using h)
 exact h1.eq_of_pairwise (fun a b _ _ h1 h2 => by omega) h2 (hs.imp (fun h => by omega))
theorem over_one {k : Nat} {ns : List Int} (h : k < ns.length) (d : Int) : leastL [((k : Int), d)] = cI (overW [k] ns) := by
 have h1 := least_over (ps := [((k : Int), ns.getD k 0)]) (es := [k]) (ns := ns) rfl (by simp) (by simp) (by simpa using h) (by simp)
 rw [← h1]
 have e : ∀ x : Int, leastL [((k : Int), x)] = [(k : Int)] := by
  intro x
  unfold leastL leastU mn
  simp
 rw [e, e]
theorem over_all {ls : List Int} (h : ls ≠ []) : leastL (leftP ls) = cI (overW (List.range ls.length) ls) := by
 refine least_over ?_ List.nodup_range (fun q hq => ?_) (fun e he => List.mem_range.1 he) (fun e => h (List.eq_nil_of_length_eq_zero (by simpa using congrArg List.length e)))
 ·refine List.ext_getElem? fun i => ?_
  unfold cI
  rw [List.getElem?_map, List.getElem?_map]
  by_cases hi : i < ls.length
  ·obtain ⟨x, hx⟩ : ∃ x, ls[i]? = some x := ⟨_, List.getElem?_eq_getElem hi⟩
   rw [leftP_get hx, List.getElem?_range hi]
   rfl
  ·rw [List.getElem?_eq_none (by simpa using hi), List.getElem?_eq_none (by rw [leftP_length]; omega)]
   rfl
 ·obtain ⟨i, hi, e⟩ := List.mem_iff_getElem.1 hq
  have hi' : i < ls.length := by rw [leftP_length] at hi; exact hi
  have h1 : (leftP ls)[i]? = some q := by rw [List.getElem?_eq_getElem hi, e]
  rw [leftP_get (List.getElem?_eq_getElem hi')] at h1
  cases h1
  simp [List.getD_eq_getElem?_getD, hi']
/-- What is left of a visit that is right, and has not won, is a stand. -/
theorem thrL_stand (c : Cnt) (in0 : Bool) (left0 : Int) (h0 : vstand c in0 left0 = true) : ∀ (bs : List Int) (t : Thr) (i : Nat), (t.won = false → vstand c t.inn t.left = true) → (∀ b ∈ bs, vbed b = true → 0 ≤ sc b) → (thrL c in0 left0 t i bs).2.2 = 0 → (thrL c in0 left0 t i bs).1.won = false → vstand c (thrL c in0 left0 t i bs).1.inn (thrL c in0 left0 t i bs).1.left = true := by
 intro bs
 induction bs with
 | nil =>
  intro t i ht _ he hw
  unfold thrL at he hw ⊢
  by_cases hh : t.ended = true
  ·rw [if_pos hh] at hw ⊢
   unfold Thr.fin at hw ⊢
   simp only [] at hw ⊢
   by_cases hb : t.bust = true
   ·rw [if_pos hb]; exact h0
   ·rw [if_neg hb] at hw ⊢; exact ht hw
  ·rw [if_neg hh] at he; cases he
 | cons b bs ih =>
  intro t i ht hb he hw
  unfold thrL at he hw ⊢
  by_cases hh : t.ended = true
  ·rw [if_pos hh] at he; cases he
  ·rw [if_neg hh] at he hw ⊢
   by_cases hv : vbed b = true
   ·rw [if_pos hv] at he hw ⊢
    refine ih _ _ (fun hst => ?_) (fun x hx => hb x (List.mem_cons_of_mem _ hx)) he hw
    have htw : t.won = false := by
     unfold Thr.ended at hh
     cases hw2 : t.won with
     | false => rfl
     | true => rw [hw2] at hh; simp at hh
    have hts := ht htw
    have hs0 := hb b (by simp) hv
    unfold Thr.step at hst ⊢
    split
    ·rename_i h1
     rw [if_pos h1] at hst
     split
     ·exact hts
     ·rename_i h2
      rw [if_neg h2] at hst
      unfold bst at h2
      simp only [decide_eq_false_iff_not] at hst
      rw [if_neg hst] at h2
      unfold vstand inb at hts ⊢
      simp only [Bool.and_eq_true, decide_eq_true_eq, Bool.true_or, and_true] at hts ⊢
      split at h2
      ·simp at h2
       rw [if_pos h2]
       omega
      ·simp at h2
       split <;> omega
    ·rename_i h1
     have h3 : t.inn = false := by
      cases hi : t.inn with
      | false => rfl
      | true => rw [hi] at h1; simp at h1
     rw [h3] at hts
     exact hts
   ·rw [if_neg hv] at he; cases he
theorem thr_stand {c : Cnt} {in0 : Bool} {left : Int} {bs : List Int} (h0 : vstand c in0 left = true) (he : (thr c in0 left bs).2.2 = 0) (hw : (thr c in0 left bs).1.won = false) : vstand c (thr c in0 left bs).1.inn (thr c in0 left bs).1.left = true :=
 thrL_stand c in0 left h0 bs ⟨left, 0, 0, in0, false, false⟩ 0 (fun _ => h0) (fun b _ hv => (sc_bd (vbed_bd hv).1 (vbed_bd hv).2).1) he hw
/-- What the reference's leg R, with those who have ended in this round, says of the leg g. -/
structure RfOk (r : LegR) (g : LegG) (R : RG) (es : List Nat) : Prop where
 next : R.next = g.next
 round : R.round = g.round
 over : R.over = g.over
 keys : cI es = g.ended.map (·.1)
 last : ∀ q ∈ g.ended, R.last q.1.toNat = q.2
 nodup : es.Nodup
 lt : ∀ e ∈ es, e < r.counts.length
 done : g.over = false → 0 ≤ R.done ∧ R.done < (r.counts.length : Int) ∧ g.next = (r.first + R.done) % (r.counts.length : Int)
 thrown : g.over = false → ∀ e ∈ es, ∃ j : Int, 0 ≤ j ∧ j < R.done ∧ (e : Int) = (r.first + j) % (r.counts.length : Int)
 eq : g.over = false → g.ended ≠ [] → r.equal = true
 l1 : g.left.length = r.counts.length
 l2 : g.darts.length = r.counts.length
 l3 : g.inn.length = r.counts.length
 stand : g.over = false → ∀ k, k < r.counts.length → k ∉ es → vstand (r.counts.getD k (0, 0, 0)) (g.inn.getD k false) (g.left.getD k 0) = true
def rg0 (r : LegR) : RG := ⟨r.first, 0, false, fun _ => 0, 0⟩
theorem rf_begin {r : LegR} (hr : r.Ok) : RfOk r (beginG r) (rg0 r) [] := by
 have f0 := hr.f0
 have f1 := hr.f1
 refine ⟨rfl, rfl, rfl, rfl, (fun q hq => by cases hq), List.nodup_nil, (fun e he => by cases he), fun _ => ⟨Int.le_refl _, by show (0 : Int) < _; omega, ?_⟩, (fun _ e he => by cases he), (fun _ h => absurd rfl h), by simp [beginG], by simp [beginG], by simp [beginG], fun _ k hk _ => ?_⟩
 ·show r.first = (r.first + 0) % _
  rw [Int.add_zero, Int.emod_eq_of_lt f0 f1]
 ·obtain ⟨c, hc⟩ : ∃ c, r.counts[k]? = some c := ⟨_, List.getElem?_eq_getElem hk⟩
  have hv := hr.cnt c (List.mem_of_getElem? hc)
  have hb := vcnt_bd hv
  have e1 : (beginG r).inn.getD k false = (c.2.1 == 0) := by
   show (r.counts.map (fun c => c.2.1 == 0)).getD k false = _
   rw [List.getD_eq_getElem?_getD, List.getElem?_map, hc]; rfl
  have e2 : (beginG r).left.getD k 0 = c.1 := by
   show (r.counts.map (·.1)).getD k 0 = _
   rw [List.getD_eq_getElem?_getD, List.getElem?_map, hc]; rfl
  have e3 : r.counts.getD k (0, 0, 0) = c := by rw [List.getD_eq_getElem?_getD, hc]; rfl
  rw [e1, e2, e3]
  unfold vstand inb
  simp only [Bool.and_eq_true, decide_eq_true_eq, Bool.or_eq_true, or_true, and_true]
  unfold vcnt inb at hv
  simp only [Bool.and_eq_true, decide_eq_true_eq] at hv
  split <;> omega
/-- Who throws next has not ended. -/
theorem rf_fresh {r : LegR} {g : LegG} {R : RG} {es : List Nat} (h : RfOk r g R es) (ho : g.over = false) {k : Nat} (hk : (k : Int) = g.next) : k ∉ es := by
 intro hm
 obtain ⟨j, j0, j1, e⟩ := h.thrown ho k hm
 obtain ⟨d0, d1, d2⟩ := h.done ho
 rw [hk, d2] at e
 have h1 : ((r.first + R.done) - (r.first + j)) % (r.counts.length : Int) = 0 := Int.emod_eq_emod_iff_emod_sub_eq_zero.1 e
 have h2 : (r.first + R.done) - (r.first + j) = R.done - j := by omega
 rw [h2, Int.emod_eq_of_lt (by omega) (by omega)] at h1
 omega
/-- A leg that a visit has hit: who has ended. -/
def hitE (es : List Nat) (k : Nat) (t : Thr) : List Nat := if t.won = true then es ++ [k] else es
def hitR (R : RG) (k : Nat) (t : Thr) : RG := { R with last := fun p => if t.won = true ∧ p = k then t.darts else R.last p }
structure RfHit (r : LegR) (g : LegG) (R : RG) (es : List Nat) : Prop where
 next : 0 ≤ g.next ∧ g.next < (r.counts.length : Int)
 keys : cI es = g.ended.map (·.1)
 last : ∀ q ∈ g.ended, R.last q.1.toNat = q.2
 nodup : es.Nodup
 lt : ∀ e ∈ es, e < r.counts.length
 done : 0 ≤ R.done ∧ R.done < (r.counts.length : Int) ∧ g.next = (r.first + R.done) % (r.counts.length : Int)
 thrown : ∀ e ∈ es, ∃ j : Int, 0 ≤ j ∧ j < R.done + 1 ∧ (e : Int) = (r.first + j) % (r.counts.length : Int)
 one : r.equal = false → es = [] ∨ ∃ k, es = [k]
 l1 : g.left.length = r.counts.length
 l2 : g.darts.length = r.counts.length
 l3 : g.inn.length = r.counts.length
 stand : ∀ k, k < r.counts.length → k ∉ es → vstand (r.counts.getD k (0, 0, 0)) (g.inn.getD k false) (g.left.getD k 0) = true
theorem cI_nil {es : List Nat} {ps : List (Int × Int)} (h : cI es = ps.map (·.1)) : es = [] ↔ ps = [] := by
 have := congrArg List.length h
 rw [cI_len, List.length_map] at this
 constructor
 ·intro e; subst e; exact List.eq_nil_of_length_eq_zero this.symm
 ·intro e; subst e; exact List.eq_nil_of_length_eq_zero this
theorem rf_hit {r : LegR} {g : LegG} {R : RG} {es : List Nat} (h : RfOk r g R es) (ho : g.over = false) {k : Nat} (hk : (k : Int) = g.next) (hn : k < r.counts.length) {bs : List Int} (he : (takeT r g k bs).2.2 = 0) :
  RfHit r (hitG g k (takeT r g k bs).1) (hitR R k (takeT r g k bs).1) (hitE es k (takeT r g k bs).1) := by
 have hf := rf_fresh h ho hk
 have hst := h.stand ho k hn hf
 have hst2 : (takeT r g k bs).1.won = false → vstand (r.counts.getD k (0, 0, 0)) (takeT r g k bs).1.inn (takeT r g k bs).1.left = true := fun hw => thr_stand hst he hw
 generalize (takeT r g k bs).1 = t at *
 have hkn : (k : Int) ∉ g.ended.map (·.1) := by rw [← h.keys, mem_cI]; exact hf
 have hput : putA g.ended k t.darts = g.ended ++ [((k : Int), t.darts)] := by
  unfold putA
  rw [if_neg hkn]
 obtain ⟨d0, d1, d2⟩ := h.done ho
 have hend : (hitG g k t).ended = if t.won = true then g.ended ++ [((k : Int), t.darts)] else g.ended := by
  unfold hitG; rw [hput]
 refine ⟨?_, ?_, fun q hq => ?_, ?_, fun e hm => ?_, ⟨d0, d1, d2⟩, fun e hm => ?_, fun hq => ?_, by simp [hitG, h.l1], by simp [hitG, h.l2], by simp [hitG, h.l3], fun j hj hm => ?_⟩
 ·have e : (hitG g k t).next = g.next := rfl
  rw [e]; omega
 ·rw [hend]
  unfold hitE
  split
  ·rw [List.map_append, ← h.keys]; unfold cI; rw [List.map_append]; rfl
  ·exact h.keys
 ·rw [hend] at hq
  unfold hitR
  simp only []
  split at hq
  ·rename_i hw
   rcases List.mem_append.1 hq with hq | hq
   ·have h1 : q.1 ∈ g.ended.map (·.1) := List.mem_map_of_mem hq
    have h2 : q.1 ∈ cI es := by rw [h.keys]; exact h1
    obtain ⟨e, he2, hee⟩ := List.mem_map.1 h2
    rw [if_neg]
    ·exact h.last q hq
    ·rintro ⟨_, e3⟩
     have : q.1 = (k : Int) := by rw [← hee] at e3 ⊢; simp at e3; omega
     rw [this] at h1
     exact hkn h1
   ·simp at hq; subst hq
    rw [if_pos ⟨hw, by simp⟩]
  ·rename_i hw
   rw [if_neg (fun h => hw h.1)]
   exact h.last q hq
 ·unfold hitE
  split
  ·exact List.nodup_append.2 ⟨h.nodup, by simp, fun a ha b hb e => by simp at hb; subst hb; subst e; exact hf ha⟩
  ·exact h.nodup
 ·unfold hitE at hm
  split at hm
  ·rcases List.mem_append.1 hm with hm | hm
   ·exact h.lt e hm
   ·simp at hm; subst hm; exact hn
  ·exact h.lt e hm
 ·have key : ∀ e ∈ es, ∃ j : Int, 0 ≤ j ∧ j < R.done + 1 ∧ (e : Int) = (r.first + j) % (r.counts.length : Int) := fun e hm => by
   obtain ⟨j, j0, j1, e⟩ := h.thrown ho e hm
   exact ⟨j, j0, by omega, e⟩
  unfold hitE at hm
  split at hm
  ·rcases List.mem_append.1 hm with hm | hm
   ·exact key e hm
   ·simp at hm; subst hm
    exact ⟨R.done, d0, by show R.done < R.done + 1; omega, by rw [hk, d2]⟩
  ·exact key e hm
 ·have h0 : es = [] := (cI_nil h.keys).2 (by
   by_cases hx : g.ended = []
   ·exact hx
   ·have := h.eq ho hx
    rw [hq] at this; cases this)
  unfold hitE
  rw [h0]
  split
  ·exact .inr ⟨k, rfl⟩
  ·exact .inl rfl
 ·by_cases hjk : j = k
  ·subst hjk
   have hw : t.won = false := by
    cases hw : t.won with
    | false => rfl
    | true => exfalso; apply hm; unfold hitE; rw [if_pos hw]; simp
   have e1 : (hitG g j t).inn.getD j false = t.inn := by
    show (g.inn.set j t.inn).getD j false = _
    rw [List.getD_eq_getElem?_getD, List.getElem?_set_self (by rw [h.l3]; exact hj)]; rfl
   have e2 : (hitG g j t).left.getD j 0 = t.left := by
    show (g.left.set j t.left).getD j 0 = _
    rw [List.getD_eq_getElem?_getD, List.getElem?_set_self (by rw [h.l1]; exact hj)]; rfl
   rw [e1, e2]
   exact hst2 hw
  ·have e1 : (hitG g k t).inn.getD j false = g.inn.getD j false := by
    show (g.inn.set k t.inn).getD j false = _
    rw [List.getD_eq_getElem?_getD, List.getElem?_set_ne (Ne.symm hjk), List.getD_eq_getElem?_getD]
   have e2 : (hitG g k t).left.getD j 0 = g.left.getD j 0 := by
    show (g.left.set k t.left).getD j 0 = _
    rw [List.getD_eq_getElem?_getD, List.getElem?_set_ne (Ne.symm hjk), List.getD_eq_getElem?_getD]
   rw [e1, e2]
   refine h.stand ho j hj (fun hje => hm ?_)
   unfold hitE
   split
   ·exact List.mem_append_left _ hje
   ·exact hje
theorem rf_comp {r : LegR} {g : LegG} {R : RG} {es : List Nat} (hr : r.Ok) (h : RfHit r g R es) : (((g.next + 1) % (r.counts.length : Int)) == r.first) = decide (R.done + 1 = (r.counts.length : Int)) := by
 obtain ⟨d0, d1, d2⟩ := h.done
 have f0 := hr.f0
 have f1 := hr.f1
 rw [d2, Int.emod_add_emod, Bool.eq_iff_iff]
 simp only [beq_iff_eq, decide_eq_true_eq]
 constructor
 ·intro e
  have e2 : (r.first + R.done + 1) % (r.counts.length : Int) = r.first % (r.counts.length : Int) := by rw [e, Int.emod_eq_of_lt f0 f1]
  have h1 := Int.emod_eq_emod_iff_emod_sub_eq_zero.1 e2
  have h2 : r.first + R.done + 1 - r.first = R.done + 1 := by omega
  rw [h2] at h1
  by_cases h3 : R.done + 1 = (r.counts.length : Int)
  ·exact h3
  ·rw [Int.emod_eq_of_lt (by omega) (by omega)] at h1
   omega
 ·intro e
  have : r.first + R.done + 1 = r.first + (r.counts.length : Int) := by omega
  rw [this, Int.add_emod_right, Int.emod_eq_of_lt f0 f1]
/-- The leg is over: by those who have ended, without Equal. -/
theorem rf_over {r : LegR} {g : LegG} {R : RG} {es : List Nat} (h : RfHit r g R es) (hp : (passF r g).2.2 = true) (dn : Int) : RfOk r (passG r g) { R with next := -1, round := (passF r g).2.1, over := true, done := dn } es := by
 unfold passG
 rw [if_pos hp]
 exact ⟨rfl, rfl, rfl, h.keys, h.last, h.nodup, h.lt, (fun ho => by cases ho), (fun ho => by cases ho), (fun ho => by cases ho), h.l1, h.l2, h.l3, (fun ho => by cases ho)⟩
theorem rf_on {r : LegR} {g : LegG} {R : RG} {es : List Nat} (hr : r.Ok) (h : RfHit r g R es) (ho : g.over = false) (hp : (passF r g).2.2 = false) :
  RfOk r (passG r g) { R with next := (g.next + 1) % (r.counts.length : Int), round := if R.done + 1 = (r.counts.length : Int) then g.round + 1 else g.round, over := false, done := if R.done + 1 = (r.counts.length : Int) then 0 else R.done + 1 } es := by
 have hc := rf_comp hr h
 obtain ⟨d0, d1, d2⟩ := h.done
 have f0 := hr.f0
 have f1 := hr.f1
 have hpf : passF r g = ((g.next + 1) % (r.counts.length : Int), (if R.done + 1 = (r.counts.length : Int) then g.round + 1 else g.round), false) ∧ (es ≠ [] → ¬ R.done + 1 = (r.counts.length : Int) ∧ r.equal = true) := by
  unfold passF at hp ⊢
  simp only [] at hp ⊢
  rw [hc] at hp ⊢
  simp only [decide_eq_true_eq] at hp ⊢
  generalize (if R.done + 1 = (r.counts.length : Int) then g.round + 1 else g.round) = rd at hp ⊢
  split at hp
  ·cases hp
  ·rename_i hno
   rw [if_neg hno]
   refine ⟨rfl, fun hne => ?_⟩
   have he : g.ended.isEmpty = false := by
    cases hx : g.ended with
    | nil => exact absurd ((cI_nil h.keys).2 hx) hne
    | cons a b => rfl
   rw [he] at hno
   simp only [Bool.not_false, Bool.true_and, Bool.or_eq_true, decide_eq_true_eq, Bool.not_eq_true', not_or] at hno
   exact ⟨hno.1.1, by simpa using hno.1.2⟩
 unfold passG
 rw [hpf.1]
 simp only [Bool.false_eq_true, if_false]
 refine ⟨rfl, rfl, ho.symm, h.keys, h.last, h.nodup, h.lt, fun _ => ?_, fun _ e he => ?_, fun _ hne => (hpf.2 (fun e => hne ((cI_nil h.keys).1 e))).2, h.l1, h.l2, h.l3, fun _ => h.stand⟩
 ·show 0 ≤ (if R.done + 1 = (r.counts.length : Int) then 0 else R.done + 1) ∧ (if R.done + 1 = (r.counts.length : Int) then 0 else R.done + 1) < (r.counts.length : Int) ∧ (g.next + 1) % (r.counts.length : Int) = (r.first + (if R.done + 1 = (r.counts.length : Int) then 0 else R.done + 1)) % (r.counts.length : Int)
  by_cases hd : R.done + 1 = (r.counts.length : Int)
  ·rw [if_pos hd]
   refine ⟨Int.le_refl _, by omega, ?_⟩
   rw [d2, Int.emod_add_emod]
   have : r.first + R.done + 1 = r.first + (r.counts.length : Int) := by omega
   rw [this, Int.add_emod_right, Int.add_zero]
  ·rw [if_neg hd]
   refine ⟨by omega, by omega, ?_⟩
   rw [d2, Int.emod_add_emod, Int.add_assoc]
 ·have h1 := (hpf.2 (fun e2 => by rw [e2] at he; cases he)).1
  obtain ⟨j, j0, j1, e⟩ := h.thrown e he
  refine ⟨j, j0, ?_, e⟩
  show j < (if R.done + 1 = (r.counts.length : Int) then 0 else R.done + 1)
  rw [if_neg h1]; exact j1
/-- Which of them it is, in the words of the reference. -/
theorem rf_pass {r : LegR} {g : LegG} {R : RG} {es : List Nat} (hr : r.Ok) (h : RfHit r g R es) :
  (passF r g).2.1 = (if R.done + 1 = (r.counts.length : Int) then g.round + 1 else g.round) ∧
  (passF r g).2.2 = ((!es.isEmpty && !r.equal) || ((!es.isEmpty && decide (R.done + 1 = (r.counts.length : Int))) || (decide (R.done + 1 = (r.counts.length : Int)) && decide ((if R.done + 1 = (r.counts.length : Int) then g.round + 1 else g.round) = r.rounds)))) := by
 have hc := rf_comp hr h
 have he : g.ended.isEmpty = es.isEmpty := by
  cases hx : g.ended with
  | nil => rw [(cI_nil h.keys).2 hx]; rfl
  | cons a b =>
   cases hy : es with
   | nil => rw [(cI_nil h.keys).1 hy] at hx; cases hx
   | cons c d => rfl
 unfold passF
 simp only []
 rw [hc, he]
 generalize hdd : decide (R.done + 1 = (r.counts.length : Int)) = dd
 have h1 : (if dd = true then g.round + 1 else g.round) = (if R.done + 1 = (r.counts.length : Int) then g.round + 1 else g.round) := by
  rw [← hdd]; simp only [decide_eq_true_eq]
 rw [h1]
 generalize (if R.done + 1 = (r.counts.length : Int) then g.round + 1 else g.round) = rd
 have h2 : (rd == r.rounds) = decide (rd = r.rounds) := by
  rw [Bool.eq_iff_iff]; simp
 rw [h2]
 generalize decide (rd = r.rounds) = b
 constructor
 ·split <;> rfl
 ·cases es.isEmpty <;> cases r.equal <;> cases dd <;> cases b <;> rfl
/-- Who has won, in the words of the reference. -/
theorem rf_winA {r : LegR} {g : LegG} {R : RG} {es : List Nat} (h : RfHit r g R es) (hne : es ≠ []) (hq : r.equal = false) : winL g = cI (overW es g.left) := by
 rcases h.one hq with e | ⟨k, e⟩
 ·exact absurd e hne
 ·subst e
  have hx : g.ended ≠ [] := fun e => hne ((cI_nil h.keys).2 e)
  unfold winL
  rw [if_neg hx]
  have h1 := h.keys
  cases hg : g.ended with
  | nil => exact absurd hg hx
  | cons a b =>
   rw [hg] at h1
   unfold cI at h1
   simp only [List.map_cons, List.map_nil, List.cons.injEq] at h1
   have h2 : b = [] := by simpa using h1.2.symm
   rw [h2]
   obtain ⟨a1, a2⟩ := a
   simp only [] at h1
   rw [← h1.1]
   exact over_one (by rw [h.l1]; exact h.lt k (by simp)) a2
def lastL (r : LegR) (R : RG) : List Int := (List.range r.counts.length).map R.last
theorem rf_winB {r : LegR} {g : LegG} {R : RG} {es : List Nat} (h : RfHit r g R es) (hne : es ≠ []) : winL g = cI (overW es (lastL r R)) := by
 have hx : g.ended ≠ [] := fun e => hne ((cI_nil h.keys).2 e)
 unfold winL
 rw [if_neg hx]
 refine least_over h.keys h.nodup (fun q hq => ?_) (fun e he => by unfold lastL; simp; exact h.lt e he) hne
 have h1 : q.1 ∈ cI es := by rw [h.keys]; exact List.mem_map_of_mem hq
 obtain ⟨e, he, hee⟩ := List.mem_map.1 h1
 have h2 : q.1.toNat < r.counts.length := by rw [← hee]; simp; exact h.lt e he
 unfold lastL
 rw [List.getD_eq_getElem?_getD, List.getElem?_map, List.getElem?_range h2]
 exact h.last q hq
theorem rf_winC {r : LegR} {g : LegG} {R : RG} {es : List Nat} (hr : r.Ok) (h : RfHit r g R es) (hne : es = []) : winL g = cI (overW (List.range r.counts.length) g.left) := by
 have hx : g.ended = [] := (cI_nil h.keys).1 hne
 unfold winL
 rw [if_pos hx, ← h.l1]
 exact over_all (fun e => hr.ne (List.eq_nil_of_length_eq_zero (by rw [← h.l1, e]; rfl)))
end
section
open Go.RowKit Go.Maps Go.Sort Go.Shelf Go.Deep
theorem eI_oneG (bs : List Int) : ∀ y ∈ bs, ∀ u ∈ eI y, u.oneCell' = true := by
 intro y _ u hu
 simp [eI] at hu; subst hu; rfl
/-- A row that lies in a block of its own, new. -/
theorem run_append_new {α : Type} {P : Program} (w : World) (t ty e : TypeId) (i : TypeInfo) (z : Value) (size bytes : Nat) (ht : P.underlying t = some (.slice e)) (hi : P.info? e = some i) (hz : i.zero = some z)
  (hsize : i.size = size) (hby : i.bytes = bytes) (hzs : z.cells.size = size) (hsz : 0 < size) (g : Nat) (hg : w.heap[g]? = some (.cells #[] e (0, 0)))
  {enc : α → List Value} {ys : List α} {vy : Value} (hy : Sl w size enc vy ys) (henc : ∀ y, (enc y).length = size) (h0 : ys ≠ [])
  (h63 : ys.length ≤ maxLen) (hbytes : ys.length * bytes ≤ 140737488355328) :
  ∃ c w', (Builtin.append_ #[t, t] ty #[.slice (some ⟨g, 0, none⟩) 0 0, vy]).run P w = .ok (rowV w.heap.size ys.length c) w' ∧ RowB w' size enc e (rowV w.heap.size ys.length c) ys ∧ Below w.heap.size w w' := by
 obtain ⟨ad, cp, rfl, hl, hc⟩ := hy
 subst hsize
 have hfl := flat_len enc i.size henc ys
 obtain ⟨b, off, rfl, hb, hcl⟩ := hc h0
 have hnews : ∀ j u, ((ys.map enc).flatten)[j]? = some u → w.cell? ((⟨b, off, none⟩ : Addr).add j) = some u := by
  intro j u hu
  obtain ⟨q, y, i', hq, hi', rfl⟩ := flat_inv enc i.size henc ys j u hu
  have := hcl q y hq i' u hi'
  rw [Nat.add_assoc] at this
  unfold Addr.add
  split
  ·rename_i h0
   rw [h0, Nat.add_zero] at this
   exact this
  ·exact this
 have hpos : 0 < ys.length := List.length_pos_iff.2 h0
 have hr := run_append_grow (P := P) w t ty e i z ht hi hz ⟨g, 0, none⟩ 0 0 [] (by simp) (by intro j v h; simp at h) ⟨b, off, none⟩ ys.length cp ((ys.map enc).flatten) (by rw [hfl]) hnews (by omega) (by unfold maxLen at h63; omega) (growslice_fits (by omega) (by rw [Nat.zero_add, hby]; exact hbytes))
 refine ⟨_, _, by rw [Nat.zero_add] at hr; exact hr, ?_, ((Below.refl _ w).drew).alloc (Nat.le_refl _) _⟩
 have hge := grownCap_ge w (0 + ys.length) 0 e
 refine ⟨w.heap.size, _, _, rfl, hl, heap_alloc_new w.drew _, fun j y hj i' u hu => ?_⟩
 have hf := flat_get enc i.size henc ys j y i' u hj hu
 have hlt := (List.getElem?_eq_some_iff.1 hf).1
 rw [Array.getElem?_append_left (by simpa using hlt), Array.getElem?_append_right (by simp)]
 simpa using hf
theorem wp_append_new {α : Type} {P : Program} (w : World) {o : Oper} {a : Act} {K : Act → World → Prop} {Q : Exit → Act → World → Prop} (s x : Operand) (t : TypeId)
  (ho : o.op = .call { callee := .builtin .append, args := #[s, x], argTypes := #[t, t] })
  (e : TypeId) (i : TypeInfo) (z : Value) (size bytes : Nat) (ht : P.underlying t = some (.slice e)) (hi : P.info? e = some i) (hz : i.zero = some z)
  (hsize : i.size = size) (hby : i.bytes = bytes) (hzs : z.cells.size = size) (hsz : 0 < size) (g : Nat) (hg : w.heap[g]? = some (.cells #[] e (0, 0))) (hs : a.eval s = .slice (some ⟨g, 0, none⟩) 0 0)
  {enc : α → List Value} {ys : List α} {vy : Value} (hx : a.eval x = vy) (hy : Sl w size enc vy ys) (henc : ∀ y, (enc y).length = size) (h0 : ys ≠ [])
  (h63 : ys.length ≤ maxLen) (hbytes : ys.length * bytes ≤ 140737488355328)
  (h : ∀ c w', RowB w' size enc e (rowV w.heap.size ys.length c) ys → Below w.heap.size w w' → K (a.put o.dst (rowV w.heap.size ys.length c)) w') : o.wp P a w K Q := by
 obtain ⟨c, w', hr, h2, h3⟩ := run_append_new (P := P) w t o.type e i z size bytes ht hi hz hsize hby hzs hsz g hg hy henc h0 h63 hbytes
 unfold Oper.wp execOp
 simp only [ho, resolve, invoke, builtin, Sem.run_bind, Sem.run_pure, Result.andThen_ok, List.map_toArray, List.map_cons, List.map_nil, hs, hx, hr]
 exact h c w' h2 h3
/-- append(row, v...) at the operation, v a row that lies in memory. -/
theorem wp_append_sl {α : Type} {P : Program} (w : World) {o : Oper} {a : Act} {K : Act → World → Prop} {Q : Exit → Act → World → Prop} (s x : Operand) (t : TypeId)
  (ho : o.op = .call { callee := .builtin .append, args := #[s, x], argTypes := #[t, t] })
  (base : Nat) (e : TypeId) (i : TypeInfo) (z : Value) (size bytes : Nat) (ht : P.underlying t = some (.slice e)) (hi : P.info? e = some i) (hz : i.zero = some z)
  (hsize : i.size = size) (hby : i.bytes = bytes) (hzs : z.cells.size = size) (hsz : 0 < size)
  (v : Value) (n : Nat) (xs : List Value) (hs : a.eval s = v) (hown : w.ownsRow base e size v n xs)
  {enc : α → List Value} {ys : List α} {vy : Value} (hx : a.eval x = vy) (hy : Sl w size enc vy ys) (henc : ∀ y, (enc y).length = size) (h1 : ∀ y ∈ ys, ∀ u ∈ enc y, u.oneCell' = true)
  (h63 : n + ys.length ≤ maxLen) (hbytes : (n + ys.length) * bytes ≤ 140737488355328) (hbase : base ≤ w.heap.size)
  (h : ∀ v' w', w'.ownsRow base e size v' (n + ys.length) (xs ++ (ys.map enc).flatten) → w.grownBy w' v.ownBlock → K (a.put o.dst v') w') : o.wp P a w K Q := by
 obtain ⟨ad, cp, rfl, hl, hc⟩ := hy
 have hfl := flat_len enc size henc ys
 have h1' : ∀ u ∈ (ys.map enc).flatten, u.oneCell' = true := by
  intro u hu
  obtain ⟨l, hl, hu⟩ := List.mem_flatten.1 hu
  obtain ⟨y, hy, rfl⟩ := List.mem_map.1 hl
  exact h1 y hy u hu
 rcases nil_or_some (a := ad) with rfl | ⟨ad, rfl⟩
 ·have hy0 : ys = [] := by
   by_cases h0 : ys = []
   ·exact h0
   ·obtain ⟨_, _, h2, _⟩ := hc h0; cases h2
  subst hy0
  have hr := run_append_none (P := P) w base t o.type e i size cp ht hi v n xs hown
  unfold Oper.wp execOp
  simp only [ho, resolve, invoke, builtin, Sem.run_bind, Sem.run_pure, Result.andThen_ok, List.map_toArray, List.map_cons, List.map_nil, hs, hx, List.length_nil, hr]
  exact h v w (by simpa using hown) (World.grownBy.refl w _)
 ·refine wp_append_own w s x t ho base e i z size bytes ht hi hz hsize hby hzs hsz v n xs hs hown ad ys.length cp ((ys.map enc).flatten) hx (by rw [hfl]) ?_ h1' h63 hbytes hbase (fun v' w' h2 h3 _ => h v' w' h2 h3)
  intro j u hu
  obtain ⟨q, y, i', hq, hi', rfl⟩ := flat_inv enc size henc ys j u hu
  obtain ⟨b, off, h2, _, h3⟩ := hc (by intro h0; subst h0; simp at hq)
  cases h2
  have := h3 q y hq i' u hi'
  rw [Nat.add_assoc] at this
  unfold Addr.add
  split
  ·rename_i h0
   rw [h0, Nat.add_zero] at this
   exact this
  ·exact this
theorem RowB.set {α : Type} {w : World} {enc : α → List Value} {e : TypeId} {gg n c : Nat} {ys : List α} (h : RowB w 1 enc e (rowV gg n c) ys) (k : Nat) (x : α) (u : Value) (hu : enc x = [u]) (he1 : ∀ y, (enc y).length = 1) (hk : k < ys.length) : RowB (w.setCell ⟨gg, k, none⟩ u) 1 enc e (rowV gg n c) (ys.set k x) := by
 obtain ⟨g, c', cs, e1, hl, hg, hc⟩ := h
 simp only [Value.slice.injEq, Option.some.injEq, Addr.mk.injEq, and_true] at e1
 obtain ⟨rfl, rfl, rfl⟩ := e1
 have hks : k < cs.size := by
  have h1 := hc k _ (List.getElem?_eq_getElem hk) 0 _ (List.getElem?_eq_getElem (by rw [he1]; omega))
  have := (Array.getElem?_eq_some_iff.1 h1).1
  omega
 refine ⟨gg, c, cs.setIfInBounds k u, by rw [List.length_set], by rw [List.length_set]; exact hl, Go.Joins.block_setCell hg u, fun j y hj i v hv => ?_⟩
 have hi : i = 0 := by have := (List.getElem?_eq_some_iff.1 hv).1; rw [he1] at this; omega
 subst hi
 rw [Nat.mul_one, Nat.add_zero]
 by_cases hjk : j = k
 ·subst hjk
  rw [List.getElem?_set_self hk] at hj
  cases hj
  rw [hu] at hv
  simp at hv; subst hv
  rw [Array.getElem?_setIfInBounds_self_of_lt hks]
 ·rw [List.getElem?_set_ne (Ne.symm hjk)] at hj
  rw [Array.getElem?_setIfInBounds_ne (Ne.symm hjk)]
  have := hc j y hj 0 v hv
  simpa using this
theorem RowB.cell {α : Type} {w : World} {enc : α → List Value} {e : TypeId} {gg n c : Nat} {ys : List α} (h : RowB w 1 enc e (rowV gg n c) ys) {k : Nat} {x : α} {u : Value} (hk : ys[k]? = some x) (hu : enc x = [u]) : w.cell? ⟨gg, k, none⟩ = some u := by
 obtain ⟨g, c', cs, e1, hl, hg, hc⟩ := h
 simp only [Value.slice.injEq, Option.some.injEq, Addr.mk.injEq, and_true] at e1
 obtain ⟨rfl, rfl, rfl⟩ := e1
 have := hc k x hk 0 u (by rw [hu]; rfl)
 exact blk_cell hg (by simpa using this)
theorem RowB.free {α : Type} {w : World} {enc : α → List Value} {e : TypeId} {gg n c : Nat} {ys : List α} (h : RowB w 1 enc e (rowV gg n c) ys) (k : Nat) : w.frozen? ⟨gg, k, none⟩ = false := by
 obtain ⟨g, c', cs, e1, hl, hg, hc⟩ := h
 simp only [Value.slice.injEq, Option.some.injEq, Addr.mk.injEq, and_true] at e1
 obtain ⟨rfl, rfl, rfl⟩ := e1
 exact blk_free hg k
theorem RowB.blk {α : Type} {w : World} {enc : α → List Value} {e : TypeId} {gg n c : Nat} {ys : List α} (h : RowB w 1 enc e (rowV gg n c) ys) : ∃ cs, w.heap[gg]? = some (.cells cs e (0, 0)) := by
 obtain ⟨g, c', cs, e1, hl, hg, hc⟩ := h
 simp only [Value.slice.injEq, Option.some.injEq, Addr.mk.injEq, and_true] at e1
 obtain ⟨rfl, rfl, rfl⟩ := e1
 exact ⟨cs, hg⟩
theorem RowB.keep {α : Type} {w w' : World} {enc : α → List Value} {e : TypeId} {gg n c : Nat} {ys : List α} (h : RowB w 1 enc e (rowV gg n c) ys) (hb : w'.heap[gg]? = w.heap[gg]?) : RowB w' 1 enc e (rowV gg n c) ys := by
 obtain ⟨g, c', cs, e1, hl, hg, hc⟩ := h
 simp only [Value.slice.injEq, Option.some.injEq, Addr.mk.injEq, and_true] at e1
 obtain ⟨rfl, rfl, rfl⟩ := e1
 exact ⟨gg, c, cs, rfl, hl, hb.trans hg, hc⟩
/-- Blocks of two types are two. -/
theorem blk_ne {w : World} {a b : Nat} {ca cb : Array Value} {S T : TypeId} (ha : w.heap[a]? = some (.cells ca S (0, 0))) (hb : w.heap[b]? = some (.cells cb T (0, 0))) (h : S ≠ T) : a ≠ b := fun e => by
 subst e
 rw [ha] at hb
 injection hb with hb
 injection hb with _ h2
 exact h h2
/-- The four blocks of a step: rules, leg, visit, result. -/
structure StB (w : World) (r : LegR) (vc : Value) (k : Nat) (vb : Value) (cs : Array Value) (wr : World) : Prop where
 rul : wr.heap[w.heap.size]? = some (.cells #[vc, .int .i64 r.first, .int .i64 r.rounds, .bool r.equal] 42 (0, 0))
 leg : RgB wr (w.heap.size + 1) cs
 vis : wr.heap[w.heap.size + 1 + 1]? = some (.cells #[.int .i64 (k : Int), vb] 84 (0, 0))
 zero : RgB wr (w.heap.size + 1 + 1 + 1) zeroC
 bel : Below w.heap.size w wr
 siz : w.heap.size + 4 ≤ wr.heap.size
theorem StB.below {w : World} {r : LegR} {vc : Value} {k : Nat} {vb : Value} {cs : Array Value} {wr w' : World} (h : StB w r vc k vb cs wr) (hB : Below wr.heap.size wr w') : StB w r vc k vb cs w' := by
 have s := h.siz
 exact ⟨(hB.block _ (by omega)).trans h.rul, (hB.block _ (by omega)).trans h.leg, (hB.block _ (by omega)).trans h.vis, (hB.block _ (by omega)).trans h.zero, h.bel.trans (hB.mono (by omega)), Nat.le_trans s hB.size⟩
theorem StB.outs {w : World} {r : LegR} {vc : Value} {k : Nat} {vb : Value} {cs cs' : Array Value} {wr w' : World} (h : StB w r vc k vb cs wr) (hO : Outs [w.heap.size + 1] wr w') (hl : RgB w' (w.heap.size + 1) cs') : StB w r vc k vb cs' w' := by
 have s := h.siz
 exact ⟨(hO.block _ (by simp) (by omega)).trans h.rul, hl, (hO.block _ (by simp only [List.mem_singleton]; omega) (by omega)).trans h.vis, (hO.block _ (by simp only [List.mem_singleton]; omega) (by omega)).trans h.zero, h.bel.trans (hO.below (by simp) (by omega)), Nat.le_trans s hO.size⟩
theorem StB.setL {w : World} {r : LegR} {vc : Value} {k : Nat} {vb : Value} {cs : Array Value} {wr : World} (h : StB w r vc k vb cs wr) (i : Nat) (x : Value) : StB w r vc k vb (cs.setIfInBounds i x) (wr.setCell ⟨w.heap.size + 1, i, none⟩ x) :=
 h.outs (Outs.set (by simp) _ _ _) (Go.Joins.block_setCell h.leg x)
theorem StB.row {w : World} {r : LegR} {vc : Value} {k : Nat} {vb : Value} {cs : Array Value} {wr : World} (h : StB w r vc k vb cs wr) {g : Nat} (hg : w.heap.size + 4 ≤ g) (i : Nat) (x : Value) : StB w r vc k vb cs (wr.setCell ⟨g, i, none⟩ x) :=
 ⟨(Below.heap_setCell _ _ _ _ (by show w.heap.size ≠ g; omega)).trans h.rul, (Below.heap_setCell _ _ _ _ (by show w.heap.size + 1 ≠ g; omega)).trans h.leg, (Below.heap_setCell _ _ _ _ (by show w.heap.size + 1 + 1 ≠ g; omega)).trans h.vis, (Below.heap_setCell _ _ _ _ (by show w.heap.size + 1 + 1 + 1 ≠ g; omega)).trans h.zero, h.bel.setCell (p := ⟨g, i, none⟩) (by show w.heap.size ≤ g; omega) x, by have := h.siz; simp [World.setCell]; exact this⟩
/-- A block of another type, made behind the four. -/
theorem StB.far {w : World} {r : LegR} {vc : Value} {k : Nat} {vb : Value} {cs : Array Value} {wr : World} (h : StB w r vc k vb cs wr) {g : Nat} {ca : Array Value} {T : TypeId} (hg : wr.heap[g]? = some (.cells ca T (0, 0))) (h1 : T ≠ 42) (h2 : T ≠ 108) (h3 : T ≠ 84) (hb : w.heap.size ≤ g) : w.heap.size + 4 ≤ g := by
 have a := blk_ne hg h.rul h1
 have b := blk_ne hg h.leg h2
 have c := blk_ne hg h.vis h3
 have d := blk_ne hg h.zero h2
 omega
theorem rg_last {W : World} {L : Nat} {R : RG} {vl vd vi vw ve : Value} {k : Nat} (h : RgB W L (rgC R vl vd vi vw ve)) (hk : k < 8) (x : Int) : RgB (W.setCell ⟨L, 8 + k, none⟩ (.int .i64 x)) L (rgC { R with last := fun p => if p = k then x else R.last p } vl vd vi vw ve) := by
 have z := Go.Joins.block_setCell (i := 8 + k) h (.int .i64 x)
 have hk' : k = 0 ∨ k = 1 ∨ k = 2 ∨ k = 3 ∨ k = 4 ∨ k = 5 ∨ k = 6 ∨ k = 7 := by omega
 rcases hk' with rfl | rfl | rfl | rfl | rfl | rfl | rfl | rfl <;> exact z
theorem rg_lastc {W : World} {L : Nat} {R : RG} {vl vd vi vw ve : Value} {k : Nat} (h : RgB W L (rgC R vl vd vi vw ve)) (hk : k < 8) : W.cell? ⟨L, 8 + k, none⟩ = some (.int .i64 (R.last k)) := by
 have hk' : k = 0 ∨ k = 1 ∨ k = 2 ∨ k = 3 ∨ k = 4 ∨ k = 5 ∨ k = 6 ∨ k = 7 := by omega
 rcases hk' with rfl | rfl | rfl | rfl | rfl | rfl | rfl | rfl <;> exact blk_cell h rfl
theorem hitR_won {R : RG} {k : Nat} {t : Thr} (h : t.won = true) : hitR R k t = { R with last := fun p => if p = k then t.darts else R.last p } := by unfold hitR; simp [h]
theorem hitR_no {R : RG} {k : Nat} {t : Thr} (h : t.won = false) : hitR R k t = R := by unfold hitR; simp [h]
/-- A list that isn't empty lies in a block of elements of type T. -/
def Ty {α : Type} (T : TypeId) (w : World) (v : Value) (xs : List α) : Prop := xs ≠ [] → ∀ g o n c, v = .slice (some ⟨g, o, none⟩) n c → ∃ cs, w.heap[g]? = some (.cells cs T (0, 0))
theorem Ty.below {α : Type} {T : TypeId} {w w' : World} {v : Value} {xs : List α} (h : Ty T w v xs) (hB : Below w.heap.size w w') : Ty T w' v xs := fun hne g o n c e => by
 obtain ⟨cs, hg⟩ := h hne g o n c e
 exact ⟨cs, (hB.block g (Array.getElem?_eq_some_iff.1 hg).1).trans hg⟩
theorem Ty.outs {α : Type} {T : TypeId} {S : List Nat} {w w' : World} {v : Value} {xs : List α} (h : Ty T w v xs) (hO : Outs S w w') (hS : xs ≠ [] → ∀ g o n c, v = .slice (some ⟨g, o, none⟩) n c → g ∉ S) : Ty T w' v xs := fun hne g o n c e => by
 obtain ⟨cs, hg⟩ := h hne g o n c e
 exact ⟨cs, (hO.block g (hS hne g o n c e) (Array.getElem?_eq_some_iff.1 hg).1).trans hg⟩
theorem Ty.own {α : Type} {T : TypeId} {w : World} {b k n0 : Nat} {v : Value} {ys : List Value} {xs : List α} (h : w.ownsRow b T k v n0 ys) (hn : n0 = xs.length) : Ty T w v xs := fun hne g o n c e => by
 rcases h.2 with ⟨e1, h0⟩ | ⟨g1, c1, cu, e1, _, hg, _⟩
 ·exact absurd (List.eq_nil_of_length_eq_zero (hn.symm.trans h0)) hne
 ·rw [e] at e1
  simp only [Value.slice.injEq, Option.some.injEq, Addr.mk.injEq, and_true] at e1
  rw [e1.1.1]; exact ⟨cu, hg⟩
def SlT {α : Type} (T : TypeId) (w : World) (k : Nat) (enc : α → List Value) (v : Value) (xs : List α) : Prop := Sl w k enc v xs ∧ Ty T w v xs
theorem SlT.below {α : Type} {T : TypeId} {w w' : World} {k : Nat} {enc : α → List Value} {v : Value} {xs : List α} (h : SlT T w k enc v xs) (hB : Below w.heap.size w w') : SlT T w' k enc v xs := ⟨h.1.below hB, h.2.below hB⟩
theorem SlT.nil {α : Type} {T : TypeId} {w : World} {k : Nat} {enc : α → List Value} : SlT T w k enc (.slice none 0 0) ([] : List α) := ⟨⟨none, 0, rfl, by simp, fun h => absurd rfl h⟩, fun h => absurd rfl h⟩
/-- Blocks of another type are changed alone. -/
theorem SlT.rty {α : Type} {T U : TypeId} {w w' : World} {k : Nat} {enc : α → List Value} {v : Value} {xs : List α} (h : SlT T w k enc v xs) (hR : RTy U w w') (hne : T ≠ U) : SlT T w' k enc v xs := by
 obtain ⟨⟨a, cp, rfl, hl, hs⟩, ht⟩ := h
 have hk : xs ≠ [] → ∀ g o, a = some ⟨g, o, none⟩ → w'.heap[g]? = w.heap[g]? := fun hx g o e => by
  obtain ⟨cs, hg⟩ := ht hx g o _ _ (by rw [e])
  exact hR.2 g (Array.getElem?_eq_some_iff.1 hg).1 (fun cs' e' => by rw [hg] at e'; simp only [Option.some.injEq, Obj.cells.injEq] at e'; exact hne e'.2.1)
 refine ⟨⟨a, cp, rfl, hl, fun hx => ?_⟩, fun hx g o n c e => ?_⟩
 ·obtain ⟨b, off, e, hb, hc⟩ := hs hx
  have hb' := hk hx b off e
  refine ⟨b, off, e, Nat.lt_of_lt_of_le hb hR.1, fun i x hi j u hu => ?_⟩
  rw [World.cell?_of_block (by exact hb')]; exact hc i x hi j u hu
 ·simp only [Value.slice.injEq] at e
  obtain ⟨cs, hg⟩ := ht hx g o n c (by rw [← e.1, ← e.2.1, ← e.2.2])
  exact ⟨cs, (hk hx g o e.1).trans hg⟩
/-- A row that doesn't lie in block X, nor in the second behind it. -/
def SlN {α : Type} (T : TypeId) (X : Nat) (w : World) (k : Nat) (enc : α → List Value) (v : Value) (xs : List α) : Prop := Sl w k enc v xs ∧ (xs ≠ [] → ∀ g o n c, v = .slice (some ⟨g, o, none⟩) n c → g ∉ [X, X + 1 + 1]) ∧ Ty T w v xs
theorem SlN.below {α : Type} {T : TypeId} {X : Nat} {w w' : World} {k : Nat} {enc : α → List Value} {v : Value} {xs : List α} (h : SlN T X w k enc v xs) (hB : Below w.heap.size w w') : SlN T X w' k enc v xs := ⟨h.1.below hB, h.2.1, h.2.2.below hB⟩
theorem SlN.outs {α : Type} {T : TypeId} {X : Nat} {w w' : World} {k : Nat} {enc : α → List Value} {v : Value} {xs : List α} (h : SlN T X w k enc v xs) (hO : Outs [X] w w') : SlN T X w' k enc v xs := by
 have hO' := hO.mono (T := [X, X + 1 + 1]) (by intro k hk; simp at hk; simp [hk])
 exact ⟨hO'.sl' h.1 h.2.1, h.2.1, h.2.2.outs hO' h.2.1⟩
theorem SlN.outs3 {α : Type} {T : TypeId} {X : Nat} {w w' : World} {k : Nat} {enc : α → List Value} {v : Value} {xs : List α} (h : SlN T X w k enc v xs) (hO : Outs [X + 1 + 1] w w') : SlN T X w' k enc v xs := by
 have hO' := hO.mono (T := [X, X + 1 + 1]) (by intro k hk; simp at hk; simp [hk])
 exact ⟨hO'.sl' h.1 h.2.1, h.2.1, h.2.2.outs hO' h.2.1⟩
theorem SlN.old {α : Type} {T : TypeId} {X : Nat} {w wr : World} {k : Nat} {enc : α → List Value} {v : Value} {xs : List α} (h' : SlT T w k enc v xs) (hB : Below w.heap.size w wr) (hX : w.heap.size ≤ X) : SlN T X wr k enc v xs := by
 obtain ⟨h, ht⟩ := h'
 refine ⟨h.below hB, fun hne g o n c e => ?_, ht.below hB⟩
 obtain ⟨a, cp, rfl, _, hs⟩ := h
 obtain ⟨b, off, rfl, hb, _⟩ := hs hne
 simp only [Value.slice.injEq, Option.some.injEq, Addr.mk.injEq, and_true] at e
 simp only [List.mem_cons, List.not_mem_nil, or_false, not_or]
 omega
theorem SlN.row {α : Type} {w : World} {X : Nat} {enc : α → List Value} {e : TypeId} {gg n c : Nat} {ys : List α} (h : RowB w 1 enc e (rowV gg n c) ys) (hX : gg ≠ X ∧ gg ≠ X + 1 + 1) : SlN e X w 1 enc (rowV gg n c) ys :=
 ⟨h.sl, fun _ g o n' c' e => by simp only [Value.slice.injEq, Option.some.injEq, Addr.mk.injEq, and_true] at e; simp only [List.mem_cons, List.not_mem_nil, or_false, not_or]; omega, fun _ g o n' c' e => by
  obtain ⟨cs, hb⟩ := h.blk
  simp only [Value.slice.injEq, Option.some.injEq, Addr.mk.injEq, and_true] at e
  rw [← e.1.1]; exact ⟨cs, hb⟩⟩
theorem SlN.own {w : World} {X base : Nat} {v : Value} {xs : List Int} (h : w.ownsRow base 3 1 v xs.length (xs.map (Value.int .i64))) (hX : X + 2 < base) (hl : xs.length ≤ 9223372036854775807) : SlN 3 X w 1 eI v xs := by
 refine ⟨sl_owns (fun _ => rfl) hl (by rw [show (xs.map eI).flatten = xs.map (Value.int .i64) from by clear h hl; induction xs with | nil => rfl | cons x xs ih => rw [List.map_cons, List.flatten_cons, ih]; rfl]; exact h), fun hne g o n c e => ?_, Ty.own h rfl⟩
 have hb := (h.lt g (by
  rcases h.2 with ⟨e1, h0⟩ | ⟨g1, c1, cu, e1, _⟩
  ·exact absurd (List.eq_nil_of_length_eq_zero h0) hne
  ·rw [e] at e1
   simp only [Value.slice.injEq, Option.some.injEq, Addr.mk.injEq, and_true] at e1
   rw [e, e1.1.1, e1.1.2]; rfl)).1
 simp only [List.mem_cons, List.not_mem_nil, or_false, not_or]
 omega
/-- The lists of a leg, as the reference has them. -/
structure RfAt (X : Nat) (w : World) (vl vd vi vw ve : Value) (g : LegG) (es : List Nat) : Prop where
 sl : SlN 3 X w 1 eI vl g.left
 sd : SlN 3 X w 1 eI vd g.darts
 si : SlN 4 X w 1 eB vi g.inn
 sw : SlN 3 X w 1 eI vw g.wins
 se : SlN 3 X w 1 eI ve (cI es)
theorem RfAt.below {X : Nat} {w w' : World} {vl vd vi vw ve : Value} {g : LegG} {es : List Nat} (h : RfAt X w vl vd vi vw ve g es) (hB : Below w.heap.size w w') : RfAt X w' vl vd vi vw ve g es := ⟨h.sl.below hB, h.sd.below hB, h.si.below hB, h.sw.below hB, h.se.below hB⟩
theorem RfAt.outs {X : Nat} {w w' : World} {vl vd vi vw ve : Value} {g : LegG} {es : List Nat} (h : RfAt X w vl vd vi vw ve g es) (hO : Outs [X] w w') : RfAt X w' vl vd vi vw ve g es := ⟨h.sl.outs hO, h.sd.outs hO, h.si.outs hO, h.sw.outs hO, h.se.outs hO⟩
theorem RfAt.outs3 {X : Nat} {w w' : World} {vl vd vi vw ve : Value} {g : LegG} {es : List Nat} (h : RfAt X w vl vd vi vw ve g es) (hO : Outs [X + 1 + 1] w w') : RfAt X w' vl vd vi vw ve g es := ⟨h.sl.outs3 hO, h.sd.outs3 hO, h.si.outs3 hO, h.sw.outs3 hO, h.se.outs3 hO⟩
end
end Go.Proofs.Ytgmlcgifagbjmaa
