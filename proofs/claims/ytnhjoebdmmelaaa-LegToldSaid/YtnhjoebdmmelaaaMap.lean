/- Leg: parts Eg, Ga, Df, Ia, Ii, Gb. -/
import Derived.Test.YtnhjoebdmmelaaaMao
import Derived.Test.YtnhjoebdmmelaaaMal
import Derived.Test.YtnhjoebdmmelaaaMai
set_option linter.unusedVariables false
set_option linter.unusedSimpArgs false
namespace Go.Proofs.Ytnhjoebdmmelaaa
section
open Go.RowKit Go.Shelf
structure Hnd where
 starts : List Int
 gates : Int
 equal : Bool
 rounds : Int
 first : Int
 beds : List Int
abbrev eU8 (x : Int) : List Value := [.int .u8 x]
abbrev eU16 (x : Int) : List Value := [.int .u16 x]
def hndV (h : Hnd) (vs vb : Value) : Value := .agg #[vs, .int .u8 h.gates, .bool h.equal, .int .u8 h.rounds, .int .u8 h.first, vb]
def numBed (n : Int) : Int := if 240 ≤ n then (if n % 2 = 0 then 125 else 225) else if n < 20 then 0 else 100 * (1 + n / 20 % 3) + 1 + n % 20
def hbedF (bs : List Int) (k : Nat) : Int := if bs = [] then 0 else numBed (bs.getD (k % bs.length) 0)
set_option maxRecDepth 100000 in
set_option maxHeartbeats 4000000 in
theorem hbed_any (h : Hnd) (vs vb : Value) (k : Nat) (w : World) (hb : Sl w 1 eU8 vb h.beds) (h8 : ∀ x ∈ h.beds, 0 ≤ x ∧ x ≤ 255) (hk : k ≤ 1000000) (hvs : ∃ a n c, vs = .slice a n c) :
  Calls Try.prog 63 #[hndV h vs vb, .int .i64 (k : Int)] w (Ret (.int .i64 (hbedF h.beds k)) w) := by
 obtain ⟨a0, n0, c0, rfl⟩ := hvs
 obtain ⟨a, cp, rfl, hl, hs⟩ := hb
 obtain ⟨m, hm⟩ : ∃ m, h.beds.length = m := ⟨_, rfl⟩
 have HN : Aside (h.beds.length = m) := hm
 unfold hndV
 by_cases hm0 : m = 0
 ·have hnil : h.beds = [] := List.eq_nil_of_length_eq_zero (by omega)
  unfold hbedF
  rw [if_pos hnil]
  rw [hm] at hl ⊢
  subst hm0
  clear hs hm hnil
  go_enter Try.func63, Try.ntmps63
  go_wp2
  go_ret
  exact ⟨rfl, by (repeat' (first | exact Below.refl _ _ | assumption | (with_reducible refine Below.drew ?_) | (with_reducible refine Below.setCell ?_ (by (first | (simp; done) | (simp; omega))) _) | (with_reducible refine below_drewN' ?_ _) | (refine Below.alloc ?_ (by (try simp only [World.size_alloc, World.size_drew, World.size_setCell]); omega) _) | (refine Below.trans ?_ (Below.mono (by assumption) (by (try simp only [World.size_alloc, World.size_drew, World.size_setCell]); omega)))))⟩
 have hne : h.beds ≠ [] := by intro e; rw [e] at hm; simp at hm; omega
 obtain ⟨B, off, rfl, hBlt, hcl⟩ := hs hne
 have hkm : k % m < m := Nat.mod_lt _ (by omega)
 obtain ⟨x, hx⟩ : ∃ x, h.beds[k % m]? = some x := ⟨_, List.getElem?_eq_getElem (by omega)⟩
 have hx8 := h8 x (List.mem_of_getElem? hx)
 have kx : w.cell? ⟨B, off + k % m, none⟩ = some (.int .u8 x) := by have := hcl _ x hx 0 _ rfl; simpa using this
 have HR : Aside (hbedF h.beds k = numBed x) := by
  show _ = _
  unfold hbedF
  rw [if_neg hne, hm, List.getD_eq_getElem?_getD, hx]; rfl
 rw [HR.out]
 obtain ⟨nb, hnb⟩ : ∃ y, numBed x = y := ⟨_, rfl⟩
 have HNB : Aside (numBed x = nb) := hnb
 rw [hnb]
 rw [hm] at hl ⊢
 have hmz : ¬ (m : Int) = 0 := by omega
 have hmod : Int.tmod (k : Int) (m : Int) = ((k % m : Nat) : Int) := by rw [Int.tmod_eq_emod_of_nonneg (by omega)]; rfl
 have hw1 : IntKind.i64.wrap x = x := IntWalk.i64_in _ (by omega)
 have hkmz : ((k % m : Nat) : Int) < (m : Int) := by omega
 generalize k % m = q at *
 clear hs hcl hm hne hx h8 HR HN hnb
 have hn63 : (m : Int) ≤ 9223372036854775807 := by omega
 go_enter Try.func63, Try.ntmps63
 go_wp2_with fail
 obtain ⟨wa, hwa⟩ : ∃ u, u = w.alloc (.cells #[.slice a0 n0 c0, .int .u8 h.gates, .bool h.equal, .int .u8 h.rounds, .int .u8 h.first, .slice (some ⟨B, off, none⟩) m cp] 78) := ⟨_, rfl⟩
 have BA : Aside (Below w.heap.size w wa) := by rw [hwa]; (repeat' (first | exact Below.refl _ _ | assumption | (with_reducible refine Below.drew ?_) | (with_reducible refine Below.setCell ?_ (by (first | (simp; done) | (simp; omega))) _) | (with_reducible refine below_drewN' ?_ _) | (refine Below.alloc ?_ (by (try simp only [World.size_alloc, World.size_drew, World.size_setCell]); omega) _) | (refine Below.trans ?_ (Below.mono (by assumption) (by (try simp only [World.size_alloc, World.size_drew, World.size_setCell]); omega)))))
 have k5 : wa.cell? ⟨w.heap.size, 5, none⟩ = some (.slice (some ⟨B, off, none⟩) m cp) := by rw [hwa]; exact blk_cell (World.alloc_heap_new _ _) rfl
 have MC : Aside (∀ w', Below wa.heap.size wa w' → (Below wa.heap.size wa w' ∧ w'.cell? ⟨w.heap.size, 5, none⟩ = some (.slice (some ⟨B, off, none⟩) m cp) ∧ w'.cell? ⟨B, off + q, none⟩ = some (.int .u8 x))) := fun w' hB => ⟨hB, keepc hB k5, keepc hB (keepc BA.out kx)⟩
 rw [← hwa]
 clear hwa k5 kx
 refine region_class (fun w' => Below wa.heap.size wa w' ∧ w'.cell? ⟨w.heap.size, 5, none⟩ = some (.slice (some ⟨B, off, none⟩) m cp) ∧ w'.cell? ⟨B, off + q, none⟩ = some (.int .u8 x)) (by kernel_rfl) (by kernel_rfl) (MC.out _ ((Below.refl _ _).drew)) ?_
 iterate 11 (first | go_big_quiet_skip | (go_big_quiet_want; unfold Oper.quiet; apply Exists.intro; refine ⟨fun W hW => ?_, ?_⟩; (go_split_ands; unfold Oper.quietAt; go_simp; first | rfl | exact ⟨rfl, rfl⟩ | fail); go_big_quiet_on; (try simp only [Act.put, List.setIfInBounds_toArray, List.set_cons_zero, List.set_cons_succ])))
 refine wpQuiet_nil ?_
 intro wb hwb
 have HB : Aside (Below w.heap.size w wb) := BA.out.trans (hwb.1.mono BA.out.size)
 clear hwb MC BA hmod hkmz
 have i_0 : ∀ W : World, Sem.run Try.prog (Instr.index 144 (.agg #[.int .i64 125, .int .i64 225]) (.int .i64 0)) W = .ok (.int .i64 125) W := fun _ => by kernel_rfl
 have i_1 : ∀ W : World, Sem.run Try.prog (Instr.index 144 (.agg #[.int .i64 125, .int .i64 225]) (.int .i64 1)) W = .ok (.int .i64 225) W := fun _ => by kernel_rfl
 have t2 : Int.tmod x 2 = x % 2 := Int.tmod_eq_emod_of_nonneg hx8.1
 by_cases h1 : 240 ≤ x
 ·have h9 : x % 2 = 0 ∨ x % 2 = 1 := by omega
  rcases h9 with h9 | h9
  ·have hq : 125 = nb := by rw [← HNB.out]; unfold numBed; rw [if_pos h1, if_pos h9]
   clear HNB
   subst hq
   rw [h9] at t2
   go_wp2
   go_ret
   exact ⟨rfl, HB.out⟩
  ·have hq : 225 = nb := by rw [← HNB.out]; unfold numBed; rw [if_pos h1, if_neg (by omega)]
   clear HNB
   subst hq
   rw [h9] at t2
   go_wp2
   go_ret
   exact ⟨rfl, HB.out⟩
 ·by_cases h2 : x < 20
  ·have hq : 0 = nb := by rw [← HNB.out]; unfold numBed; rw [if_neg h1, if_pos h2]
   clear HNB
   subst hq
   go_wp2
   go_ret
   exact ⟨rfl, HB.out⟩
  ·have hq : 100 * (1 + x / 20 % 3) + 1 + x % 20 = nb := by rw [← HNB.out]; unfold numBed; rw [if_neg h1, if_neg h2]
   clear HNB
   subst hq
   have d1 : Int.tdiv x 20 = x / 20 := Int.tdiv_eq_ediv_of_nonneg hx8.1
   have d2 : Int.tmod x 20 = x % 20 := Int.tmod_eq_emod_of_nonneg hx8.1
   have d3 : Int.tmod (x / 20) 3 = x / 20 % 3 := Int.tmod_eq_emod_of_nonneg (by omega)
   have e1 : IntKind.i64.wrap (x / 20) = x / 20 := IntWalk.i64_in _ (by omega)
   have e2 : IntKind.i64.wrap (1 + x / 20 % 3) = 1 + x / 20 % 3 := IntWalk.i64_in _ (by omega)
   have e3 : IntKind.i64.wrap (100 * (1 + x / 20 % 3)) = 100 * (1 + x / 20 % 3) := IntWalk.i64_in _ (by omega)
   have e4 : IntKind.i64.wrap (100 * (1 + x / 20 % 3) + 1) = 100 * (1 + x / 20 % 3) + 1 := IntWalk.i64_in _ (by omega)
   have e5 : IntKind.i64.wrap (100 * (1 + x / 20 % 3) + 1 + x % 20) = 100 * (1 + x / 20 % 3) + 1 + x % 20 := IntWalk.i64_in _ (by omega)
   have r1 : 0 ≤ x / 20 ∧ x / 20 ≤ 12 := by omega
   have r2 : 0 ≤ x / 20 % 3 ∧ x / 20 % 3 ≤ 2 := by omega
   have r3 : 0 ≤ x % 20 ∧ x % 20 < 20 := by omega
   generalize x / 20 % 3 = f at *
   generalize x / 20 = f2 at *
   generalize x % 20 = g at *
   go_wp2
   go_ret
   exact ⟨rfl, HB.out⟩
end
section
open Go.RowKit Go.Maps Go.Sort Go.Shelf
theorem loW_mn {ps : List Nat} {ns : List Int} (h : ps ≠ []) : loW ps ns ps.length = mn (ps.map fun p => ns.getD p 0) := by
 unfold loW
 rw [List.take_length]
 apply mn_fold
 cases ps with
 | nil => exact absurd rfl h
 | cons x xs => rfl
theorem range_sorted (n : Nat) : (List.range n).Pairwise (· < ·) := List.pairwise_lt_range
theorem cI_sorted {l : List Nat} (h : l.Pairwise (· < ·)) : (cI l).Pairwise (· < ·) := by
 unfold cI
 exact List.pairwise_map.2 (h.imp (fun h => by omega))
theorem least_over {ps : List (Int × Int)} {es : List Nat} {ns : List Int} (hes : cI es = ps.map (·.1)) (hnd : es.Nodup) (hv : ∀ q ∈ ps, ns.getD q.1.toNat 0 = q.2) (hlt : ∀ e ∈ es, e < ns.length) (hne : es ≠ []) : leastL ps = cI (overW es ns) := by
 have hpn : ps ≠ [] := fun e => by rw [e] at hes; exact hne (List.eq_nil_of_length_eq_zero (by have := congrArg List.length hes; simpa [cI_len] using this))
 have hm : mn (ps.map (·.2)) = loW es ns es.length := by
  rw [loW_mn hne]
  have e1 : ps.map (·.2) = (ps.map (·.1)).map (fun x => ns.getD x.toNat 0) := by
   rw [List.map_map]
   exact List.map_congr_left (fun q hq => (hv q hq).symm)
  rw [e1, ← hes]
  unfold cI
  rw [List.map_map]
  rfl
 have hkeys : (ps.map (·.1)).Nodup := by
  rw [← hes]
  unfold cI
  exact List.pairwise_map.2 (hnd.imp (fun h e => h (by omega)))
 unfold leastL overW
 rw [hm]
 generalize loW es ns es.length = m
 have hs : (cI (ovK es ns m ns.length)).Pairwise (· < ·) := cI_sorted (by unfold ovK; exact (range_sorted _).sublist List.filter_sublist)
 have hp : (leastU m ps).Perm (cI (ovK es ns m ns.length)) := by
  refine (List.perm_ext_iff_of_nodup ?_ (hs.imp (fun h => by omega))).2 fun x => ?_
  ·exact hkeys.sublist (by unfold leastU; exact (List.filter_sublist).map _)
  ·constructor
   ·intro hx
    obtain ⟨q, hq, rfl⟩ := List.mem_map.1 hx
    obtain ⟨hq, hqm⟩ := List.mem_filter.1 hq
    have h1 : q.1 ∈ cI es := by rw [hes]; exact List.mem_map_of_mem hq
    obtain ⟨e, he, hee⟩ := List.mem_map.1 h1
    have h2 := hv q hq
    rw [← hee] at h2 ⊢
    rw [mem_cI]
    unfold ovK
    simp only [Int.toNat_natCast] at h2
    have h3 : q.2 = m := by simpa using hqm
    exact List.mem_filter.2 ⟨List.mem_range.2 (hlt e he), by rw [h2, h3]; simp [he]⟩
   ·intro hx
    obtain ⟨e, he, rfl⟩ := List.mem_map.1 hx
    unfold ovK at he
    obtain ⟨_, he⟩ := List.mem_filter.1 he
    simp only [Bool.and_eq_true, decide_eq_true_eq] at he
    have h1 : ((e : Nat) : Int) ∈ ps.map (·.1) := by rw [← hes]; exact mem_cI.2 he.1
    obtain ⟨q, hq, hqe⟩ := List.mem_map.1 h1
    have h2 := hv q hq
    have h4 : q.1.toNat = e := by rw [hqe]; simp
    rw [h4] at h2
    exact List.mem_map.2 ⟨q, List.mem_filter.2 ⟨hq, by rw [← h2, he.2]; simp⟩, hqe⟩
 have h1 : ((leastU m ps).mergeSort (fun x y => decide (x ≤ y))).Perm (cI (ovK es ns m ns.length)) := (List.mergeSort_perm _ _).trans hp
 have h2 : ((leastU m ps).mergeSort (fun x y => decide (x ≤ y))).Pairwise (· ≤ ·) := by
  have := List.pairwise_mergeSort (le := fun (x y : Int) => decide (x ≤ y)) (fun a b c h1 h2 => by simp at h1 h2 ⊢; omega) (fun a b => by simp; omega) (leastU m ps)
  exact this.imp (fun h => by simpa using h)
 exact h1.eq_of_pairwise (fun a b _ _ h1 h2 => by omega) h2 (hs.imp (fun h => by omega))
theorem over_all {ls : List Int} (h : ls ≠ []) : leastL (leftP ls) = cI (overW (List.range ls.length) ls) := by
 refine least_over ?_ List.nodup_range (fun q hq => ?_) (fun e he => List.mem_range.1 he) (fun e => h (List.eq_nil_of_length_eq_zero (by simpa using congrArg List.length e)))
 ·refine List.ext_getElem? fun i => ?_
  unfold cI
  rw [List.getElem?_map, List.getElem?_map]
  by_cases hi : i < ls.length
  ·obtain ⟨x, hx⟩ : ∃ x, ls[i]? = some x := ⟨_, List.getElem?_eq_getElem hi⟩
   rw [leftP_get hx, List.getElem?_range hi]
   rfl
  ·rw [List.getElem?_eq_none (by simpa using hi), List.getElem?_eq_none (by rw [leftP_length]; omega)]
   rfl
 ·obtain ⟨i, hi, e⟩ := List.mem_iff_getElem.1 hq
  have hi' : i < ls.length := by rw [leftP_length] at hi; exact hi
  have h1 : (leftP ls)[i]? = some q := by rw [List.getElem?_eq_getElem hi, e]
  rw [leftP_get (List.getElem?_eq_getElem hi')] at h1
  cases h1
  simp [List.getD_eq_getElem?_getD, hi']
theorem thrL_stand (c : Cnt) (in0 : Bool) (left0 : Int) (h0 : vstand c in0 left0 = true) : ∀ (bs : List Int) (t : Thr) (i : Nat), (t.won = false → vstand c t.inn t.left = true) → (∀ b ∈ bs, vbed b = true → 0 ≤ sc b) → (thrL c in0 left0 t i bs).2.2 = 0 → (thrL c in0 left0 t i bs).1.won = false → vstand c (thrL c in0 left0 t i bs).1.inn (thrL c in0 left0 t i bs).1.left = true := by
 intro bs
 induction bs with
 | nil =>
  intro t i ht _ he hw
  unfold thrL at he hw ⊢
  by_cases hh : t.ended = true
  ·rw [if_pos hh] at hw ⊢
   unfold Thr.fin at hw ⊢
   simp only [] at hw ⊢
   by_cases hb : t.bust = true
   ·rw [if_pos hb]; exact h0
   ·rw [if_neg hb] at hw ⊢; exact ht hw
  ·rw [if_neg hh] at he; cases he
 | cons b bs ih =>
  intro t i ht hb he hw
  unfold thrL at he hw ⊢
  by_cases hh : t.ended = true
  ·rw [if_pos hh] at he; cases he
  ·rw [if_neg hh] at he hw ⊢
   by_cases hv : vbed b = true
   ·rw [if_pos hv] at he hw ⊢
    refine ih _ _ (fun hst => ?_) (fun x hx => hb x (List.mem_cons_of_mem _ hx)) he hw
    have htw : t.won = false := by
     unfold Thr.ended at hh
     cases hw2 : t.won with
     | false => rfl
     | true => rw [hw2] at hh; simp at hh
    have hts := ht htw
    have hs0 := hb b (by simp) hv
    unfold Thr.step at hst ⊢
    split
    ·rename_i h1
     rw [if_pos h1] at hst
     split
     ·exact hts
     ·rename_i h2
      rw [if_neg h2] at hst
      unfold bst at h2
      simp only [decide_eq_false_iff_not] at hst
      rw [if_neg hst] at h2
      unfold vstand inb at hts ⊢
      simp only [Bool.and_eq_true, decide_eq_true_eq, Bool.true_or, and_true] at hts ⊢
      split at h2
      ·simp at h2
       rw [if_pos h2]
       omega
      ·simp at h2
       split <;> omega
    ·rename_i h1
     have h3 : t.inn = false := by
      cases hi : t.inn with
      | false => rfl
      | true => rw [hi] at h1; simp at h1
     rw [h3] at hts
     exact hts
   ·rw [if_neg hv] at he; cases he
theorem thr_stand {c : Cnt} {in0 : Bool} {left : Int} {bs : List Int} (h0 : vstand c in0 left = true) (he : (thr c in0 left bs).2.2 = 0) (hw : (thr c in0 left bs).1.won = false) : vstand c (thr c in0 left bs).1.inn (thr c in0 left bs).1.left = true :=
 thrL_stand c in0 left h0 bs ⟨left, 0, 0, in0, false, false⟩ 0 (fun _ => h0) (fun b _ hv => (sc_bd (vbed_bd hv).1 (vbed_bd hv).2).1) he hw
structure RfOk (r : LegR) (g : LegG) (R : RG) (es : List Nat) : Prop where
 next : R.next = g.next
 round : R.round = g.round
 over : R.over = g.over
 keys : cI es = g.ended.map (·.1)
 last : ∀ q ∈ g.ended, R.last q.1.toNat = q.2
 nodup : es.Nodup
 lt : ∀ e ∈ es, e < r.counts.length
 done : g.over = false → 0 ≤ R.done ∧ R.done < (r.counts.length : Int) ∧ g.next = (r.first + R.done) % (r.counts.length : Int)
 thrown : g.over = false → ∀ e ∈ es, ∃ j : Int, 0 ≤ j ∧ j < R.done ∧ (e : Int) = (r.first + j) % (r.counts.length : Int)
 eq : g.over = false → g.ended ≠ [] → r.equal = true
 l1 : g.left.length = r.counts.length
 l2 : g.darts.length = r.counts.length
 l3 : g.inn.length = r.counts.length
 stand : g.over = false → ∀ k, k < r.counts.length → k ∉ es → vstand (r.counts.getD k (0, 0, 0)) (g.inn.getD k false) (g.left.getD k 0) = true
def rg0 (r : LegR) : RG := ⟨r.first, 0, false, fun _ => 0, 0⟩
theorem rf_begin {r : LegR} (hr : r.Ok) : RfOk r (beginG r) (rg0 r) [] := by
 have f0 := hr.f0
 have f1 := hr.f1
 refine ⟨rfl, rfl, rfl, rfl, (fun q hq => by cases hq), List.nodup_nil, (fun e he => by cases he), fun _ => ⟨Int.le_refl _, by show (0 : Int) < _; omega, ?_⟩, (fun _ e he => by cases he), (fun _ h => absurd rfl h), by simp [beginG], by simp [beginG], by simp [beginG], fun _ k hk _ => ?_⟩
 ·show r.first = (r.first + 0) % _
  rw [Int.add_zero, Int.emod_eq_of_lt f0 f1]
 ·obtain ⟨c, hc⟩ : ∃ c, r.counts[k]? = some c := ⟨_, List.getElem?_eq_getElem hk⟩
  have hv := hr.cnt c (List.mem_of_getElem? hc)
  have hb := vcnt_bd hv
  have e1 : (beginG r).inn.getD k false = (c.2.1 == 0) := by
   show (r.counts.map (fun c => c.2.1 == 0)).getD k false = _
   rw [List.getD_eq_getElem?_getD, List.getElem?_map, hc]; rfl
  have e2 : (beginG r).left.getD k 0 = c.1 := by
   show (r.counts.map (·.1)).getD k 0 = _
   rw [List.getD_eq_getElem?_getD, List.getElem?_map, hc]; rfl
  have e3 : r.counts.getD k (0, 0, 0) = c := by rw [List.getD_eq_getElem?_getD, hc]; rfl
  rw [e1, e2, e3]
  unfold vstand inb
  simp only [Bool.and_eq_true, decide_eq_true_eq, Bool.or_eq_true, or_true, and_true]
  unfold vcnt inb at hv
  simp only [Bool.and_eq_true, decide_eq_true_eq] at hv
  split <;> omega
theorem rf_fresh {r : LegR} {g : LegG} {R : RG} {es : List Nat} (h : RfOk r g R es) (ho : g.over = false) {k : Nat} (hk : (k : Int) = g.next) : k ∉ es := by
 intro hm
 obtain ⟨j, j0, j1, e⟩ := h.thrown ho k hm
 obtain ⟨d0, d1, d2⟩ := h.done ho
 rw [hk, d2] at e
 have h1 : ((r.first + R.done) - (r.first + j)) % (r.counts.length : Int) = 0 := Int.emod_eq_emod_iff_emod_sub_eq_zero.1 e
 have h2 : (r.first + R.done) - (r.first + j) = R.done - j := by omega
 rw [h2, Int.emod_eq_of_lt (by omega) (by omega)] at h1
 omega
def hitE (es : List Nat) (k : Nat) (t : Thr) : List Nat := if t.won = true then es ++ [k] else es
def hitR (R : RG) (k : Nat) (t : Thr) : RG := { R with last := fun p => if t.won = true ∧ p = k then t.darts else R.last p }
structure RfHit (r : LegR) (g : LegG) (R : RG) (es : List Nat) : Prop where
 next : 0 ≤ g.next ∧ g.next < (r.counts.length : Int)
 keys : cI es = g.ended.map (·.1)
 last : ∀ q ∈ g.ended, R.last q.1.toNat = q.2
 nodup : es.Nodup
 lt : ∀ e ∈ es, e < r.counts.length
 done : 0 ≤ R.done ∧ R.done < (r.counts.length : Int) ∧ g.next = (r.first + R.done) % (r.counts.length : Int)
 thrown : ∀ e ∈ es, ∃ j : Int, 0 ≤ j ∧ j < R.done + 1 ∧ (e : Int) = (r.first + j) % (r.counts.length : Int)
 one : r.equal = false → es = [] ∨ ∃ k, es = [k]
 l1 : g.left.length = r.counts.length
 l2 : g.darts.length = r.counts.length
 l3 : g.inn.length = r.counts.length
 stand : ∀ k, k < r.counts.length → k ∉ es → vstand (r.counts.getD k (0, 0, 0)) (g.inn.getD k false) (g.left.getD k 0) = true
theorem cI_nil {es : List Nat} {ps : List (Int × Int)} (h : cI es = ps.map (·.1)) : es = [] ↔ ps = [] := by
 have := congrArg List.length h
 rw [cI_len, List.length_map] at this
 constructor
 ·intro e; subst e; exact List.eq_nil_of_length_eq_zero this.symm
 ·intro e; subst e; exact List.eq_nil_of_length_eq_zero this
theorem rf_hit {r : LegR} {g : LegG} {R : RG} {es : List Nat} (h : RfOk r g R es) (ho : g.over = false) {k : Nat} (hk : (k : Int) = g.next) (hn : k < r.counts.length) {bs : List Int} (he : (takeT r g k bs).2.2 = 0) :
  RfHit r (hitG g k (takeT r g k bs).1) (hitR R k (takeT r g k bs).1) (hitE es k (takeT r g k bs).1) := by
 have hf := rf_fresh h ho hk
 have hst := h.stand ho k hn hf
 have hst2 : (takeT r g k bs).1.won = false → vstand (r.counts.getD k (0, 0, 0)) (takeT r g k bs).1.inn (takeT r g k bs).1.left = true := fun hw => thr_stand hst he hw
 generalize (takeT r g k bs).1 = t at *
 have hkn : (k : Int) ∉ g.ended.map (·.1) := by rw [← h.keys, mem_cI]; exact hf
 have hput : putA g.ended k t.darts = g.ended ++ [((k : Int), t.darts)] := by
  unfold putA
  rw [if_neg hkn]
 obtain ⟨d0, d1, d2⟩ := h.done ho
 have hend : (hitG g k t).ended = if t.won = true then g.ended ++ [((k : Int), t.darts)] else g.ended := by
  unfold hitG; rw [hput]
 refine ⟨?_, ?_, fun q hq => ?_, ?_, fun e hm => ?_, ⟨d0, d1, d2⟩, fun e hm => ?_, fun hq => ?_, by simp [hitG, h.l1], by simp [hitG, h.l2], by simp [hitG, h.l3], fun j hj hm => ?_⟩
 ·have e : (hitG g k t).next = g.next := rfl
  rw [e]; omega
 ·rw [hend]
  unfold hitE
  split
  ·rw [List.map_append, ← h.keys]; unfold cI; rw [List.map_append]; rfl
  ·exact h.keys
 ·rw [hend] at hq
  unfold hitR
  simp only []
  split at hq
  ·rename_i hw
   rcases List.mem_append.1 hq with hq | hq
   ·have h1 : q.1 ∈ g.ended.map (·.1) := List.mem_map_of_mem hq
    have h2 : q.1 ∈ cI es := by rw [h.keys]; exact h1
    obtain ⟨e, he2, hee⟩ := List.mem_map.1 h2
    rw [if_neg]
    ·exact h.last q hq
    ·rintro ⟨_, e3⟩
     have : q.1 = (k : Int) := by rw [← hee] at e3 ⊢; simp at e3; omega
     rw [this] at h1
     exact hkn h1
   ·simp at hq; subst hq
    rw [if_pos ⟨hw, by simp⟩]
  ·rename_i hw
   rw [if_neg (fun h => hw h.1)]
   exact h.last q hq
 ·unfold hitE
  split
  ·exact List.nodup_append.2 ⟨h.nodup, by simp, fun a ha b hb e => by simp at hb; subst hb; subst e; exact hf ha⟩
  ·exact h.nodup
 ·unfold hitE at hm
  split at hm
  ·rcases List.mem_append.1 hm with hm | hm
   ·exact h.lt e hm
   ·simp at hm; subst hm; exact hn
  ·exact h.lt e hm
 ·have key : ∀ e ∈ es, ∃ j : Int, 0 ≤ j ∧ j < R.done + 1 ∧ (e : Int) = (r.first + j) % (r.counts.length : Int) := fun e hm => by
   obtain ⟨j, j0, j1, e⟩ := h.thrown ho e hm
   exact ⟨j, j0, by omega, e⟩
  unfold hitE at hm
  split at hm
  ·rcases List.mem_append.1 hm with hm | hm
   ·exact key e hm
   ·simp at hm; subst hm
    exact ⟨R.done, d0, by show R.done < R.done + 1; omega, by rw [hk, d2]⟩
  ·exact key e hm
 ·have h0 : es = [] := (cI_nil h.keys).2 (by
   by_cases hx : g.ended = []
   ·exact hx
   ·have := h.eq ho hx
    rw [hq] at this; cases this)
  unfold hitE
  rw [h0]
  split
  ·exact .inr ⟨k, rfl⟩
  ·exact .inl rfl
 ·by_cases hjk : j = k
  ·subst hjk
   have hw : t.won = false := by
    cases hw : t.won with
    | false => rfl
    | true => exfalso; apply hm; unfold hitE; rw [if_pos hw]; simp
   have e1 : (hitG g j t).inn.getD j false = t.inn := by
    show (g.inn.set j t.inn).getD j false = _
    rw [List.getD_eq_getElem?_getD, List.getElem?_set_self (by rw [h.l3]; exact hj)]; rfl
   have e2 : (hitG g j t).left.getD j 0 = t.left := by
    show (g.left.set j t.left).getD j 0 = _
    rw [List.getD_eq_getElem?_getD, List.getElem?_set_self (by rw [h.l1]; exact hj)]; rfl
   rw [e1, e2]
   exact hst2 hw
  ·have e1 : (hitG g k t).inn.getD j false = g.inn.getD j false := by
    show (g.inn.set k t.inn).getD j false = _
    rw [List.getD_eq_getElem?_getD, List.getElem?_set_ne (Ne.symm hjk), List.getD_eq_getElem?_getD]
   have e2 : (hitG g k t).left.getD j 0 = g.left.getD j 0 := by
    show (g.left.set k t.left).getD j 0 = _
    rw [List.getD_eq_getElem?_getD, List.getElem?_set_ne (Ne.symm hjk), List.getD_eq_getElem?_getD]
   rw [e1, e2]
   refine h.stand ho j hj (fun hje => hm ?_)
   unfold hitE
   split
   ·exact List.mem_append_left _ hje
   ·exact hje
theorem rf_comp {r : LegR} {g : LegG} {R : RG} {es : List Nat} (hr : r.Ok) (h : RfHit r g R es) : (((g.next + 1) % (r.counts.length : Int)) == r.first) = decide (R.done + 1 = (r.counts.length : Int)) := by
 obtain ⟨d0, d1, d2⟩ := h.done
 have f0 := hr.f0
 have f1 := hr.f1
 rw [d2, Int.emod_add_emod, Bool.eq_iff_iff]
 simp only [beq_iff_eq, decide_eq_true_eq]
 constructor
 ·intro e
  have e2 : (r.first + R.done + 1) % (r.counts.length : Int) = r.first % (r.counts.length : Int) := by rw [e, Int.emod_eq_of_lt f0 f1]
  have h1 := Int.emod_eq_emod_iff_emod_sub_eq_zero.1 e2
  have h2 : r.first + R.done + 1 - r.first = R.done + 1 := by omega
  rw [h2] at h1
  by_cases h3 : R.done + 1 = (r.counts.length : Int)
  ·exact h3
  ·rw [Int.emod_eq_of_lt (by omega) (by omega)] at h1
   omega
 ·intro e
  have : r.first + R.done + 1 = r.first + (r.counts.length : Int) := by omega
  rw [this, Int.add_emod_right, Int.emod_eq_of_lt f0 f1]
theorem rf_over {r : LegR} {g : LegG} {R : RG} {es : List Nat} (h : RfHit r g R es) (hp : (passF r g).2.2 = true) (dn : Int) : RfOk r (passG r g) { R with next := -1, round := (passF r g).2.1, over := true, done := dn } es := by
 unfold passG
 rw [if_pos hp]
 exact ⟨rfl, rfl, rfl, h.keys, h.last, h.nodup, h.lt, (fun ho => by cases ho), (fun ho => by cases ho), (fun ho => by cases ho), h.l1, h.l2, h.l3, (fun ho => by cases ho)⟩
theorem rf_on {r : LegR} {g : LegG} {R : RG} {es : List Nat} (hr : r.Ok) (h : RfHit r g R es) (ho : g.over = false) (hp : (passF r g).2.2 = false) :
  RfOk r (passG r g) { R with next := (g.next + 1) % (r.counts.length : Int), round := if R.done + 1 = (r.counts.length : Int) then g.round + 1 else g.round, over := false, done := if R.done + 1 = (r.counts.length : Int) then 0 else R.done + 1 } es := by
 have hc := rf_comp hr h
 obtain ⟨d0, d1, d2⟩ := h.done
 have f0 := hr.f0
 have f1 := hr.f1
 have hpf : passF r g = ((g.next + 1) % (r.counts.length : Int), (if R.done + 1 = (r.counts.length : Int) then g.round + 1 else g.round), false) ∧ (es ≠ [] → ¬ R.done + 1 = (r.counts.length : Int) ∧ r.equal = true) := by
  unfold passF at hp ⊢
  simp only [] at hp ⊢
  rw [hc] at hp ⊢
  simp only [decide_eq_true_eq] at hp ⊢
  generalize (if R.done + 1 = (r.counts.length : Int) then g.round + 1 else g.round) = rd at hp ⊢
  split at hp
  ·cases hp
  ·rename_i hno
   rw [if_neg hno]
   refine ⟨rfl, fun hne => ?_⟩
   have he : g.ended.isEmpty = false := by
    cases hx : g.ended with
    | nil => exact absurd ((cI_nil h.keys).2 hx) hne
    | cons a b => rfl
   rw [he] at hno
   simp only [Bool.not_false, Bool.true_and, Bool.or_eq_true, decide_eq_true_eq, Bool.not_eq_true', not_or] at hno
   exact ⟨hno.1.1, by simpa using hno.1.2⟩
 unfold passG
 rw [hpf.1]
 simp only [Bool.false_eq_true, if_false]
 refine ⟨rfl, rfl, ho.symm, h.keys, h.last, h.nodup, h.lt, fun _ => ?_, fun _ e he => ?_, fun _ hne => (hpf.2 (fun e => hne ((cI_nil h.keys).1 e))).2, h.l1, h.l2, h.l3, fun _ => h.stand⟩
 ·show 0 ≤ (if R.done + 1 = (r.counts.length : Int) then 0 else R.done + 1) ∧ (if R.done + 1 = (r.counts.length : Int) then 0 else R.done + 1) < (r.counts.length : Int) ∧ (g.next + 1) % (r.counts.length : Int) = (r.first + (if R.done + 1 = (r.counts.length : Int) then 0 else R.done + 1)) % (r.counts.length : Int)
  by_cases hd : R.done + 1 = (r.counts.length : Int)
  ·rw [if_pos hd]
   refine ⟨Int.le_refl _, by omega, ?_⟩
   rw [d2, Int.emod_add_emod]
   have : r.first + R.done + 1 = r.first + (r.counts.length : Int) := by omega
   rw [this, Int.add_emod_right, Int.add_zero]
  ·rw [if_neg hd]
   refine ⟨by omega, by omega, ?_⟩
   rw [d2, Int.emod_add_emod, Int.add_assoc]
 ·have h1 := (hpf.2 (fun e2 => by rw [e2] at he; cases he)).1
  obtain ⟨j, j0, j1, e⟩ := h.thrown e he
  refine ⟨j, j0, ?_, e⟩
  show j < (if R.done + 1 = (r.counts.length : Int) then 0 else R.done + 1)
  rw [if_neg h1]; exact j1
end
section

end
section
open Go.RowKit Go.Maps Go.Sort Go.Shelf Go.Deep
theorem numBed_ok' : ∀ n : Fin 256, vbed (numBed ((n.val : Nat) : Int)) = true := by decide +kernel
theorem numBed_ok {n : Int} (h0 : 0 ≤ n) (h1 : n ≤ 255) : vbed (numBed n) = true := by
 have := numBed_ok' ⟨n.toNat, by omega⟩
 rwa [show ((n.toNat : Nat) : Int) = n from Int.toNat_of_nonneg h0] at this
theorem hbed_ok {bs : List Int} (h : ∀ x ∈ bs, 0 ≤ x ∧ x ≤ 255) (k : Nat) : vbed (hbedF bs k) = true := by
 unfold hbedF
 split
 ·decide
 ·rename_i hne
  have hl : k % bs.length < bs.length := Nat.mod_lt _ (List.length_pos_iff.2 hne)
  rw [List.getD_eq_getElem?_getD, List.getElem?_eq_getElem hl]
  have := h _ (List.getElem_mem hl)
  exact numBed_ok this.1 this.2
theorem step_darts (c : Cnt) (t : Thr) (b : Int) : (t.step c b).darts = t.darts + 1 := by
 unfold Thr.step; split
 ·split <;> rfl
 ·rfl
def tvB (bs : List Int) (c : Cnt) (v : Nat) : Nat → Thr → Nat → List Int × Nat × Thr
 | 0, t, a => ([], a, t)
 | f + 1, t, a => if t.ended = true then ([], a, t) else
   (hbedF bs a :: (tvB bs c v f (t.step c (hbedF bs a)) (a + 1 + v % 2)).1, (tvB bs c v f (t.step c (hbedF bs a)) (a + 1 + v % 2)).2)
theorem tv_thr {bs : List Int} (hb : ∀ x ∈ bs, 0 ≤ x ∧ x ≤ 255) (c : Cnt) (v : Nat) (in0 : Bool) (left0 : Int) : ∀ (f : Nat) (t : Thr) (a i : Nat), t.darts + (f : Int) = 3 → thrL c in0 left0 t i (tvB bs c v f t a).1 = ((tvB bs c v f t a).2.2.fin left0 in0, -1, 0) := by
 intro f
 induction f with
 | zero =>
  intro t a i h
  have he : t.ended = true := by unfold Thr.ended; simp; right; right; omega
  unfold tvB thrL
  simp only []
  rw [if_pos he]
 | succ f ih =>
  intro t a i h
  unfold tvB
  by_cases he : t.ended = true
  ·rw [if_pos he]
   unfold thrL
   simp only []
   rw [if_pos he]
  ·rw [if_neg he]
   simp only []
   rw [thrL, if_neg he, if_pos (hbed_ok hb a)]
   exact ih _ _ _ (by rw [step_darts]; omega)
theorem tv_len (bs : List Int) (c : Cnt) (v : Nat) : ∀ (f : Nat) (t : Thr) (a : Nat), (tvB bs c v f t a).1.length ≤ f ∧ (tvB bs c v f t a).2.2.darts = t.darts + ((tvB bs c v f t a).1.length : Int) ∧ (tvB bs c v f t a).2.1 = a + (tvB bs c v f t a).1.length * (1 + v % 2) := by
 intro f
 induction f with
 | zero => intro t a; unfold tvB; simp
 | succ f ih =>
  intro t a
  unfold tvB
  by_cases he : t.ended = true
  ·rw [if_pos he]; simp
  ·rw [if_neg he]
   obtain ⟨h1, h2, h3⟩ := ih (t.step c (hbedF bs a)) (a + 1 + v % 2)
   simp only [List.length_cons]
   refine ⟨by omega, by rw [h2, step_darts]; omega, by rw [h3, Nat.add_mul]; omega⟩
def cntAt (r : LegR) (k : Nat) : Cnt := r.counts.getD k (0, 0, 0)
structure TalK where
 g : LegG
 vs : List (Int × List Int)
 a : Nat
def talP (r : LegR) (v : Nat) : Nat := ((r.first + (v : Int)) % (r.counts.length : Int)).toNat
def talT (r : LegR) (bs : List Int) (s : TalK) (v : Nat) : List Int × Nat × Thr :=
 tvB bs (cntAt r (talP r v)) v 3 ⟨s.g.left.getD (talP r v) 0, 0, 0, s.g.inn.getD (talP r v) false, false, false⟩ s.a
def talK (r : LegR) (bs : List Int) : Nat → TalK
 | 0 => ⟨beginG r, [], 0⟩
 | v + 1 => if (talK r bs v).g.over = true then talK r bs v else
   ⟨(takeG r (talK r bs v).g (talP r v : Int) (talT r bs (talK r bs v) v).1).1, (talK r bs v).vs ++ [((talP r v : Int), (talT r bs (talK r bs v) v).1)], (talT r bs (talK r bs v) v).2.1⟩
structure TalI (r : LegR) (bs : List Int) (v : Nat) : Prop where
 len : (talK r bs v).g.over = false → (talK r bs v).vs.length = v
 le : (talK r bs v).vs.length ≤ v
 jud : ∀ ys, judgeK r ((talK r bs v).vs ++ ys) (talK r bs v).vs.length = ((talK r bs v).g, [])
 rf : ∃ R es, RfOk r (talK r bs v).g R es ∧ ((talK r bs v).g.over = false → R.done = (v : Int) % (r.counts.length : Int))
 ok : (talK r bs v).g.Ok r (2 * v)
theorem talP_lt {r : LegR} (hr : r.Ok) (v : Nat) : talP r v < r.counts.length ∧ (talP r v : Int) = (r.first + (v : Int)) % (r.counts.length : Int) := by
 have h0 : (0 : Int) < (r.counts.length : Int) := by have := hr.f0; have := hr.f1; omega
 have h1 := Int.emod_nonneg (r.first + (v : Int)) (show (r.counts.length : Int) ≠ 0 by omega)
 have h2 := Int.emod_lt_of_pos (r.first + (v : Int)) h0
 unfold talP
 constructor <;> omega
theorem tal_take {r : LegR} (hr : r.Ok) {bs : List Int} (hb : ∀ x ∈ bs, 0 ≤ x ∧ x ≤ 255) {s : TalK} {v : Nat} (ho : s.g.over = false) (hn : s.g.next = (talP r v : Int)) :
  takeT r s.g (talP r v) (talT r bs s v).1 = ((talT r bs s v).2.2.fin (s.g.left.getD (talP r v) 0) (s.g.inn.getD (talP r v) false), -1, 0) ∧ takeG r s.g (talP r v : Int) (talT r bs s v).1 = (passG r (hitG s.g (talP r v) ((talT r bs s v).2.2.fin (s.g.left.getD (talP r v) 0) (s.g.inn.getD (talP r v) false))), -1, 0) := by
 obtain ⟨h1, _⟩ := talP_lt hr v
 have ht : takeT r s.g (talP r v) (talT r bs s v).1 = ((talT r bs s v).2.2.fin (s.g.left.getD (talP r v) 0) (s.g.inn.getD (talP r v) false), -1, 0) := by
  unfold takeT thr talT
  exact tv_thr hb _ v _ _ 3 _ _ 0 rfl
 refine ⟨ht, ?_⟩
 unfold takeG
 rw [if_neg (by rw [ho]; simp), if_pos (by unfold inb; simp; omega), if_pos hn.symm, Int.toNat_natCast, ht, if_pos rfl]
theorem tal_inv {r : LegR} (hr : r.Ok) {bs : List Int} (hb : ∀ x ∈ bs, 0 ≤ x ∧ x ≤ 255) : ∀ v, TalI r bs v := by
 have hn0 : (0 : Int) < (r.counts.length : Int) := by have := hr.f0; have := hr.f1; omega
 intro v
 induction v with
 | zero => exact ⟨fun _ => rfl, Nat.le_refl _, fun ys => rfl, ⟨rg0 r, [], rf_begin hr, fun _ => rfl⟩, beginG_ok hr⟩
 | succ v ih =>
  by_cases ho : (talK r bs v).g.over = true
  ·have he : talK r bs (v + 1) = talK r bs v := by rw [talK, if_pos ho]
   have hle := ih.le
   refine ⟨fun h => ?_, by rw [he]; omega, by rw [he]; exact ih.jud, ?_, by rw [he]; exact ih.ok.mono (by omega)⟩
   ·rw [he, ho] at h; cases h
   ·obtain ⟨R, es, h1, _⟩ := ih.rf
    exact ⟨R, es, by rw [he]; exact h1, fun h => by rw [he, ho] at h; cases h⟩
  ·have hof : (talK r bs v).g.over = false := by simpa using ho
   obtain ⟨R, es, hR, hd⟩ := ih.rf
   have hdone := hd hof
   obtain ⟨hp1, hp2⟩ := talP_lt hr v
   have hnx : (talK r bs v).g.next = (talP r v : Int) := by
    rw [(hR.done hof).2.2, hdone, hp2, Int.add_emod_emod]
   obtain ⟨ht, hg⟩ := tal_take hr hb hof hnx
   have he : talK r bs (v + 1) = ⟨(takeG r (talK r bs v).g (talP r v : Int) (talT r bs (talK r bs v) v).1).1, (talK r bs v).vs ++ [((talP r v : Int), (talT r bs (talK r bs v) v).1)], (talT r bs (talK r bs v) v).2.1⟩ := by rw [talK, if_neg ho]
   have hlen := ih.len hof
   have hH := rf_hit hR hof hnx.symm hp1 (bs := (talT r bs (talK r bs v) v).1) (by rw [ht])
   rw [ht] at hH
   simp only [] at hH
   refine ⟨fun _ => by rw [he]; simp [hlen], by rw [he]; simp; omega, fun ys => ?_, ?_, ?_⟩
   ·rw [he]
    simp only [List.length_append, List.length_cons, List.length_nil]
    have hl : ((talK r bs v).vs ++ [((talP r v : Int), (talT r bs (talK r bs v) v).1)] ++ ys)[(talK r bs v).vs.length]? = some ((talP r v : Int), (talT r bs (talK r bs v) v).1) := by
     rw [List.append_assoc, List.getElem?_append_right (Nat.le_refl _)]; simp
    rw [judgeK_step hl, List.append_assoc, ih.jud]
    unfold jstep
    simp only []
    rw [hg]
    simp
   ·rw [he]
    simp only []
    rw [hg]
    simp only []
    have hnext : (hitG (talK r bs v).g (talP r v) ((talT r bs (talK r bs v) v).2.2.fin ((talK r bs v).g.left.getD (talP r v) 0) ((talK r bs v).g.inn.getD (talP r v) false))).next = (talP r v : Int) := hnx
    cases hp : (passF r (hitG (talK r bs v).g (talP r v) ((talT r bs (talK r bs v) v).2.2.fin ((talK r bs v).g.left.getD (talP r v) 0) ((talK r bs v).g.inn.getD (talP r v) false)))).2.2 with
    | true =>
     refine ⟨_, _, rf_over hH hp 0, fun h => ?_⟩
     unfold passG at h; rw [if_pos hp] at h; cases h
    | false =>
     refine ⟨_, _, rf_on hr hH hof hp, fun _ => ?_⟩
     show (if (hitR R _ _).done + 1 = (r.counts.length : Int) then (0 : Int) else (hitR R _ _).done + 1) = _
     rw [show (hitR R (talP r v) ((talT r bs (talK r bs v) v).2.2.fin ((talK r bs v).g.left.getD (talP r v) 0) ((talK r bs v).g.inn.getD (talP r v) false))).done = R.done from rfl, hdone]
     have h1 := Int.emod_nonneg (v : Int) (show (r.counts.length : Int) ≠ 0 by omega)
     have h2 := Int.emod_lt_of_pos (v : Int) hn0
     rw [show ((v + 1 : Nat) : Int) = (v : Int) + 1 by omega, Int.add_emod]
     by_cases h1n : (r.counts.length : Int) = 1
     ·rw [h1n]; simp
     ·rw [Int.emod_eq_of_lt (show (0 : Int) ≤ 1 by omega) (show (1 : Int) < (r.counts.length : Int) by omega)]
      split
      ·rename_i h; rw [h, Int.emod_self]
      ·rename_i h
       exact (Int.emod_eq_of_lt (a := (v : Int) % (r.counts.length : Int) + 1) (by omega) (by omega)).symm
   ·rw [he]
    exact (takeG_ok hr ih.ok _ _).mono (by omega)
end
section
open Go.RowKit Go.Maps Go.Sort Go.Shelf Go.Deep
structure Mid (c : Cnt) (k : Nat) (t : Thr) : Prop where
 l1 : 1 ≤ t.left
 l2 : t.left = 1 → c.2.2 = 0
 l3 : t.left ≤ 1001
 won : t.won = false
 bust : t.bust = false
 darts : t.darts = (k : Int)
theorem sc_miss : sc 0 = 0 := by decide
theorem opn_zero (g : Int) : opn g 0 = false := by
 unfold opn
 split
 ·simp
 ·split <;> simp
theorem bst_no {c : Cnt} {k : Nat} {t : Thr} (h : Mid c k t) : bst t.left c.2.2 0 = false := by
 have h1 := h.l1
 unfold bst
 rw [sc_miss, if_neg (by omega)]
 by_cases h2 : t.left - 0 = 1
 ·rw [if_pos h2, h.l2 (by omega)]; rfl
 ·rw [if_neg h2]; simp; omega
theorem mid_stay {c : Cnt} {k : Nat} {t : Thr} (h : Mid c k t) {b : Int} (hb : b = 0 ∨ (t.inn = false ∧ opn c.2.1 b = false)) : Mid c (k + 1) (t.step c b) ∧ (t.step c b).left = t.left ∧ (t.step c b).inn = t.inn := by
 have h1 := h.l1
 have hw : decide (t.left = 0) = false := by simp; omega
 rcases hb with rfl | ⟨hi, ho⟩
 ·by_cases hin : t.inn = true
  ·have e : t.step c 0 = ⟨t.left - sc 0, t.score, t.darts + 1, true, false, decide (t.left - sc 0 = 0)⟩ := by unfold Thr.step; rw [if_pos (by rw [hin]; rfl), if_neg (by rw [bst_no h]; simp)]
   rw [e, sc_miss, Int.sub_zero]
   exact ⟨⟨h1, h.l2, h.l3, hw, rfl, by show t.darts + 1 = _; rw [h.darts]; omega⟩, rfl, hin.symm⟩
  ·have e : t.step c 0 = ⟨t.left, t.score, t.darts + 1, false, false, decide (t.left = 0)⟩ := by unfold Thr.step; rw [if_neg (by rw [opn_zero]; simpa using hin)]
   rw [e]
   exact ⟨⟨h1, h.l2, h.l3, hw, rfl, by show t.darts + 1 = _; rw [h.darts]; omega⟩, rfl, by simpa using hin⟩
 ·have e : t.step c b = ⟨t.left, t.score, t.darts + 1, false, false, decide (t.left = 0)⟩ := by unfold Thr.step; rw [if_neg (by rw [hi, ho]; simp)]
  rw [e]
  exact ⟨⟨h1, h.l2, h.l3, hw, rfl, by show t.darts + 1 = _; rw [h.darts]; omega⟩, rfl, hi.symm⟩
theorem mid_win {c : Cnt} {k : Nat} {t : Thr} (h : Mid c k t) {b : Int} (hc : (t.inn || opn c.2.1 b) = true) (h0 : t.left - sc b = 0) (ho : opn c.2.2 b = true) : t.step c b = ⟨0, t.score, (k : Int) + 1, true, false, true⟩ := by
 have hb : bst t.left c.2.2 b = false := by unfold bst; rw [if_pos h0, ho]; rfl
 unfold Thr.step
 rw [if_pos hc, if_neg (by rw [hb]; simp), h0, h.darts]; simp
theorem mid_bust {c : Cnt} {k : Nat} {t : Thr} (h : Mid c k t) {b : Int} (hc : (t.inn || opn c.2.1 b) = true) (hn : ¬ (t.left - sc b = 0 ∧ opn c.2.2 b = true)) (h2 : t.left - sc b < 2 ∧ (t.left - sc b < 1 ∨ c.2.2 ≠ 0)) : t.step c b = ⟨t.left, t.score, (k : Int) + 1, t.inn, true, false⟩ := by
 have h1 := h.l1
 have hb : bst t.left c.2.2 b = true := by
  unfold bst
  by_cases h0 : t.left - sc b = 0
  ·rw [if_pos h0]; have : opn c.2.2 b ≠ true := fun e => hn ⟨h0, e⟩; simpa using this
  ·rw [if_neg h0]
   by_cases h3 : t.left - sc b = 1
   ·rw [if_pos h3]; simp; rcases h2.2 with h4 | h4
    ·omega
    ·exact h4
   ·rw [if_neg h3]; simp; omega
 unfold Thr.step
 rw [if_pos hc, if_pos hb, h.darts]
 have hw : decide (t.left = 0) = false := by simp; omega
 rw [hw]
theorem mid_on {c : Cnt} {k : Nat} {t : Thr} (h : Mid c k t) {b : Int} (h0 : 0 ≤ sc b) (hc : (t.inn || opn c.2.1 b) = true) (hn : ¬ (t.left - sc b = 0 ∧ opn c.2.2 b = true)) (h2 : ¬ (t.left - sc b < 2 ∧ (t.left - sc b < 1 ∨ c.2.2 ≠ 0))) : Mid c (k + 1) (t.step c b) ∧ (t.step c b).left = t.left - sc b ∧ (t.step c b).inn = true := by
 have h1 := h.l1
 have h3 := h.l3
 have hx : ¬ t.left - sc b = 0 := fun e => h2 ⟨by omega, .inl (by omega)⟩
 have hl : 1 ≤ t.left - sc b := by
  by_cases hh : t.left - sc b < 1
  ·exact absurd ⟨by omega, .inl hh⟩ h2
  ·omega
 have hy : t.left - sc b = 1 → c.2.2 = 0 := fun e => by
  by_cases hz : c.2.2 = 0
  ·exact hz
  ·exact absurd ⟨by omega, .inr hz⟩ h2
 have hb : bst t.left c.2.2 b = false := by
  unfold bst
  rw [if_neg hx]
  by_cases h4 : t.left - sc b = 1
  ·rw [if_pos h4, hy h4]; rfl
  ·rw [if_neg h4]; simp; omega
 have e : t.step c b = ⟨t.left - sc b, t.score, t.darts + 1, true, false, decide (t.left - sc b = 0)⟩ := by unfold Thr.step; rw [if_pos hc, if_neg (by rw [hb]; simp)]
 rw [e]
 exact ⟨⟨hl, hy, by show t.left - sc b ≤ 1001; omega, by show decide _ = false; simpa using hx, rfl, by show t.darts + 1 = _; rw [h.darts]; omega⟩, rfl, rfl⟩
theorem Mid.ended {c : Cnt} {k : Nat} {t : Thr} (h : Mid c k t) : t.ended = decide (k = 3) := by
 unfold Thr.ended
 rw [h.won, h.bust, h.darts]
 by_cases hk : k = 3
 ·subst hk; rfl
 ·simp; omega
def TvAt (bs : List Int) (c : Cnt) (v : Nat) (t0 : Thr) (a0 : Nat) (k : Nat) (beds : List Int) (t : Thr) (a : Nat) : Prop :=
 tvB bs c v 3 t0 a0 = (beds ++ (tvB bs c v (3 - k) t a).1, (tvB bs c v (3 - k) t a).2)
theorem TvAt.start {bs : List Int} {c : Cnt} {v : Nat} {t0 : Thr} {a0 : Nat} : TvAt bs c v t0 a0 0 [] t0 a0 := rfl
theorem TvAt.step {bs : List Int} {c : Cnt} {v : Nat} {t0 t : Thr} {a0 a k : Nat} {beds : List Int} (h : TvAt bs c v t0 a0 k beds t a) (hm : Mid c k t) (hk : k < 3) : TvAt bs c v t0 a0 (k + 1) (beds ++ [hbedF bs a]) (t.step c (hbedF bs a)) (a + 1 + v % 2) := by
 unfold TvAt at h ⊢
 rw [h]
 have e : 3 - k = (3 - (k + 1)) + 1 := by omega
 rw [e, tvB, if_neg (by rw [hm.ended]; simp; omega)]
 simp
theorem TvAt.stop {bs : List Int} {c : Cnt} {v : Nat} {t0 t : Thr} {a0 a k : Nat} {beds : List Int} (h : TvAt bs c v t0 a0 k beds t a) (he : t.ended = true ∨ 3 ≤ k) : tvB bs c v 3 t0 a0 = (beds, a, t) := by
 unfold TvAt at h
 rw [h]
 cases hf : 3 - k with
 | zero => unfold tvB; simp
 | succ f =>
  rcases he with he | he
  ·unfold tvB; rw [if_pos he]; simp
  ·omega
end
section
open Go.RowKit Go.Maps Go.Sort Go.Shelf Go.Deep
theorem RowB.set {α : Type} {w : World} {enc : α → List Value} {e : TypeId} {gg n c : Nat} {ys : List α} (h : RowB w 1 enc e (rowV gg n c) ys) (k : Nat) (x : α) (u : Value) (hu : enc x = [u]) (he1 : ∀ y, (enc y).length = 1) (hk : k < ys.length) : RowB (w.setCell ⟨gg, k, none⟩ u) 1 enc e (rowV gg n c) (ys.set k x) := by
 obtain ⟨g, c', cs, e1, hl, hg, hc⟩ := h
 simp only [Value.slice.injEq, Option.some.injEq, Addr.mk.injEq, and_true] at e1
 obtain ⟨rfl, rfl, rfl⟩ := e1
 have hks : k < cs.size := by
  have h1 := hc k _ (List.getElem?_eq_getElem hk) 0 _ (List.getElem?_eq_getElem (by rw [he1]; omega))
  have := (Array.getElem?_eq_some_iff.1 h1).1
  omega
 refine ⟨gg, c, cs.setIfInBounds k u, by rw [List.length_set], by rw [List.length_set]; exact hl, Go.Joins.block_setCell hg u, fun j y hj i v hv => ?_⟩
 have hi : i = 0 := by have := (List.getElem?_eq_some_iff.1 hv).1; rw [he1] at this; omega
 subst hi
 rw [Nat.mul_one, Nat.add_zero]
 by_cases hjk : j = k
 ·subst hjk
  rw [List.getElem?_set_self hk] at hj
  cases hj
  rw [hu] at hv
  simp at hv; subst hv
  rw [Array.getElem?_setIfInBounds_self_of_lt hks]
 ·rw [List.getElem?_set_ne (Ne.symm hjk)] at hj
  rw [Array.getElem?_setIfInBounds_ne (Ne.symm hjk)]
  have := hc j y hj 0 v hv
  simpa using this
theorem RowB.cell {α : Type} {w : World} {enc : α → List Value} {e : TypeId} {gg n c : Nat} {ys : List α} (h : RowB w 1 enc e (rowV gg n c) ys) {k : Nat} {x : α} {u : Value} (hk : ys[k]? = some x) (hu : enc x = [u]) : w.cell? ⟨gg, k, none⟩ = some u := by
 obtain ⟨g, c', cs, e1, hl, hg, hc⟩ := h
 simp only [Value.slice.injEq, Option.some.injEq, Addr.mk.injEq, and_true] at e1
 obtain ⟨rfl, rfl, rfl⟩ := e1
 have := hc k x hk 0 u (by rw [hu]; rfl)
 exact blk_cell hg (by simpa using this)
theorem RowB.free {α : Type} {w : World} {enc : α → List Value} {e : TypeId} {gg n c : Nat} {ys : List α} (h : RowB w 1 enc e (rowV gg n c) ys) (k : Nat) : w.frozen? ⟨gg, k, none⟩ = false := by
 obtain ⟨g, c', cs, e1, hl, hg, hc⟩ := h
 simp only [Value.slice.injEq, Option.some.injEq, Addr.mk.injEq, and_true] at e1
 obtain ⟨rfl, rfl, rfl⟩ := e1
 exact blk_free hg k
theorem RowB.blk {α : Type} {w : World} {enc : α → List Value} {e : TypeId} {gg n c : Nat} {ys : List α} (h : RowB w 1 enc e (rowV gg n c) ys) : ∃ cs, w.heap[gg]? = some (.cells cs e (0, 0)) := by
 obtain ⟨g, c', cs, e1, hl, hg, hc⟩ := h
 simp only [Value.slice.injEq, Option.some.injEq, Addr.mk.injEq, and_true] at e1
 obtain ⟨rfl, rfl, rfl⟩ := e1
 exact ⟨cs, hg⟩
theorem RowB.keep {α : Type} {w w' : World} {enc : α → List Value} {e : TypeId} {gg n c : Nat} {ys : List α} (h : RowB w 1 enc e (rowV gg n c) ys) (hb : w'.heap[gg]? = w.heap[gg]?) : RowB w' 1 enc e (rowV gg n c) ys := by
 obtain ⟨g, c', cs, e1, hl, hg, hc⟩ := h
 simp only [Value.slice.injEq, Option.some.injEq, Addr.mk.injEq, and_true] at e1
 obtain ⟨rfl, rfl, rfl⟩ := e1
 exact ⟨gg, c, cs, rfl, hl, hb.trans hg, hc⟩
theorem blk_ne {w : World} {a b : Nat} {ca cb : Array Value} {S T : TypeId} (ha : w.heap[a]? = some (.cells ca S (0, 0))) (hb : w.heap[b]? = some (.cells cb T (0, 0))) (h : S ≠ T) : a ≠ b := fun e => by
 subst e
 rw [ha] at hb
 injection hb with hb
 injection hb with _ h2
 exact h h2
structure StB (w : World) (r : LegR) (vc : Value) (k : Nat) (vb : Value) (cs : Array Value) (wr : World) : Prop where
 rul : wr.heap[w.heap.size]? = some (.cells #[vc, .int .i64 r.first, .int .i64 r.rounds, .bool r.equal] 42 (0, 0))
 leg : RgB wr (w.heap.size + 1) cs
 vis : wr.heap[w.heap.size + 1 + 1]? = some (.cells #[.int .i64 (k : Int), vb] 84 (0, 0))
 zero : RgB wr (w.heap.size + 1 + 1 + 1) zeroC
 bel : Below w.heap.size w wr
 siz : w.heap.size + 4 ≤ wr.heap.size
theorem StB.below {w : World} {r : LegR} {vc : Value} {k : Nat} {vb : Value} {cs : Array Value} {wr w' : World} (h : StB w r vc k vb cs wr) (hB : Below wr.heap.size wr w') : StB w r vc k vb cs w' := by
 have s := h.siz
 exact ⟨(hB.block _ (by omega)).trans h.rul, (hB.block _ (by omega)).trans h.leg, (hB.block _ (by omega)).trans h.vis, (hB.block _ (by omega)).trans h.zero, h.bel.trans (hB.mono (by omega)), Nat.le_trans s hB.size⟩
theorem StB.outs {w : World} {r : LegR} {vc : Value} {k : Nat} {vb : Value} {cs cs' : Array Value} {wr w' : World} (h : StB w r vc k vb cs wr) (hO : Outs [w.heap.size + 1] wr w') (hl : RgB w' (w.heap.size + 1) cs') : StB w r vc k vb cs' w' := by
 have s := h.siz
 exact ⟨(hO.block _ (by simp) (by omega)).trans h.rul, hl, (hO.block _ (by simp only [List.mem_singleton]; omega) (by omega)).trans h.vis, (hO.block _ (by simp only [List.mem_singleton]; omega) (by omega)).trans h.zero, h.bel.trans (hO.below (by simp) (by omega)), Nat.le_trans s hO.size⟩
theorem StB.setL {w : World} {r : LegR} {vc : Value} {k : Nat} {vb : Value} {cs : Array Value} {wr : World} (h : StB w r vc k vb cs wr) (i : Nat) (x : Value) : StB w r vc k vb (cs.setIfInBounds i x) (wr.setCell ⟨w.heap.size + 1, i, none⟩ x) :=
 h.outs (Outs.set (by simp) _ _ _) (Go.Joins.block_setCell h.leg x)
theorem StB.row {w : World} {r : LegR} {vc : Value} {k : Nat} {vb : Value} {cs : Array Value} {wr : World} (h : StB w r vc k vb cs wr) {g : Nat} (hg : w.heap.size + 4 ≤ g) (i : Nat) (x : Value) : StB w r vc k vb cs (wr.setCell ⟨g, i, none⟩ x) :=
 ⟨(Below.heap_setCell _ _ _ _ (by show w.heap.size ≠ g; omega)).trans h.rul, (Below.heap_setCell _ _ _ _ (by show w.heap.size + 1 ≠ g; omega)).trans h.leg, (Below.heap_setCell _ _ _ _ (by show w.heap.size + 1 + 1 ≠ g; omega)).trans h.vis, (Below.heap_setCell _ _ _ _ (by show w.heap.size + 1 + 1 + 1 ≠ g; omega)).trans h.zero, h.bel.setCell (p := ⟨g, i, none⟩) (by show w.heap.size ≤ g; omega) x, by have := h.siz; simp [World.setCell]; exact this⟩
theorem StB.far {w : World} {r : LegR} {vc : Value} {k : Nat} {vb : Value} {cs : Array Value} {wr : World} (h : StB w r vc k vb cs wr) {g : Nat} {ca : Array Value} {T : TypeId} (hg : wr.heap[g]? = some (.cells ca T (0, 0))) (h1 : T ≠ 42) (h2 : T ≠ 108) (h3 : T ≠ 84) (hb : w.heap.size ≤ g) : w.heap.size + 4 ≤ g := by
 have a := blk_ne hg h.rul h1
 have b := blk_ne hg h.leg h2
 have c := blk_ne hg h.vis h3
 have d := blk_ne hg h.zero h2
 omega
def Ty {α : Type} (T : TypeId) (w : World) (v : Value) (xs : List α) : Prop := xs ≠ [] → ∀ g o n c, v = .slice (some ⟨g, o, none⟩) n c → ∃ cs, w.heap[g]? = some (.cells cs T (0, 0))
theorem Ty.below {α : Type} {T : TypeId} {w w' : World} {v : Value} {xs : List α} (h : Ty T w v xs) (hB : Below w.heap.size w w') : Ty T w' v xs := fun hne g o n c e => by
 obtain ⟨cs, hg⟩ := h hne g o n c e
 exact ⟨cs, (hB.block g (Array.getElem?_eq_some_iff.1 hg).1).trans hg⟩
theorem Ty.outs {α : Type} {T : TypeId} {S : List Nat} {w w' : World} {v : Value} {xs : List α} (h : Ty T w v xs) (hO : Outs S w w') (hS : xs ≠ [] → ∀ g o n c, v = .slice (some ⟨g, o, none⟩) n c → g ∉ S) : Ty T w' v xs := fun hne g o n c e => by
 obtain ⟨cs, hg⟩ := h hne g o n c e
 exact ⟨cs, (hO.block g (hS hne g o n c e) (Array.getElem?_eq_some_iff.1 hg).1).trans hg⟩
theorem Ty.own {α : Type} {T : TypeId} {w : World} {b k n0 : Nat} {v : Value} {ys : List Value} {xs : List α} (h : w.ownsRow b T k v n0 ys) (hn : n0 = xs.length) : Ty T w v xs := fun hne g o n c e => by
 rcases h.2 with ⟨e1, h0⟩ | ⟨g1, c1, cu, e1, _, hg, _⟩
 ·exact absurd (List.eq_nil_of_length_eq_zero (hn.symm.trans h0)) hne
 ·rw [e] at e1
  simp only [Value.slice.injEq, Option.some.injEq, Addr.mk.injEq, and_true] at e1
  rw [e1.1.1]; exact ⟨cu, hg⟩
def SlT {α : Type} (T : TypeId) (w : World) (k : Nat) (enc : α → List Value) (v : Value) (xs : List α) : Prop := Sl w k enc v xs ∧ Ty T w v xs
theorem SlT.below {α : Type} {T : TypeId} {w w' : World} {k : Nat} {enc : α → List Value} {v : Value} {xs : List α} (h : SlT T w k enc v xs) (hB : Below w.heap.size w w') : SlT T w' k enc v xs := ⟨h.1.below hB, h.2.below hB⟩
theorem SlT.nil {α : Type} {T : TypeId} {w : World} {k : Nat} {enc : α → List Value} : SlT T w k enc (.slice none 0 0) ([] : List α) := ⟨⟨none, 0, rfl, by simp, fun h => absurd rfl h⟩, fun h => absurd rfl h⟩
def SlN {α : Type} (T : TypeId) (X : Nat) (w : World) (k : Nat) (enc : α → List Value) (v : Value) (xs : List α) : Prop := Sl w k enc v xs ∧ (xs ≠ [] → ∀ g o n c, v = .slice (some ⟨g, o, none⟩) n c → g ∉ [X, X + 1 + 1]) ∧ Ty T w v xs
theorem SlN.below {α : Type} {T : TypeId} {X : Nat} {w w' : World} {k : Nat} {enc : α → List Value} {v : Value} {xs : List α} (h : SlN T X w k enc v xs) (hB : Below w.heap.size w w') : SlN T X w' k enc v xs := ⟨h.1.below hB, h.2.1, h.2.2.below hB⟩
theorem SlN.outs {α : Type} {T : TypeId} {X : Nat} {w w' : World} {k : Nat} {enc : α → List Value} {v : Value} {xs : List α} (h : SlN T X w k enc v xs) (hO : Outs [X] w w') : SlN T X w' k enc v xs := by
 have hO' := hO.mono (T := [X, X + 1 + 1]) (by intro k hk; simp at hk; simp [hk])
 exact ⟨hO'.sl' h.1 h.2.1, h.2.1, h.2.2.outs hO' h.2.1⟩
theorem SlN.old {α : Type} {T : TypeId} {X : Nat} {w wr : World} {k : Nat} {enc : α → List Value} {v : Value} {xs : List α} (h' : SlT T w k enc v xs) (hB : Below w.heap.size w wr) (hX : w.heap.size ≤ X) : SlN T X wr k enc v xs := by
 obtain ⟨h, ht⟩ := h'
 refine ⟨h.below hB, fun hne g o n c e => ?_, ht.below hB⟩
 obtain ⟨a, cp, rfl, _, hs⟩ := h
 obtain ⟨b, off, rfl, hb, _⟩ := hs hne
 simp only [Value.slice.injEq, Option.some.injEq, Addr.mk.injEq, and_true] at e
 simp only [List.mem_cons, List.not_mem_nil, or_false, not_or]
 omega
theorem SlN.row {α : Type} {w : World} {X : Nat} {enc : α → List Value} {e : TypeId} {gg n c : Nat} {ys : List α} (h : RowB w 1 enc e (rowV gg n c) ys) (hX : gg ≠ X ∧ gg ≠ X + 1 + 1) : SlN e X w 1 enc (rowV gg n c) ys :=
 ⟨h.sl, fun _ g o n' c' e => by simp only [Value.slice.injEq, Option.some.injEq, Addr.mk.injEq, and_true] at e; simp only [List.mem_cons, List.not_mem_nil, or_false, not_or]; omega, fun _ g o n' c' e => by
  obtain ⟨cs, hb⟩ := h.blk
  simp only [Value.slice.injEq, Option.some.injEq, Addr.mk.injEq, and_true] at e
  rw [← e.1.1]; exact ⟨cs, hb⟩⟩
theorem SlN.own {w : World} {X base : Nat} {v : Value} {xs : List Int} (h : w.ownsRow base 3 1 v xs.length (xs.map (Value.int .i64))) (hX : X + 2 < base) (hl : xs.length ≤ 9223372036854775807) : SlN 3 X w 1 eI v xs := by
 refine ⟨sl_owns (fun _ => rfl) hl (by rw [show (xs.map eI).flatten = xs.map (Value.int .i64) from by clear h hl; induction xs with | nil => rfl | cons x xs ih => rw [List.map_cons, List.flatten_cons, ih]; rfl]; exact h), fun hne g o n c e => ?_, Ty.own h rfl⟩
 have hb := (h.lt g (by
  rcases h.2 with ⟨e1, h0⟩ | ⟨g1, c1, cu, e1, _⟩
  ·exact absurd (List.eq_nil_of_length_eq_zero h0) hne
  ·rw [e] at e1
   simp only [Value.slice.injEq, Option.some.injEq, Addr.mk.injEq, and_true] at e1
   rw [e, e1.1.1, e1.1.2]; rfl)).1
 simp only [List.mem_cons, List.not_mem_nil, or_false, not_or]
 omega
structure RfAt (X : Nat) (w : World) (vl vd vi vw ve : Value) (g : LegG) (es : List Nat) : Prop where
 sl : SlN 3 X w 1 eI vl g.left
 sd : SlN 3 X w 1 eI vd g.darts
 si : SlN 4 X w 1 eB vi g.inn
 sw : SlN 3 X w 1 eI vw g.wins
 se : SlN 3 X w 1 eI ve (cI es)
theorem RfAt.below {X : Nat} {w w' : World} {vl vd vi vw ve : Value} {g : LegG} {es : List Nat} (h : RfAt X w vl vd vi vw ve g es) (hB : Below w.heap.size w w') : RfAt X w' vl vd vi vw ve g es := ⟨h.sl.below hB, h.sd.below hB, h.si.below hB, h.sw.below hB, h.se.below hB⟩
theorem RfAt.outs {X : Nat} {w w' : World} {vl vd vi vw ve : Value} {g : LegG} {es : List Nat} (h : RfAt X w vl vd vi vw ve g es) (hO : Outs [X] w w') : RfAt X w' vl vd vi vw ve g es := ⟨h.sl.outs hO, h.sd.outs hO, h.si.outs hO, h.sw.outs hO, h.se.outs hO⟩
end
end Go.Proofs.Ytnhjoebdmmelaaa
