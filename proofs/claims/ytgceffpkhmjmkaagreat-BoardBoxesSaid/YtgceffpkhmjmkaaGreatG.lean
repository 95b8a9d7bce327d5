/- Board, part G: whether the numbers of a board are valid. -/
import Derived.Test.YtgceffpkhmjmkaaGreatD
import Derived.Maps.Own
import Derived.Maps.OwnOps
import Derived.Maps.OwnSet
set_option linter.unusedVariables false
set_option linter.unusedSimpArgs false
namespace Go.Proofs.YtgceffpkhmjmkaaGreat
open Go.RowKit Go.Shelf Go.Maps

def dist (xs : List Int) : Bool := decide xs.Nodup
def numsOk (b : Brd) : Bool := decide (b.nums.length = b.lines.length) && b.nums.all (inb 1 20) && dist b.nums

def litI (x : Int) : Lit := .int .i64 x
def Sn (xs : List Int) : DataW Unit := setOf (.lit (.bool true)) (xs.map litI)

theorem Sn_snoc (xs : List Int) (x : Int) : Sn (xs ++ [x]) = (Sn xs).put (litI x) (.lit (.bool true)) := by
  unfold Sn; rw [List.map_append]; exact setOf_snoc _ _ _

theorem addKey_len (xs : List Lit) : ∀ L : List Lit, (xs.foldl addKey L).length ≤ L.length + xs.length := by
  induction xs with
  | nil => intro L; simp
  | cons x xs ih =>
    intro L
    have := ih (addKey L x)
    have h2 : (addKey L x).length ≤ L.length + 1 := by unfold addKey; split <;> simp
    simp only [List.foldl_cons, List.length_cons]; omega

theorem litI_same (x y : Int) : (litI x).sameKey (litI y) = decide (x = y) := by
  unfold litI
  by_cases h : x = y
  · subst h; simp [Lit.sameKey]
  · simp [Lit.sameKey, h]

theorem addKey_nodup (xs : List Int) : ∀ L : List Int, ((xs.map litI).foldl addKey (L.map litI)).length = L.length + xs.length ↔ (xs.Nodup ∧ ∀ x ∈ xs, x ∉ L) := by
  induction xs with
  | nil => intro L; simp
  | cons x xs ih =>
    intro L
    simp only [List.map_cons, List.foldl_cons, List.length_cons]
    have e : addKey (L.map litI) (litI x) = if x ∈ L then L.map litI else (L ++ [x]).map litI := by
      unfold addKey
      have : ((L.map litI).any fun y => y.sameKey (litI x)) = decide (x ∈ L) := by
        rw [List.any_map]
        simp only [Function.comp_def, litI_same]
        rw [Bool.eq_iff_iff]; simp
      rw [this]
      by_cases h : x ∈ L <;> simp [h]
    rw [e]
    by_cases h : x ∈ L
    · rw [if_pos h]
      have := addKey_len (xs.map litI) (L.map litI)
      simp only [List.length_map] at this
      constructor
      · intro e; omega
      · intro ⟨_, h2⟩; exact absurd h (h2 x (by simp))
    · rw [if_neg h]
      have := ih (L ++ [x])
      simp only [List.length_append, List.length_cons, List.length_nil] at this
      rw [show L.length + (xs.length + 1) = L.length + (0 + 1) + xs.length by omega, this]
      simp only [List.nodup_cons, List.mem_append, List.mem_cons, List.not_mem_nil, or_false]
      constructor
      · rintro ⟨h1, h2⟩
        refine ⟨⟨fun hx => h2 x hx (.inr rfl), h1⟩, fun y hy => ?_⟩
        rcases hy with rfl | hy
        · exact h
        · exact fun hl => h2 y hy (.inl hl)
      · rintro ⟨⟨h1, h2⟩, h3⟩
        refine ⟨h2, fun y hy hl => ?_⟩
        rcases hl with hl | rfl
        · exact h3 y (.inr hy) hl
        · exact h1 hy

theorem Sn_size (xs : List Int) : Maps.size (Sn xs) = (xs.map litI |>.foldl addKey []).length :=
  size_setOf _ _ (fun x hx => by obtain ⟨y, _, rfl⟩ := List.mem_map.1 hx; exact trivial)

theorem Sn_dist (xs : List Int) : ((Maps.size (Sn xs) : Int) == (xs.length : Int)) = dist xs := by
  unfold dist
  rw [Bool.eq_iff_iff, beq_iff_eq, decide_eq_true_eq, Sn_size]
  have := addKey_nodup xs []
  simp only [List.map_nil, List.length_nil, Nat.zero_add, List.not_mem_nil, not_false_eq_true, implies_true, and_true] at this
  rw [← this]; omega

theorem law_int : Keyed Tryz.prog 3 := int_keyed Tryz.underlying3

set_option maxRecDepth 100000 in
set_option maxHeartbeats 2000000 in
theorem validNumbers_any (v : Value) (b : Brd) (w : World) (h : BrdAt w v b) (hlen : b.nums.length ≤ 20) (hlen2 : b.lines.length ≤ 20) :
    Calls Tryz.prog 64 #[v] w (Ret (.bool (numsOk b)) w) := by
  obtain ⟨vr, vl, vn, rfl, hr, hl, hn⟩ := h
  have hcon := fun W (hW : Below w.heap.size w W) => within_any 1 20 vn b.nums W (hn.below hW)
  obtain ⟨ar, cr, rfl, lr, _⟩ := hr
  obtain ⟨al, cl, rfl, ll, _⟩ := hl
  obtain ⟨an, cn, rfl, ln, hs⟩ := hn
  by_cases he : b.nums.length = b.lines.length
  · have e1 : numsOk b = (b.nums.all (inb 1 20) && dist b.nums) := by unfold numsOk; simp [he]
    rw [e1]
    rw [← he] at ll hlen2 ⊢
    clear e1 he
    cases hbad : b.nums.all (inb 1 20) with
    | false =>
      rw [hbad] at hcon
      simp only [Bool.false_and]
      clear hs hbad
      generalize b.rings.length = lenr at *
      generalize b.nums.length = len at *
      go_enter Tryz.func64, Tryz.ntmps64
      go_wp2_with (go_at_call 55; refine (hcon _ ?_).mono ?_; (repeat' (first | exact Below.refl _ _ | assumption | (with_reducible refine Below.drew ?_) | (with_reducible refine Below.setCell ?_ (by (first | (simp; done) | (simp; omega))) _) | (with_reducible refine below_drewN' ?_ _) | (refine Below.alloc ?_ (by (try simp only [World.size_alloc, World.size_drew, World.size_setCell]); omega) _) | (refine Below.trans ?_ (Below.mono (by assumption) (by (try simp only [World.size_alloc, World.size_drew, World.size_setCell]); omega))))); rintro e w1 ⟨rfl, hb1⟩; (obtain ⟨hc1, hf1⟩ := bcell hb1; have z1 := hb1.size; (try simp only [World.size_alloc, World.size_drew, World.size_setCell] at z1); (try have q1a : w.heap.size < w1.heap.size := by omega); (try have q1b : w.heap.size + 1 < w1.heap.size := by omega); (try have q1c : w.heap.size + 1 + 1 < w1.heap.size := by omega); (try have q1d : w.heap.size + 1 + 1 + 1 < w1.heap.size := by omega); (try have q1e : wr.heap.size < w1.heap.size := by omega); (try have q1f : wr.heap.size + 1 < w1.heap.size := by omega)))
      go_ret
      exact ⟨rfl, by (repeat' (first | exact Below.refl _ _ | assumption | (with_reducible refine Below.drew ?_) | (with_reducible refine Below.setCell ?_ (by (first | (simp; done) | (simp; omega))) _) | (with_reducible refine below_drewN' ?_ _) | (refine Below.alloc ?_ (by (try simp only [World.size_alloc, World.size_drew, World.size_setCell]); omega) _) | (refine Below.trans ?_ (Below.mono (by assumption) (by (try simp only [World.size_alloc, World.size_drew, World.size_setCell]); omega)))))⟩
    | true =>
      rw [hbad] at hcon
      simp only [Bool.true_and]
      have HB : Aside (∀ x ∈ b.nums, (Lit.int .i64 x).wf = true) := by
        intro x hx
        have := List.all_eq_true.1 hbad x hx
        unfold inb at this
        simp only [decide_eq_true_eq] at this
        exact WalkArith.wf_i64 (by omega)
      have HS : Aside (b.nums ≠ [] → ∃ b_1 off, an = some ⟨b_1, off, none⟩ ∧ b_1 < w.heap.size ∧ ∀ j x, b.nums[j]? = some x → ∀ i y, ([Value.int .i64 x])[i]? = some y → w.cell? ⟨b_1, off + j * 1 + i, none⟩ = some y) := hs
      obtain ⟨len, hl⟩ : ∃ len, b.nums.length = len := ⟨_, rfl⟩
      have HL : Aside (b.nums.length = len) := hl
      rw [hl] at hcon hlen hlen2 ll ln
      have HD : Aside (∀ k x, b.nums[k]? = some x → Sn (b.nums.take k ++ [x]) = Sn (b.nums.take (k + 1)) ∧ (Lit.int .i64 x).wf = true) := by
        intro k x hx
        obtain ⟨hk, e⟩ := List.getElem?_eq_some_iff.1 hx
        refine ⟨?_, HB.out x (List.mem_of_getElem? hx)⟩
        rw [List.take_succ_eq_append_getElem hk, e]
      have HE : Aside (dist b.nums = ((Maps.size (Sn (b.nums.take len)) : Int) == (len : Int))) := by
        show _ = _
        rw [← HL.out, List.take_length, Sn_dist]
      clear hs hbad HB
      have hmm := @run_makeMap Tryz.prog
      rw [HE.out, hl]
      clear hl
      generalize b.rings.length = lenr at *
      go_enter Tryz.func64, Tryz.ntmps64
      go_wp2_with (go_at_call 55; refine (hcon _ ?_).mono ?_; (repeat' (first | exact Below.refl _ _ | assumption | (with_reducible refine Below.drew ?_) | (with_reducible refine Below.setCell ?_ (by (first | (simp; done) | (simp; omega))) _) | (with_reducible refine below_drewN' ?_ _) | (refine Below.alloc ?_ (by (try simp only [World.size_alloc, World.size_drew, World.size_setCell]); omega) _) | (refine Below.trans ?_ (Below.mono (by assumption) (by (try simp only [World.size_alloc, World.size_drew, World.size_setCell]); omega))))); rintro e w1 ⟨rfl, hb1⟩; (obtain ⟨hc1, hf1⟩ := bcell hb1; have z1 := hb1.size; (try simp only [World.size_alloc, World.size_drew, World.size_setCell] at z1); (try have q1a : w.heap.size < w1.heap.size := by omega); (try have q1b : w.heap.size + 1 < w1.heap.size := by omega); (try have q1c : w.heap.size + 1 + 1 < w1.heap.size := by omega); (try have q1d : w.heap.size + 1 + 1 + 1 < w1.heap.size := by omega); (try have q1e : wr.heap.size < w1.heap.size := by omega); (try have q1f : wr.heap.size + 1 < w1.heap.size := by omega)))
      have B1 : Below w.heap.size w w1 := by (repeat' (first | exact Below.refl _ _ | assumption | (with_reducible refine Below.drew ?_) | (with_reducible refine Below.setCell ?_ (by (first | (simp; done) | (simp; omega))) _) | (with_reducible refine below_drewN' ?_ _) | (refine Below.alloc ?_ (by (try simp only [World.size_alloc, World.size_drew, World.size_setCell]); omega) _) | (refine Below.trans ?_ (Below.mono (by assumption) (by (try simp only [World.size_alloc, World.size_drew, World.size_setCell]); omega)))))
      have d4 : w1.cell? ⟨w.heap.size, 4, none⟩ = some (.slice an len cn) := keepc hb1 (by go_simp)
      clear hcon hmm
      go_loopw [27] (fun i wr => ∃ k : Nat, k ≤ len ∧ i = .int .i64 k ∧ wr.ownsMap Tryz.prog 3 (plainElem Tryz.prog 4) w1.heap.size k (Sn (b.nums.take k)) ∧ Below w1.heap.size w1 wr)
        (fun i _ => len - (intOf i).toNat)
      case atStart => exact ⟨0, Nat.zero_le _, rfl, World.ownsMap_made _ _ _ _, (Below.refl _ _).alloc (Nat.le_refl _) _⟩
      case round =>
        obtain ⟨k, hk, rfl, hown, hnx⟩ := hrel
        have e4 : wr.cell? ⟨w.heap.size, 4, none⟩ = some (.slice an len cn) := keepc hnx d4
        clear hc1 hf1
        by_cases hlt : k < len
        · have hltz : (k : Int) < (len : Int) := by omega
          obtain ⟨x, hx⟩ : ∃ x, b.nums[k]? = some x := ⟨_, List.getElem?_eq_getElem (by rw [HL.out]; exact hlt)⟩
          obtain ⟨r, off, rfl, hr, hc⟩ := HS.out (by intro e; rw [e] at hx; simp at hx)
          have x0 : wr.cell? ⟨r, off + k, none⟩ = some (.int .i64 x) := keepc hnx (keepc B1 (by have := hc k x hx 0 (.int .i64 x) rfl; simpa using this))
          obtain ⟨hd, hwf⟩ := HD.out k x hx
          have hkey : keyOf Tryz.prog 3 (.int .i64 x) = some (litI x) := keyOf_int_mk Tryz.underlying3 hwf
          have HDD : Aside (Sn (b.nums.take k ++ [x]) = Sn (b.nums.take (k + 1))) := hd
          clear hc hx hwf hd
          go_wp2_with (at_mapUpdate; refine wpList_mapUpdate_own _ rfl _ _ _ 131 rfl 3 4 law_int Tryz.underlying131 (plainElem (H := Unit) Tryz.prog 4) w1.heap.size k _ rfl hown (by unfold maxLen; omega) _ _ _ rfl rfl hkey _ [] (plainElem_bool Tryz.underlying4 true) ?_; intro w3 hown3 hgrow3)
          go_roundw
          case rel => exact ⟨k + 1, by omega, by go_num, by rw [← HDD.out, Sn_snoc]; exact hown3, hnx.grown hgrow3 hnx.size (fun j hj => by cases hj; exact Nat.le_refl _)⟩
          case measure => simp [intOf]; omega
        · have hltz : ¬ (k : Int) < (len : Int) := by omega
          have : k = len := by omega
          subst this
          go_wp2_with (at_len; refine wpList_len_own _ rfl _ 131 rfl 3 4 Tryz.underlying131 _ w1.heap.size k _ rfl hown ?_)
          go_ret
          exact ⟨rfl, by (repeat' (first | exact Below.refl _ _ | assumption | (with_reducible refine Below.drew ?_) | (with_reducible refine Below.setCell ?_ (by (first | (simp; done) | (simp; omega))) _) | (with_reducible refine below_drewN' ?_ _) | (refine Below.alloc ?_ (by (try simp only [World.size_alloc, World.size_drew, World.size_setCell]); omega) _) | (refine Below.trans ?_ (Below.mono (by assumption) (by (try simp only [World.size_alloc, World.size_drew, World.size_setCell]); omega)))))⟩
  · have e1 : numsOk b = false := by unfold numsOk; simp [he]
    rw [e1]
    clear e1 hs hcon
    generalize b.rings.length = lenr at *
    generalize b.nums.length = len at *
    generalize b.lines.length = lenl at *
    have hne : ¬ ((len : Int) = (lenl : Int)) := by omega
    go_enter Tryz.func64, Tryz.ntmps64
    go_wp2
    go_ret
    exact ⟨rfl, by (repeat' (first | exact Below.refl _ _ | assumption | (with_reducible refine Below.drew ?_) | (with_reducible refine Below.setCell ?_ (by (first | (simp; done) | (simp; omega))) _) | (with_reducible refine below_drewN' ?_ _) | (refine Below.alloc ?_ (by (try simp only [World.size_alloc, World.size_drew, World.size_setCell]); omega) _) | (refine Below.trans ?_ (Below.mono (by assumption) (by (try simp only [World.size_alloc, World.size_drew, World.size_setCell]); omega)))))⟩
end Go.Proofs.YtgceffpkhmjmkaaGreat
