/- Board, part Uf: all beds of the points of a box, in ascending order. -/
import Derived.Test.YtgceffpkhmjmkaaGreatUe
import Derived.Test.YtgceffpkhmjmkaaGreatLay
import Derived.Test.YtgceffpkhmjmkaaGreatTb
import Derived.Maps.OwnSet
set_option linter.unusedVariables false
set_option linter.unusedSimpArgs false
namespace Go.Proofs.YtgceffpkhmjmkaaGreat
open Go.RowKit Go.Shelf Go.Maps
attribute [local go_sem] Oper.semAt_some

theorem landed_bd {b : Brd} (hc : chk b = 0) (p : Int × Int) : 0 ≤ landed b p ∧ landed b p < 500 := by
  have g := good_of_chk hc
  rcases landed_turn b 0 p with ⟨_, h⟩ | ⟨f, h1, _, r, hr, rfl⟩
  · omega
  · have hf := g.fac r hr
    rw [h1]
    have hn : 0 ≤ b.nums[sector b p]?.getD 0 ∧ b.nums[sector b p]?.getD 0 ≤ 20 := by
      by_cases hj : sector b p < b.nums.length
      · rw [List.getElem?_eq_getElem hj]; have := g.num _ (List.getElem_mem hj); simp; omega
      · rw [List.getElem?_eq_none (by omega)]; simp
    unfold bedOf
    split <;> omega
theorem bedW_bd {b : Brd} (hc : chk b = 0) (p : Int × Int) : 0 ≤ bedW b p ∧ bedW b p < 500 := by
  unfold bedW
  split
  · omega
  · exact landed_bd hc p

/-- The beds among some numbers, each once, in ascending order. -/
def bedsOf (vals : List Int) : List Int := ((List.range 500).map Int.ofNat).filter fun n => vals.contains n
theorem mem_bedsOf {vals : List Int} (hv : ∀ x ∈ vals, 0 ≤ x ∧ x < 500) (n : Int) : n ∈ bedsOf vals ↔ n ∈ vals := by
  unfold bedsOf
  simp only [List.mem_filter, List.mem_map, List.mem_range, List.contains_iff_mem]
  constructor
  · exact fun h => h.2
  · intro h
    have := hv n h
    exact ⟨⟨n.toNat, by omega, by show ((n.toNat : Nat) : Int) = n; omega⟩, h⟩
theorem bedsOf_sorted (vals : List Int) : (bedsOf vals).Pairwise (· < ·) := by
  unfold bedsOf
  refine List.Pairwise.filter _ ?_
  refine List.pairwise_map.2 ?_
  refine List.pairwise_lt_range.imp ?_
  intro a b h
  show (a : Int) < (b : Int)
  omega
theorem bedsOf_len (vals : List Int) : (bedsOf vals).length ≤ 500 := by
  unfold bedsOf
  exact Nat.le_trans (List.length_filter_le _ _) (by simp)
theorem sort_bedsOf {vals ss : List Int} (h : ss.Perm (bedsOf vals)) : ss.mergeSort (fun x y => decide (x ≤ y)) = bedsOf vals := by
  have h1 := mergeSort_of_perm_i h
  refine h1.trans (List.mergeSort_of_pairwise ?_)
  exact (bedsOf_sorted vals).imp (fun {a b} h => by simp; omega)

def seenD (vals : List Int) : DataW Unit := setOf (.lit (.bool true)) (vals.map fun n => Lit.int .i64 n)
theorem lit_key (n : Int) (h1 : 0 ≤ n) (h2 : n < 500) : WideAt.IsKeyLit (Lit.int .i64 n) ∧ (Lit.int .i64 n).wf = true := by
  constructor
  · trivial
  · exact WalkArith.wf_i64 (by omega)
theorem has_seenD {vals : List Int} (hv : ∀ x ∈ vals, 0 ≤ x ∧ x < 500) (n : Int) : Maps.has (seenD vals) (.int .i64 n) = true ↔ n ∈ vals := by
  unfold seenD
  rw [has_setOf _ _ _ (by intro x hx; obtain ⟨y, hy, rfl⟩ := List.mem_map.1 hx; exact (lit_key y (hv y hy).1 (hv y hy).2).1), List.any_eq_true]
  constructor
  · rintro ⟨x, hx, hs⟩
    obtain ⟨y, hy, rfl⟩ := List.mem_map.1 hx
    by_cases e : y = n
    · rw [← e]; exact hy
    · rw [sameKey_ne (by intro h; cases h; exact e rfl)] at hs; cases hs
  · intro h
    exact ⟨.int .i64 n, List.mem_map.2 ⟨n, h, rfl⟩, by simp [Lit.sameKey]⟩
theorem sameKey_self' {a : Lit} (h : WideAt.IsKeyLit a) : a.sameKey a = true := by
  cases a <;> first | (simp [Lit.sameKey]; done) | exact h.elim
theorem perm_seenD {P : Program} {k : TypeId} {R : Value → Option (DataW Unit × List MemPlace)} {w : World} {M nn : Nat} {vals ss : List Int} (hv : ∀ x ∈ vals, 0 ≤ x ∧ x < 500)
    (hown : w.ownsMap P k R M nn (seenD vals)) (K : Keyed P k) (h : ss.Perm (intKeys (seenD vals))) : ss.Perm (bedsOf vals) := by
  refine h.trans ?_
  have hh := has_seenD hv
  have hkk : ∀ kl, Maps.has (seenD vals) kl = true → ∃ x, kl = .int .i64 x := by
    intro kl hkl
    unfold seenD at hkl
    rw [has_setOf _ _ _ (by intro x hx; obtain ⟨y, hy, rfl⟩ := List.mem_map.1 hx; exact (lit_key y (hv y hy).1 (hv y hy).2).1), List.any_eq_true] at hkl
    obtain ⟨x, hx, hs⟩ := hkl
    obtain ⟨y, hy, rfl⟩ := List.mem_map.1 hx
    by_cases e : Lit.int .i64 y = kl
    · exact ⟨y, e.symm⟩
    · rw [sameKey_ne e] at hs; cases hs
  obtain ⟨es, hD, hp, hk⟩ := hown.entries K
  rw [hD] at hh hkk ⊢
  refine (perm_intKeys hp (fun p hp' => ?_) ((bedsOf_sorted vals).imp (fun h e => by omega)) (fun x => by rw [mem_bedsOf hv, hh])).symm
  refine hkk p.1 ?_
  rw [has_eq, List.any_eq_true]
  refine ⟨p, hp', ?_⟩
  exact sameKey_self' (hk p hp')
theorem seenD_snoc (vals : List Int) (n : Int) : seenD (vals ++ [n]) = (seenD vals).put (.int .i64 n) (.lit (.bool true)) := by
  unfold seenD
  rw [List.map_append, List.map_cons, List.map_nil, setOf_snoc]

theorem ownsMap_turns3 {P : Program} {k : TypeId} {R : Value → Option (DataW Unit × List MemPlace)} {M n b : Nat} {D : DataW Unit} {A B : World} (h : A.ownsMap P k R M n D) (ht : Turns3 b A B) (hM : M < b ∨ b + 2 < M) : B.ownsMap P k R M n D := by
  obtain ⟨es, clock, hb, r⟩ := h
  exact ⟨es, clock, (ht.block M (Array.getElem?_eq_some_iff.1 hb).1 hM).trans hb, r⟩
theorem ownsMap_below {P : Program} {k : TypeId} {R : Value → Option (DataW Unit × List MemPlace)} {M n : Nat} {D : DataW Unit} {A B : World} (h : A.ownsMap P k R M n D) (ht : Below A.heap.size A B) : B.ownsMap P k R M n D := by
  obtain ⟨es, clock, hb, r⟩ := h
  exact ⟨es, clock, (ht.block M (Array.getElem?_eq_some_iff.1 hb).1).trans hb, r⟩

set_option maxHeartbeats 1000000 in
theorem validSpan_any (s : Int × Int) (w : World) :
    Calls Tryz.prog 52 #[spn s] w (Ret (.bool (validS s)) w) := by
  obtain ⟨x, y⟩ := s
  have hcall := fun W k hk t => within_any (-5000) 5000 _ [x, y] _ (sl_two W k hk t x y)
  unfold validS spn
  simp only []
  generalize ([x, y].all (inb (-5000) 5000)) = r at hcall ⊢
  by_cases hxy : x ≤ y
  · rw [decide_eq_true hxy, Bool.true_and]
    go_enter Tryz.func52, Tryz.ntmps52
    go_wp2_with (go_at_call 55; (with_reducible refine (hcall _ _ (by simp) _).mono ?_); rintro e w1 ⟨rfl, hb1⟩)
    go_ret
    exact ⟨rfl, by (repeat' (first | exact Below.refl _ _ | assumption | (with_reducible refine Below.drew ?_) | (with_reducible refine Below.setCell ?_ (by (first | (simp; done) | (simp; omega))) _) | (with_reducible refine below_drewN' ?_ _) | (refine Below.alloc ?_ (by (try simp only [World.size_alloc, World.size_drew, World.size_setCell]); omega) _) | (refine Below.trans ?_ (Below.mono (by assumption) (by (try simp only [World.size_alloc, World.size_drew, World.size_setCell]); omega)))))⟩
  · rw [decide_eq_false hxy, Bool.false_and]
    have hxd : decide (x ≤ y) = false := decide_eq_false hxy
    go_enter Tryz.func52, Tryz.ntmps52
    go_wp2
    go_ret
    exact ⟨rfl, by (repeat' (first | exact Below.refl _ _ | assumption | (with_reducible refine Below.drew ?_) | (with_reducible refine Below.setCell ?_ (by (first | (simp; done) | (simp; omega))) _) | (with_reducible refine below_drewN' ?_ _) | (refine Below.alloc ?_ (by (try simp only [World.size_alloc, World.size_drew, World.size_setCell]); omega) _) | (refine Below.trans ?_ (Below.mono (by assumption) (by (try simp only [World.size_alloc, World.size_drew, World.size_setCell]); omega)))))⟩

theorem sl_of_owns {w : World} {base n : Nat} {e : TypeId} {v : Value} {xs : List Int} (hl : xs.length ≤ 9223372036854775807) (h : w.ownsRow base e 1 v n (xs.map encZ)) (hn : n = xs.length) (hnil : xs = [] → v = .slice none 0 0) : Sl w 1 eI v xs := by
  subst hn
  rcases h.2 with ⟨h0, h1⟩ | ⟨g, cap, cur, rfl, h1, hg, h2⟩
  · have hx : xs = [] := List.eq_nil_of_length_eq_zero h1
    subst hx
    exact ⟨none, 0, h0, by simp, fun h => absurd rfl h⟩
  · refine ⟨_, _, rfl, hl, fun hne => ⟨g, 0, rfl, (Array.getElem?_eq_some_iff.1 hg).1, ?_⟩⟩
    intro j x hx i y hy
    match i, hy with
    | 0, hy =>
      simp at hy; subst hy
      have := h.cellAt j (by have := (List.getElem?_eq_some_iff.1 hx).1; omega)
      rw [Nat.mul_one, Nat.zero_add, Nat.add_zero, this, List.getElem?_map, hx]; rfl
    | i + 1, hy => simp at hy
theorem sortsA (m : Nat) : AnyZI.SortsIn Tryz.prog sortedA_ren Fence.wide m :=
  ⟨fun blk off cap ss W hH hblk hsz => callsIn_wide.2 (AnyM.slices_Sort_int sortA blk off cap ss W hH hblk hsz),
   fun p cap W => callsIn_wide.2 (AnyM.slices_Sort_int_none sortA p cap W)⟩

/-- The beds of the first points of a box. -/
def valsOf (b : Brd) (x y : Int) (sy i : Nat) : List Int := (List.range i).map fun q => bedW b (ptAt x y sy q)
theorem valsOf_succ (b : Brd) (x y : Int) (sy i : Nat) : valsOf b x y sy (i + 1) = valsOf b x y sy i ++ [bedW b (ptAt x y sy i)] := by
  unfold valsOf; rw [List.range_succ, List.map_append]; rfl
theorem valsOf_bd {b : Brd} (hc : chk b = 0) (x y : Int) (sy i : Nat) : ∀ n ∈ valsOf b x y sy i, 0 ≤ n ∧ n < 500 := by
  intro n hn
  obtain ⟨q, _, rfl⟩ := List.mem_map.1 hn
  exact bedW_bd hc _

/-- What Beds leaves. -/
def BedsOk (l : List Int) (w : World) (e : Ending) (w' : World) : Prop :=
  ∃ v, e = .returned (.tuple #[v, .int .i64 0]) ∧ Sl w' 1 eI v l ∧ Below w.heap.size w w'

set_option maxRecDepth 100000 in
set_option maxHeartbeats 1000000 in
theorem Beds_ok (v : Value) (b : Brd) (x1 x2 y1 y2 : Int) (sx sy : Nat) (w : World) (h : BrdAt w v b) (hc : chk b = 0) (hx : validS (x1, x2) = true) (hy : validS (y1, y2) = true) (hsx : x2 - x1 + 1 = sx) (hsy : y2 - y1 + 1 = sy) (hn : sx * sy ≤ 2500) :
    Calls Tryz.prog 21 #[v, .agg #[.int .i64 x1, .int .i64 x2, .int .i64 y1, .int .i64 y2]] w (BedsOk (bedsOf (valsOf b x1 y1 sy (sx * sy))) w) := by
  have c1 := fun m W (hW : Below w.heap.size w W) => (callsIn_wide (n := m)).2 (check_any v b W (h.below hW))
  rw [hc] at c1
  have c2 := fun m W => (callsIn_wide (n := m)).2 (validSpan_any (x1, x2) W)
  have c3 := fun m W => (callsIn_wide (n := m)).2 (validSpan_any (y1, y2) W)
  rw [hx] at c2
  rw [hy] at c3
  obtain ⟨bx1, bx2, bx3⟩ : -5000 ≤ x1 ∧ x2 ≤ 5000 ∧ x1 ≤ x2 := by unfold validS inb at hx; simp at hx; omega
  obtain ⟨by1, by2, by3⟩ : -5000 ≤ y1 ∧ y2 ≤ 5000 ∧ y1 ≤ y2 := by unfold validS inb at hy; simp at hy; omega
  have c4 := fun w => size_any x1 x2 w bx1 (by omega) (by omega) bx2
  have c5 := fun w => size_any y1 y2 w by1 (by omega) (by omega) by2
  rw [hsx] at c4
  rw [hsy] at c5
  unfold spn at c2 c3
  simp only [] at c2 c3
  have hnz : (sx : Int) * (sy : Int) ≤ 2500 := by have : ((sx * sy : Nat) : Int) ≤ 2500 := by omega
                                                  simpa using this
  have hnz0 : (0 : Int) ≤ (sx : Int) * (sy : Int) := Int.mul_nonneg (by omega) (by omega)
  have HC : Aside (chk b = 0) := hc
  have HH : Aside (BrdAt w v b) := h
  obtain ⟨vr, vl, vn, rfl, hr, hl, hnn⟩ := h
  have c6 := fun m W (hW : Below w.heap.size w W) (d : Int × Int) (hd : Pt5 d) => (callsIn_wide (n := m)).2 (bed_any vr vl vn b d W (hr.below hW) (hl.below hW) (hnn.below hW) (good_of_chk hc) hd)
  unfold thr at c6
  obtain ⟨ar, cr, rfl, lr, _⟩ := hr
  obtain ⟨al, cl, rfl, ll, _⟩ := hl
  obtain ⟨an, cn, rfl, ln, _⟩ := hnn
  have HC6 : Aside _ := c6
  clear c6
  have e1 : IntKind.i64.wrap ((sx : Int) * (sy : Int)) = (sx : Int) * (sy : Int) := IntWalk.i64_in _ (by omega)
  have HSX : Aside (x2 - x1 + 1 = (sx : Int)) := hsx
  have HSY : Aside (y2 - y1 + 1 = (sy : Int)) := hsy
  clear hx hy hc hsx hsy
  generalize hlenr : b.rings.length = lenr at *
  generalize hlenl : b.lines.length = lenl at *
  generalize hlenn : b.nums.length = lenn at *
  have HL : Aside (b.rings.length = lenr ∧ b.lines.length = lenl ∧ b.nums.length = lenn) := ⟨hlenr, hlenl, hlenn⟩
  clear hlenr hlenl hlenn
  have hmm := @run_makeMap Tryz.prog
  refine callsIn_wide (n := 10).1 ?_
  refine callsIn_of_wp_marks Tryz.func21 rfl trivial ?_ rfl
  simp only [Tryz.ntmps21, List.size_toArray, List.length_cons, List.length_nil, Nat.reduceAdd, Nat.reduceSub, Array.replicate_succ, Array.replicate_zero, List.push_toArray, List.append_toArray, List.nil_append, List.cons_append]
  gi_wp2_with (first | (refine ⟨trivial, ?_⟩; gi_at_call 10; (with_reducible refine (c1 _ _ ?hh).mono ?_); (case hh => (repeat' (first | exact Below.refl _ _ | assumption | (with_reducible refine Below.drew ?_) | (with_reducible refine Below.setCell ?_ (by (first | (simp; done) | (simp; omega))) _) | (with_reducible refine below_drewN' ?_ _) | (refine Below.alloc ?_ (by (try simp only [World.size_alloc, World.size_drew, World.size_setCell]); omega) _) | (refine Below.trans ?_ (Below.mono (by assumption) (by (try simp only [World.size_alloc, World.size_drew, World.size_setCell]); omega)))))); rintro e w1 ⟨rfl, hb1⟩; (obtain ⟨hc1, hf1⟩ := bcell hb1; have z1 := hb1.size; (try simp only [World.size_alloc, World.size_drew, World.size_setCell] at z1); (try have q1a : w.heap.size < w1.heap.size := by omega); (try have q1b : w.heap.size + 1 < w1.heap.size := by omega); (try have q1c : w.heap.size + 1 + 1 < w1.heap.size := by omega); (try have q1d : w.heap.size + 1 + 1 + 1 < w1.heap.size := by omega); (try have q1e : wr.heap.size < w1.heap.size := by omega); (try have q1f : wr.heap.size + 1 < w1.heap.size := by omega))) | (refine ⟨trivial, ?_⟩; gi_at_call 52; (with_reducible refine (c2 _ _).mono ?_); rintro e w2 ⟨rfl, hb2⟩; (obtain ⟨hc2, hf2⟩ := bcell hb2; have z2 := hb2.size; (try simp only [World.size_alloc, World.size_drew, World.size_setCell] at z2); (try have q2a : w.heap.size < w2.heap.size := by omega); (try have q2b : w.heap.size + 1 < w2.heap.size := by omega); (try have q2c : w.heap.size + 1 + 1 < w2.heap.size := by omega); (try have q2d : w.heap.size + 1 + 1 + 1 < w2.heap.size := by omega); (try have q2e : wr.heap.size < w2.heap.size := by omega); (try have q2f : wr.heap.size + 1 < w2.heap.size := by omega); (try have q2g : w1.heap.size < w2.heap.size := by omega); (try have q2h : w1.heap.size + 1 < w2.heap.size := by omega))) | (refine ⟨trivial, ?_⟩; gi_at_call 52; (with_reducible refine (c3 _ _).mono ?_); rintro e w3 ⟨rfl, hb3⟩; (obtain ⟨hc3, hf3⟩ := bcell hb3; have z3 := hb3.size; (try simp only [World.size_alloc, World.size_drew, World.size_setCell] at z3); (try have q3a : w.heap.size < w3.heap.size := by omega); (try have q3b : w.heap.size + 1 < w3.heap.size := by omega); (try have q3c : w.heap.size + 1 + 1 < w3.heap.size := by omega); (try have q3d : w.heap.size + 1 + 1 + 1 < w3.heap.size := by omega); (try have q3e : wr.heap.size < w3.heap.size := by omega); (try have q3f : wr.heap.size + 1 < w3.heap.size := by omega); (try have q3g : w2.heap.size < w3.heap.size := by omega); (try have q3h : w2.heap.size + 1 < w3.heap.size := by omega))))
  have k0 : w3.cell? ⟨w.heap.size + 1, 0, none⟩ = some (.int .i64 x1) := by go_simp
  have k1 : w3.cell? ⟨w.heap.size + 1, 1, none⟩ = some (.int .i64 x2) := by go_simp
  have k2 : w3.cell? ⟨w.heap.size + 1, 2, none⟩ = some (.int .i64 y1) := by go_simp
  have k3 : w3.cell? ⟨w.heap.size + 1, 3, none⟩ = some (.int .i64 y2) := by go_simp
  have o0 : w3.cell? ⟨w.heap.size, 0, none⟩ = some (.int .i64 b.eye) := by go_simp
  have o1 : w3.cell? ⟨w.heap.size, 1, none⟩ = some (.int .i64 b.bull) := by go_simp
  have o2 : w3.cell? ⟨w.heap.size, 2, none⟩ = some (.slice ar lenr cr) := by go_simp
  have o3 : w3.cell? ⟨w.heap.size, 3, none⟩ = some (.slice al lenl cl) := by go_simp
  have o4 : w3.cell? ⟨w.heap.size, 4, none⟩ = some (.slice an lenn cn) := by go_simp
  have o5 : w3.cell? ⟨w.heap.size, 5, none⟩ = some (.int .i64 b.wire) := by go_simp
  have B3 : Below w.heap.size w w3 := by (repeat' (first | exact Below.refl _ _ | assumption | (with_reducible refine Below.drew ?_) | (with_reducible refine Below.setCell ?_ (by (first | (simp; done) | (simp; omega))) _) | (with_reducible refine below_drewN' ?_ _) | (refine Below.alloc ?_ (by (try simp only [World.size_alloc, World.size_drew, World.size_setCell]); omega) _) | (refine Below.trans ?_ (Below.mono (by assumption) (by (try simp only [World.size_alloc, World.size_drew, World.size_setCell]); omega)))))
  have sz3 : w.heap.size + 1 < w3.heap.size := by omega
  have MK : Aside (∀ w', Below w3.heap.size w3 w' → (Below w3.heap.size w3 w' ∧ w'.cell? ⟨w.heap.size + 1, 0, none⟩ = some (.int .i64 x1) ∧ w'.cell? ⟨w.heap.size + 1, 1, none⟩ = some (.int .i64 x2) ∧ w'.cell? ⟨w.heap.size + 1, 2, none⟩ = some (.int .i64 y1) ∧ w'.cell? ⟨w.heap.size + 1, 3, none⟩ = some (.int .i64 y2))) := fun w' hB => ⟨hB, keepc hB k0, keepc hB k1, keepc hB k2, keepc hB k3⟩
  have MO : Aside (∀ w', Below w3.heap.size w3 w' → (w'.cell? ⟨w.heap.size, 0, none⟩ = some (.int .i64 b.eye) ∧ w'.cell? ⟨w.heap.size, 1, none⟩ = some (.int .i64 b.bull) ∧ w'.cell? ⟨w.heap.size, 2, none⟩ = some (.slice ar lenr cr) ∧ w'.cell? ⟨w.heap.size, 3, none⟩ = some (.slice al lenl cl) ∧ w'.cell? ⟨w.heap.size, 4, none⟩ = some (.slice an lenn cn) ∧ w'.cell? ⟨w.heap.size, 5, none⟩ = some (.int .i64 b.wire))) := fun w' hB => ⟨keepc hB o0, keepc hB o1, keepc hB o2, keepc hB o3, keepc hB o4, keepc hB o5⟩
  clear hc1 hf1 hc2 hf2 hc3 hf3 k0 k1 k2 k3 o0 o1 o2 o3 o4 o5 c1 c2 c3
  refine regionW_class (fun w' => Below w3.heap.size w3 w' ∧ w'.cell? ⟨w.heap.size + 1, 0, none⟩ = some (.int .i64 x1) ∧ w'.cell? ⟨w.heap.size + 1, 1, none⟩ = some (.int .i64 x2) ∧ w'.cell? ⟨w.heap.size + 1, 2, none⟩ = some (.int .i64 y1) ∧ w'.cell? ⟨w.heap.size + 1, 3, none⟩ = some (.int .i64 y2)) (by kernel_rfl) (by intro o ho c e; simp at ho; rcases ho with rfl | rfl | rfl | rfl | rfl | rfl | rfl | rfl <;> cases e) (by kernel_rfl) (MK.out _ ((Below.refl _ _).drew)) ?_
  iterate 8 (first | go_big_quiet_skip | (go_big_quiet_want; unfold Oper.quiet; apply Exists.intro; refine ⟨fun W hW => ?_, ?_⟩; (go_split_ands; unfold Oper.quietAt; go_simp; first | rfl | exact ⟨rfl, rfl⟩ | ((first | (with_reducible refine (c4 _).mono ?_) | (with_reducible refine (c5 _).mono ?_)); rintro e w2 ⟨rfl, hb2, _⟩; exact ⟨rfl, MK.out _ (Below.trans (by assumption) (Below.mono (by assumption) (Below.size (by assumption))))⟩)); go_big_quiet_on; (try simp only [Act.put, List.setIfInBounds_toArray, List.set_cons_zero, List.set_cons_succ])))
  refine wpQuiet_nil ?_
  intro W hW
  obtain ⟨hBW, k0, k1, k2, k3⟩ := hW
  obtain ⟨o0, o1, o2, o3, o4, o5⟩ := MO.out _ hBW
  have BW : Below w.heap.size w W := B3.trans (hBW.mono B3.size)
  have szW : w.heap.size + 1 < W.heap.size := by have := hBW.size; omega
  have szW2 : w.heap.size < W.heap.size := by omega
  have szW3 : w.heap.size < W.heap.size + 1 := by omega
  clear hBW e1 c4 c5
  gi_wp2_with (refine ⟨trivial, ?_⟩; gi_at_call 54; (with_reducible refine (callsIn_wide.2 (points_any _ _ _ _ _)).mono ?_); rintro e w5 ⟨rfl, rfl⟩)
  obtain ⟨W0, hW0⟩ : ∃ W0, W0 = (((W.alloc (.map #[] 0)).alloc (.cells #[.map (some W.heap.size)] 89)).alloc (.cells #[.int .i64 x1, .int .i64 x2, .int .i64 y1, .int .i64 y2] 49)) := ⟨_, rfl⟩
  have s0 : W0.heap.size = W.heap.size + 3 := by rw [hW0]; simp
  have B0 : Below w.heap.size w W0 := by rw [hW0]; clear hW0; (repeat' (first | exact Below.refl _ _ | assumption | (with_reducible refine Below.drew ?_) | (with_reducible refine Below.setCell ?_ (by (first | (simp; done) | (simp; omega))) _) | (with_reducible refine below_drewN' ?_ _) | (refine Below.alloc ?_ (by (try simp only [World.size_alloc, World.size_drew, World.size_setCell]); omega) _) | (refine Below.trans ?_ (Below.mono (by assumption) (by (try simp only [World.size_alloc, World.size_drew, World.size_setCell]); omega)))))
  have BO : Below W.heap.size W W0 := by rw [hW0]; clear hW0; (repeat' (first | exact Below.refl _ _ | assumption | (with_reducible refine Below.drew ?_) | (with_reducible refine Below.setCell ?_ (by (first | (simp; done) | (simp; omega))) _) | (with_reducible refine below_drewN' ?_ _) | (refine Below.alloc ?_ (by (try simp only [World.size_alloc, World.size_drew, World.size_setCell]); omega) _) | (refine Below.trans ?_ (Below.mono (by assumption) (by (try simp only [World.size_alloc, World.size_drew, World.size_setCell]); omega)))))
  have g7 : W0.cell? ⟨W.heap.size + 1, 0, none⟩ = some (.map (some W.heap.size)) := by rw [hW0]; clear hW0; go_simp
  have gb : BoxAt (W.heap.size + 1 + 1) x1 x2 y1 y2 W0 := by rw [hW0]; clear hW0; refine ⟨?_, ?_, ?_, ?_⟩ <;> go_simp
  have gm : W0.ownsMap Tryz.prog 34 (plainElem Tryz.prog 4) W.heap.size 0 (seenD (valsOf b x1 y1 sy 0)) := by
    rw [hW0]; exact ((World.ownsMap_made W _ _ _).alloc _).alloc _
  have o0' := keepc BO o0
  have o1' := keepc BO o1
  have o2' := keepc BO o2
  have o3' := keepc BO o3
  have o4' := keepc BO o4
  have o5' := keepc BO o5
  rw [← hW0]
  clear hW0 o0 o1 o2 o3 o4 o5 k0 k1 k2 k3
  have HP : Aside (∀ i, i < sx * sy → Pt5 (ptAt x1 y1 sy i)) := by
    intro i hi
    have hsy0 : 0 < sy := by
      rcases Nat.eq_zero_or_pos sy with h | h
      · rw [h] at hi; simp at hi
      · exact h
    have h1 : i / sy < sx := Nat.div_lt_of_lt_mul (by rw [Nat.mul_comm]; exact hi)
    have h2 : i % sy < sy := Nat.mod_lt _ hsy0
    have h3 := HSX.out
    have h4 := HSY.out
    unfold ptAt Pt5
    simp only []
    generalize i / sy = q at *
    generalize i % sy = r at *
    omega
  refine rangeFunc_all2 rfl (by decide) (gf := 76) (lb := #[.pointer (some ⟨W.heap.size + 1 + 1, 0, none⟩)]) rfl trivial (enters_of Tryz.func76 (by kernel_rfl) rfl) rfl
    (sx * sy) (BoxAt (W.heap.size + 1 + 1) x1 x2 y1 y2) (fun i v => v = pt (ptAt x1 y1 sy i)) (fun v Wp => Wp.alloc (.cells (match v with | .agg cs => cs | _ => #[]) 28))
    (fun v Wp => (Below.refl _ _).alloc (Nat.le_refl _) _) (fun v Wp => by simp)
    (fun J W1 hsz hb hJ hR hY h0 => points1_in 9 (by decide) (W0.heap.size + 1) (W.heap.size + 1 + 1) x1 x2 y1 y2 sx sy J W1 (by rw [hsz]; exact hJ) (by rw [hsz]; exact hY) hR (by omega) h0 bx1 bx2 by1 by2 HSX.out HSY.out (by have := HSX.out; omega) (by have := HSY.out; omega))
    (fun i V => V.cell? ⟨w.heap.size, 0, none⟩ = some (.int .i64 b.eye) ∧ V.cell? ⟨w.heap.size, 1, none⟩ = some (.int .i64 b.bull) ∧ V.cell? ⟨w.heap.size, 2, none⟩ = some (.slice ar lenr cr) ∧ V.cell? ⟨w.heap.size, 3, none⟩ = some (.slice al lenl cl) ∧ V.cell? ⟨w.heap.size, 4, none⟩ = some (.slice an lenn cn) ∧ V.cell? ⟨w.heap.size, 5, none⟩ = some (.int .i64 b.wire) ∧
      V.cell? ⟨W.heap.size + 1, 0, none⟩ = some (.map (some W.heap.size)) ∧ BoxAt (W.heap.size + 1 + 1) x1 x2 y1 y2 V ∧ Aside (Below w.heap.size w V) ∧ Aside (V.ownsMap Tryz.prog 34 (plainElem Tryz.prog 4) W.heap.size i (seenD (valsOf b x1 y1 sy i))))
    (fun i A B hi ht => by
      obtain ⟨h0, h1, h2, h3, h4, h5, h6, ⟨h7, h8, h9, h10⟩, hB, hM⟩ := hi
      exact ⟨ht.cellk (.inl (by omega)) h0, ht.cellk (.inl (by omega)) h1, ht.cellk (.inl (by omega)) h2, ht.cellk (.inl (by omega)) h3, ht.cellk (.inl (by omega)) h4, ht.cellk (.inl (by omega)) h5, ht.cellk (.inl (by omega)) h6, ⟨ht.cellk (.inl (by omega)) h7, ht.cellk (.inl (by omega)) h8, ht.cellk (.inl (by omega)) h9, ht.cellk (.inl (by omega)) h10⟩, ht.below hB.out (by omega) (Nat.le_refl _), ownsMap_turns3 hM.out ht (.inl (by omega))⟩)
    (fun i V h => h.2.2.2.2.2.2.2.1)
    ⟨o0', o1', o2', o3', o4', o5', g7, gb, B0, gm⟩
    (fun v Wp => { tmps := #[.agg #[.int .i64 b.eye, .int .i64 b.bull, .slice ar lenr cr, .slice al lenl cl, .slice an lenn cn, .int .i64 b.wire], .agg #[.int .i64 x1, .int .i64 x2, .int .i64 y1, .int .i64 y2],
        .pointer (some ⟨w.heap.size, 0, none⟩), .pointer (some ⟨w.heap.size + 1, 0, none⟩), .slice none 0 0, .int .i64 0, .int .i64 0, .pointer (some ⟨W.heap.size + 1, 0, none⟩), .pointer (some ⟨Wp.heap.size, 0, none⟩), undef, undef,
        .agg #[.int .i64 b.eye, .int .i64 b.bull, .slice ar lenr cr, .slice al lenl cl, .slice an lenn cn, .int .i64 b.wire], .int .i64 0, .int .i64 0, .bool false, undef, .pointer (some ⟨w.heap.size + 1, 0, none⟩), .agg #[.int .i64 x1, .int .i64 x2], .bool true, .bool false, .bool false,
        .pointer (some ⟨w.heap.size + 1, 2, none⟩), .agg #[.int .i64 y1, .int .i64 y2], .bool true, .bool false, .bool false, .pointer (some ⟨w.heap.size + 1, 0, none⟩), .agg #[.int .i64 x1, .int .i64 x2], .int .i64 sx, .pointer (some ⟨w.heap.size + 1, 2, none⟩), .agg #[.int .i64 y1, .int .i64 y2], .int .i64 sy,
        .int .i64 (sx * sy), .bool (decide (2500 < (sx : Int) * sy)), .map (some W.heap.size), .agg #[.int .i64 x1, .int .i64 x2, .int .i64 y1, .int .i64 y2], .func (.func 76) #[] #[.pointer (some ⟨W.heap.size + 1 + 1, 0, none⟩)], v,
        undef, undef, undef, undef, undef, undef, undef, undef, undef, undef, undef, undef, undef, undef], defers := [] }) ?assign ?body ?done
  case assign =>
    rintro l i v V K rfl hK
    unfold pt at *
    gi_wp2
    exact hK
  case body =>
    rintro l i v Wp V ⟨h0, h1, h2, h3, h4, h5, h6, h7, hB, hM⟩ hi rfl hbig hsz hcell
    obtain ⟨P, hP⟩ : ∃ P, ptAt x1 y1 sy i = P := ⟨_, rfl⟩
    have hp5 : Pt5 P := by rw [← hP]; exact HP.out i hi
    have HV : Aside (seenD (valsOf b x1 y1 sy (i + 1)) = (seenD (valsOf b x1 y1 sy i)).put (.int .i64 (bedW b P)) (.lit (.bool true))) := by
      show _ = _
      rw [valsOf_succ, seenD_snoc, hP]
    have hbb := bedW_bd HC.out P
    have hwf := (lit_key (bedW b P) hbb.1 hbb.2).2
    rw [hP] at hcell ⊢
    have p0 : V.cell? ⟨Wp.heap.size, 0, none⟩ = some (.int .i64 P.1) := hcell _ _ (by show (Wp.alloc (.cells #[.int .i64 P.1, .int .i64 P.2] 28)).cell? _ = _; go_simp)
    have p1 : V.cell? ⟨Wp.heap.size, 1, none⟩ = some (.int .i64 P.2) := hcell _ _ (by show (Wp.alloc (.cells #[.int .i64 P.1, .int .i64 P.2] 28)).cell? _ = _; go_simp)
    have x6 := fun m => CallsIn.inRound l (HC6.out m V hB.out P hp5)
    have hMm := hM.out.lt
    have hVs : V.heap.size = Wp.heap.size + 1 := by rw [hsz]; simp
    obtain ⟨bw, hbw⟩ : ∃ bw, bedW b P = bw := ⟨_, rfl⟩
    rw [hbw] at x6 HV hwf
    generalize onWire b P = ow at x6
    have HI : Aside (i ≤ 2500) := by show _ ≤ _; omega
    unfold pt
    clear hcell hsz hP hbw hp5 hbb
    gi_wp2_with (first | (refine ⟨trivial, ?_⟩; gi_at_call 42; (with_reducible refine (x6 _).mono ?_); rintro e V2 ⟨rfl, hb2⟩; have h6' := keepc hb2 h6; have hM2 := ownsMap_below hM.out hb2) | (gi_at_mapUpdate; refine wpListIn_mapUpdate_own _ rfl _ _ _ 89 rfl 34 4 (Maps.int_keyed Tryz.underlying34) Tryz.underlying89 _ W.heap.size i _ rfl hM2 (by have := HI.out; unfold maxLen; omega) _ _ _ rfl rfl (Maps.keyOf_int_mk Tryz.underlying34 hwf) _ [] (plainElem_bool Tryz.underlying4 true) ?_; intro V3 hM3 hgr))
    rw [← HV.out] at hM3
    have hbz := hb2.size
    have BV : Below w.heap.size w V3 := (hB.out.trans (hb2.mono hB.out.size)).grown hgr (by have := hB.out.size; omega) (fun j hj => by cases hj; omega)
    have K : ∀ (k j : Nat) (u : Value), k ≠ W.heap.size → V.cell? ⟨k, j, none⟩ = some u → V3.cell? ⟨k, j, none⟩ = some u := fun k j u hk hu => hgr.cell (keepc hb2 hu) (by simp; omega)
    refine ⟨Nat.le_trans hbz hgr.size, fun k hk1 hk2 => (hgr.block k (by omega) (by simp; omega)).trans (hb2.block k (by omega)), K _ _ _ (by omega) h0, K _ _ _ (by omega) h1, K _ _ _ (by omega) h2, K _ _ _ (by omega) h3, K _ _ _ (by omega) h4, K _ _ _ (by omega) h5, K _ _ _ (by omega) h6, ⟨K _ _ _ (by omega) h7.1, K _ _ _ (by omega) h7.2.1, K _ _ _ (by omega) h7.2.2.1, K _ _ _ (by omega) h7.2.2.2⟩, BV, hM3⟩
  case done =>
    rintro D V hD ⟨h0, h1, h2, h3, h4, h5, h6, h7, hB, hM⟩ hK
    have hbl := hM.out.lt
    have hnn : sx * sy ≤ 2500 := hn
    have hsz : Maps.size (seenD (valsOf b x1 y1 sy (sx * sy))) ≤ 2500 := by
      obtain ⟨es, clock, hb, Ft, hs, hD⟩ := hM.out
      rw [hD, size_eq, length_sorted]
      simp; omega
    have hseq : SeqGives Fence.wide 6 Tryz.prog 74 #[.pointer (some ⟨V.heap.size, 0, none⟩)] encZ (fun ss => ss.Perm (intKeys (seenD (valsOf b x1 y1 sy (sx * sy))))) (Maps.size (seenD (valsOf b x1 y1 sy (sx * sy)))) (V.alloc (.cells #[.map (some W.heap.size)] 89)) :=
      AnyZI.keys_gives (ρ := keysA_ren) { keysA with } Fence.wide _ trivial rfl (by omega) V.heap.size W.heap.size (sx * sy) _ _ (by simp) (by simp) (by
        obtain ⟨es, clock, hb, Ft, hs, hD⟩ := hM.out
        exact ⟨es, clock, (Below.heap_alloc _ _ _ hbl).trans hb, Ft, hs, hD⟩)
    have cK : ∀ mb W, CallsIn Fence.wide 9 Tryz.prog 45 #[.map mb] W fun e w' => e = .returned (.func (.func 74) #[] #[.pointer (some ⟨W.heap.size, 0, none⟩)]) ∧ w' = W.alloc (.cells #[.map mb] 89) := fun mb W => AnyZI.keys_in keysA Fence.wide 9 trivial rfl mb W
    have cS := AnyZI.sorted_in sortedA Fence.wide 9 trivial trivial trivial trivial rfl (by omega) (sortsA _) (enters_of Tryz.func73 (by kernel_rfl) rfl) 74 #[.pointer (some ⟨V.heap.size, 0, none⟩)] trivial (enters_of Tryz.func74 (by kernel_rfl) rfl) _ _ (by unfold maxLen; omega) (by omega) _ hseq
    change CallsIn _ _ Tryz.prog 44 _ _ _ at cS
    have hfK : Fence.wide.fn 45 := trivial
    have hfS : Fence.wide.fn 44 := trivial
    gi_wp2_with (first | (gi_at_call 45; refine (cK _ _).mono ?_; rintro e w' ⟨rfl, rfl⟩) | (gi_at_call 44; refine cS.mono ?_; rintro e V4 ⟨vv, ss, rfl, hS, hrow, hnil, hb4⟩))
    have hKV : V4.heap[D]? = some (.deferred (some [])) := by
      have h1 := hb4.block D (by simp; have := (Array.getElem?_eq_some_iff.1 hK).1; omega)
      rw [h1]; exact (Below.heap_alloc _ _ _ (Array.getElem?_eq_some_iff.1 hK).1).trans hK
    refine ⟨by simp, .inl ⟨_, _, rfl, run_takeDeferred hKV, ?_⟩⟩
    have hps := perm_seenD (valsOf_bd HC.out x1 y1 sy (sx * sy)) hM.out (Maps.int_keyed Tryz.underlying34) hS
    have hms := sort_bedsOf hps
    have hsl : Sl V4 1 eI vv (bedsOf (valsOf b x1 y1 sy (sx * sy))) := by
      rw [hms] at hrow
      have hlen : ss.length = (bedsOf (valsOf b x1 y1 sy (sx * sy))).length := hps.length_eq
      exact sl_of_owns (by have := bedsOf_len (valsOf b x1 y1 sy (sx * sy)); omega) hrow hlen (fun e => hnil.2 (by rw [e] at hlen; exact List.eq_nil_of_length_eq_zero hlen))
    have hB4 : Below w.heap.size w V4 := (hB.out.trans (((Below.refl _ V).alloc (Nat.le_refl _) _).mono hB.out.size)).trans (hb4.mono (by have := hB.out.size; simp; omega))
    refine ⟨.tuple #[vv, .int .i64 0], ?_, ⟨vv, rfl, hsl.put' hKV rfl, hB4.trans (belowK_b (w := w) (Nat.le_refl _) _ D _ (.deferred none) (by omega) hKV rfl rfl)⟩⟩
    simp [results, Tryz.f21, go_sem]
end Go.Proofs.YtgceffpkhmjmkaaGreat
