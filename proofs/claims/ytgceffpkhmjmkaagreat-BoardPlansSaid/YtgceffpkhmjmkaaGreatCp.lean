/- Board: what the plans of turns and the last week come to; the statements' own copies; the reference's forms. -/
import Derived.Test.YtgceffpkhmjmkaaGreatVh
import Derived.Test.YtgceffpkhmjmkaaGreatWa
import Derived.Test.YtgceffpkhmjmkaaGreatWb
import Derived.Test.YtgceffpkhmjmkaaGreatUf
import Derived.Test.YtgceffpkhmjmkaaGreatUc
import Derived.Test.YtgceffpkhmjmkaaGreatW
import Derived.Test.YtgceffpkhmjmkaaGreatY
import Derived.Test.YtgceffpkhmjmkaaGreatVf
import Derived.Test.YtgceffpkhmjmkaaGreatVe
import Derived.Test.YtgceffpkhmjmkaaGreatVm
import Derived.Test.YtgceffpkhmjmkaaGreatVg
import Derived.Test.YtgceffpkhmjmkaaGreatRg
import Derived.Test.YtgceffpkhmjmkaaGreatUb
set_option linter.unusedVariables false
set_option linter.unusedSimpArgs false
namespace Go.Proofs.YtgceffpkhmjmkaaGreat
open Go.RowKit Go.Shelf

/-- A block of cells of a type, not frozen. -/
def Tb (W : World) (g : Nat) (T : TypeId) : Prop := ∃ cur, W.heap[g]? = some (.cells cur T (0, 0))
theorem Tb.below {W W' : World} {g : Nat} {T : TypeId} (h : Tb W g T) (hb : Below W.heap.size W W') : Tb W' g T := by
  obtain ⟨cur, h⟩ := h
  exact ⟨cur, (hb.block g (Array.getElem?_eq_some_iff.1 h).1).trans h⟩
theorem Tb.setCell {W : World} {g : Nat} {T : TypeId} (h : Tb W g T) {k i : Nat} {u : Value} : Tb (W.setCell ⟨k, i, none⟩ u) g T := by
  obtain ⟨cur, h⟩ := h
  by_cases e : g = k
  · subst e
    exact ⟨_, Go.Joins.block_setCell (i := i) h u⟩
  · exact ⟨cur, (Below.heap_setCell W ⟨k, i, none⟩ u g e).trans h⟩
theorem Tb.frozen {W : World} {g : Nat} {T : TypeId} (h : Tb W g T) (i : Nat) : W.frozen? ⟨g, i, none⟩ = false := by
  obtain ⟨cur, h⟩ := h
  simp [World.frozen?, h]
theorem Tb.ne {W : World} {g g' : Nat} {T T' : TypeId} (h : Tb W g T) (h' : Tb W g' T') (hT : T ≠ T') : g ≠ g' := by
  intro e
  subst e
  obtain ⟨c, h⟩ := h
  obtain ⟨c', h'⟩ := h'
  rw [h] at h'
  simp at h'
  exact hT h'.2
theorem tb_row {w : World} {base k n : Nat} {T : TypeId} {g c : Nat} {xs : List Value} (h : w.ownsRow base T k (.slice (some ⟨g, 0, none⟩) n c) n xs) : Tb w g T := by
  rcases h.2 with ⟨h0, _⟩ | ⟨g', cap, cur, h1, _, h2, _⟩
  · cases h0
  · simp at h1
    obtain ⟨rfl, _⟩ := h1
    exact ⟨cur, h2⟩
def RetSl3 {α : Type} (k : Nat) (enc : α → List Value) (xs : List α) (T : TypeId) (w : World) (e : Ending) (w' : World) : Prop :=
  ∃ g c, e = .returned (.slice (some ⟨g, 0, none⟩) xs.length c) ∧ w.heap.size ≤ g ∧ g < w'.heap.size ∧ Sl w' k enc (.slice (some ⟨g, 0, none⟩) xs.length c) xs ∧ Tb w' g T ∧ Below w.heap.size w w'
set_option maxRecDepth 100000 in
set_option maxHeartbeats 1000000 in
theorem ints_own2 (v : Value) (xs : List (Int)) (w : World) (hs : Sl w 1 (fun x => [Value.int .i64 x]) v xs) (hne : xs ≠ []) (hle : xs.length ≤ 1000) :
    Calls Tryz.prog 24 #[v] w (RetSl3 1 (fun x => [Value.int .i64 x]) xs 3 w) := by
  have hk : ∀ x, (((fun x => [Value.int .i64 x])) x).length = 1 := fun _ => rfl
  obtain ⟨a, c, rfl, hl, hs⟩ := hs
  obtain ⟨b, off, rfl, hb, hc⟩ := hs hne
  have HC : Aside (∀ j u, ((xs.map ((fun x => [Value.int .i64 x]))).flatten)[j]? = some u → w.cell? ⟨b, off + j, none⟩ = some u) := by
    intro j u h
    obtain ⟨q, x, i, h1, h2, h3⟩ := flat_inv _ 1 hk xs j u h
    have := hc q x h1 i u h2
    rw [h3, ← Nat.add_assoc]; exact this
  have H1 : Aside (∀ u ∈ (xs.map ((fun x => [Value.int .i64 x]))).flatten, u.oneCell' = true) := by
    intro u hu
    obtain ⟨l, hl, hu⟩ := List.mem_flatten.1 hu
    obtain ⟨x, _, rfl⟩ := List.mem_map.1 hl
    try simp only [] at hu
    simp only [List.mem_cons, List.not_mem_nil, or_false] at hu
    subst hu; rfl
  have HL := flat_len ((fun x => [Value.int .i64 x])) 1 hk xs
  have HF : Aside (∀ (w' : World) (v' : Value), w'.ownsRow w.heap.size 3 1 v' (0 + xs.length) ([] ++ (xs.map ((fun x => [Value.int .i64 x]))).flatten) → ∃ g c, v' = .slice (some ⟨g, 0, none⟩) xs.length c ∧ w.heap.size ≤ g ∧ g < w'.heap.size ∧ Sl w' 1 ((fun x => [Value.int .i64 x])) (.slice (some ⟨g, 0, none⟩) xs.length c) xs ∧ Tb w' g 3) := fun w' v' h => by
    have h2 : w'.ownsRow w.heap.size 3 1 v' xs.length ((xs.map ((fun x => [Value.int .i64 x]))).flatten) := by simpa using h
    obtain ⟨g, c, rfl, h3, h4, h5⟩ := sl_of_row hk hl hne h2
    exact ⟨g, c, rfl, h3, h4, h5, tb_row h2⟩
  obtain ⟨i0, hi, hz0, hz1, hz2⟩ := info_parts info_ints
  clear hs hc hk hne
  have HLA : Aside (((xs.map ((fun x => [Value.int .i64 x]))).flatten).length = xs.length * 1) := HL
  clear HL
  have HC2 : Aside (∀ j u, ((xs.map ((fun x => [Value.int .i64 x]))).flatten)[j]? = some u → (w.alloc (.cells #[] 3)).cell? ((⟨b, off, none⟩ : Addr).add j) = some u) := by
    intro j u h
    rw [Addr.add_lit]
    exact keepc (W := w) (w1 := w.alloc (.cells #[] 3)) (a := ⟨b, off + j, none⟩) (by (repeat' (first | exact Below.refl _ _ | assumption | (with_reducible refine Below.drew ?_) | (with_reducible refine Below.setCell ?_ (by (first | (simp; done) | (simp; omega))) _) | (with_reducible refine below_drewN' ?_ _) | (refine Below.alloc ?_ (by (try simp only [World.size_alloc, World.size_drew, World.size_setCell]); omega) _) | (refine Below.trans ?_ (Below.mono (by assumption) (by (try simp only [World.size_alloc, World.size_drew, World.size_setCell]); omega)))))) (HC.out j u h)
  have hm1 : 0 + xs.length ≤ maxLen := by unfold maxLen; omega
  have hm2 : (0 + xs.length) * 8 ≤ 140737488355328 := by omega
  go_enter Tryz.func24, Tryz.ntmps24
  go_wp2_with (at_builtin; refine wpList_append_own _ rfl _ _ 24 rfl w.heap.size 3 i0 (.int .i64 0) 1 8 Tryz.underlying24 hi hz0 hz1 hz2 rfl (by decide) _ 0 [] rfl (owns_empty _ _ _) ⟨b, off, none⟩ xs.length c ((xs.map ((fun x => [Value.int .i64 x]))).flatten) rfl HLA.out HC2.out H1.out hm1 hm2 (by simp) ?_; intro v' w1 hown1 hgrow1 _; obtain ⟨g, c', rfl, hg1, hg2, hsl, htb⟩ := HF.out _ _ hown1)
  go_ret
  refine ⟨g, c', rfl, hg1, hg2, hsl, htb, ?_⟩
  exact ((Below.refl _ w).alloc (Nat.le_refl _) _).grown hgrow1 (by simp) (fun k e => by cases e; exact Nat.le_refl _)

def TbO {α : Type} (xs : List α) (W : World) (g : Nat) (T : TypeId) : Prop := xs = [] ∨ Tb W g T
theorem TbO.below {α : Type} {xs : List α} {W W' : World} {g : Nat} {T : TypeId} (h : TbO xs W g T) (hb : Below W.heap.size W W') : TbO xs W' g T := h.imp id (fun h => h.below hb)
theorem TbO.setCell {α : Type} {xs : List α} {W : World} {g : Nat} {T : TypeId} (h : TbO xs W g T) {k i : Nat} {u : Value} : TbO xs (W.setCell ⟨k, i, none⟩ u) g T := h.imp id (fun h => h.setCell)
theorem Sl.apart {α : Type} {xs : List α} {W : World} {k g g' n c i : Nat} {enc : α → List Value} {T T' : TypeId} {u : Value} (h : Sl W k enc (.slice (some ⟨g, 0, none⟩) n c) xs) (ht : TbO xs W g T) (hb : Tb W g' T') (hT : T ≠ T') : Sl (W.setCell ⟨g', i, none⟩ u) k enc (.slice (some ⟨g, 0, none⟩) n c) xs := by
  rcases ht with rfl | ht
  · obtain ⟨a, c', e, _, _⟩ := h
    rw [e]; exact sl_nil2 _ _ _ _ _
  · exact h.setO (ht.ne hb hT)
def RetSlT (xs : List Int) (w : World) (e : Ending) (w' : World) : Prop :=
  ∃ g c, e = .returned (.slice (some ⟨g, 0, none⟩) xs.length c) ∧ w.heap.size ≤ g ∧ g < w'.heap.size ∧ Sl w' 1 (fun x => [Value.int .i64 x]) (.slice (some ⟨g, 0, none⟩) xs.length c) xs ∧ TbO xs w' g 3 ∧ Below w.heap.size w w'
def OwnOkT (b : Brd) (w : World) (e : Ending) (w' : World) : Prop :=
  ∃ g1 c1 g2 c2 g3 c3, e = .returned (.agg #[.int .i64 b.eye, .int .i64 b.bull, .slice (some ⟨g1, 0, none⟩) b.rings.length c1, .slice (some ⟨g2, 0, none⟩) b.lines.length c2, .slice (some ⟨g3, 0, none⟩) b.nums.length c3, .int .i64 b.wire]) ∧
    Sl w' 2 encP (.slice (some ⟨g1, 0, none⟩) b.rings.length c1) b.rings ∧ Sl w' 2 encP (.slice (some ⟨g2, 0, none⟩) b.lines.length c2) b.lines ∧ Sl w' 1 (fun x => [Value.int .i64 x]) (.slice (some ⟨g3, 0, none⟩) b.nums.length c3) b.nums ∧ w.heap.size ≤ g3 ∧ TbO b.rings w' g1 79 ∧ TbO b.lines w' g2 28 ∧ TbO b.nums w' g3 3 ∧ Below w.heap.size w w'
set_option maxRecDepth 100000 in
set_option maxHeartbeats 1000000 in
theorem ints_allT (v : Value) (xs : List Int) (w : World) (hs : Sl w 1 (fun x => [Value.int .i64 x]) v xs) (hle : xs.length ≤ 1000) :
    Calls Tryz.prog 24 #[v] w (RetSlT xs w) := by
  by_cases hne : xs = []
  · subst hne
    obtain ⟨a, c, rfl, hl, _⟩ := hs
    unfold RetSlT
    cases a with
    | none =>
      go_enter Tryz.func24, Tryz.ntmps24
      go_wp2_with fail
      go_ret
      exact ⟨w.heap.size, 0, rfl, Nat.le_refl _, by simp, sl_nil2 _ _ _ _ _, .inl rfl, (Below.refl _ _).alloc (Nat.le_refl _) _⟩
    | some q =>
      go_enter Tryz.func24, Tryz.ntmps24
      go_wp2_with fail
      go_ret
      exact ⟨w.heap.size, 0, rfl, Nat.le_refl _, by simp, sl_nil2 _ _ _ _ _, .inl rfl, (Below.refl _ _).alloc (Nat.le_refl _) _⟩
  · have x := ints_own2 v xs w hs hne hle
    unfold RetSl3 at x
    refine x.mono ?_
    rintro e w' ⟨g, c, rfl, h1, h2, h3, h4, h5⟩
    exact ⟨g, c, rfl, h1, h2, h3, .inr h4, h5⟩
/-- What each operation of own's statement lays down. -/
def ownT (B : Nat) (b : Brd) (vr vl vn : Value) : Nat → Value → World → Prop
  | 0, x, _ | 4, x, _ => ∃ g, x = .slice (some ⟨g, 0, none⟩) 0 0 ∧ B + 2 ≤ g
  | 1, x, _ | 11, x, _ => x = .pointer (some ⟨B, 2, none⟩)
  | 5, x, _ | 13, x, _ => x = .pointer (some ⟨B, 3, none⟩)
  | 8, x, _ | 15, x, _ => x = .pointer (some ⟨B, 4, none⟩)
  | 2, x, _ => x = vr
  | 6, x, _ => x = vl
  | 9, x, _ => x = vn
  | 3, x, w => ∃ g c, x = .slice (some ⟨g, 0, none⟩) b.rings.length c ∧ B + 2 ≤ g ∧ Sl w 2 encP x b.rings ∧ TbO b.rings w g 79
  | 7, x, w => ∃ g c, x = .slice (some ⟨g, 0, none⟩) b.lines.length c ∧ B + 2 ≤ g ∧ Sl w 2 encP x b.lines ∧ TbO b.lines w g 28
  | 10, x, w => ∃ g c, x = .slice (some ⟨g, 0, none⟩) b.nums.length c ∧ B + 2 ≤ g ∧ Sl w 1 (fun x => [Value.int .i64 x]) x b.nums ∧ TbO b.nums w g 3
  | _, _, _ => True
theorem ownT_mono (B : Nat) (b : Brd) (vr vl vn : Value) : ∀ i x w w', Below w.heap.size w w' → ownT B b vr vl vn i x w → ownT B b vr vl vn i x w' := by
  intro i x w w' hB h
  unfold ownT at *
  split <;> try exact h
  all_goals
    simp only [] at h
    first
      | exact h
      | (obtain ⟨g, c, h1, h2, h3, h4⟩ := h; exact ⟨g, c, h1, h2, h3.below hB, h4.below hB⟩)
      | (obtain ⟨g, c, h1, h2, h3⟩ := h; exact ⟨g, c, h1, h2, h3.below hB⟩)

set_option maxRecDepth 100000 in
set_option maxHeartbeats 4000000 in
theorem own_allT (v : Value) (b : Brd) (w : World) (h : BrdAt w v b) (kr : b.rings.length ≤ 1000) (kl : b.lines.length ≤ 1000) (kn : b.nums.length ≤ 1000) :
    Calls Tryz.prog 9 #[v] w (OwnOkT b w) := by
  obtain ⟨vr, vl, vn, rfl, sr, sl, sn⟩ := h
  have HR : Aside (Sl w 2 encP vr b.rings) := sr
  have HL : Aside (Sl w 2 encP vl b.lines) := sl
  have HN : Aside (Sl w 1 (fun x => [Value.int .i64 x]) vn b.nums) := sn
  obtain ⟨ar, cr, rfl, lr, _⟩ := sr
  obtain ⟨al, cl, rfl, ll, _⟩ := sl
  obtain ⟨an, cn, rfl, ln, _⟩ := sn
  go_enter Tryz.func9, Tryz.ntmps9
  go_wp2_with fail
  obtain ⟨W0, hW0⟩ : ∃ W0, W0 = (w.alloc (.cells #[.int .i64 b.eye, .int .i64 b.bull, .slice ar b.rings.length cr, .slice al b.lines.length cl, .slice an b.nums.length cn, .int .i64 b.wire] 26)).alloc (.cells #[.int .i64 0, .int .i64 0, .slice none 0 0, .slice none 0 0, .slice none 0 0, .int .i64 0] 26) := ⟨_, rfl⟩
  rw [← hW0]
  have s0 : W0.heap.size = w.heap.size + 2 := by rw [hW0]; simp
  have B0 : Below w.heap.size w W0 := by rw [hW0]; clear hW0; (repeat' (first | exact Below.refl _ _ | assumption | (with_reducible refine Below.drew ?_) | (with_reducible refine Below.setCell ?_ (by (first | (simp; done) | (simp; omega))) _) | (with_reducible refine below_drewN' ?_ _) | (refine Below.alloc ?_ (by (try simp only [World.size_alloc, World.size_drew, World.size_setCell]); omega) _) | (refine Below.trans ?_ (Below.mono (by assumption) (by (try simp only [World.size_alloc, World.size_drew, World.size_setCell]); omega)))))
  have k0 : W0.cell? ⟨w.heap.size, 0, none⟩ = some (.int .i64 b.eye) := by rw [hW0]; clear hW0; go_simp
  have k1 : W0.cell? ⟨w.heap.size, 1, none⟩ = some (.int .i64 b.bull) := by rw [hW0]; clear hW0; go_simp
  have k2 : W0.cell? ⟨w.heap.size, 2, none⟩ = some (.slice ar b.rings.length cr) := by rw [hW0]; clear hW0; go_simp
  have k3 : W0.cell? ⟨w.heap.size, 3, none⟩ = some (.slice al b.lines.length cl) := by rw [hW0]; clear hW0; go_simp
  have k4 : W0.cell? ⟨w.heap.size, 4, none⟩ = some (.slice an b.nums.length cn) := by rw [hW0]; clear hW0; go_simp
  have k5 : W0.cell? ⟨w.heap.size, 5, none⟩ = some (.int .i64 b.wire) := by rw [hW0]; clear hW0; go_simp
  have f0 : ∀ i, W0.frozen? ⟨w.heap.size, i, none⟩ = false := by intro i; rw [hW0]; clear hW0; go_simp
  have f1 : ∀ i, W0.frozen? ⟨w.heap.size + 1, i, none⟩ = false := by intro i; rw [hW0]; clear hW0; go_simp
  have r0 : W0.cell? ⟨w.heap.size + 1, 0, none⟩ = some (.int .i64 0) := by rw [hW0]; clear hW0; go_simp
  have r1 : W0.cell? ⟨w.heap.size + 1, 1, none⟩ = some (.int .i64 0) := by rw [hW0]; clear hW0; go_simp
  have r2 : W0.cell? ⟨w.heap.size + 1, 2, none⟩ = some (.slice none 0 0) := by rw [hW0]; clear hW0; go_simp
  have r3 : W0.cell? ⟨w.heap.size + 1, 3, none⟩ = some (.slice none 0 0) := by rw [hW0]; clear hW0; go_simp
  have r4 : W0.cell? ⟨w.heap.size + 1, 4, none⟩ = some (.slice none 0 0) := by rw [hW0]; clear hW0; go_simp
  have r5 : W0.cell? ⟨w.heap.size + 1, 5, none⟩ = some (.int .i64 0) := by rw [hW0]; clear hW0; go_simp
  clear hW0
  have S0 : Aside (W0.heap.size = w.heap.size + 2) := s0
  have HBX : Aside (Below w.heap.size w W0) := B0
  have HF0 : Aside (∀ (A : World) (i : Nat), Below W0.heap.size W0 A → A.frozen? ⟨w.heap.size, i, none⟩ = false) := fun A i hA => (hA.frozen (p := ⟨w.heap.size, i, none⟩) (by show w.heap.size < _; omega)).trans (f0 i)
  have HF1 : Aside (∀ (A : World) (i : Nat), Below W0.heap.size W0 A → A.frozen? ⟨w.heap.size + 1, i, none⟩ = false) := fun A i hA => (hA.frozen (p := ⟨w.heap.size + 1, i, none⟩) (by show w.heap.size + 1 < _; omega)).trans (f1 i)
  clear f0 f1 s0 B0
  refine region_laid [true, true, true, true, true, true, true, true, true, true, true, true, false, false, false, false, false] 5 (ownT w.heap.size b (.slice ar b.rings.length cr) (.slice al b.lines.length cl) (.slice an b.nums.length cn)) (fun w' => Below W0.heap.size W0 w') (by kernel_rfl) rfl (by show layable _ 18 _ = true; decide +kernel) rfl ((Below.refl _ _).drew) (ownT_mono _ _ _ _ _) ?step ?rest
  case step =>
    intro i o listed a W hA ho hL he
    have ha1 : a.tmps.getD 1 undef = .pointer (some ⟨w.heap.size, 0, none⟩) := hL.kept 1 (by decide +kernel)
    have BW : Below w.heap.size w W := HBX.out.trans (hL.cls.mono HBX.out.size)
    have zW : w.heap.size + 2 ≤ W.heap.size := by have := hL.cls.size; have := S0.out; omega
    have m2 := keepc hL.cls k2
    have m3 := keepc hL.cls k3
    have m4 := keepc hL.cls k4
    have CL : ∀ W', Below W.heap.size W W' → Below W0.heap.size W0 W' := fun W' h => hL.cls.trans (h.mono hL.cls.size)
    match i, hA, ho with
    | 0, _, ho =>
      cases ho
      refine wpOp_plain rfl rfl ?_
      unfold Oper.wp
      go_simp
      exact ⟨_, rfl, (Below.refl _ _).alloc (Nat.le_refl _) _, CL _ ((Below.refl _ _).alloc (Nat.le_refl _) _), ⟨_, rfl, zW⟩⟩
    | 4, _, ho =>
      cases ho
      refine wpOp_plain rfl rfl ?_
      unfold Oper.wp
      go_simp
      exact ⟨_, rfl, (Below.refl _ _).alloc (Nat.le_refl _) _, CL _ ((Below.refl _ _).alloc (Nat.le_refl _) _), ⟨_, rfl, zW⟩⟩
    | 1, _, ho | 5, _, ho | 8, _, ho | 11, _, ho =>
      cases ho
      refine wpOp_plain rfl rfl ?_
      unfold Oper.wp
      go_simp
      exact ⟨_, rfl, Below.refl _ _, CL _ (Below.refl _ _), rfl⟩
    | 2, _, ho =>
      cases ho
      have d4 : a.tmps.getD 4 undef = .pointer (some ⟨w.heap.size, 2, none⟩) := hL.new 1 _ 4 rfl (he ⟨1, .data⟩ (by simp) rfl) rfl
      refine wpOp_plain rfl rfl ?_
      unfold Oper.wp
      go_simp
      exact ⟨_, rfl, Below.refl _ _, CL _ (Below.refl _ _), rfl⟩
    | 6, _, ho =>
      cases ho
      have d4 : a.tmps.getD 8 undef = .pointer (some ⟨w.heap.size, 3, none⟩) := hL.new 5 _ 8 rfl (he ⟨5, .data⟩ (by simp) rfl) rfl
      refine wpOp_plain rfl rfl ?_
      unfold Oper.wp
      go_simp
      exact ⟨_, rfl, Below.refl _ _, CL _ (Below.refl _ _), rfl⟩
    | 9, _, ho =>
      cases ho
      have d4 : a.tmps.getD 11 undef = .pointer (some ⟨w.heap.size, 4, none⟩) := hL.new 8 _ 11 rfl (he ⟨8, .data⟩ (by simp) rfl) rfl
      refine wpOp_plain rfl rfl ?_
      unfold Oper.wp
      go_simp
      exact ⟨_, rfl, Below.refl _ _, CL _ (Below.refl _ _), rfl⟩
    | 3, _, ho =>
      cases ho
      obtain ⟨g, d3, hg0⟩ : ∃ g, a.tmps.getD 3 undef = .slice (some ⟨g, 0, none⟩) 0 0 ∧ w.heap.size + 2 ≤ g := hL.new 0 _ 3 rfl (he ⟨0, .data⟩ (by simp) rfl) rfl
      have d5 : a.tmps.getD 5 undef = .slice ar b.rings.length cr := hL.new 2 _ 5 rfl (he ⟨2, .data⟩ (by simp) rfl) rfl
      by_cases hr : b.rings = []
      · have h0 : b.rings.length = 0 := by rw [hr]; rfl
        rw [h0] at d5
        refine wpOp_plain rfl rfl ?_
        unfold Oper.wp
        cases ar with
        | none =>
          go_simp
          exact ⟨_, rfl, Below.refl _ _, CL _ (Below.refl _ _), ⟨g, 0, by rw [h0], hg0, by rw [hr]; exact sl_nil2 _ _ _ _ _, .inl hr⟩⟩
        | some q =>
          go_simp
          exact ⟨_, rfl, Below.refl _ _, CL _ (Below.refl _ _), ⟨g, 0, by rw [h0], hg0, by rw [hr]; exact sl_nil2 _ _ _ _ _, .inl hr⟩⟩
      · obtain ⟨ad, news, rfl, hn1, hn2, hn3, hn4⟩ := news_of_sl (k := 2) (enc := encP) (fun _ => rfl) (fun x u hu => by unfold encP at hu; simp at hu; rcases hu with rfl | rfl <;> rfl) (HR.out.below BW) hr
        obtain ⟨i0, hi, hz0, hz1, hz2⟩ := info_parts info_rings
        refine wpOp_plain rfl rfl ?_
        refine wp_append_grows rfl (.tmp 3) (.tmp 5) 22 rfl 79 i0 (.agg #[.int .i64 0, .int .i64 0]) 2 16 Tryz.underlying22 hi hz0 hz1 hz2 rfl (by decide) ⟨g, 0, none⟩ d3 ad b.rings.length cr news d5 hn1 hn2 hn3 (List.length_pos_iff.2 hr) (by unfold maxLen; omega) (by omega) ?_
        intro v' w' r1 r2
        obtain ⟨g', c', rfl, hg1, hg2, hsl⟩ := hn4 _ w' v' r1
        have htb := tb_row r1
        have hBn : Below W.heap.size W w' := (Below.refl _ _).grown r2 (Nat.le_refl _) (fun j e => by cases e)
        exact ⟨_, rfl, hBn, CL _ hBn, ⟨g', c', rfl, by omega, hsl, .inr htb⟩⟩
    | 7, _, ho =>
      cases ho
      obtain ⟨g, d3, hg0⟩ : ∃ g, a.tmps.getD 7 undef = .slice (some ⟨g, 0, none⟩) 0 0 ∧ w.heap.size + 2 ≤ g := hL.new 4 _ 7 rfl (he ⟨4, .data⟩ (by simp) rfl) rfl
      have d5 : a.tmps.getD 9 undef = .slice al b.lines.length cl := hL.new 6 _ 9 rfl (he ⟨6, .data⟩ (by simp) rfl) rfl
      by_cases hl : b.lines = []
      · have h0 : b.lines.length = 0 := by rw [hl]; rfl
        rw [h0] at d5
        refine wpOp_plain rfl rfl ?_
        unfold Oper.wp
        cases al with
        | none =>
          go_simp
          exact ⟨_, rfl, Below.refl _ _, CL _ (Below.refl _ _), ⟨g, 0, by rw [h0], hg0, by rw [hl]; exact sl_nil2 _ _ _ _ _, .inl hl⟩⟩
        | some q =>
          go_simp
          exact ⟨_, rfl, Below.refl _ _, CL _ (Below.refl _ _), ⟨g, 0, by rw [h0], hg0, by rw [hl]; exact sl_nil2 _ _ _ _ _, .inl hl⟩⟩
      · obtain ⟨ad, news, rfl, hn1, hn2, hn3, hn4⟩ := news_of_sl (k := 2) (enc := encP) (fun _ => rfl) (fun x u hu => by unfold encP at hu; simp at hu; rcases hu with rfl | rfl <;> rfl) (HL.out.below BW) hl
        obtain ⟨i0, hi, hz0, hz1, hz2⟩ := info_parts info_pts
        refine wpOp_plain rfl rfl ?_
        refine wp_append_grows rfl (.tmp 7) (.tmp 9) 23 rfl 28 i0 (.agg #[.int .i64 0, .int .i64 0]) 2 16 Tryz.underlying23 hi hz0 hz1 hz2 rfl (by decide) ⟨g, 0, none⟩ d3 ad b.lines.length cl news d5 hn1 hn2 hn3 (List.length_pos_iff.2 hl) (by unfold maxLen; omega) (by omega) ?_
        intro v' w' r1 r2
        obtain ⟨g', c', rfl, hg1, hg2, hsl⟩ := hn4 _ w' v' r1
        have htb := tb_row r1
        have hBn : Below W.heap.size W w' := (Below.refl _ _).grown r2 (Nat.le_refl _) (fun j e => by cases e)
        exact ⟨_, rfl, hBn, CL _ hBn, ⟨g', c', rfl, by omega, hsl, .inr htb⟩⟩
    | 10, _, ho =>
      cases ho
      have d5 : a.tmps.getD 12 undef = .slice an b.nums.length cn := hL.new 9 _ 12 rfl (he ⟨9, .data⟩ (by simp) rfl) rfl
      have x := ints_allT _ b.nums W (HN.out.below BW) kn
      unfold RetSlT at x
      refine wpOp_plain rfl rfl ?_
      unfold Oper.wp
      go_simp
      refine x.mono ?_
      rintro e w' ⟨g', c', rfl, hg1, hg2, hsl, htb, hBn⟩
      exact ⟨_, rfl, hBn, CL _ hBn, ⟨g', c', rfl, by omega, hsl, htb⟩⟩
    | 12, hA, _ | 13, hA, _ | 14, hA, _ | 15, hA, _ | 16, hA, _ => cases hA
    | n + 17, hA, _ => simp at hA
  case rest =>
    intro a W hL
    obtain ⟨g0, e3, _⟩ : ∃ g, a.tmps.getD 3 undef = .slice (some ⟨g, 0, none⟩) 0 0 ∧ w.heap.size + 2 ≤ g := hL.new 0 _ 3 rfl rfl rfl
    have e4 : a.tmps.getD 4 undef = .pointer (some ⟨w.heap.size, 2, none⟩) := hL.new 1 _ 4 rfl rfl rfl
    have e5 : a.tmps.getD 5 undef = .slice ar b.rings.length cr := hL.new 2 _ 5 rfl rfl rfl
    obtain ⟨g1, c1, e6, hg1, hs1, ht1⟩ : ∃ g c, a.tmps.getD 6 undef = .slice (some ⟨g, 0, none⟩) b.rings.length c ∧ w.heap.size + 2 ≤ g ∧ Sl W 2 encP (a.tmps.getD 6 undef) b.rings ∧ TbO b.rings W g 79 := hL.new 3 _ 6 rfl rfl rfl
    obtain ⟨g0', e7, _⟩ : ∃ g, a.tmps.getD 7 undef = .slice (some ⟨g, 0, none⟩) 0 0 ∧ w.heap.size + 2 ≤ g := hL.new 4 _ 7 rfl rfl rfl
    have e8 : a.tmps.getD 8 undef = .pointer (some ⟨w.heap.size, 3, none⟩) := hL.new 5 _ 8 rfl rfl rfl
    have e9 : a.tmps.getD 9 undef = .slice al b.lines.length cl := hL.new 6 _ 9 rfl rfl rfl
    obtain ⟨g2, c2, e10, hg2, hs2, ht2⟩ : ∃ g c, a.tmps.getD 10 undef = .slice (some ⟨g, 0, none⟩) b.lines.length c ∧ w.heap.size + 2 ≤ g ∧ Sl W 2 encP (a.tmps.getD 10 undef) b.lines ∧ TbO b.lines W g 28 := hL.new 7 _ 10 rfl rfl rfl
    have e11 : a.tmps.getD 11 undef = .pointer (some ⟨w.heap.size, 4, none⟩) := hL.new 8 _ 11 rfl rfl rfl
    have e12 : a.tmps.getD 12 undef = .slice an b.nums.length cn := hL.new 9 _ 12 rfl rfl rfl
    obtain ⟨g3, c3, e13, hg3, hs3, ht3⟩ : ∃ g c, a.tmps.getD 13 undef = .slice (some ⟨g, 0, none⟩) b.nums.length c ∧ w.heap.size + 2 ≤ g ∧ Sl W 1 (fun x => [Value.int .i64 x]) (a.tmps.getD 13 undef) b.nums ∧ TbO b.nums W g 3 := hL.new 10 _ 13 rfl rfl rfl
    have e14 : a.tmps.getD 14 undef = .pointer (some ⟨w.heap.size, 2, none⟩) := hL.new 11 _ 14 rfl rfl rfl
    have e0 : a.tmps.getD 0 undef = .agg #[.int .i64 b.eye, .int .i64 b.bull, .slice ar b.rings.length cr, .slice al b.lines.length cl, .slice an b.nums.length cn, .int .i64 b.wire] := hL.kept2 0 (by decide +kernel)
    have e1 : a.tmps.getD 1 undef = .pointer (some ⟨w.heap.size, 0, none⟩) := hL.kept2 1 (by decide +kernel)
    have e2 : a.tmps.getD 2 undef = .pointer (some ⟨w.heap.size + 1, 0, none⟩) := hL.kept2 2 (by decide +kernel)
    have e15 : a.tmps.getD 15 undef = undef := hL.kept2 15 (by decide +kernel)
    have e16 : a.tmps.getD 16 undef = undef := hL.kept2 16 (by decide +kernel)
    have e17 : a.tmps.getD 17 undef = undef := hL.kept2 17 (by decide +kernel)
    rw [e6] at hs1
    rw [e10] at hs2
    rw [e13] at hs3
    have BW : Below w.heap.size w W := HBX.out.trans (hL.cls.mono HBX.out.size)
    have zW : w.heap.size + 2 ≤ W.heap.size := by have := hL.cls.size; have := S0.out; omega
    have m0 := keepc hL.cls k0
    have m1 := keepc hL.cls k1
    have m2 := keepc hL.cls k2
    have m3 := keepc hL.cls k3
    have m4 := keepc hL.cls k4
    have m5 := keepc hL.cls k5
    have F0 := fun i => HF0.out W i hL.cls
    have F1 := fun i => HF1.out W i hL.cls
    have n0 := keepc hL.cls r0
    have n1 := keepc hL.cls r1
    have n2 := keepc hL.cls r2
    have n3 := keepc hL.cls r3
    have n4 := keepc hL.cls r4
    have n5 := keepc hL.cls r5
    obtain rfl := act_lit (a := a) (lits := [.agg #[.int .i64 b.eye, .int .i64 b.bull, .slice ar b.rings.length cr, .slice al b.lines.length cl, .slice an b.nums.length cn, .int .i64 b.wire], .pointer (some ⟨w.heap.size, 0, none⟩), .pointer (some ⟨w.heap.size + 1, 0, none⟩), .slice (some ⟨g0, 0, none⟩) 0 0, .pointer (some ⟨w.heap.size, 2, none⟩), .slice ar b.rings.length cr, .slice (some ⟨g1, 0, none⟩) b.rings.length c1, .slice (some ⟨g0', 0, none⟩) 0 0,
      .pointer (some ⟨w.heap.size, 3, none⟩), .slice al b.lines.length cl, .slice (some ⟨g2, 0, none⟩) b.lines.length c2, .pointer (some ⟨w.heap.size, 4, none⟩), .slice an b.nums.length cn, .slice (some ⟨g3, 0, none⟩) b.nums.length c3, .pointer (some ⟨w.heap.size, 2, none⟩), undef, undef, undef]) hL.defers hL.size (by
      simp only [List.zipIdx_cons, List.zipIdx_nil, List.forall_mem_cons, List.not_mem_nil, false_implies, implies_true, and_true, Nat.zero_add, Nat.reduceAdd]
      exact ⟨e0, e1, e2, e3, e4, e5, e6, e7, e8, e9, e10, e11, e12, e13, e14, e15, e16, e17⟩)
    clear hL e0 e1 e2 e3 e4 e5 e6 e7 e8 e9 e10 e11 e12 e13 e14 e15 e16 e17 k0 k1 k2 k3 k4 k5 r0 r1 r2 r3 r4 r5
    refine wpAny_one (i := 12) (by decide +kernel) rfl rfl ?_
    unfold Oper.wp
    go_simp
    refine wpAny_one (i := 13) (by decide +kernel) rfl rfl ?_
    unfold Oper.wp
    go_simp
    refine wpAny_one (i := 14) (by decide +kernel) rfl rfl ?_
    unfold Oper.wp
    go_simp
    refine wpAny_one (i := 15) (by decide +kernel) rfl rfl ?_
    unfold Oper.wp
    go_simp
    refine wpAny_one (i := 16) (by decide +kernel) rfl rfl ?_
    unfold Oper.wp
    go_simp
    refine wpAny_done (by decide +kernel) ?_ _
    go_wp2
    obtain ⟨V, hV⟩ : ∃ V, V = (((((((((W.setCell ⟨w.heap.size, 2, none⟩ (.slice (some ⟨g1, 0, none⟩) b.rings.length c1)).setCell ⟨w.heap.size, 3, none⟩ (.slice (some ⟨g2, 0, none⟩) b.lines.length c2)).setCell ⟨w.heap.size, 4, none⟩ (.slice (some ⟨g3, 0, none⟩) b.nums.length c3)).setCell
      ⟨w.heap.size + 1, 0, none⟩ (.int .i64 b.eye)).setCell ⟨w.heap.size + 1, 1, none⟩ (.int .i64 b.bull)).setCell ⟨w.heap.size + 1, 2, none⟩ (.slice (some ⟨g1, 0, none⟩) b.rings.length c1)).setCell ⟨w.heap.size + 1, 3, none⟩ (.slice (some ⟨g2, 0, none⟩) b.lines.length c2)).setCell ⟨w.heap.size + 1, 4, none⟩ (.slice (some ⟨g3, 0, none⟩) b.nums.length c3)).setCell ⟨w.heap.size + 1, 5, none⟩ (.int .i64 b.wire)) := ⟨_, rfl⟩
    have p0 : V.cell? ⟨w.heap.size + 1, 0, none⟩ = some (.int .i64 b.eye) := by rw [hV]; clear hV; (first | (go_simp; done) | (go_simp; refine World.cell?_setCell_same' _ _ _ ?_; (repeat (with_reducible refine some_set' ?_)); go_simp))
    have p1 : V.cell? ⟨w.heap.size + 1, 1, none⟩ = some (.int .i64 b.bull) := by rw [hV]; clear hV; (first | (go_simp; done) | (go_simp; refine World.cell?_setCell_same' _ _ _ ?_; (repeat (with_reducible refine some_set' ?_)); go_simp))
    have p2 : V.cell? ⟨w.heap.size + 1, 2, none⟩ = some (.slice (some ⟨g1, 0, none⟩) b.rings.length c1) := by rw [hV]; clear hV; (first | (go_simp; done) | (go_simp; refine World.cell?_setCell_same' _ _ _ ?_; (repeat (with_reducible refine some_set' ?_)); go_simp))
    have p3 : V.cell? ⟨w.heap.size + 1, 3, none⟩ = some (.slice (some ⟨g2, 0, none⟩) b.lines.length c2) := by rw [hV]; clear hV; (first | (go_simp; done) | (go_simp; refine World.cell?_setCell_same' _ _ _ ?_; (repeat (with_reducible refine some_set' ?_)); go_simp))
    have p4 : V.cell? ⟨w.heap.size + 1, 4, none⟩ = some (.slice (some ⟨g3, 0, none⟩) b.nums.length c3) := by rw [hV]; clear hV; (first | (go_simp; done) | (go_simp; refine World.cell?_setCell_same' _ _ _ ?_; (repeat (with_reducible refine some_set' ?_)); go_simp))
    have p5 : V.cell? ⟨w.heap.size + 1, 5, none⟩ = some (.int .i64 b.wire) := by rw [hV]; clear hV; (first | (go_simp; done) | (go_simp; refine World.cell?_setCell_same' _ _ _ ?_; (repeat (with_reducible refine some_set' ?_)); go_simp))
    have q1 : Sl V 2 encP (.slice (some ⟨g1, 0, none⟩) b.rings.length c1) b.rings := by rw [hV]; exact ((((((((((hs1).setO (by first | (simp; done) | (simp; omega) | omega)).setO (by first | (simp; done) | (simp; omega) | omega)).setO (by first | (simp; done) | (simp; omega) | omega)).setO (by first | (simp; done) | (simp; omega) | omega)).setO (by first | (simp; done) | (simp; omega) | omega)).setO (by first | (simp; done) | (simp; omega) | omega)).setO (by first | (simp; done) | (simp; omega) | omega)).setO (by first | (simp; done) | (simp; omega) | omega)).setO (by first | (simp; done) | (simp; omega) | omega))
    have q2 : Sl V 2 encP (.slice (some ⟨g2, 0, none⟩) b.lines.length c2) b.lines := by rw [hV]; exact ((((((((((hs2).setO (by first | (simp; done) | (simp; omega) | omega)).setO (by first | (simp; done) | (simp; omega) | omega)).setO (by first | (simp; done) | (simp; omega) | omega)).setO (by first | (simp; done) | (simp; omega) | omega)).setO (by first | (simp; done) | (simp; omega) | omega)).setO (by first | (simp; done) | (simp; omega) | omega)).setO (by first | (simp; done) | (simp; omega) | omega)).setO (by first | (simp; done) | (simp; omega) | omega)).setO (by first | (simp; done) | (simp; omega) | omega))
    have q3 : Sl V 1 (fun x => [Value.int .i64 x]) (.slice (some ⟨g3, 0, none⟩) b.nums.length c3) b.nums := by rw [hV]; exact ((((((((((hs3).setO (by first | (simp; done) | (simp; omega) | omega)).setO (by first | (simp; done) | (simp; omega) | omega)).setO (by first | (simp; done) | (simp; omega) | omega)).setO (by first | (simp; done) | (simp; omega) | omega)).setO (by first | (simp; done) | (simp; omega) | omega)).setO (by first | (simp; done) | (simp; omega) | omega)).setO (by first | (simp; done) | (simp; omega) | omega)).setO (by first | (simp; done) | (simp; omega) | omega)).setO (by first | (simp; done) | (simp; omega) | omega))
    have t1 : TbO b.rings V g1 79 := by rw [hV]; exact ht1.setCell.setCell.setCell.setCell.setCell.setCell.setCell.setCell.setCell
    have t2 : TbO b.lines V g2 28 := by rw [hV]; exact ht2.setCell.setCell.setCell.setCell.setCell.setCell.setCell.setCell.setCell
    have t3 : TbO b.nums V g3 3 := by rw [hV]; exact ht3.setCell.setCell.setCell.setCell.setCell.setCell.setCell.setCell.setCell
    have hbV : Below w.heap.size w V := by
      rw [hV]
      exact ((((((((BW.setCell (p := ⟨w.heap.size, 2, none⟩) (by first | (simp; done) | (simp; omega) | omega) _).setCell (p := ⟨w.heap.size, 3, none⟩) (by first | (simp; done) | (simp; omega) | omega) _).setCell (p := ⟨w.heap.size, 4, none⟩) (by first | (simp; done) | (simp; omega) | omega) _).setCell (p := ⟨w.heap.size + 1, 0, none⟩) (by first | (simp; done) | (simp; omega) | omega) _).setCell (p := ⟨w.heap.size + 1, 1, none⟩) (by first | (simp; done) | (simp; omega) | omega) _).setCell (p := ⟨w.heap.size + 1, 2, none⟩) (by first | (simp; done) | (simp; omega) | omega) _).setCell (p := ⟨w.heap.size + 1, 3, none⟩) (by first | (simp; done) | (simp; omega) | omega) _).setCell (p := ⟨w.heap.size + 1, 4, none⟩) (by first | (simp; done) | (simp; omega) | omega) _).setCell (p := ⟨w.heap.size + 1, 5, none⟩) (by first | (simp; done) | (simp; omega) | omega) _
    rw [← hV]
    clear hV
    exact bodyPost_ret (v := .agg #[.int .i64 b.eye, .int .i64 b.bull, .slice (some ⟨g1, 0, none⟩) b.rings.length c1, .slice (some ⟨g2, 0, none⟩) b.lines.length c2, .slice (some ⟨g3, 0, none⟩) b.nums.length c3, .int .i64 b.wire]) (by simp [results, Tryz.results9, go_sem, p0, p1, p2, p3, p4, p5]) rfl ⟨g1, c1, g2, c2, g3, c3, rfl, q1, q2, q3, by omega, t1, t2, t3, hbV⟩
end Go.Proofs.YtgceffpkhmjmkaaGreat

namespace Go.Proofs.YtgceffpkhmjmkaaGreat
open Go.RowKit Go.Shelf

/-- The error of a plan. -/
def planE (b : Brd) (worn : List Int) (ws : List (List Int)) : Int :=
  if chk b = 0 then (if 3 < ws.length then 5 else if frm b.nums.length worn ws = 0 then (if planM worn ws ≤ 1000000000 then 0 else 8) else frm b.nums.length worn ws) else chk b

set_option maxRecDepth 100000 in
set_option maxHeartbeats 4000000 in
theorem Plan_chk (vb v vs : Value) (b : Brd) (worn : List Int) (ws : List (Value × List Int)) (w : World) (h : BrdAt w vb b) (hw : Sl w 1 eI v worn) (hs : Sl w 1 eR vs ws) (hx : ∀ x ∈ ws, Sl w 1 eI x.1 x.2) (hc : ¬ chk b = 0) :
    Calls Tryz.prog 35 #[vb, v, vs] w (Ret (.tuple #[.slice none 0 0, .int .i64 0, .int .i64 (chk b)]) w) := by
  have x1 := fun W (hW : Below w.heap.size w W) => check_any vb b W (h.below hW)
  obtain ⟨vr, vl, vn, rfl, hr, hl, hn⟩ := h
  obtain ⟨ar, cr, rfl, lr, _⟩ := hr
  obtain ⟨al, cl, rfl, ll, _⟩ := hl
  obtain ⟨an, cn, rfl, ln, _⟩ := hn
  obtain ⟨a, c, rfl, l1, _⟩ := hw
  obtain ⟨a2, c2, rfl, l2, _⟩ := hs
  generalize chk b = ck at *
  generalize b.rings.length = lenr at *
  generalize b.lines.length = lenl at *
  generalize b.nums.length = lenn at *
  generalize worn.length = lw at *
  generalize ws.length = lk at *
  go_enter Tryz.func35, Tryz.ntmps35
  go_wp2_with (go_at_call 10; (with_reducible refine (x1 _ ?hh).mono ?_); (case hh => (repeat' (first | exact Below.refl _ _ | assumption | (with_reducible refine Below.drew ?_) | (with_reducible refine Below.setCell ?_ (by (first | (simp; done) | (simp; omega))) _) | (with_reducible refine below_drewN' ?_ _) | (refine Below.alloc ?_ (by (try simp only [World.size_alloc, World.size_drew, World.size_setCell]); omega) _) | (refine Below.trans ?_ (Below.mono (by assumption) (by (try simp only [World.size_alloc, World.size_drew, World.size_setCell]); omega)))))); rintro e w1 ⟨rfl, hb1⟩; (obtain ⟨hc1, hf1⟩ := bcell hb1; have z1 := hb1.size; (try simp only [World.size_alloc, World.size_drew, World.size_setCell] at z1); (try have q1a : w.heap.size < w1.heap.size := by omega); (try have q1b : w.heap.size + 1 < w1.heap.size := by omega); (try have q1c : w.heap.size + 1 + 1 < w1.heap.size := by omega); (try have q1d : w.heap.size + 1 + 1 + 1 < w1.heap.size := by omega); (try have q1e : wr.heap.size < w1.heap.size := by omega); (try have q1f : wr.heap.size + 1 < w1.heap.size := by omega)))
  go_ret3
  exact ⟨rfl, by (repeat' (first | exact Below.refl _ _ | assumption | (with_reducible refine Below.drew ?_) | (with_reducible refine Below.setCell ?_ (by (first | (simp; done) | (simp; omega))) _) | (with_reducible refine below_drewN' ?_ _) | (refine Below.alloc ?_ (by (try simp only [World.size_alloc, World.size_drew, World.size_setCell]); omega) _) | (refine Below.trans ?_ (Below.mono (by assumption) (by (try simp only [World.size_alloc, World.size_drew, World.size_setCell]); omega)))))⟩

set_option maxRecDepth 100000 in
set_option maxHeartbeats 4000000 in
theorem Plan_long (vb v vs : Value) (b : Brd) (worn : List Int) (ws : List (Value × List Int)) (w : World) (h : BrdAt w vb b) (hw : Sl w 1 eI v worn) (hs : Sl w 1 eR vs ws) (hx : ∀ x ∈ ws, Sl w 1 eI x.1 x.2) (hc : chk b = 0) (hm : 3 < ws.length) :
    Calls Tryz.prog 35 #[vb, v, vs] w (Ret (.tuple #[.slice none 0 0, .int .i64 0, .int .i64 (5)]) w) := by
  have x1 := fun W (hW : Below w.heap.size w W) => check_any vb b W (h.below hW)
  rw [hc] at x1
  obtain ⟨vr, vl, vn, rfl, hr, hl, hn⟩ := h
  obtain ⟨ar, cr, rfl, lr, _⟩ := hr
  obtain ⟨al, cl, rfl, ll, _⟩ := hl
  obtain ⟨an, cn, rfl, ln, _⟩ := hn
  obtain ⟨a, c, rfl, l1, _⟩ := hw
  obtain ⟨a2, c2, rfl, l2, _⟩ := hs
  generalize b.rings.length = lenr at *
  generalize b.lines.length = lenl at *
  generalize b.nums.length = lenn at *
  generalize worn.length = lw at *
  clear hx hc
  generalize ws.length = lk at *
  have hm3 : (3 : Int) < (lk : Int) := by omega
  go_enter Tryz.func35, Tryz.ntmps35
  go_wp2_with (go_at_call 10; (with_reducible refine (x1 _ ?hh).mono ?_); (case hh => (repeat' (first | exact Below.refl _ _ | assumption | (with_reducible refine Below.drew ?_) | (with_reducible refine Below.setCell ?_ (by (first | (simp; done) | (simp; omega))) _) | (with_reducible refine below_drewN' ?_ _) | (refine Below.alloc ?_ (by (try simp only [World.size_alloc, World.size_drew, World.size_setCell]); omega) _) | (refine Below.trans ?_ (Below.mono (by assumption) (by (try simp only [World.size_alloc, World.size_drew, World.size_setCell]); omega)))))); rintro e w1 ⟨rfl, hb1⟩; (obtain ⟨hc1, hf1⟩ := bcell hb1; have z1 := hb1.size; (try simp only [World.size_alloc, World.size_drew, World.size_setCell] at z1); (try have q1a : w.heap.size < w1.heap.size := by omega); (try have q1b : w.heap.size + 1 < w1.heap.size := by omega); (try have q1c : w.heap.size + 1 + 1 < w1.heap.size := by omega); (try have q1d : w.heap.size + 1 + 1 + 1 < w1.heap.size := by omega); (try have q1e : wr.heap.size < w1.heap.size := by omega); (try have q1f : wr.heap.size + 1 < w1.heap.size := by omega)))
  go_ret3
  exact ⟨rfl, by (repeat' (first | exact Below.refl _ _ | assumption | (with_reducible refine Below.drew ?_) | (with_reducible refine Below.setCell ?_ (by (first | (simp; done) | (simp; omega))) _) | (with_reducible refine below_drewN' ?_ _) | (refine Below.alloc ?_ (by (try simp only [World.size_alloc, World.size_drew, World.size_setCell]); omega) _) | (refine Below.trans ?_ (Below.mono (by assumption) (by (try simp only [World.size_alloc, World.size_drew, World.size_setCell]); omega)))))⟩

set_option maxRecDepth 100000 in
set_option maxHeartbeats 4000000 in
theorem Plan_form (vb v vs : Value) (b : Brd) (worn : List Int) (ws : List (Value × List Int)) (w : World) (h : BrdAt w vb b) (hw : Sl w 1 eI v worn) (hs : Sl w 1 eR vs ws) (hx : ∀ x ∈ ws, Sl w 1 eI x.1 x.2) (hc : chk b = 0) (hm : ws.length ≤ 3) (E : Int) (he : frm b.nums.length worn (ws.map (·.2)) = E) (hE : ¬ E = 0) :
    Calls Tryz.prog 35 #[vb, v, vs] w (Ret (.tuple #[.slice none 0 0, .int .i64 0, .int .i64 (E)]) w) := by
  have g := good_of_chk hc
  have gl := g.len
  have x1 := fun W (hW : Below w.heap.size w W) => check_any vb b W (h.below hW)
  have x2 := fun W (hW : Below w.heap.size w W) => wearError_any (b.nums.length : Int) v worn vs ws W (hw.below hW) (hs.below hW) (fun x hm => (hx x hm).below hW)
  rw [hc] at x1
  rw [wErr_frm, he] at x2
  obtain ⟨vr, vl, vn, rfl, hr, hl, hn⟩ := h
  obtain ⟨ar, cr, rfl, lr, _⟩ := hr
  obtain ⟨al, cl, rfl, ll, _⟩ := hl
  obtain ⟨an, cn, rfl, ln, _⟩ := hn
  obtain ⟨a, c, rfl, l1, _⟩ := hw
  obtain ⟨a2, c2, rfl, l2, _⟩ := hs
  generalize b.rings.length = lenr at *
  generalize b.lines.length = lenl at *
  generalize b.nums.length = lenn at *
  generalize worn.length = lw at *
  clear hx hc he g gl
  generalize ws.length = lk at *
  have hm3 : ¬ (3 : Int) < (lk : Int) := by omega
  go_enter Tryz.func35, Tryz.ntmps35
  go_wp2_with (first | (go_at_call 10; (with_reducible refine (x1 _ ?hh).mono ?_); (case hh => (repeat' (first | exact Below.refl _ _ | assumption | (with_reducible refine Below.drew ?_) | (with_reducible refine Below.setCell ?_ (by (first | (simp; done) | (simp; omega))) _) | (with_reducible refine below_drewN' ?_ _) | (refine Below.alloc ?_ (by (try simp only [World.size_alloc, World.size_drew, World.size_setCell]); omega) _) | (refine Below.trans ?_ (Below.mono (by assumption) (by (try simp only [World.size_alloc, World.size_drew, World.size_setCell]); omega)))))); rintro e w1 ⟨rfl, hb1⟩; (obtain ⟨hc1, hf1⟩ := bcell hb1; have z1 := hb1.size; (try simp only [World.size_alloc, World.size_drew, World.size_setCell] at z1); (try have q1a : w.heap.size < w1.heap.size := by omega); (try have q1b : w.heap.size + 1 < w1.heap.size := by omega); (try have q1c : w.heap.size + 1 + 1 < w1.heap.size := by omega); (try have q1d : w.heap.size + 1 + 1 + 1 < w1.heap.size := by omega); (try have q1e : wr.heap.size < w1.heap.size := by omega); (try have q1f : wr.heap.size + 1 < w1.heap.size := by omega))) | (go_at_call 59; (with_reducible refine (x2 _ ?hh).mono ?_); (case hh => (repeat' (first | exact Below.refl _ _ | assumption | (with_reducible refine Below.drew ?_) | (with_reducible refine Below.setCell ?_ (by (first | (simp; done) | (simp; omega))) _) | (with_reducible refine below_drewN' ?_ _) | (refine Below.alloc ?_ (by (try simp only [World.size_alloc, World.size_drew, World.size_setCell]); omega) _) | (refine Below.trans ?_ (Below.mono (by assumption) (by (try simp only [World.size_alloc, World.size_drew, World.size_setCell]); omega)))))); rintro e w2 ⟨rfl, hb2⟩; (obtain ⟨hc2, hf2⟩ := bcell hb2; have z2 := hb2.size; (try simp only [World.size_alloc, World.size_drew, World.size_setCell] at z2); (try have q2a : w.heap.size < w2.heap.size := by omega); (try have q2b : w.heap.size + 1 < w2.heap.size := by omega); (try have q2c : w.heap.size + 1 + 1 < w2.heap.size := by omega); (try have q2d : w.heap.size + 1 + 1 + 1 < w2.heap.size := by omega); (try have q2e : wr.heap.size < w2.heap.size := by omega); (try have q2f : wr.heap.size + 1 < w2.heap.size := by omega); (try have q2g : w1.heap.size < w2.heap.size := by omega); (try have q2h : w1.heap.size + 1 < w2.heap.size := by omega))))
  go_ret3
  exact ⟨rfl, by (repeat' (first | exact Below.refl _ _ | assumption | (with_reducible refine Below.drew ?_) | (with_reducible refine Below.setCell ?_ (by (first | (simp; done) | (simp; omega))) _) | (with_reducible refine below_drewN' ?_ _) | (refine Below.alloc ?_ (by (try simp only [World.size_alloc, World.size_drew, World.size_setCell]); omega) _) | (refine Below.trans ?_ (Below.mono (by assumption) (by (try simp only [World.size_alloc, World.size_drew, World.size_setCell]); omega)))))⟩

set_option maxRecDepth 100000 in
set_option maxHeartbeats 4000000 in
theorem Plan_full (vb v vs : Value) (b : Brd) (worn : List Int) (ws : List (Value × List Int)) (w : World) (h : BrdAt w vb b) (hw : Sl w 1 eI v worn) (hs : Sl w 1 eR vs ws) (hx : ∀ x ∈ ws, Sl w 1 eI x.1 x.2)
    (hc : chk b = 0) (hm1 : ws ≠ []) (hm2 : ws.length ≤ 3) (he : wErr b.nums.length worn ws = 0) (hM : ¬ planM worn (ws.map (·.2)) ≤ 1000000000) :
    Calls Tryz.prog 35 #[vb, v, vs] w (Ret (.tuple #[.slice none 0 0, .int .i64 0, .int .i64 8]) w) := by
  have g := good_of_chk hc
  obtain ⟨e1, e2, e3, e4⟩ := wErr_ok he
  have hn1 : worn ≠ [] := by
    intro e; rw [e] at e1
    have := List.length_pos_iff.2 g.lines
    have := g.same
    simp at e1; omega
  have gl := g.len
  have x1 := fun W (hW : Below w.heap.size w W) => check_any vb b W (h.below hW)
  have x2 := fun W (hW : Below w.heap.size w W) => wearError_any (b.nums.length : Int) v worn vs ws W (hw.below hW) (hs.below hW) (fun x hm => (hx x hm).below hW)
  have x3 := fun W (hW : Below w.heap.size w W) => evenest_any v vs worn ws W (hw.below hW) (hs.below hW) (fun x hm => (hx x hm).below hW) hn1 (by omega) hm1 (by omega) (fun x hx => (e2 x hx).trans e1.symm) (fun x hx => by have := e3 x hx; omega) (fun x hx y hy => by have := e4 x hx y hy; omega)
  have x4 : ∀ (W : World) (u : Value), Sl W 1 eI u (endw worn (ws.map (·.2)) (dig worn.length (ws.map (·.2)).length (bestP worn (ws.map (·.2))))) → Calls Tryz.prog 61 #[u] W (Ret (.int .i64 (planM worn (ws.map (·.2)))) W) := by
    intro W u hu
    refine max_any u _ W hu ?_
    intro e
    have h := endw_length worn.length (ws.map (·.2)) worn (dig worn.length (ws.map (·.2)).length (bestP worn (ws.map (·.2)))) rfl (fun wk hwk => by
      obtain ⟨z, hz, rfl⟩ := List.mem_map.1 hwk
      exact (e2 z hz).trans e1.symm)
    rw [e] at h
    have := List.length_pos_iff.2 hn1
    simp at h; omega
  unfold RetEven at x3
  rw [hc] at x1
  rw [he] at x2
  obtain ⟨vr, vl, vn, rfl, hr, hl, hn⟩ := h
  obtain ⟨ar, cr, rfl, lr, _⟩ := hr
  obtain ⟨al, cl, rfl, ll, _⟩ := hl
  obtain ⟨an, cn, rfl, ln, _⟩ := hn
  obtain ⟨a, c, rfl, l1, _⟩ := hw
  obtain ⟨a2, c2, rfl, l2, _⟩ := hs
  obtain ⟨M, hMM⟩ : ∃ M, planM worn (ws.map (·.2)) = M := ⟨_, rfl⟩
  rw [hMM] at x4 hM
  have HL : Aside ((ws.map (·.2)).length = ws.length) := List.length_map _
  generalize endw worn (ws.map (·.2)) (dig worn.length (ws.map (·.2)).length (bestP worn (ws.map (·.2)))) = ew at *
  generalize digI worn.length (ws.map (·.2)).length (bestP worn (ws.map (·.2))) = dg at *
  rw [HL.out] at x3
  clear hMM e1 e2 e3 e4 g he hc hm1 hx hn1 HL
  generalize worn.length = lw at *
  generalize ws.length = m at *
  generalize b.rings.length = lenr at *
  generalize b.lines.length = lenl at *
  generalize b.nums.length = lenn at *
  have hm3 : (m : Int) ≤ 3 := by omega
  go_enter Tryz.func35, Tryz.ntmps35
  go_wp2_with (first | (go_at_call 10; (with_reducible refine (x1 _ ?hh).mono ?_); (case hh => (repeat' (first | exact Below.refl _ _ | assumption | (with_reducible refine Below.drew ?_) | (with_reducible refine Below.setCell ?_ (by (first | (simp; done) | (simp; omega))) _) | (with_reducible refine below_drewN' ?_ _) | (refine Below.alloc ?_ (by (try simp only [World.size_alloc, World.size_drew, World.size_setCell]); omega) _) | (refine Below.trans ?_ (Below.mono (by assumption) (by (try simp only [World.size_alloc, World.size_drew, World.size_setCell]); omega)))))); rintro e w1 ⟨rfl, hb1⟩; (obtain ⟨hc1, hf1⟩ := bcell hb1; have z1 := hb1.size; (try simp only [World.size_alloc, World.size_drew, World.size_setCell] at z1); (try have q1a : w.heap.size < w1.heap.size := by omega); (try have q1b : w.heap.size + 1 < w1.heap.size := by omega); (try have q1c : w.heap.size + 1 + 1 < w1.heap.size := by omega); (try have q1d : w.heap.size + 1 + 1 + 1 < w1.heap.size := by omega); (try have q1e : wr.heap.size < w1.heap.size := by omega); (try have q1f : wr.heap.size + 1 < w1.heap.size := by omega))) | (go_at_call 59; (with_reducible refine (x2 _ ?hh).mono ?_); (case hh => (repeat' (first | exact Below.refl _ _ | assumption | (with_reducible refine Below.drew ?_) | (with_reducible refine Below.setCell ?_ (by (first | (simp; done) | (simp; omega))) _) | (with_reducible refine below_drewN' ?_ _) | (refine Below.alloc ?_ (by (try simp only [World.size_alloc, World.size_drew, World.size_setCell]); omega) _) | (refine Below.trans ?_ (Below.mono (by assumption) (by (try simp only [World.size_alloc, World.size_drew, World.size_setCell]); omega)))))); rintro e w2 ⟨rfl, hb2⟩; (obtain ⟨hc2, hf2⟩ := bcell hb2; have z2 := hb2.size; (try simp only [World.size_alloc, World.size_drew, World.size_setCell] at z2); (try have q2a : w.heap.size < w2.heap.size := by omega); (try have q2b : w.heap.size + 1 < w2.heap.size := by omega); (try have q2c : w.heap.size + 1 + 1 < w2.heap.size := by omega); (try have q2d : w.heap.size + 1 + 1 + 1 < w2.heap.size := by omega); (try have q2e : wr.heap.size < w2.heap.size := by omega); (try have q2f : wr.heap.size + 1 < w2.heap.size := by omega); (try have q2g : w1.heap.size < w2.heap.size := by omega); (try have q2h : w1.heap.size + 1 < w2.heap.size := by omega))) | (go_at_call 62; (with_reducible refine (x3 _ ?hh).mono ?_); (case hh => (repeat' (first | exact Below.refl _ _ | assumption | (with_reducible refine Below.drew ?_) | (with_reducible refine Below.setCell ?_ (by (first | (simp; done) | (simp; omega))) _) | (with_reducible refine below_drewN' ?_ _) | (refine Below.alloc ?_ (by (try simp only [World.size_alloc, World.size_drew, World.size_setCell]); omega) _) | (refine Below.trans ?_ (Below.mono (by assumption) (by (try simp only [World.size_alloc, World.size_drew, World.size_setCell]); omega)))))); rintro e w3 ⟨g1, c1, g2, c2, rfl, s1, s2, hb3⟩; have S1 : Aside (Sl w3 1 eI (.slice (some ⟨g1, 0, none⟩) m c1) dg) := s1; have S2 : Aside (Sl w3 1 eI (.slice (some ⟨g2, 0, none⟩) lw c2) ew) := s2; clear s1 s2; (obtain ⟨hc3, hf3⟩ := bcell hb3; have z3 := hb3.size; (try simp only [World.size_alloc, World.size_drew, World.size_setCell] at z3); (try have q3a : w.heap.size < w3.heap.size := by omega); (try have q3b : w.heap.size + 1 < w3.heap.size := by omega); (try have q3c : w.heap.size + 1 + 1 < w3.heap.size := by omega); (try have q3d : w.heap.size + 1 + 1 + 1 < w3.heap.size := by omega); (try have q3e : wr.heap.size < w3.heap.size := by omega); (try have q3f : wr.heap.size + 1 < w3.heap.size := by omega); (try have q3g : w2.heap.size < w3.heap.size := by omega); (try have q3h : w2.heap.size + 1 < w3.heap.size := by omega))) | (go_at_call 61; (with_reducible refine (x4 _ _ ?hh).mono ?_); (case hh => exact S2.out); rintro e w4 ⟨rfl, hb4⟩; (obtain ⟨hc4, hf4⟩ := bcell hb4; have z4 := hb4.size; (try simp only [World.size_alloc, World.size_drew, World.size_setCell] at z4); (try have q4a : w.heap.size < w4.heap.size := by omega); (try have q4b : w.heap.size + 1 < w4.heap.size := by omega); (try have q4c : w.heap.size + 1 + 1 < w4.heap.size := by omega); (try have q4d : w.heap.size + 1 + 1 + 1 < w4.heap.size := by omega); (try have q4e : wr.heap.size < w4.heap.size := by omega); (try have q4f : wr.heap.size + 1 < w4.heap.size := by omega); (try have q4g : w3.heap.size < w4.heap.size := by omega); (try have q4h : w3.heap.size + 1 < w4.heap.size := by omega))) | fail)
  go_ret3
  exact ⟨rfl, by (repeat' (first | exact Below.refl _ _ | assumption | (with_reducible refine Below.drew ?_) | (with_reducible refine Below.setCell ?_ (by (first | (simp; done) | (simp; omega))) _) | (with_reducible refine below_drewN' ?_ _) | (refine Below.alloc ?_ (by (try simp only [World.size_alloc, World.size_drew, World.size_setCell]); omega) _) | (refine Below.trans ?_ (Below.mono (by assumption) (by (try simp only [World.size_alloc, World.size_drew, World.size_setCell]); omega)))))⟩

set_option maxRecDepth 100000 in
set_option maxHeartbeats 4000000 in
theorem Plan_err (vb v vs : Value) (b : Brd) (worn : List Int) (ws : List (Value × List Int)) (w : World) (h : BrdAt w vb b) (hw : Sl w 1 eI v worn) (hs : Sl w 1 eR vs ws) (hx : ∀ x ∈ ws, Sl w 1 eI x.1 x.2) (E : Int) (he : planE b worn (ws.map (·.2)) = E) (hE : ¬ E = 0) (h1 : ws ≠ []) :
    Calls Tryz.prog 35 #[vb, v, vs] w (Ret (.tuple #[.slice none 0 0, .int .i64 0, .int .i64 (E)]) w) := by
  unfold planE at he
  by_cases hc : chk b = 0
  · rw [if_pos hc, List.length_map] at he
    by_cases hm : 3 < ws.length
    · rw [if_pos hm] at he
      subst he
      exact Plan_long vb v vs b worn ws w h hw hs hx hc hm
    · rw [if_neg hm] at he
      by_cases hf : frm b.nums.length worn (ws.map (·.2)) = 0
      · rw [if_pos hf] at he
        by_cases hM : planM worn (ws.map (·.2)) ≤ 1000000000
        · rw [if_pos hM] at he; exact absurd he.symm hE
        · rw [if_neg hM] at he
          subst he
          exact Plan_full vb v vs b worn ws w h hw hs hx hc h1 (by omega) ((wErr_frm _ _ _).trans hf) hM
      · rw [if_neg hf] at he
        exact Plan_form vb v vs b worn ws w h hw hs hx hc (by omega) E he hE
  · rw [if_neg hc] at he
    subst he
    exact Plan_chk vb v vs b worn ws w h hw hs hx hc

set_option maxRecDepth 100000 in
set_option maxHeartbeats 4000000 in
theorem Best_err (vb v vk : Value) (b : Brd) (worn week : List Int) (w : World) (h : BrdAt w vb b) (hw : Sl w 1 eI v worn) (hk : Sl w 1 eI vk week)
    (E : Int) (he : planE b worn [week] = E) (hE : ¬ E = 0) :
    Calls Tryz.prog 28 #[vb, v, vk] w (Ret (.tuple #[.int .i64 0, .int .i64 0, .int .i64 E]) w) := by
  have x1 := fun W (hW : Below w.heap.size w W) (hv : Sl W 1 eR (.slice (some ⟨w.heap.size + 1, 0, none⟩) 1 1) [(vk, week)]) => Plan_err vb v (.slice (some ⟨w.heap.size + 1, 0, none⟩) 1 1) b worn [(vk, week)] W (h.below hW) (hw.below hW) hv (fun x hm => by
    simp at hm; subst hm; exact hk.below hW) E he hE (by simp)
  obtain ⟨vr, vl, vn, rfl, hr, hl, hn⟩ := h
  obtain ⟨ar, cr, rfl, lr, _⟩ := hr
  obtain ⟨al, cl, rfl, ll, _⟩ := hl
  obtain ⟨an, cn, rfl, ln, _⟩ := hn
  obtain ⟨a, c, rfl, l1, _⟩ := hw
  obtain ⟨a2, c2, rfl, l2, _⟩ := hk
  have hsv : ∀ (W : World) (t1 : TypeId), W.heap.size = w.heap.size + 1 → Sl (W.alloc (.cells #[.slice a2 week.length c2] t1)) 1 eR (.slice (some ⟨w.heap.size + 1, 0, none⟩) 1 1) [((.slice a2 week.length c2 : Value), week)] := by
    intro W t1 hsz
    refine ⟨_, _, rfl, by simp, fun _ => ⟨w.heap.size + 1, 0, rfl, by simp; omega, ?_⟩⟩
    intro j x hx i y hy
    match j, hx with
    | 0, hx =>
      simp at hx; subst hx
      match i, hy with
      | 0, hy => simp at hy; subst hy; rw [← hsz]; go_simp
      | i + 1, hy => simp at hy
    | j + 1, hx => simp at hx
  have HSV : Aside _ := hsv
  clear he hsv
  generalize worn.length = lw at *
  generalize b.rings.length = lenr at *
  generalize b.lines.length = lenl at *
  generalize b.nums.length = lenn at *
  go_enter Tryz.func28, Tryz.ntmps28
  go_wp2_with (go_at_call 35; (with_reducible refine (x1 _ ?hh ?hv).mono ?_); (case hh => (repeat' (first | exact Below.refl _ _ | assumption | (with_reducible refine Below.drew ?_) | (with_reducible refine Below.setCell ?_ (by (first | (simp; done) | (simp; omega))) _) | (with_reducible refine below_drewN' ?_ _) | (refine Below.alloc ?_ (by (try simp only [World.size_alloc, World.size_drew, World.size_setCell]); omega) _) | (refine Below.trans ?_ (Below.mono (by assumption) (by (try simp only [World.size_alloc, World.size_drew, World.size_setCell]); omega)))))); (case hv => exact HSV.out _ _ (by simp)); rintro e w1 ⟨rfl, hb1⟩; (obtain ⟨hc1, hf1⟩ := bcell hb1; have z1 := hb1.size; (try simp only [World.size_alloc, World.size_drew, World.size_setCell] at z1); (try have q1a : w.heap.size < w1.heap.size := by omega); (try have q1b : w.heap.size + 1 < w1.heap.size := by omega); (try have q1c : w.heap.size + 1 + 1 < w1.heap.size := by omega); (try have q1d : w.heap.size + 1 + 1 + 1 < w1.heap.size := by omega); (try have q1e : wr.heap.size < w1.heap.size := by omega); (try have q1f : wr.heap.size + 1 < w1.heap.size := by omega)))
  go_ret3
  exact ⟨rfl, by (repeat' (first | exact Below.refl _ _ | assumption | (with_reducible refine Below.drew ?_) | (with_reducible refine Below.setCell ?_ (by (first | (simp; done) | (simp; omega))) _) | (with_reducible refine below_drewN' ?_ _) | (refine Below.alloc ?_ (by (try simp only [World.size_alloc, World.size_drew, World.size_setCell]); omega) _) | (refine Below.trans ?_ (Below.mono (by assumption) (by (try simp only [World.size_alloc, World.size_drew, World.size_setCell]); omega)))))⟩
end Go.Proofs.YtgceffpkhmjmkaaGreat

namespace Go.Proofs.YtgceffpkhmjmkaaGreat
open Go.RowKit Go.Shelf

theorem frm_4a {n : Int} {worn : List Int} {ws : List (List Int)} (h : ¬ (worn.length : Int) = n) : frm n worn ws = 4 := by
  unfold frm
  rw [if_pos (by simp [h])]
theorem frm_4b {n : Int} {worn : List Int} {ws : List (List Int)} (x : List Int) (hx : x ∈ ws) (h : ¬ (x.length : Int) = n) : frm n worn ws = 4 := by
  unfold frm
  have : ws.any (fun x => (x.length : Int) != n) = true := List.any_eq_true.2 ⟨x, hx, by simpa using h⟩
  rw [this, Bool.or_true, if_pos rfl]
theorem frm_len {n : Int} {worn : List Int} {ws : List (List Int)} (h1 : (worn.length : Int) = n) (h2 : ∀ x ∈ ws, (x.length : Int) = n) : frm n worn ws = if !(worn.all (inb 0 1000000000)) || ws.any (fun x => !(x.all (inb 0 1000000))) then 2 else 0 := by
  unfold frm
  have : ws.any (fun x => (x.length : Int) != n) = false := by
    rw [List.any_eq_false]; intro x hx; simp [h2 x hx]
  rw [this, Bool.or_false, if_neg (by simp [h1])]
theorem frm_2a {n : Int} {worn : List Int} {ws : List (List Int)} (h1 : (worn.length : Int) = n) (h2 : ∀ x ∈ ws, (x.length : Int) = n) (x : Int) (hx : x ∈ worn) (h : x < 0 ∨ 1000000000 < x) : frm n worn ws = 2 := by
  rw [frm_len h1 h2, if_pos ?_]
  have : worn.all (inb 0 1000000000) = false := by
    rw [List.all_eq_false]
    exact ⟨x, hx, by intro c; have := inb_iff.1 c; omega⟩
  rw [this]; rfl
theorem frm_2b {n : Int} {worn : List Int} {ws : List (List Int)} (h1 : (worn.length : Int) = n) (h2 : ∀ x ∈ ws, (x.length : Int) = n) (l : List Int) (hl : l ∈ ws) (x : Int) (hx : x ∈ l) (h : x < 0 ∨ 1000000 < x) : frm n worn ws = 2 := by
  rw [frm_len h1 h2, if_pos ?_]
  have : ws.any (fun x => !(x.all (inb 0 1000000))) = true := by
    refine List.any_eq_true.2 ⟨l, hl, ?_⟩
    have : l.all (inb 0 1000000) = false := by
      rw [List.all_eq_false]
      exact ⟨x, hx, by intro c; have := inb_iff.1 c; omega⟩
    rw [this]; rfl
  rw [this, Bool.or_true]
theorem frm_0 {n : Int} {worn : List Int} {ws : List (List Int)} (h1 : (worn.length : Int) = n) (h2 : ∀ x ∈ ws, (x.length : Int) = n) (h3 : ∀ x ∈ worn, ¬ x < 0 ∧ ¬ 1000000000 < x) (h4 : ∀ l ∈ ws, ∀ x ∈ l, ¬ x < 0 ∧ ¬ 1000000 < x) : frm n worn ws = 0 := by
  rw [frm_len h1 h2, if_neg ?_]
  simp only [Bool.or_eq_true, Bool.not_eq_true', not_or, Bool.not_eq_false, List.any_eq_true, not_exists, not_and, List.all_eq_true]
  exact ⟨fun x hx => inb_iff.2 (by have := h3 x hx; omega), fun l hl x hx => inb_iff.2 (by have := h4 l hl x hx; omega)⟩

set_option maxRecDepth 100000 in
set_option maxHeartbeats 8000000 in
theorem rForm_any (n : Nat) (v vs : Value) (worn : List Int) (ws : List (Value × List Int)) (w : World) (hn : n ≤ 1000) (hw : Sl w 1 eI v worn) (hs : Sl w 1 eR vs ws) (hx : ∀ x ∈ ws, Sl w 1 eI x.1 x.2) :
    Calls Tryz.prog 30 #[.int .i64 n, v, vs] w (Ret (.int .i64 (frm n worn (ws.map (·.2)))) w) := by
  obtain ⟨a2, c2, rfl, l2, hr⟩ := rows_of hs hx
  have HR : Aside (∀ j x, ws[j]? = some x → ∃ g off, a2 = some ⟨g, off, none⟩ ∧ w.cell? ⟨g, off + j, none⟩ = some x.1 ∧ Sl w 1 eI x.1 x.2) := hr
  obtain ⟨a, c, rfl, l1, hc⟩ := hw
  have HC : Aside (∀ j x, worn[j]? = some x → ∃ b off, a = some ⟨b, off, none⟩ ∧ w.cell? ⟨b, off + j, none⟩ = some (.int .i64 x)) := by
    intro j x hx
    obtain ⟨b, off, ha, _, hc⟩ := hc (by intro e; rw [e] at hx; simp at hx)
    exact ⟨b, off, ha, by have := hc j x hx 0 (.int .i64 x) rfl; simpa using this⟩
  clear hr hs hx hc
  obtain ⟨fr, hfr⟩ : ∃ x, frm n worn (ws.map (·.2)) = x := ⟨_, rfl⟩
  have HF : Aside (frm n worn (ws.map (·.2)) = fr) := hfr
  rw [hfr]
  clear hfr
  obtain ⟨nw, hnw⟩ : ∃ n, worn.length = n := ⟨_, rfl⟩
  obtain ⟨ns, hns⟩ : ∃ n, ws.length = n := ⟨_, rfl⟩
  have HNW : Aside (worn.length = nw) := hnw
  have HNS : Aside (ws.length = ns) := hns
  rw [hnw] at l1 ⊢
  rw [hns] at l2 ⊢
  clear hnw hns
  by_cases e1 : nw = n
  · subst e1
    have HL1 : Aside ((worn.length : Int) = (nw : Int)) := congrArg Int.ofNat HNW.out
    go_enter Tryz.func30, Tryz.ntmps30
    go_wp2_with fail
    go_loopg [7] ns (fun gg i wr => ∃ k : Nat, k ≤ ns ∧ ns - k ≤ gg ∧ i = .int .i64 k ∧ Aside (∀ j p, j < k → ws[j]? = some p → (p.2.length : Int) = (nw : Int)) ∧ w = wr)
    case atStart => exact ⟨0, Nat.zero_le _, by omega, rfl, fun j p hj => absurd hj (Nat.not_lt_zero _), rfl⟩
    case round =>
      obtain ⟨k, hk, hg, rfl, HA, rfl⟩ := hrel
      by_cases hlt : k < ns
      · have hltz : (k : Int) < (ns : Int) := by omega
        obtain ⟨p, hp⟩ : ∃ p, ws[k]? = some p := ⟨_, List.getElem?_eq_getElem (by rw [HNS.out]; exact hlt)⟩
        obtain ⟨g', off, rfl, c0, ⟨ax, cx, hxe, lx, _⟩⟩ := HR.out k p hp
        rw [hxe] at c0
        have HT : Aside ((p.2.length : Int) = (nw : Int) → ∀ j q, j < k + 1 → ws[j]? = some q → (q.2.length : Int) = (nw : Int)) := by
          intro h j q hj hq
          by_cases e : j = k
          · subst e; rw [hp] at hq; cases hq; exact h
          · exact HA.out j q (by omega) hq
        have HFF : Aside (¬ (p.2.length : Int) = (nw : Int) → fr = 4) := fun h => HF.out.symm.trans (frm_4b p.2 (List.mem_map_of_mem (List.mem_of_getElem? hp)) h)
        clear HA hp hxe
        generalize p.2.length = np at *
        by_cases hb : (np : Int) = (nw : Int)
        · have hnn : np = nw := by omega
          have HT2 : Aside _ := HT.out hb
          clear HT HFF hb
          subst hnn
          go_wp2_with fail
          go_roundg (ns - (k + 1))
          case measure => omega
          case rel => exact ⟨k + 1, by omega, by omega, by go_num, HT2, rfl⟩
        · have e : fr = 4 := HFF.out hb
          subst e
          go_wp2_with fail
          go_ret
          exact ⟨rfl, Below.refl _ _⟩
      · have hke : ns = k := by omega
        subst hke
        have hltz : ¬ (ns : Int) < (ns : Int) := by omega
        have HL2 : Aside (∀ x ∈ ws.map (·.2), (x.length : Int) = (nw : Int)) := by
          intro x hx
          obtain ⟨p, hp, rfl⟩ := List.mem_map.1 hx
          obtain ⟨j, hj, rfl⟩ := List.getElem_of_mem hp
          exact HA.out j _ (by rw [← HNS.out]; exact hj) (List.getElem?_eq_getElem hj)
        clear HA
        go_wp2_with fail
        go_loopg [8] nw (fun gg i wr => ∃ k : Nat, k ≤ nw ∧ nw - k ≤ gg ∧ i = .int .i64 k ∧ Aside (∀ j x, j < k → worn[j]? = some x → ¬ x < 0 ∧ ¬ 1000000000 < x) ∧ Aside (∀ (q : Nat) (p : Value × List Int), ws[q]? = some p → ∀ j x, j < k → p.2[j]? = some x → ¬ x < 0 ∧ ¬ 1000000 < x) ∧ w = wr)
        case atStart => exact ⟨0, Nat.zero_le _, by omega, rfl, fun j p hj => absurd hj (Nat.not_lt_zero _), fun q p _ j x hj => absurd hj (Nat.not_lt_zero _), rfl⟩
        case round =>
          obtain ⟨i, hi, hgi, rfl, HA, HD, rfl⟩ := hrel
          by_cases hlti : i < nw
          · have hltiz : (i : Int) < (nw : Int) := by omega
            obtain ⟨x, hx⟩ : ∃ x, worn[i]? = some x := ⟨_, List.getElem?_eq_getElem (by rw [HNW.out]; exact hlti)⟩
            obtain ⟨b, off, rfl, kx⟩ := HC.out i x hx
            have HFX : Aside (x < 0 ∨ 1000000000 < x → fr = 2) := fun h => HF.out.symm.trans (frm_2a HL1.out HL2.out x (List.mem_of_getElem? hx) h)
            have HTX : Aside (¬ x < 0 ∧ ¬ 1000000000 < x → ∀ j y, j < i + 1 → worn[j]? = some y → ¬ y < 0 ∧ ¬ 1000000000 < y) := by
              intro h j q hj hq
              by_cases e : j = i
              · subst e; rw [hx] at hq; cases hq; exact h
              · exact HA.out j q (by omega) hq
            clear HA hx
            by_cases b1 : x < 0
            · have e : fr = 2 := HFX.out (.inl b1)
              subst e
              go_wp2_with fail
              go_ret
              exact ⟨rfl, Below.refl _ _⟩
            · by_cases b2 : 1000000000 < x
              · have e : fr = 2 := HFX.out (.inr b2)
                subst e
                go_wp2_with fail
                go_ret
                exact ⟨rfl, Below.refl _ _⟩
              · have HT2 : Aside _ := HTX.out ⟨b1, b2⟩
                clear HTX HFX
                go_wp2_with fail
                clear b1 b2 kx
                go_loopg [9] ns (fun gg u wr => ∃ k : Nat, k ≤ ns ∧ ns - k ≤ gg ∧ u = .int .i64 k ∧ Aside (∀ (q : Nat) (p : Value × List Int), q < k → ws[q]? = some p → ∀ x, p.2[i]? = some x → ¬ x < 0 ∧ ¬ 1000000 < x) ∧ w = wr)
                case atStart => exact ⟨0, Nat.zero_le _, by omega, rfl, fun q p hj => absurd hj (Nat.not_lt_zero _), rfl⟩
                case round =>
                  obtain ⟨k, hk, hg, rfl, HE, rfl⟩ := hrel
                  by_cases hlt : k < ns
                  · have hltk : (k : Int) < (ns : Int) := by omega
                    obtain ⟨p, hp⟩ : ∃ p, ws[k]? = some p := ⟨_, List.getElem?_eq_getElem (by rw [HNS.out]; exact hlt)⟩
                    obtain ⟨g', off', rfl, c0, hsp⟩ := HR.out k p hp
                    have hpl : p.2.length = nw := by have := HL2.out p.2 (List.mem_map_of_mem (List.mem_of_getElem? hp)); omega
                    obtain ⟨ax, cx, hxe, lx, hcx⟩ := hsp
                    obtain ⟨y, hy⟩ : ∃ y, p.2[i]? = some y := ⟨_, List.getElem?_eq_getElem (by rw [hpl]; exact hlti)⟩
                    obtain ⟨b3, off3, rfl, _, hcy⟩ := hcx (by intro e; rw [e] at hy; simp at hy)
                    have ky : w.cell? ⟨b3, off3 + i, none⟩ = some (.int .i64 y) := by have := hcy i y hy 0 (.int .i64 y) rfl; simpa using this
                    rw [hxe, hpl] at c0
                    have HFX : Aside (y < 0 ∨ 1000000 < y → fr = 2) := fun h => HF.out.symm.trans (frm_2b HL1.out HL2.out p.2 (List.mem_map_of_mem (List.mem_of_getElem? hp)) y (List.mem_of_getElem? hy) h)
                    have HTX : Aside (¬ y < 0 ∧ ¬ 1000000 < y → ∀ (q : Nat) (p : Value × List Int), q < k + 1 → ws[q]? = some p → ∀ x, p.2[i]? = some x → ¬ x < 0 ∧ ¬ 1000000 < x) := by
                      intro h q p' hq hp' x hx
                      by_cases e : q = k
                      · subst e; rw [hp] at hp'; cases hp'; rw [hy] at hx; cases hx; exact h
                      · exact HE.out q p' (by omega) hp' x hx
                    rw [hpl] at lx
                    clear HE hp hy hcx hcy hxe hpl
                    by_cases b1 : y < 0
                    · have e : fr = 2 := HFX.out (.inl b1)
                      subst e
                      go_wp2_with fail
                      go_ret
                      exact ⟨rfl, Below.refl _ _⟩
                    · by_cases b2 : 1000000 < y
                      · have e : fr = 2 := HFX.out (.inr b2)
                        subst e
                        go_wp2_with fail
                        go_ret
                        exact ⟨rfl, Below.refl _ _⟩
                      · have HT3 : Aside _ := HTX.out ⟨b1, b2⟩
                        clear HTX HFX
                        go_wp2_with fail
                        go_roundg (ns - (k + 1))
                        case measure => omega
                        case rel => exact ⟨k + 1, by omega, by omega, by go_num, HT3, rfl⟩
                  · have hke : ns = k := by omega
                    subst hke
                    have hltk : ¬ (ns : Int) < (ns : Int) := by omega
                    have HD2 : Aside (∀ (q : Nat) (p : Value × List Int), ws[q]? = some p → ∀ j x, j < i + 1 → p.2[j]? = some x → ¬ x < 0 ∧ ¬ 1000000 < x) := by
                      intro q p hq j x hj hx
                      by_cases e : j = i
                      · subst e
                        have := HE.out q p (by have := (List.getElem?_eq_some_iff.1 hq).1; have := HNS.out; omega) hq x hx
                        omega
                      · have := HD.out q p hq j x (by omega) hx
                        omega
                    clear HE HD
                    go_wp2_with fail
                    go_roundg (nw - (i + 1))
                    case measure => omega
                    case rel => exact ⟨i + 1, by omega, by omega, by go_num, HT2, HD2, rfl⟩
          · have hke : nw = i := by omega
            subst hke
            have hltiz : ¬ (nw : Int) < (nw : Int) := by omega
            have e : fr = 0 := by
              rw [← HF.out]
              refine frm_0 HL1.out HL2.out ?_ ?_
              · intro x hx
                obtain ⟨j, hj, rfl⟩ := List.getElem_of_mem hx
                exact HA.out j _ (by rw [← HNW.out]; exact hj) (List.getElem?_eq_getElem hj)
              · intro l hl x hx
                have h2 := HL2.out l hl
                obtain ⟨p, hp, rfl⟩ := List.mem_map.1 hl
                obtain ⟨q, hq, rfl⟩ := List.getElem_of_mem hp
                obtain ⟨j, hj, rfl⟩ := List.getElem_of_mem hx
                exact HD.out q _ (List.getElem?_eq_getElem hq) j _ (by omega) (List.getElem?_eq_getElem hj)
            subst e
            go_wp2_with fail
            go_ret
            exact ⟨rfl, Below.refl _ _⟩
  · have e1z : ¬ (nw : Int) = (n : Int) := by omega
    have e : fr = 4 := HF.out.symm.trans (frm_4a (by rw [HNW.out]; exact e1z))
    subst e
    go_enter Tryz.func30, Tryz.ntmps30
    go_wp2_with fail
    go_ret
    exact ⟨rfl, Below.refl _ _⟩
end Go.Proofs.YtgceffpkhmjmkaaGreat

namespace Go.Proofs.YtgceffpkhmjmkaaGreat
open Go.RowKit Go.Shelf

theorem four_chk0 : chk (fourB 0) = 0 := by decide +kernel
theorem four_bed0 : bedR (fourB 0) (500, 500) = .tuple #[.int .i64 106, .bool false, .int .i64 0] := by
  have h1 : chk (fourB 0) = 0 := by decide +kernel
  have h2 : vpt (500, 500) = true := by decide +kernel
  have h3 : bedW (fourB 0) (500, 500) = 106 := by decide +kernel
  have h4 : onWire (fourB 0) (500, 500) = false := by decide +kernel
  unfold bedR; rw [if_pos h1, if_pos h2, h3, h4]
theorem four_bed1 : bedR (fourB 10) (500, 490) = .tuple #[.int .i64 0, .bool true, .int .i64 0] := by
  have h1 : chk (fourB 10) = 0 := by decide +kernel
  have h2 : vpt (500, 490) = true := by decide +kernel
  have h3 : bedW (fourB 10) (500, 490) = 0 := by decide +kernel
  have h4 : onWire (fourB 10) (500, 490) = true := by decide +kernel
  unfold bedR; rw [if_pos h1, if_pos h2, h3, h4]
theorem four_bed2 : bedR (fourB 10) (500, 485) = .tuple #[.int .i64 106, .bool false, .int .i64 0] := by
  have h1 : chk (fourB 10) = 0 := by decide +kernel
  have h2 : vpt (500, 485) = true := by decide +kernel
  have h3 : bedW (fourB 10) (500, 485) = 106 := by decide +kernel
  have h4 : onWire (fourB 10) (500, 485) = false := by decide +kernel
  unfold bedR; rw [if_pos h1, if_pos h2, h3, h4]
theorem four_beds : bedsOf (valsOf (fourB 0) 59 0 1 (2 * 1)) = [125, 225] := by decide +kernel
theorem four_planM1 : planM [10, 0, 0, 0] [[9, 1, 1, 1]] = 11 := by decide +kernel
theorem four_bestK : bestK [10, 0, 0, 0] [9, 1, 1, 1] = 1 := by decide +kernel
theorem four_planM2 : planM [10, 0, 0, 0] [[9, 1, 1, 1], [9, 1, 1, 1]] = 12 := by decide +kernel
theorem four_plan2 : digI 4 2 (bestP [10, 0, 0, 0] [[9, 1, 1, 1], [9, 1, 1, 1]]) = [1, 2] := by decide +kernel
theorem four_err1 (v : Value) : wErr ((fourB 0).nums.length : Nat) [10, 0, 0, 0] [(v, [9, 1, 1, 1])] = 0 := by rfl
theorem four_err2 (v u : Value) : wErr ((fourB 0).nums.length : Nat) [10, 0, 0, 0] [(v, [9, 1, 1, 1]), (u, [9, 1, 1, 1])] = 0 := by rfl

theorem sl_four (W : World) (k : Nat) (hk : k = W.heap.size) (t : TypeId) (x y z u : Int) : Sl (W.alloc (.cells #[.int .i64 x, .int .i64 y, .int .i64 z, .int .i64 u] t)) 1 eI (.slice (some ⟨k, 0, none⟩) 4 4) [x, y, z, u] := by
  subst hk
  refine sl_lit (k := 1) (enc := eI) (xs := [x, y, z, u]) (fun _ => rfl) (by simp) (by simp) ?_ 4
  intro j v h
  go_simp
  simpa using h

set_option maxRecDepth 100000 in
set_option maxHeartbeats 4000000 in
theorem known_any (w : World) : Calls Tryz.prog 8 #[] w (Ret (.bool true) w) := by
  have y1 : ∀ v w, BrdAt w v (fourB 0) → Calls Tryz.prog 11 #[v, .agg #[.int .i64 500, .int .i64 500]] w (Ret (.tuple #[.int .i64 106, .bool false, .int .i64 0]) w) := fun v w h => by
    have := Bed_any v (fourB 0) (500, 500) w h; rw [four_bed0] at this; exact this
  have y2 : ∀ v w, BrdAt w v (fourB 10) → Calls Tryz.prog 11 #[v, .agg #[.int .i64 500, .int .i64 490]] w (Ret (.tuple #[.int .i64 0, .bool true, .int .i64 0]) w) := fun v w h => by
    have := Bed_any v (fourB 10) (500, 490) w h; rw [four_bed1] at this; exact this
  have y3 : ∀ v w, BrdAt w v (fourB 10) → Calls Tryz.prog 11 #[v, .agg #[.int .i64 500, .int .i64 485]] w (Ret (.tuple #[.int .i64 106, .bool false, .int .i64 0]) w) := fun v w h => by
    have := Bed_any v (fourB 10) (500, 485) w h; rw [four_bed2] at this; exact this
  have y4 : ∀ v w, BrdAt w v (fourB 0) → Calls Tryz.prog 21 #[v, .agg #[.int .i64 59, .int .i64 60, .int .i64 0, .int .i64 0]] w (BedsOk [125, 225] w) := fun v w h => by
    have := Beds_ok v (fourB 0) 59 60 0 0 2 1 w h four_chk0 (by decide +kernel) (by decide +kernel) rfl rfl (by decide); rw [four_beds] at this; exact this
  have y5 : ∀ v u1 u2 w, BrdAt w v (fourB 0) → Sl w 1 eI u1 [10, 0, 0, 0] → Sl w 1 eI u2 [9, 1, 1, 1] → Calls Tryz.prog 28 #[v, u1, u2] w (Ret (.tuple #[.int .i64 1, .int .i64 11, .int .i64 0]) w) := fun v u1 u2 w h h1 h2 => by
    have := Best_ok v u1 u2 (fourB 0) _ _ w h h1 h2 four_chk0 (four_err1 _) (by rw [four_planM1]; decide); rw [four_planM1, four_bestK] at this; exact this
  have y6 : ∀ v u1 u2 u3 vs w, BrdAt w v (fourB 0) → Sl w 1 eI u1 [10, 0, 0, 0] → Sl w 1 eI u2 [9, 1, 1, 1] → Sl w 1 eI u3 [9, 1, 1, 1] → Sl w 1 eR vs [(u2, [9, 1, 1, 1]), (u3, [9, 1, 1, 1])] → Calls Tryz.prog 35 #[v, u1, vs] w fun e w' => ∃ g c, e = .returned (.tuple #[.slice (some ⟨g, 0, none⟩) 2 c, .int .i64 12, .int .i64 0]) ∧ Sl w' 1 eI (.slice (some ⟨g, 0, none⟩) 2 c) [1, 2] ∧ Below w.heap.size w w' := fun v u1 u2 u3 vs w h h1 h2 h3 h4 => by
    have := Plan_ok v u1 vs (fourB 0) _ [(u2, [9, 1, 1, 1]), (u3, [9, 1, 1, 1])] w h h1 h4 (by intro x hx; simp at hx; rcases hx with rfl | rfl; exact h2; exact h3) four_chk0 (by simp) (by simp) (four_err2 _ _) (by show planM _ [[9, 1, 1, 1], [9, 1, 1, 1]] ≤ _; rw [four_planM2]; decide)
    unfold PlanOk at this
    simp only [List.map_cons, List.map_nil] at this
    rw [four_planM2] at this
    simp only [List.length_cons, List.length_nil, Nat.reduceAdd] at this
    rw [four_plan2] at this
    exact this
  go_enter Tryz.func8, Tryz.ntmps8
  go_wp2_with fail
  refine (four_any 0 _).mono ?_
  rintro e w1 ⟨g1, g2, g3, rfl, hr1, hb1⟩
  go_wp2_with fail
  refine (y1 _ _ hr1).mono ?_
  rintro e w2 ⟨rfl, hb2⟩
  have B2 : Aside (Below w.heap.size w w2) := hb1.trans (hb2.mono hb1.size)
  clear hr1 hb1 hb2
  go_wp2_with fail
  refine (four_any 10 _).mono ?_
  rintro e w3 ⟨g4, g5, g6, rfl, hr3, hb3⟩
  go_wp2_with fail
  refine (y2 _ _ hr3).mono ?_
  rintro e w4 ⟨rfl, hb4⟩
  have B4 : Aside (Below w.heap.size w w4) := (B2.out.trans (hb3.mono B2.out.size)).trans (hb4.mono (Nat.le_trans B2.out.size hb3.size))
  clear hr3 hb3 hb4
  go_wp2_with fail
  refine (four_any 10 _).mono ?_
  rintro e w5 ⟨g7, g8, g9, rfl, hr5, hb5⟩
  go_wp2_with fail
  refine (y3 _ _ hr5).mono ?_
  rintro e w6 ⟨rfl, hb6⟩
  have B6 : Aside (Below w.heap.size w w6) := (B4.out.trans (hb5.mono B4.out.size)).trans (hb6.mono (Nat.le_trans B4.out.size hb5.size))
  clear hr5 hb5 hb6
  go_wp2_with fail
  refine (four_any 0 _).mono ?_
  rintro e w7 ⟨g10, g11, g12, rfl, hr7, hb7⟩
  go_wp2_with fail
  refine (y4 _ _ hr7).mono ?_
  rintro e w8 ⟨vl, rfl, hs8, hb8⟩
  have B8 : Aside (Below w.heap.size w w8) := (B6.out.trans (hb7.mono B6.out.size)).trans (hb8.mono (Nat.le_trans B6.out.size hb7.size))
  have S8 : Aside (Sl w8 1 eI vl [125, 225]) := hs8
  clear hr7 hb7 hb8 hs8
  go_wp2_with fail
  refine (four_any 0 _).mono ?_
  rintro e w9 ⟨g13, g14, g15, rfl, hr9, hb9⟩
  have B9 : Aside (Below w.heap.size w w9) := B8.out.trans (hb9.mono B8.out.size)
  have S9 : Aside (Sl w9 1 eI vl [125, 225]) := S8.out.below hb9
  clear hb9
  go_wp2_with fail
  have A9 : Below w9.heap.size w9 ((w9.alloc (.cells #[.int .i64 10, .int .i64 0, .int .i64 0, .int .i64 0] 3)).alloc (.cells #[.int .i64 9, .int .i64 1, .int .i64 1, .int .i64 1] 3)) := by (repeat' (first | exact Below.refl _ _ | assumption | (with_reducible refine Below.drew ?_) | (with_reducible refine Below.setCell ?_ (by (first | (simp; done) | (simp; omega))) _) | (with_reducible refine below_drewN' ?_ _) | (refine Below.alloc ?_ (by (try simp only [World.size_alloc, World.size_drew, World.size_setCell]); omega) _) | (refine Below.trans ?_ (Below.mono (by assumption) (by (try simp only [World.size_alloc, World.size_drew, World.size_setCell]); omega)))))
  refine (y5 _ _ _ _ (hr9.below A9) ((sl_four w9 _ rfl _ 10 0 0 0).below (by (repeat' (first | exact Below.refl _ _ | assumption | (with_reducible refine Below.drew ?_) | (with_reducible refine Below.setCell ?_ (by (first | (simp; done) | (simp; omega))) _) | (with_reducible refine below_drewN' ?_ _) | (refine Below.alloc ?_ (by (try simp only [World.size_alloc, World.size_drew, World.size_setCell]); omega) _) | (refine Below.trans ?_ (Below.mono (by assumption) (by (try simp only [World.size_alloc, World.size_drew, World.size_setCell]); omega))))))) (sl_four _ _ (by simp) _ 9 1 1 1)).mono ?_
  rintro e w10 ⟨rfl, hb10⟩
  have B10 : Aside (Below w.heap.size w w10) := B9.out.trans ((A9.trans (hb10.mono A9.size)).mono B9.out.size)
  have S10 : Aside (Sl w10 1 eI vl [125, 225]) := (S9.out.below A9).below hb10
  clear hr9 A9 hb10 S9 S8 B8 B6 B4 B2
  go_wp2_with fail
  refine (four_any 0 _).mono ?_
  rintro e w11 ⟨g16, g17, g18, rfl, hr11, hb11⟩
  have B11 : Aside (Below w.heap.size w w11) := B10.out.trans (hb11.mono B10.out.size)
  have S11 : Aside (Sl w11 1 eI vl [125, 225]) := S10.out.below hb11
  clear hb11 S10 B10
  go_wp2_with fail
  have A11 : Below w11.heap.size w11 ((((w11.alloc (.cells #[.int .i64 10, .int .i64 0, .int .i64 0, .int .i64 0] 3)).alloc (.cells #[.int .i64 9, .int .i64 1, .int .i64 1, .int .i64 1] 3)).alloc (.cells #[.int .i64 9, .int .i64 1, .int .i64 1, .int .i64 1] 3)).alloc (.cells #[.slice (some ⟨w11.heap.size + 1, 0, none⟩) 4 4, .slice (some ⟨w11.heap.size + 1 + 1, 0, none⟩) 4 4] 24)) := by (repeat' (first | exact Below.refl _ _ | assumption | (with_reducible refine Below.drew ?_) | (with_reducible refine Below.setCell ?_ (by (first | (simp; done) | (simp; omega))) _) | (with_reducible refine below_drewN' ?_ _) | (refine Below.alloc ?_ (by (try simp only [World.size_alloc, World.size_drew, World.size_setCell]); omega) _) | (refine Below.trans ?_ (Below.mono (by assumption) (by (try simp only [World.size_alloc, World.size_drew, World.size_setCell]); omega)))))
  refine (y6 _ _ (.slice (some ⟨w11.heap.size + 1, 0, none⟩) 4 4) (.slice (some ⟨w11.heap.size + 1 + 1, 0, none⟩) 4 4) _ _ (hr11.below A11) ((sl_four w11 _ rfl _ 10 0 0 0).below (by (repeat' (first | exact Below.refl _ _ | assumption | (with_reducible refine Below.drew ?_) | (with_reducible refine Below.setCell ?_ (by (first | (simp; done) | (simp; omega))) _) | (with_reducible refine below_drewN' ?_ _) | (refine Below.alloc ?_ (by (try simp only [World.size_alloc, World.size_drew, World.size_setCell]); omega) _) | (refine Below.trans ?_ (Below.mono (by assumption) (by (try simp only [World.size_alloc, World.size_drew, World.size_setCell]); omega))))))) ((sl_four _ _ (by simp) _ 9 1 1 1).below (w := (w11.alloc (.cells #[.int .i64 10, .int .i64 0, .int .i64 0, .int .i64 0] 3)).alloc (.cells #[.int .i64 9, .int .i64 1, .int .i64 1, .int .i64 1] 3)) (by (repeat' (first | exact Below.refl _ _ | assumption | (with_reducible refine Below.drew ?_) | (with_reducible refine Below.setCell ?_ (by (first | (simp; done) | (simp; omega))) _) | (with_reducible refine below_drewN' ?_ _) | (refine Below.alloc ?_ (by (try simp only [World.size_alloc, World.size_drew, World.size_setCell]); omega) _) | (refine Below.trans ?_ (Below.mono (by assumption) (by (try simp only [World.size_alloc, World.size_drew, World.size_setCell]); omega))))))) ((sl_four _ _ (by simp) _ 9 1 1 1).below (w := ((w11.alloc (.cells #[.int .i64 10, .int .i64 0, .int .i64 0, .int .i64 0] 3)).alloc (.cells #[.int .i64 9, .int .i64 1, .int .i64 1, .int .i64 1] 3)).alloc (.cells #[.int .i64 9, .int .i64 1, .int .i64 1, .int .i64 1] 3)) (by (repeat' (first | exact Below.refl _ _ | assumption | (with_reducible refine Below.drew ?_) | (with_reducible refine Below.setCell ?_ (by (first | (simp; done) | (simp; omega))) _) | (with_reducible refine below_drewN' ?_ _) | (refine Below.alloc ?_ (by (try simp only [World.size_alloc, World.size_drew, World.size_setCell]); omega) _) | (refine Below.trans ?_ (Below.mono (by assumption) (by (try simp only [World.size_alloc, World.size_drew, World.size_setCell]); omega))))))) ?_).mono ?_
  · refine sl_lit (k := 1) (enc := eR) (xs := [((.slice (some ⟨w11.heap.size + 1, 0, none⟩) 4 4 : Value), ([9, 1, 1, 1] : List Int)), (.slice (some ⟨w11.heap.size + 1 + 1, 0, none⟩) 4 4, [9, 1, 1, 1])]) (fun _ => rfl) (by simp) (by simp) ?_ 2
    intro j v h
    go_simp
    simpa using h
  rintro e w12 ⟨gp, cp, rfl, hs12, hb12⟩
  have B12 : Aside (Below w.heap.size w w12) := B11.out.trans ((A11.trans (hb12.mono A11.size)).mono B11.out.size)
  have S12 : Aside (Sl w12 1 eI vl [125, 225]) := (S11.out.below A11).below hb12
  have P12 : Aside (Sl w12 1 eI (.slice (some ⟨gp, 0, none⟩) 2 cp) [1, 2]) := hs12
  clear hr11 A11 hb12 S11 B11 hs12 B9
  go_wp2_with fail
  have z7 : ∀ W, Sl W 1 eI vl [125, 225] → ∀ u, Sl W 1 eI u [125, 225] → Calls Tryz.prog 15 #[vl, u] W (Ret (.bool true) W) := fun W h1 u h2 => by
    have := equal_any vl u _ _ W h1 h2; rw [decide_eq_true rfl] at this; exact this
  have z8 : ∀ W v, Sl W 1 eI v [1, 2] → ∀ u, Sl W 1 eI u [1, 2] → Calls Tryz.prog 29 #[v, u] W (Ret (.bool true) W) := fun W v h1 u h2 => by
    have := alike_any v u _ _ W h1 h2; rw [decide_eq_true rfl] at this; exact this
  refine (z7 _ (S12.out.below (by (repeat' (first | exact Below.refl _ _ | assumption | (with_reducible refine Below.drew ?_) | (with_reducible refine Below.setCell ?_ (by (first | (simp; done) | (simp; omega))) _) | (with_reducible refine below_drewN' ?_ _) | (refine Below.alloc ?_ (by (try simp only [World.size_alloc, World.size_drew, World.size_setCell]); omega) _) | (refine Below.trans ?_ (Below.mono (by assumption) (by (try simp only [World.size_alloc, World.size_drew, World.size_setCell]); omega))))))) _ (sl_two w12 _ rfl _ 125 225)).mono ?_
  rintro e w13 ⟨rfl, hb13⟩
  have B13 : Aside (Below w.heap.size w w13) := B12.out.trans ((((Below.refl _ w12).alloc (Nat.le_refl _) _).trans (hb13.mono (by simp))).mono B12.out.size)
  have P13 : Aside (Sl w13 1 eI (.slice (some ⟨gp, 0, none⟩) 2 cp) [1, 2]) := (P12.out.below ((Below.refl _ w12).alloc (Nat.le_refl _) (.cells #[.int .i64 125, .int .i64 225] 34))).below hb13
  clear hb13 P12 S12 z7 B12
  go_wp2_with fail
  refine (z8 _ _ (P13.out.below (by (repeat' (first | exact Below.refl _ _ | assumption | (with_reducible refine Below.drew ?_) | (with_reducible refine Below.setCell ?_ (by (first | (simp; done) | (simp; omega))) _) | (with_reducible refine below_drewN' ?_ _) | (refine Below.alloc ?_ (by (try simp only [World.size_alloc, World.size_drew, World.size_setCell]); omega) _) | (refine Below.trans ?_ (Below.mono (by assumption) (by (try simp only [World.size_alloc, World.size_drew, World.size_setCell]); omega))))))) _ (sl_two w13 _ rfl _ 1 2)).mono ?_
  rintro e w14 ⟨rfl, hb14⟩
  have B14 : Below w.heap.size w w14 := B13.out.trans ((((Below.refl _ w13).alloc (Nat.le_refl _) _).trans (hb14.mono (by simp))).mono B13.out.size)
  clear hb14 P13 z8 B13
  go_wp2
  go_ret
  exact ⟨rfl, B14⟩
end Go.Proofs.YtgceffpkhmjmkaaGreat

namespace Go.Proofs.YtgceffpkhmjmkaaGreat
open Go.RowKit Go.Shelf

def far (n : Int) : Bool := decide (1000000 < n) || decide (n < -1000000)
def farP (p : Int × Int) : Bool := far p.1 || far p.2
def farR (p : Int × Int) : Bool := far p.1
def greatB (b : Brd) : Bool :=
  decide (10 < b.rings.length) || decide (25 < b.lines.length) || decide (25 < b.nums.length) || far b.eye || far b.bull || far b.wire || b.rings.any farR || b.lines.any farP
theorem far_false {n : Int} (h : far n = false) : -1000000 ≤ n ∧ n ≤ 1000000 := by
  unfold far at h
  simp only [Bool.or_eq_false_iff, decide_eq_false_iff_not] at h
  omega
theorem small_of {b : Brd} (h : greatB b = false) : Small b := by
  unfold greatB at h
  simp only [Bool.or_eq_false_iff, decide_eq_false_iff_not, List.any_eq_false] at h
  obtain ⟨⟨⟨⟨⟨⟨⟨h1, h2⟩, h3⟩, h4⟩, h5⟩, h6⟩, h7⟩, h8⟩ := h
  refine ⟨by omega, by omega, by omega, far_false h4, far_false h5, far_false h6, fun r hr => ?_, fun l hl => ?_⟩
  · have := h7 r hr
    exact far_false (by unfold farR at this; simpa using this)
  · have := h8 l hl
    unfold farP at this
    simp only [Bool.or_eq_true, not_or, Bool.not_eq_true] at this
    have a := far_false this.1
    have c := far_false this.2
    exact ⟨a.1, a.2, c.1, c.2⟩

set_option maxHeartbeats 400000 in
theorem far_any (n : Int) (w : World) : Calls Tryz.prog 37 #[.int .i64 n] w (Ret (.bool (far n)) w) := by
  unfold far
  by_cases h : 1000000 < n
  · rw [decide_eq_true h]
    go_enter Tryz.func37, Tryz.ntmps37
    go_wp2_with fail
    go_ret
    exact ⟨rfl, Below.refl _ _⟩
  · rw [decide_eq_false h]
    go_enter Tryz.func37, Tryz.ntmps37
    go_wp2_with fail
    go_ret
    exact ⟨rfl, Below.refl _ _⟩

set_option maxRecDepth 100000 in
set_option maxHeartbeats 8000000 in
theorem great_any (v : Value) (b : Brd) (w : World) (h : BrdAt w v b) :
    Calls Tryz.prog 7 #[v] w (Ret (.bool (greatB b)) w) := by
  obtain ⟨vr, vl, vn, rfl, sr, sl, ⟨an, cn, rfl, ln, _⟩⟩ := h
  have hCR := sr
  have hCL := sl
  obtain ⟨ar, cr, rfl, lr, _⟩ := sr
  obtain ⟨al, cl, rfl, ll, _⟩ := sl
  have HCR : Aside (∀ j p, b.rings[j]? = some p → ∃ g off, ar = some ⟨g, off, none⟩ ∧ w.cell? ⟨g, off + j * 2, none⟩ = some (.int .i64 p.1) ∧ w.cell? ⟨g, off + j * 2 + 1, none⟩ = some (.int .i64 p.2)) := cells_of hCR
  have HCL : Aside (∀ j p, b.lines[j]? = some p → ∃ g off, al = some ⟨g, off, none⟩ ∧ w.cell? ⟨g, off + j * 2, none⟩ = some (.int .i64 p.1) ∧ w.cell? ⟨g, off + j * 2 + 1, none⟩ = some (.int .i64 p.2)) := cells_of hCL
  clear hCR hCL
  obtain ⟨gb, hgb⟩ : ∃ x, greatB b = x := ⟨_, rfl⟩
  rw [hgb]
  obtain ⟨f0, hf0⟩ : ∃ x, far b.eye = x := ⟨_, rfl⟩
  obtain ⟨f1, hf1⟩ : ∃ x, far b.bull = x := ⟨_, rfl⟩
  obtain ⟨f2, hf2⟩ : ∃ x, far b.wire = x := ⟨_, rfl⟩
  have HG : Aside (gb = (decide (10 < b.rings.length) || decide (25 < b.lines.length) || decide (25 < b.nums.length) || f0 || f1 || f2 || b.rings.any farR || b.lines.any farP)) := by
    show _ = _
    rw [← hgb, ← hf0, ← hf1, ← hf2]; rfl
  have y0 := fun W => far_any b.eye W
  have y1 := fun W => far_any b.bull W
  have y2 := fun W => far_any b.wire W
  rw [hf0] at y0
  rw [hf1] at y1
  rw [hf2] at y2
  clear hgb hf0 hf1 hf2
  obtain ⟨nr, hnr⟩ : ∃ n, b.rings.length = n := ⟨_, rfl⟩
  obtain ⟨nl, hnl⟩ : ∃ n, b.lines.length = n := ⟨_, rfl⟩
  obtain ⟨nn, hnn⟩ : ∃ n, b.nums.length = n := ⟨_, rfl⟩
  have HN : Aside (b.rings.length = nr ∧ b.lines.length = nl ∧ b.nums.length = nn) := ⟨hnr, hnl, hnn⟩
  rw [hnr] at HG lr ⊢
  rw [hnl] at HG ll ⊢
  rw [hnn] at HG ln ⊢
  clear hnr hnl hnn
  obtain ⟨ey, hey⟩ : ∃ x, b.eye = x := ⟨_, rfl⟩
  obtain ⟨bu, hbu⟩ : ∃ x, b.bull = x := ⟨_, rfl⟩
  obtain ⟨wi, hwi⟩ : ∃ x, b.wire = x := ⟨_, rfl⟩
  rw [hey] at y0 ⊢
  rw [hbu] at y1 ⊢
  rw [hwi] at y2 ⊢
  clear hey hbu hwi
  go_enter Tryz.func7, Tryz.ntmps7
  go_upto_region 2 with (fail)
  obtain ⟨W0, hW0⟩ : ∃ W0, W0 = w.alloc (.cells #[.int .i64 ey, .int .i64 bu, .slice ar nr cr, .slice al nl cl, .slice an nn cn, .int .i64 wi] 26) := ⟨_, rfl⟩
  have B0 : Aside (Below w.heap.size w W0) := by rw [hW0]; clear hW0; show Below _ _ _; (repeat' (first | exact Below.refl _ _ | assumption | (with_reducible refine Below.drew ?_) | (with_reducible refine Below.setCell ?_ (by (first | (simp; done) | (simp; omega))) _) | (with_reducible refine below_drewN' ?_ _) | (refine Below.alloc ?_ (by (try simp only [World.size_alloc, World.size_drew, World.size_setCell]); omega) _) | (refine Below.trans ?_ (Below.mono (by assumption) (by (try simp only [World.size_alloc, World.size_drew, World.size_setCell]); omega)))))
  have x0 : W0.cell? ⟨w.heap.size, 0, none⟩ = some (.int .i64 ey) := by rw [hW0]; clear hW0; go_simp
  have x1 : W0.cell? ⟨w.heap.size, 1, none⟩ = some (.int .i64 bu) := by rw [hW0]; clear hW0; go_simp
  have x2 : W0.cell? ⟨w.heap.size, 2, none⟩ = some (.slice ar nr cr) := by rw [hW0]; clear hW0; go_simp
  have x3 : W0.cell? ⟨w.heap.size, 3, none⟩ = some (.slice al nl cl) := by rw [hW0]; clear hW0; go_simp
  have x4 : W0.cell? ⟨w.heap.size, 4, none⟩ = some (.slice an nn cn) := by rw [hW0]; clear hW0; go_simp
  have x5 : W0.cell? ⟨w.heap.size, 5, none⟩ = some (.int .i64 wi) := by rw [hW0]; clear hW0; go_simp
  rw [← hW0]
  clear hW0
  obtain ⟨hd, hhd⟩ : ∃ x, (decide (10 < nr) || decide (25 < nl) || decide (25 < nn) || f0 || f1 || f2) = x := ⟨_, rfl⟩
  have HH : Aside ((decide (10 < nr) || decide (25 < nl) || decide (25 < nn) || f0 || f1 || f2) = hd) := hhd
  rw [hhd] at HG
  clear hhd
  go_cut [39] (fun s39 wc => s39 = .bool hd ∧ Aside (Below W0.heap.size W0 wc))
  case first =>
    have hh := HH.out
    by_cases a1 : 10 < nr
    · have e : hd = true := by rw [← hh, decide_eq_true a1]; rfl
      have a1z : (10 : Int) < (nr : Int) := by omega
      clear hh y0 y1 y2
      subst e
      go_wp2_with fail
      go_meet
      exact ⟨rfl, Below.refl _ _⟩
    · have a1z : ¬ (10 : Int) < (nr : Int) := by omega
      by_cases a2 : 25 < nl
      · have e : hd = true := by rw [← hh, decide_eq_true a2]; simp
        have a2z : (25 : Int) < (nl : Int) := by omega
        clear hh y0 y1 y2
        subst e
        go_wp2_with fail
        go_meet
        exact ⟨rfl, Below.refl _ _⟩
      · have a2z : ¬ (25 : Int) < (nl : Int) := by omega
        by_cases a3 : 25 < nn
        · have e : hd = true := by rw [← hh, decide_eq_true a3]; simp
          have a3z : (25 : Int) < (nn : Int) := by omega
          clear hh y0 y1 y2
          subst e
          go_wp2_with fail
          go_meet
          exact ⟨rfl, Below.refl _ _⟩
        · have a3z : ¬ (25 : Int) < (nn : Int) := by omega
          have d1 : decide ((10 : Int) < (nr : Int)) = false := decide_eq_false a1z
          have d2 : decide ((25 : Int) < (nl : Int)) = false := decide_eq_false a2z
          have d3 : decide ((25 : Int) < (nn : Int)) = false := decide_eq_false a3z
          rw [decide_eq_false a1, decide_eq_false a2, decide_eq_false a3] at hh
          simp only [Bool.false_or] at hh
          cases f0 with
          | true =>
            replace hh : true = hd := hh
            subst hh
            go_wp2_with (go_at_call 37; (with_reducible refine (y0 _).mono ?_); clear y0; rintro e w1 ⟨rfl, hb1⟩)
            go_meet
            exact ⟨by first | rfl | (rw [d1, d2, d3]; rfl), hb1⟩
          | false =>
            cases f1 with
            | true =>
              replace hh : true = hd := hh
              subst hh
              go_wp2_with (first | (go_at_call 37; (with_reducible refine (y0 _).mono ?_); clear y0; rintro e w1 ⟨rfl, hb1⟩; have x1' := keepc hb1 x1; have x5' := keepc hb1 x5) | (go_at_call 37; (with_reducible refine (y1 _).mono ?_); clear y1; rintro e w2 ⟨rfl, hb2⟩))
              go_meet
              exact ⟨by first | rfl | (rw [d1, d2, d3]; rfl), hb1.trans (hb2.mono hb1.size)⟩
            | false =>
              replace hh : f2 = hd := hh
              subst hh
              go_wp2_with (first | (go_at_call 37; (with_reducible refine (y0 _).mono ?_); clear y0; rintro e w1 ⟨rfl, hb1⟩; have x1' := keepc hb1 x1; have x5' := keepc hb1 x5) | (go_at_call 37; (with_reducible refine (y1 _).mono ?_); clear y1; rintro e w2 ⟨rfl, hb2⟩; have x5'' := keepc hb2 x5') | (go_at_call 37; (with_reducible refine (y2 _).mono ?_); clear y2; rintro e w3 ⟨rfl, hb3⟩))
              go_meet
              exact ⟨by first | rfl | (rw [d1, d2, d3]; rfl) | (simp [d1, d2, d3]), (hb1.trans (hb2.mono hb1.size)).trans (hb3.mono (hb1.trans (hb2.mono hb1.size)).size)⟩
  case rest =>
    obtain ⟨U, rfl⟩ : ∃ U : World, U = wc := ⟨_, rfl⟩
    obtain ⟨rfl, hBN⟩ := hcut
    have BU : Aside (Below w.heap.size w U) := B0.out.trans (hBN.out.mono B0.out.size)
    replace x2 := keepc hBN.out x2
    replace x3 := keepc hBN.out x3
    clear hBN B0 x0 x1 x4 x5 y0 y1 y2 HH
    cases hd with
    | true =>
      have e : gb = true := HG.out
      subst e
      go_wp2_with fail
      go_ret
      exact ⟨rfl, BU.out⟩
    | false =>
      have HG2 : Aside (gb = (b.rings.any farR || b.lines.any farP)) := HG.out
      clear HG
      go_wp2_with fail
      go_loopg [4] nr (fun gg i wr => ∃ k : Nat, k ≤ nr ∧ nr - k ≤ gg ∧ i = .int .i64 k ∧ Aside (∀ j p, j < k → b.rings[j]? = some p → farR p = false) ∧ Aside (Below U.heap.size U wr))
      case atStart => exact ⟨0, Nat.zero_le _, by omega, rfl, fun j p hj => absurd hj (Nat.not_lt_zero _), Below.refl _ _⟩
      case round =>
        obtain ⟨k, hk, hg, rfl, HA, BW⟩ := hrel
        have z2 := keepc BW.out x2
        have z3 := keepc BW.out x3
        by_cases hlt : k < nr
        · have hltz : (k : Int) < (nr : Int) := by omega
          obtain ⟨p, hp⟩ : ∃ p, b.rings[k]? = some p := ⟨_, List.getElem?_eq_getElem (by rw [HN.out.1]; exact hlt)⟩
          obtain ⟨g', off, rfl, c0, _⟩ := HCR.out k p hp
          have c0 := keepc BW.out (keepc BU.out c0)
          have HF : Aside (farR p = true → gb = true) := by
            intro h
            rw [HG2.out]
            have : b.rings.any farR = true := List.any_eq_true.2 ⟨p, List.mem_of_getElem? hp, h⟩
            rw [this]; rfl
          have HT : Aside (farR p = false → ∀ j q, j < k + 1 → b.rings[j]? = some q → farR q = false) := by
            intro h j q hj hq
            by_cases e : j = k
            · subst e; rw [hp] at hq; cases hq; exact h
            · exact HA.out j q (by omega) hq
          clear HA hp
          obtain ⟨x, y⟩ := p
          have y0 := fun W => far_any x W
          simp only [] at c0
          have HX : Aside (farR (x, y) = far x) := rfl
          obtain ⟨fx, hfx⟩ : ∃ f, far x = f := ⟨_, rfl⟩
          rw [hfx] at y0 HX
          clear hfx
          cases fx with
          | true =>
            have e : gb = true := HF.out HX.out
            subst e
            go_wp2_with (go_at_call 37; (with_reducible refine (y0 _).mono ?_); rintro e w1 ⟨rfl, hb1⟩)
            go_ret
            exact ⟨rfl, BU.out.trans ((BW.out.trans (hb1.mono BW.out.size)).mono BU.out.size)⟩
          | false =>
            have HT2 : Aside (∀ j q, j < k + 1 → b.rings[j]? = some q → farR q = false) := HT.out HX.out
            go_wp2_with (go_at_call 37; (with_reducible refine (y0 _).mono ?_); rintro e w1 ⟨rfl, hb1⟩)
            go_roundg (nr - (k + 1))
            case measure => omega
            case rel => exact ⟨k + 1, by omega, by omega, by go_num, HT2, BW.out.trans (hb1.mono BW.out.size)⟩
        · have hke : nr = k := by omega
          subst hke
          have hltz : ¬ (nr : Int) < (nr : Int) := by omega
          have HG3 : Aside (gb = b.lines.any farP) := by
            show _ = _
            rw [HG2.out]
            have : b.rings.any farR = false := by
              rw [List.any_eq_false]
              intro p hp
              obtain ⟨j, hj, rfl⟩ := List.getElem_of_mem hp
              rw [HA.out j _ (by rw [← HN.out.1]; exact hj) (List.getElem?_eq_getElem hj)]; simp
            rw [this]; rfl
          clear HA HG2
          obtain ⟨U3, rfl⟩ : ∃ U3 : World, U3 = wr := ⟨_, rfl⟩
          have BU3 : Aside (Below w.heap.size w U3) := BU.out.trans (BW.out.mono BU.out.size)
          clear BW x2 x3
          go_wp2_with fail
          go_loopg [5] nl (fun gg i wr => ∃ k : Nat, k ≤ nl ∧ nl - k ≤ gg ∧ i = .int .i64 k ∧ Aside (∀ j p, j < k → b.lines[j]? = some p → farP p = false) ∧ Aside (Below U3.heap.size U3 wr))
          case atStart => exact ⟨0, Nat.zero_le _, by omega, rfl, fun j p hj => absurd hj (Nat.not_lt_zero _), Below.refl _ _⟩
          case round =>
            obtain ⟨k, hk, hg, rfl, HA, BW⟩ := hrel
            have z3 := keepc BW.out z3
            by_cases hlt : k < nl
            · have hltz2 : (k : Int) < (nl : Int) := by omega
              obtain ⟨p, hp⟩ : ∃ p, b.lines[k]? = some p := ⟨_, List.getElem?_eq_getElem (by rw [HN.out.2.1]; exact hlt)⟩
              obtain ⟨g', off, rfl, c0, c1⟩ := HCL.out k p hp
              have c0 := keepc BW.out (keepc BU3.out c0)
              have c1 := keepc BW.out (keepc BU3.out c1)
              have HF : Aside (farP p = true → gb = true) := by
                intro h
                rw [HG3.out]
                exact List.any_eq_true.2 ⟨p, List.mem_of_getElem? hp, h⟩
              have HT : Aside (farP p = false → ∀ j q, j < k + 1 → b.lines[j]? = some q → farP q = false) := by
                intro h j q hj hq
                by_cases e : j = k
                · subst e; rw [hp] at hq; cases hq; exact h
                · exact HA.out j q (by omega) hq
              clear HA hp
              obtain ⟨x, y⟩ := p
              have y0 := fun W => far_any x W
              have y1 := fun W => far_any y W
              simp only [] at c0 c1
              have HX : Aside (farP (x, y) = (far x || far y)) := rfl
              obtain ⟨fx, hfx⟩ : ∃ f, far x = f := ⟨_, rfl⟩
              obtain ⟨fy, hfy⟩ : ∃ f, far y = f := ⟨_, rfl⟩
              rw [hfx] at y0 HX
              rw [hfy] at y1 HX
              clear hfx hfy
              cases fx with
              | true =>
                have e : gb = true := HF.out (by rw [HX.out]; rfl)
                subst e
                go_wp2_with (go_at_call 37; (with_reducible refine (y0 _).mono ?_); clear y0; rintro e w1 ⟨rfl, hb1⟩)
                go_ret
                exact ⟨rfl, BU3.out.trans ((BW.out.trans (hb1.mono BW.out.size)).mono BU3.out.size)⟩
              | false =>
                cases fy with
                | true =>
                  have e : gb = true := HF.out (by rw [HX.out]; rfl)
                  subst e
                  go_wp2_with (first | (go_at_call 37; (with_reducible refine (y0 _).mono ?_); clear y0; rintro e w1 ⟨rfl, hb1⟩; have z3' := keepc hb1 z3; have c1' := keepc hb1 c1) | (go_at_call 37; (with_reducible refine (y1 _).mono ?_); clear y1; rintro e w2 ⟨rfl, hb2⟩))
                  go_ret
                  exact ⟨rfl, BU3.out.trans ((BW.out.trans ((hb1.trans (hb2.mono hb1.size)).mono BW.out.size)).mono BU3.out.size)⟩
                | false =>
                  have HT2 : Aside (∀ j q, j < k + 1 → b.lines[j]? = some q → farP q = false) := HT.out (by rw [HX.out]; rfl)
                  go_wp2_with (first | (go_at_call 37; (with_reducible refine (y0 _).mono ?_); clear y0; rintro e w1 ⟨rfl, hb1⟩; have z3' := keepc hb1 z3; have c1' := keepc hb1 c1) | (go_at_call 37; (with_reducible refine (y1 _).mono ?_); clear y1; rintro e w2 ⟨rfl, hb2⟩))
                  go_roundg (nl - (k + 1))
                  case measure => omega
                  case rel => exact ⟨k + 1, by omega, by omega, by go_num, HT2, BW.out.trans ((hb1.trans (hb2.mono hb1.size)).mono BW.out.size)⟩
            · have hke : nl = k := by omega
              subst hke
              have hltz2 : ¬ (nl : Int) < (nl : Int) := by omega
              have e : gb = false := by
                rw [HG3.out, List.any_eq_false]
                intro p hp
                obtain ⟨j, hj, rfl⟩ := List.getElem_of_mem hp
                rw [HA.out j _ (by rw [← HN.out.2.1]; exact hj) (List.getElem?_eq_getElem hj)]; simp
              subst e
              go_wp2_with fail
              go_ret
              exact ⟨rfl, BU3.out.trans (BW.out.mono BU3.out.size)⟩
end Go.Proofs.YtgceffpkhmjmkaaGreat

namespace Go.Proofs.YtgceffpkhmjmkaaGreat
open Go.RowKit Go.Shelf

theorem zcB_eq : Tryz.zeroCells97 = Array.replicate 500 (.bool false) := by kernel_rfl
theorem store_none (w : World) : Sem.run Tryz.prog (storeCells ⟨w.heap.size, 0, none⟩ Tryz.zeroCells97.toList) (w.alloc (.cells Tryz.zeroCells97 97)) = .ok () (w.alloc (.cells Tryz.zeroCells97 97)) :=
  run_storeCells_new w 97 _ _ (by kernel_rfl) rfl (by kernel_rfl)
noncomputable def two : Array Value := (Tryz.zeroCells97.setIfInBounds 125 (.bool true)).setIfInBounds 225 (.bool true)
theorem store_two (w : World) : Sem.run Tryz.prog (storeCells ⟨w.heap.size, 0, none⟩ ((Tryz.zeroCells97.toList.set 125 (.bool true)).set 225 (.bool true))) (w.alloc (.cells Tryz.zeroCells97 97)) = .ok () (w.alloc (.cells two 97)) := by
  have h := run_storeCells_new (P := Tryz.prog) w 97 Tryz.zeroCells97 two (by kernel_rfl) (by unfold two; simp) (by kernel_rfl)
  have e : two.toList = (Tryz.zeroCells97.toList.set 125 (.bool true)).set 225 (.bool true) := by unfold two; simp
  rw [e] at h
  exact h

/-- The bools that an array of memory holds. -/
def SeenB (g : Nat) (W : World) (f : Nat → Bool) : Prop := ∀ i, i < 500 → W.cell? ⟨g, i, none⟩ = some (.bool (f i)) ∧ W.frozen? ⟨g, i, none⟩ = false
theorem seenB_none (w : World) : SeenB w.heap.size (w.alloc (.cells Tryz.zeroCells97 97)) (fun _ => false) := by
  intro i hi
  have hz : (w.alloc (.cells Tryz.zeroCells97 97)).heap[w.heap.size]? = some (.cells Tryz.zeroCells97 97 (0, 0)) := World.alloc_heap_new _ _
  refine ⟨?_, by unfold World.frozen?; simp only [hz]; simp⟩
  rw [cell_of_row _ _ i _ _ _ hz, zcB_eq, Array.getElem?_replicate, if_pos hi]
theorem seenB_two (w : World) : SeenB w.heap.size (w.alloc (.cells two 97)) (fun i => decide (i = 125) || decide (i = 225)) := by
  intro i hi
  have hz : (w.alloc (.cells two 97)).heap[w.heap.size]? = some (.cells two 97 (0, 0)) := World.alloc_heap_new _ _
  refine ⟨?_, by unfold World.frozen?; simp only [hz]; simp⟩
  rw [cell_of_row _ _ i _ _ _ hz]
  unfold two
  rw [zcB_eq, Array.getElem?_setIfInBounds, Array.getElem?_setIfInBounds, Array.getElem?_replicate]
  show _ = some (Value.bool (decide (i = 125) || decide (i = 225)))
  simp only [Array.size_setIfInBounds, Array.size_replicate]
  by_cases a : i = 225
  · subst a
    rw [if_pos rfl, if_pos (by omega)]; simp
  · by_cases b : i = 125
    · subst b
      rw [if_neg (fun e => a e.symm), if_pos rfl, if_pos (by omega)]; simp
    · rw [if_neg (fun e => a e.symm), if_neg (fun e => b e.symm), if_pos hi, decide_eq_false a, decide_eq_false b]; rfl
theorem SeenB.set {g : Nat} {W : World} {f : Nat → Bool} (h : SeenB g W f) (x : Nat) (hx : x < 500) : SeenB g (W.setCell ⟨g, x, none⟩ (.bool true)) (fun i => f i || i == x) := by
  intro i hi
  obtain ⟨h1, h2⟩ := h i hi
  refine ⟨?_, ?_⟩
  · show _ = some (Value.bool (f i || i == x))
    by_cases hix : i = x
    · subst hix
      rw [World.cell?_setCell_same' _ _ _ (by rw [h1]; rfl)]
      simp
    · have : (i == x) = false := by simp [hix]
      rw [this, Bool.or_false]
      have hab : (⟨g, x, none⟩ : Addr) ≠ ⟨g, i, none⟩ := by
        intro e
        injection e with _ e2 _
        exact hix e2.symm
      rw [World.cell?_setCell_other (h := hab)]
      exact h1
  · rw [World.frozen?_setCell]; exact h2
theorem SeenB.ext {g : Nat} {W : World} {f f' : Nat → Bool} (h : SeenB g W f) (e : ∀ i, i < 500 → f i = f' i) : SeenB g W f' := fun i hi => by rw [← e i hi]; exact h i hi
theorem SeenB.below {g : Nat} {W W' : World} {f : Nat → Bool} (h : SeenB g W f) (hb : Below W.heap.size W W') : SeenB g W' f := fun i hi => by
  obtain ⟨h1, h2⟩ := h i hi
  exact ⟨keepc hb h1, (hb.frozen (World.block_lt_of_cell? W _ h1)).trans h2⟩
theorem SeenB.load {g : Nat} {W : World} {f : Nat → Bool} (h : SeenB g W f) : Sem.run Tryz.prog (loadCellsFrom ⟨g, 0, none⟩ 0 500 #[]) W = .ok (boolsV f) W := by
  have := run_loadCells_list (P := Tryz.prog) W ⟨g, 0, none⟩ (boolsV f).toList (fun j v hv => by
    have hj : j < 500 := by
      have := (List.getElem?_eq_some_iff.1 hv).1
      rw [Array.length_toList, boolsV_size] at this; exact this
    rw [Addr.add_lit, Nat.zero_add, (h j hj).1]
    have := boolsV_get f j hj
    rw [← Array.getElem?_toList] at this
    rw [this] at hv
    simpa using hv)
  rw [Array.length_toList, boolsV_size] at this
  simpa [loadCells] using this
theorem SeenB.loadAt {g : Nat} {W : World} {f : Nat → Bool} (h : SeenB g W f) : Sem.run Tryz.prog (Instr.loadAt 97 (.pointer (some ⟨g, 0, none⟩))) W = .ok (.agg (boolsV f)) W := by
  simp only [Instr.loadAt, Instr.sureAddr, Sem.run_bind, Sem.run_pure, Result.andThen]
  have hl : (loadCells ⟨g, 0, none⟩ 500).run Tryz.prog W = .ok (boolsV f) W := by
    have := h.load
    simpa [loadCells] using this
  have hu : Tryz.prog.underlying 97 = some (.array 500 4) := Tryz.underlying97
  have hi : (Tryz.prog.info? 97).map (·.size) = some 500 := by kernel_rfl
  cases hq : Tryz.prog.info? 97 with
  | none => simp [hq] at hi
  | some i =>
    have hs : i.size = 500 := by simpa [hq] using hi
    have hagg : (isAgg 97).run Tryz.prog W = .ok true W := by
      unfold isAgg
      rw [Sem.run_bind, run_underlying hu W]
      rfl
    simp [loadVar, Sem.run_bind, hagg, sizeOf, typeInfo, hq, hs, hl]
theorem wp_load_bools {g : Nat} {W : World} {f : Nat → Bool} (h : SeenB g W f) {o : Oper} {a : Act} {K : Act → World → Prop} {Q : Exit → Act → World → Prop} (x : Operand) (ho : o.op = .load 97 x) (hx : a.eval x = .pointer (some ⟨g, 0, none⟩))
    (hK : K (a.put o.dst (.agg (boolsV f))) W) : o.wp Tryz.prog a W K Q := by
  unfold Oper.wp execOp
  simp only [ho, hx, Sem.run_bind, h.loadAt, Sem.run_pure, Result.andThen_ok]
  exact hK
theorem wpList_load_bools {g : Nat} {W : World} {f : Nat → Bool} (h : SeenB g W f) {ops : Array Oper} {rest : List Oper} {o : Oper} {a : Act} {Q : Exit → Act → World → Prop} (hgd : o.guard = none) (x : Operand) (ho : o.op = .load 97 x) (hx : a.eval x = .pointer (some ⟨g, 0, none⟩))
    (hK : wpList Tryz.prog ops Q rest (a.put o.dst (.agg (boolsV f))) W) : wpList Tryz.prog ops Q (o :: rest) a W :=
  wpList_plain hgd fun _ hK' => wp_load_bools h x ho hx (hK' _ _ hK)
theorem bedsOf_bedL (vs : List Int) : bedsOf vs = bedL (fun i => vs.contains (i : Int)) 500 := by
  unfold bedsOf bedL
  rw [List.filter_map]
  rfl
/-- What has been seen of a board's beds. -/
def seenT (b : Brd) (k j : Nat) (f : Int) (i : Nat) : Bool := (allT b k j f).contains (i : Int) && decide (i ≠ 0)
theorem allOf_bedL (b : Brd) (f : Int) : allOf b = bedL (seenT b b.rings.length 0 f) 500 := by
  unfold allOf
  rw [bedsOf_bedL]
  unfold bedL seenT
  rw [List.filter_map, List.filter_filter, allT_end]
  congr 1
  apply List.filter_congr
  intro i _
  rw [Bool.and_comm]
  congr 1
  rw [Bool.eq_iff_iff]
  simp
theorem seenT_start (b : Brd) (f : Int) (i : Nat) : (decide (i = 125) || decide (i = 225)) = seenT b 0 0 f i := by
  unfold seenT allT
  rw [Bool.eq_iff_iff]
  simp
  omega
theorem seenT_num {b : Brd} {k j : Nat} {f x : Int} (h : b.nums[j]? = some x) (i : Nat) : seenT b k (j + 1) f i = (seenT b k j f i || (decide ((i : Int) = bedOf f x) && decide (i ≠ 0))) := by
  unfold seenT
  rw [allT_num b k j f x h, Bool.eq_iff_iff]
  simp only [List.contains_eq_mem, List.mem_append, List.mem_singleton, Bool.and_eq_true, Bool.or_eq_true, decide_eq_true_eq]
  constructor
  · rintro ⟨h1 | h1, h2⟩
    · exact .inl ⟨h1, h2⟩
    · exact .inr ⟨h1, h2⟩
  · rintro (⟨h1, h2⟩ | ⟨h1, h2⟩)
    · exact ⟨.inl h1, h2⟩
    · exact ⟨.inr h1, h2⟩
theorem seenT_ring {b : Brd} {k : Nat} {r : Int × Int} (h : b.rings[k]? = some r) (f : Int) (i : Nat) : seenT b k b.nums.length r.2 i = seenT b (k + 1) 0 f i := by
  unfold seenT; rw [allT_ring b k r h f]

set_option maxRecDepth 100000 in
set_option maxHeartbeats 8000000 in
theorem rAll_any (v : Value) (b : Brd) (w : World) (h : BrdAt w v b) (hc : chk b = 0) :
    Calls Tryz.prog 16 #[v] w (SlV (allOf b) w) := by
  obtain ⟨vr, vl, vn, rfl, sr, ⟨al, cl, rfl, ll, _⟩, sn⟩ := h
  have hCR := sr
  have hCN := sn
  obtain ⟨ar, cr, rfl, lr, _⟩ := sr
  obtain ⟨an, cn, rfl, ln, _⟩ := sn
  have HCR : Aside (∀ j p, b.rings[j]? = some p → ∃ g off, ar = some ⟨g, off, none⟩ ∧ w.cell? ⟨g, off + j * 2, none⟩ = some (.int .i64 p.1) ∧ w.cell? ⟨g, off + j * 2 + 1, none⟩ = some (.int .i64 p.2)) := cells_of hCR
  have HCN : Aside (∀ j, j < b.nums.length → ∃ g off, an = some ⟨g, off, none⟩ ∧ w.cell? ⟨g, off + j, none⟩ = some (.int .i64 (gi b.nums j))) := cells_one hCN
  have gd := good_of_chk hc
  have HG : Aside (Good b) := gd
  have hr10 := gd.len.1
  have hn10 := gd.len.2.2
  clear hCR hCN gd hc
  obtain ⟨nr, hnr⟩ : ∃ n, b.rings.length = n := ⟨_, rfl⟩
  obtain ⟨nn, hnn⟩ : ∃ n, b.nums.length = n := ⟨_, rfl⟩
  have HN : Aside (b.rings.length = nr ∧ b.nums.length = nn) := ⟨hnr, hnn⟩
  have HR : Aside (∀ f, allOf b = bedL (seenT b nr 0 f) 500) := by intro f; rw [← hnr]; exact allOf_bedL b f
  rw [hnr] at lr hr10 ⊢
  rw [hnn] at HCN ln hn10 ⊢
  clear hnr hnn
  generalize b.lines.length = nl at *
  obtain ⟨res, hres⟩ : ∃ x, allOf b = x := ⟨_, rfl⟩
  rw [hres] at HR ⊢
  clear hres
  go_enter Tryz.func16, Tryz.ntmps16
  go_upto_region 1 with (fail)
  obtain ⟨W0, hW0⟩ : ∃ W0, W0 = w.alloc (.cells #[.int .i64 b.eye, .int .i64 b.bull, .slice ar nr cr, .slice al nl cl, .slice an nn cn, .int .i64 b.wire] 26) := ⟨_, rfl⟩
  have B0 : Aside (Below w.heap.size w W0) := by rw [hW0]; clear hW0; show Below _ _ _; (repeat' (first | exact Below.refl _ _ | assumption | (with_reducible refine Below.drew ?_) | (with_reducible refine Below.setCell ?_ (by (first | (simp; done) | (simp; omega))) _) | (with_reducible refine below_drewN' ?_ _) | (refine Below.alloc ?_ (by (try simp only [World.size_alloc, World.size_drew, World.size_setCell]); omega) _) | (refine Below.trans ?_ (Below.mono (by assumption) (by (try simp only [World.size_alloc, World.size_drew, World.size_setCell]); omega)))))
  have x2 : W0.cell? ⟨w.heap.size, 2, none⟩ = some (.slice ar nr cr) := by rw [hW0]; clear hW0; go_simp
  have x4 : W0.cell? ⟨w.heap.size, 4, none⟩ = some (.slice an nn cn) := by rw [hW0]; clear hW0; go_simp
  rw [← hW0]
  clear hW0
  have hst := store_two W0
  go_upto_region 2 with (fail)
  obtain ⟨gs, hgs⟩ : ∃ gs, W0.heap.size = gs := ⟨_, rfl⟩
  have BS0 : Below W0.heap.size W0 (W0.alloc (.cells two 97)) := (Below.refl _ _).alloc (Nat.le_refl _) _
  have SE0 := seenB_two W0
  obtain ⟨US, hUS⟩ : ∃ US, US = W0.alloc (.cells two 97) := ⟨_, rfl⟩
  rw [← hUS, hgs] at SE0
  rw [← hUS] at BS0
  rw [← hUS, hgs]
  have HGS : Aside (W0.heap.size ≤ gs) := by show _ ≤ _; omega
  clear hst hUS hgs
  go_wp2_with fail
  go_loopg [4] nr (fun gg iv wr => ∃ k : Nat, k ≤ nr ∧ nr - k ≤ gg ∧ iv = .int .i64 k ∧ Aside (SeenB gs wr (seenT b k 0 0)) ∧ Aside (Below W0.heap.size W0 wr))
  case atStart => exact ⟨0, by omega, by omega, rfl, SE0.ext (fun i _ => seenT_start b 0 i), BS0⟩
  case round =>
    clear SE0 BS0
    obtain ⟨k, hk, hg, rfl, SE, BK⟩ := hrel
    have y2 := keepc BK.out x2
    by_cases hlt : k < nr
    · have hltz : (k : Int) < (nr : Int) := by omega
      obtain ⟨r, hr⟩ : ∃ r, b.rings[k]? = some r := ⟨_, List.getElem?_eq_getElem (by rw [HN.out.1]; exact hlt)⟩
      obtain ⟨g', off, rfl, _, c1⟩ := HCR.out k r hr
      have hfb := HG.out.fac r (List.mem_of_getElem? hr)
      have HE : Aside (∀ i, seenT b k nn r.2 i = seenT b (k + 1) 0 0 i) := by intro i; rw [← HN.out.2]; exact seenT_ring hr 0 i
      obtain ⟨ro, f⟩ := r
      simp only [] at c1 hfb HE
      clear hr
      have SE1 : Aside (SeenB gs wr (seenT b k 0 f)) := SE.out.ext (fun i _ => by unfold seenT; rw [allT_zero b k 0 f])
      have c1 := keepc B0.out c1
      clear SE
      obtain ⟨Wk, rfl⟩ : ∃ W' : World, W' = wr := ⟨_, rfl⟩
      go_wp2_with fail
      go_loopg [5] nn (fun gg iv wr => ∃ j : Nat, j ≤ nn ∧ nn - j ≤ gg ∧ iv = .int .i64 j ∧ Aside (SeenB gs wr (seenT b k j f)) ∧ Aside (Below W0.heap.size W0 wr))
      case atStart => exact ⟨0, by omega, by omega, rfl, SE1, BK⟩
      case round =>
        clear SE1
        obtain ⟨j, hj, hg2, rfl, SE, BJ⟩ := hrel
        have y4 := keepc BJ.out x4
        by_cases hlj : j < nn
        · have hljz : (j : Int) < (nn : Int) := by omega
          obtain ⟨gn, on, rfl, n0⟩ := HCN.out j hlj
          have n0 := keepc BJ.out (keepc B0.out n0)
          have y2 := keepc BJ.out x2
          have d1 := keepc BJ.out c1
          have hjl : j < b.nums.length := by rw [HN.out.2]; exact hlj
          have hnb := HG.out.num _ (gi_mem hjl)
          have HS : Aside (∀ i, seenT b k (j + 1) f i = (seenT b k j f i || (decide ((i : Int) = bedOf f (gi b.nums j)) && decide (i ≠ 0)))) := fun i => seenT_num (gi_get hjl) i
          obtain ⟨nu, hx⟩ : ∃ x, gi b.nums j = x := ⟨_, rfl⟩
          rw [hx] at n0 hnb HS
          clear hx
          by_cases hf : f = 0
          · subst hf
            have SE2 : Aside (SeenB gs wr (seenT b k (j + 1) 0)) := SE.out.ext (fun i _ => by
              rw [HS.out]
              unfold bedOf
              rw [if_pos rfl]
              have : (decide ((i : Int) = 0) && decide (i ≠ 0)) = false := by
                by_cases e : i = 0
                · subst e; rfl
                · rw [decide_eq_false (show ¬ (i : Int) = 0 by omega)]; rfl
              rw [this, Bool.or_false])
            go_wp2_with fail
            go_roundg (nn - (j + 1))
            case measure => omega
            case rel => exact ⟨j + 1, by omega, by omega, by go_num, SE2, BJ⟩
          · have hfz : (f != 0) = true := by rw [bne_iff_ne]; exact hf
            obtain ⟨xn, hxn⟩ : ∃ xn : Nat, 100 * f + nu = (xn : Int) := ⟨(100 * f + nu).toNat, by omega⟩
            have hx5 : xn < 500 := by omega
            have HSI : Aside (∀ i, i < 500 → (seenT b k j f i || i == xn) = seenT b k (j + 1) f i) := by
              intro i _
              rw [HS.out]
              unfold bedOf
              rw [if_neg hf, hxn]
              congr 1
              rw [Bool.eq_iff_iff]
              simp only [beq_iff_eq, Bool.and_eq_true, decide_eq_true_eq]
              omega
            have w1 : IntKind.i64.wrap (100 * f) = 100 * f := IntWalk.i64_in _ (by omega)
            have w2 : IntKind.i64.wrap (100 * f + nu) = (xn : Int) := by rw [IntWalk.i64_in _ (by omega)]; exact hxn
            have hz1 : ¬ (499 : Int) < (xn : Int) := by omega
            have hz0 : ¬ (xn : Int) < 0 := by omega
            clear hxn HS hf
            have HWW : Aside (IntKind.i64.wrap (100 * f) = 100 * f ∧ IntKind.i64.wrap (100 * f + nu) = (xn : Int)) := ⟨w1, w2⟩
            have HZZ : Aside ((xn : Int) < 500 ∧ ¬ (xn : Int) < 0) := ⟨by omega, hz0⟩
            clear w1 w2 hz1 hz0
            go_upto_region 9 with (fail)
            refine region_laid (fl := 18) [true, true, true, true, true, true, true, true, true, true, true, true, true, true, false] 1 (fun (i : Nat) (x : Value) (ww : World) => (match i with | 0 => x = .pointer (some ⟨w.heap.size, 2, none⟩) | 1 => x = .slice (some ⟨g', off, none⟩) nr cr | 2 => x = .int .i64 k | 3 => x = .pointer (some ⟨g', off + k * 2, none⟩) | 4 => x = .pointer (some ⟨g', off + k * 2 + 1, none⟩) | 5 => x = .int .i64 f | 6 => x = .int .i64 (100 * f) | 7 => x = .pointer (some ⟨w.heap.size, 4, none⟩) | 8 => x = .slice (some ⟨gn, on, none⟩) nn cn | 9 => x = .int .i64 j | 10 => x = .pointer (some ⟨gn, on + j, none⟩) | 11 => x = .int .i64 nu | 12 => x = .int .i64 xn | 13 => x = .pointer (some ⟨gs, xn, none⟩) | _ => True : Prop)) (fun w' => Below wr.heap.size wr w') (by kernel_rfl) rfl (by show layable _ 44 _ 18 = true; decide +kernel) rfl ((Below.refl _ _).drew) ?mono9 ?step9 ?rest9
            case mono9 =>
              intro i x ww ww' hB h
              match i, h with
              | 0, h => exact h
              | 1, h => exact h
              | 2, h => exact h
              | 3, h => exact h
              | 4, h => exact h
              | 5, h => exact h
              | 6, h => exact h
              | 7, h => exact h
              | 8, h => exact h
              | 9, h => exact h
              | 10, h => exact h
              | 11, h => exact h
              | 12, h => exact h
              | 13, h => exact h
              | n + 14, h => exact h
            case step9 =>
              intro i o_ listed ac W hA ho hL he
              have hk1 : ac.tmps.getD 1 undef = .pointer (some ⟨w.heap.size, 0, none⟩) := hL.kept 1 (by decide +kernel)
              have hk3 : ac.tmps.getD 3 undef = .pointer (some ⟨gs, 0, none⟩) := hL.kept 3 (by decide +kernel)
              have hk4 : ac.tmps.getD 4 undef = .int .i64 k := hL.kept 4 (by decide +kernel)
              have hk5 : ac.tmps.getD 5 undef = .int .i64 j := hL.kept 5 (by decide +kernel)
              have CL : ∀ W', Below W.heap.size W W' → Below wr.heap.size wr W' := fun W' h => hL.cls.trans (h.mono hL.cls.size)
              have k_d1 := keepc hL.cls d1
              have k_n0 := keepc hL.cls n0
              have k_y2 := keepc hL.cls y2
              have k_y4 := keepc hL.cls y4
              match i, hA, ho with
              | 0, _, ho =>
                cases ho
                refine wpOp_plain rfl rfl ?_
                unfold Oper.wp
                go_simp
                exact ⟨_, rfl, Below.refl _ _, CL _ (Below.refl _ _), rfl⟩
              | 1, _, ho =>
                cases ho
                have d0 : ac.tmps.getD 28 undef = .pointer (some ⟨w.heap.size, 2, none⟩) := hL.new 0 _ 28 rfl (he ⟨0, .data⟩ (by simp) rfl) rfl
                refine wpOp_plain rfl rfl ?_
                unfold Oper.wp
                go_simp
                exact ⟨_, rfl, Below.refl _ _, CL _ (Below.refl _ _), rfl⟩
              | 2, _, ho =>
                cases ho
                refine wpOp_plain rfl rfl ?_
                unfold Oper.wp
                go_simp
                exact ⟨_, rfl, Below.refl _ _, CL _ (Below.refl _ _), rfl⟩
              | 3, _, ho =>
                cases ho
                have d1 : ac.tmps.getD 29 undef = .slice (some ⟨g', off, none⟩) nr cr := hL.new 1 _ 29 rfl (he ⟨1, .data⟩ (by simp) rfl) rfl
                have d2 : ac.tmps.getD 30 undef = .int .i64 k := hL.new 2 _ 30 rfl (he ⟨2, .data⟩ (by simp) rfl) rfl
                refine wpOp_plain rfl rfl ?_
                unfold Oper.wp
                go_simp
                exact ⟨_, rfl, Below.refl _ _, CL _ (Below.refl _ _), rfl⟩
              | 4, _, ho =>
                cases ho
                have d3 : ac.tmps.getD 31 undef = .pointer (some ⟨g', off + k * 2, none⟩) := hL.new 3 _ 31 rfl (he ⟨3, .data⟩ (by simp) rfl) rfl
                refine wpOp_plain rfl rfl ?_
                unfold Oper.wp
                go_simp
                exact ⟨_, rfl, Below.refl _ _, CL _ (Below.refl _ _), rfl⟩
              | 5, _, ho =>
                cases ho
                have d4 : ac.tmps.getD 32 undef = .pointer (some ⟨g', off + k * 2 + 1, none⟩) := hL.new 4 _ 32 rfl (he ⟨4, .data⟩ (by simp) rfl) rfl
                refine wpOp_plain rfl rfl ?_
                unfold Oper.wp
                go_simp
                exact ⟨_, rfl, Below.refl _ _, CL _ (Below.refl _ _), rfl⟩
              | 6, _, ho =>
                cases ho
                have d5 : ac.tmps.getD 33 undef = .int .i64 f := hL.new 5 _ 33 rfl (he ⟨5, .data⟩ (by simp) rfl) rfl
                obtain ⟨hw0, hw1⟩ := HWW.out
                refine wpOp_plain rfl rfl ?_
                unfold Oper.wp
                go_simp
                exact ⟨_, rfl, Below.refl _ _, CL _ (Below.refl _ _), rfl⟩
              | 7, _, ho =>
                cases ho
                refine wpOp_plain rfl rfl ?_
                unfold Oper.wp
                go_simp
                exact ⟨_, rfl, Below.refl _ _, CL _ (Below.refl _ _), rfl⟩
              | 8, _, ho =>
                cases ho
                have d7 : ac.tmps.getD 35 undef = .pointer (some ⟨w.heap.size, 4, none⟩) := hL.new 7 _ 35 rfl (he ⟨7, .data⟩ (by simp) rfl) rfl
                refine wpOp_plain rfl rfl ?_
                unfold Oper.wp
                go_simp
                exact ⟨_, rfl, Below.refl _ _, CL _ (Below.refl _ _), rfl⟩
              | 9, _, ho =>
                cases ho
                refine wpOp_plain rfl rfl ?_
                unfold Oper.wp
                go_simp
                exact ⟨_, rfl, Below.refl _ _, CL _ (Below.refl _ _), rfl⟩
              | 10, _, ho =>
                cases ho
                have d8 : ac.tmps.getD 36 undef = .slice (some ⟨gn, on, none⟩) nn cn := hL.new 8 _ 36 rfl (he ⟨8, .data⟩ (by simp) rfl) rfl
                have d9 : ac.tmps.getD 37 undef = .int .i64 j := hL.new 9 _ 37 rfl (he ⟨9, .data⟩ (by simp) rfl) rfl
                refine wpOp_plain rfl rfl ?_
                unfold Oper.wp
                go_simp
                exact ⟨_, rfl, Below.refl _ _, CL _ (Below.refl _ _), rfl⟩
              | 11, _, ho =>
                cases ho
                have d10 : ac.tmps.getD 38 undef = .pointer (some ⟨gn, on + j, none⟩) := hL.new 10 _ 38 rfl (he ⟨10, .data⟩ (by simp) rfl) rfl
                refine wpOp_plain rfl rfl ?_
                unfold Oper.wp
                go_simp
                exact ⟨_, rfl, Below.refl _ _, CL _ (Below.refl _ _), rfl⟩
              | 12, _, ho =>
                cases ho
                have d6 : ac.tmps.getD 34 undef = .int .i64 (100 * f) := hL.new 6 _ 34 rfl (he ⟨6, .data⟩ (by simp) rfl) rfl
                have d11 : ac.tmps.getD 39 undef = .int .i64 nu := hL.new 11 _ 39 rfl (he ⟨11, .data⟩ (by simp) rfl) rfl
                obtain ⟨hw0, hw1⟩ := HWW.out
                refine wpOp_plain rfl rfl ?_
                unfold Oper.wp
                go_simp
                exact ⟨_, rfl, Below.refl _ _, CL _ (Below.refl _ _), rfl⟩
              | 13, _, ho =>
                cases ho
                have d12 : ac.tmps.getD 40 undef = .int .i64 xn := hL.new 12 _ 40 rfl (he ⟨12, .data⟩ (by simp) rfl) rfl
                obtain ⟨hz1, hz0⟩ := HZZ.out
                refine wpOp_plain rfl rfl ?_
                unfold Oper.wp
                go_simp
                exact ⟨_, rfl, Below.refl _ _, CL _ (Below.refl _ _), rfl⟩
              | 14, hA, _ => cases hA
              | n + 15, hA, _ => simp at hA
            case rest9 =>
              intro ac W9 hL
              have e28 : ac.tmps.getD 28 undef = .pointer (some ⟨w.heap.size, 2, none⟩) := hL.new 0 _ 28 rfl rfl rfl
              have e29 : ac.tmps.getD 29 undef = .slice (some ⟨g', off, none⟩) nr cr := hL.new 1 _ 29 rfl rfl rfl
              have e30 : ac.tmps.getD 30 undef = .int .i64 k := hL.new 2 _ 30 rfl rfl rfl
              have e31 : ac.tmps.getD 31 undef = .pointer (some ⟨g', off + k * 2, none⟩) := hL.new 3 _ 31 rfl rfl rfl
              have e32 : ac.tmps.getD 32 undef = .pointer (some ⟨g', off + k * 2 + 1, none⟩) := hL.new 4 _ 32 rfl rfl rfl
              have e33 : ac.tmps.getD 33 undef = .int .i64 f := hL.new 5 _ 33 rfl rfl rfl
              have e34 : ac.tmps.getD 34 undef = .int .i64 (100 * f) := hL.new 6 _ 34 rfl rfl rfl
              have e35 : ac.tmps.getD 35 undef = .pointer (some ⟨w.heap.size, 4, none⟩) := hL.new 7 _ 35 rfl rfl rfl
              have e36 : ac.tmps.getD 36 undef = .slice (some ⟨gn, on, none⟩) nn cn := hL.new 8 _ 36 rfl rfl rfl
              have e37 : ac.tmps.getD 37 undef = .int .i64 j := hL.new 9 _ 37 rfl rfl rfl
              have e38 : ac.tmps.getD 38 undef = .pointer (some ⟨gn, on + j, none⟩) := hL.new 10 _ 38 rfl rfl rfl
              have e39 : ac.tmps.getD 39 undef = .int .i64 nu := hL.new 11 _ 39 rfl rfl rfl
              have e40 : ac.tmps.getD 40 undef = .int .i64 xn := hL.new 12 _ 40 rfl rfl rfl
              have e41 : ac.tmps.getD 41 undef = .pointer (some ⟨gs, xn, none⟩) := hL.new 13 _ 41 rfl rfl rfl
              have es := hL.sets [28, 29, 30, 31, 32, 33, 34, 35, 36, 37, 38, 39, 40, 41] (by decide +kernel)
              rw [List.foldl_cons, List.foldl_cons, List.foldl_cons, List.foldl_cons, List.foldl_cons, List.foldl_cons, List.foldl_cons, List.foldl_cons, List.foldl_cons, List.foldl_cons, List.foldl_cons, List.foldl_cons, List.foldl_cons, List.foldl_cons, List.foldl_nil, e28, e29, e30, e31, e32, e33, e34, e35, e36, e37, e38, e39, e40, e41] at es
              have BN : Below wr.heap.size wr W9 := hL.cls
              rw [es]
              clear es hL e28 e29 e30 e31 e32 e33 e34 e35 e36 e37 e38 e39 e40 e41
              simp only [List.setIfInBounds_toArray, List.set_cons_zero, List.set_cons_succ]
              obtain ⟨se1, se2⟩ := (SE.out.below BN) xn hx5
              have HSE : Aside (SeenB gs (W9.setCell ⟨gs, xn, none⟩ (.bool true)) (seenT b k (j + 1) f)) := ((SE.out.below BN).set xn hx5).ext HSI.out
              have B9 := BJ.out.trans (BN.mono BJ.out.size)
              refine wpAny_one (i := 14) (by decide +kernel) rfl rfl ?_
              unfold Oper.wp
              go_simp
              refine wpAny_done (by decide +kernel) ?_ _
              go_wp2_with fail
              go_roundg (nn - (j + 1))
              case measure => omega
              case rel => exact ⟨j + 1, by omega, by omega, by go_num, HSE, B9.setCell (p := ⟨gs, xn, none⟩) HGS.out _⟩
        · have hje : nn = j := by omega
          subst hje
          have hljz : ¬ (nn : Int) < (nn : Int) := by omega
          have SE2 : Aside (SeenB gs wr (seenT b (k + 1) 0 0)) := SE.out.ext (fun i _ => HE.out i)
          go_wp2_with fail
          go_roundg (nr - (k + 1))
          case measure => omega
          case rel => exact ⟨k + 1, by omega, by omega, by go_num, SE2, BJ⟩
    · have hke : nr = k := by omega
      subst hke
      have hltz : ¬ (nr : Int) < (nr : Int) := by omega
      have hse := SE.out
      have hx := rSorted_any (boolsV (seenT b nr 0 0)) (seenT b nr 0 0) wr (boolsV_size _) (boolsV_get _)
      rw [← HR.out 0] at hx
      unfold SlV at hx
      go_wp2_with (first | (refine wpList_load_bools hse rfl _ rfl rfl ?_) | (go_at_call 48; (with_reducible refine hx.mono ?_); rintro e w1 ⟨u, rfl, hsl, hb1⟩))
      go_ret
      exact ⟨_, rfl, hsl, B0.out.trans ((BK.out.trans (hb1.mono BK.out.size)).mono B0.out.size)⟩
end Go.Proofs.YtgceffpkhmjmkaaGreat

namespace Go.Proofs.YtgceffpkhmjmkaaGreat
open Go.RowKit Go.Shelf

theorem wErr_zero {n : Nat} {worn : List Int} {ws : List (Value × List Int)} (h1 : worn.length = n) (h2 : ∀ x ∈ ws, x.2.length = n) (h3 : ∀ x ∈ worn, 0 ≤ x ∧ x ≤ 1000000000) (h4 : ∀ x ∈ ws, ∀ y ∈ x.2, 0 ≤ y ∧ y ≤ 1000000) : wErr (n : Int) worn ws = 0 := by
  unfold wErr
  rw [if_neg, if_neg]
  · simp only [Bool.or_eq_true, not_or, Bool.not_eq_true', Bool.not_eq_false, List.all_eq_true, List.any_eq_true, inb_iff, not_exists, not_and]
    refine ⟨h3, fun x hx => ?_⟩
    exact h4 x hx
  · simp only [Bool.or_eq_true, not_or, bne_iff_ne, ne_eq, Decidable.not_not, List.any_eq_true, not_exists, not_and]
    exact ⟨by omega, fun x hx => by have := h2 x hx; omega⟩
theorem dig_one (S k : Nat) (hk : k < S) : dig S 1 k = [k] := by
  show dig S 0 (k / S) ++ [k % S] = [k]
  rw [Nat.mod_eq_of_lt hk]; rfl
theorem best_lt (worn : List Int) (ws : List (List Int)) (hn : 0 < worn.length) : bestP worn ws < worn.length ^ ws.length ∧ ∀ j, j < worn.length ^ ws.length → planM worn ws ≤ Mw worn ws j := by
  obtain ⟨h1, h2, _⟩ := bestI_spec (Mw worn ws) (worn.length ^ ws.length) (Nat.pow_pos hn)
  exact ⟨h1, h2⟩
/-- The wear after some weeks with the best turns. -/
def wseq (worn week : List Int) : Nat → List Int
  | 0 => worn
  | p + 1 => endw (wseq worn week p) [week] (dig (wseq worn week p).length 1 (bestP (wseq worn week p) [week]))
/-- The first week from p on that passes the limit. -/
def lastF (M : Nat → Int) (limit : Int) : Nat → Nat → Int
  | 0, _ => -1
  | f + 1, p => if limit < M p then (p : Int) else lastF M limit f (p + 1)
def lastV (worn week : List Int) (limit : Int) : Int := lastF (fun p => mx (wseq worn week p)) limit 501 0

theorem lastF_spec (M : Nat → Int) (limit : Int) : ∀ f p, (lastF M limit f p = -1 ∧ ∀ q, p ≤ q → q < p + f → M q ≤ limit) ∨ (∃ q : Nat, lastF M limit f p = (q : Int) ∧ p ≤ q ∧ q < p + f ∧ limit < M q ∧ ∀ j, p ≤ j → j < q → M j ≤ limit) := by
  intro f
  induction f with
  | zero => intro p; exact .inl ⟨rfl, fun q h1 h2 => by omega⟩
  | succ f ih =>
    intro p
    unfold lastF
    split
    · rename_i h
      exact .inr ⟨p, rfl, Nat.le_refl _, by omega, h, fun j h1 h2 => by omega⟩
    · rename_i h
      rcases ih (p + 1) with ⟨h1, h2⟩ | ⟨q, h1, h2, h3, h4, h5⟩
      · refine .inl ⟨h1, fun q hq1 hq2 => ?_⟩
        by_cases e : q = p
        · subst e; omega
        · exact h2 q (by omega) (by omega)
      · refine .inr ⟨q, h1, by omega, by omega, h4, fun j hj1 hj2 => ?_⟩
        by_cases e : j = p
        · subst e; omega
        · exact h5 j (by omega) hj2
theorem wseq_one (worn week : List Int) (p n : Nat) (h : (wseq worn week p).length = n) (hn : 0 < n) : ∃ K : Nat, K < n ∧ bestK (wseq worn week p) week = (K : Int) ∧ wseq worn week (p + 1) = aft (wseq worn week p) week K := by
  obtain ⟨h1, _⟩ := best_lt (wseq worn week p) [week] (by omega)
  simp only [List.length_cons, List.length_nil, Nat.zero_add, Nat.pow_one] at h1
  have hd := dig_one _ _ h1
  refine ⟨bestP (wseq worn week p) [week], by omega, ?_, ?_⟩
  · unfold bestK digI; rw [hd]; rfl
  · show endw _ _ _ = _
    rw [hd]; rfl
theorem wseq_bd {worn week : List Int} {n : Nat} (hn : 0 < n) (h1 : worn.length = n) (h2 : week.length = n) (h3 : ∀ x ∈ worn, 0 ≤ x ∧ x ≤ 1000000000) (h4 : ∀ x ∈ week, 0 ≤ x ∧ x ≤ 1000000) : ∀ p : Nat, (wseq worn week p).length = n ∧ ∀ x ∈ wseq worn week p, 0 ≤ x ∧ x ≤ 1000000000 + 1000000 * (p : Int) := by
  intro p
  induction p with
  | zero => exact ⟨h1, fun x hx => by have := h3 x hx; omega⟩
  | succ p ih =>
    obtain ⟨K, hK, _, e⟩ := wseq_one worn week p n ih.1 hn
    rw [e]
    refine ⟨(aft_length _ _ _).trans h2, fun x hx => ?_⟩
    have := aft_bd (1000000000 + 1000000 * (p : Int)) 1000000 (by omega) (by omega) _ week K ih.2 h4 x hx
    omega
set_option maxRecDepth 100000 in
set_option maxHeartbeats 4000000 in
theorem Last_ok (vb v vk : Value) (b : Brd) (worn week : List Int) (limit : Int) (w : World) (h : BrdAt w vb b) (hw : Sl w 1 eI v worn) (hk : Sl w 1 eI vk week)
    (hc : chk b = 0) (h1 : worn.length = b.nums.length) (h2 : week.length = b.nums.length) (h3 : ∀ x ∈ worn, 0 ≤ x ∧ x ≤ 1000000000) (h4 : ∀ x ∈ week, 0 ≤ x ∧ x ≤ 1000000) (hl0 : 0 ≤ limit) (hl1 : limit ≤ 1000000000) :
    Calls Tryz.prog 36 #[vb, v, vk, .int .i64 limit] w (Ret (.tuple #[.int .i64 (lastV worn week limit), .int .i64 0]) w) := by
  have g := good_of_chk hc
  have hn0 : 0 < b.nums.length := by rw [g.same]; exact List.length_pos_iff.2 g.lines
  have gl := g.len
  have he : ∀ u : Value, wErr b.nums.length worn [(u, week)] = 0 := fun u => wErr_zero h1 (fun z hz => by simp at hz; subst hz; exact h2) (fun z hz => by have := h3 z hz; omega) (fun z hz y hy => by simp at hz; subst hz; have := h4 y hy; omega)
  have x1 := fun W (hW : Below w.heap.size w W) => check_any vb b W (h.below hW)
  have x2 := fun W (hW : Below w.heap.size w W) (vs : Value) (hv : Sl W 1 eR vs [(vk, week)]) => wearError_any (b.nums.length : Int) v worn vs [(vk, week)] W (hw.below hW) hv (fun x hm => by simp at hm; subst hm; exact hk.below hW)
  rw [he] at x2
  rw [hc] at x1
  have hin : ([limit].all (inb 0 1000000000)) = true := by unfold inb; simp; omega
  have x3 := fun W (vs : Value) (hv : Sl W 1 eI vs [limit]) => within_any 0 1000000000 vs [limit] W hv
  rw [hin] at x3
  have HB := wseq_bd hn0 h1 h2 h3 h4
  have X4 : Aside (∀ (p : Nat) (W : World) (u : Value), Sl W 1 eI u (wseq worn week p) → Calls Tryz.prog 61 #[u] W (Ret (.int .i64 (mx (wseq worn week p))) W)) := fun p W u hu => max_any u _ W hu (by intro e; have := (HB p).1; rw [e] at this; simp at this; omega)
  have X5 : Aside (∀ (p : Nat) (W : World) (u vs : Value), p ≤ 501 → Below w.heap.size w W → Sl W 1 eI u (wseq worn week p) → Sl W 1 eR vs [(vk, week)] → Calls Tryz.prog 62 #[u, vs] W (fun e w' => ∃ v1 v2, e = .returned (.tuple #[v1, v2]) ∧ Sl w' 1 eI v2 (wseq worn week (p + 1)) ∧ Below W.heap.size W w')) := by
    intro p W u vs hp hW hu hv
    obtain ⟨b1, b2⟩ := HB p
    have x := evenest_any u vs (wseq worn week p) [(vk, week)] W hu hv (fun x hm => by simp at hm; subst hm; exact hk.below hW) (by intro e; rw [e] at b1; simp at b1; omega) (by omega) (by simp) (by simp) (fun x hm => by simp at hm; subst hm; show week.length = (wseq worn week p).length; omega) (fun x hx => by have := b2 x hx; omega) (fun x hm y hy => by simp at hm; subst hm; have := h4 y hy; omega)
    unfold RetEven at x
    refine x.mono ?_
    rintro e w' ⟨_, _, _, _, rfl, _, hs, hB⟩
    exact ⟨_, _, rfl, hs, hB⟩
  have HW : Aside (Sl w 1 eI v (wseq worn week 0)) := hw
  unfold lastV
  obtain ⟨M, hM⟩ : ∃ M : Nat → Int, (fun p => mx (wseq worn week p)) = M := ⟨_, rfl⟩
  have HMM : Aside (∀ p, mx (wseq worn week p) = M p) := fun p => by rw [← hM]
  rw [hM]
  have hkk : ∃ a c, vk = .slice a week.length c := by obtain ⟨a, c, e, _⟩ := hk; exact ⟨a, c, e⟩
  clear hM he hin HB h3 h4 hk
  obtain ⟨vr, vl, vn, rfl, hr, hl, hn⟩ := h
  obtain ⟨ar, cr, rfl, lr, _⟩ := hr
  obtain ⟨al, cl, rfl, ll, _⟩ := hl
  obtain ⟨an, cn, rfl, ln, _⟩ := hn
  obtain ⟨a, c, rfl, l1, _⟩ := hw
  obtain ⟨a2, c2, rfl⟩ := hkk
  rw [h1]
  rw [h1] at HW
  rw [h2] at X5 x2 ⊢
  rw [h1] at x2
  clear h1 h2 g hc
  generalize b.rings.length = lenr at *
  generalize b.lines.length = lenl at *
  generalize b.nums.length = lenn at *
  go_enter Tryz.func36, Tryz.ntmps36
  go_wp2_with (first | (go_at_call 10; (with_reducible refine (x1 _ ?hh).mono ?_); (case hh => (repeat' (first | exact Below.refl _ _ | assumption | (with_reducible refine Below.drew ?_) | (with_reducible refine Below.setCell ?_ (by (first | (simp; done) | (simp; omega))) _) | (with_reducible refine below_drewN' ?_ _) | (refine Below.alloc ?_ (by (try simp only [World.size_alloc, World.size_drew, World.size_setCell]); omega) _) | (refine Below.trans ?_ (Below.mono (by assumption) (by (try simp only [World.size_alloc, World.size_drew, World.size_setCell]); omega)))))); rintro e w1 ⟨rfl, hb1⟩; (obtain ⟨hc1, hf1⟩ := bcell hb1; have z1 := hb1.size; (try simp only [World.size_alloc, World.size_drew, World.size_setCell] at z1); (try have q1a : w.heap.size < w1.heap.size := by omega); (try have q1b : w.heap.size + 1 < w1.heap.size := by omega); (try have q1c : w.heap.size + 1 + 1 < w1.heap.size := by omega); (try have q1d : w.heap.size + 1 + 1 + 1 < w1.heap.size := by omega); (try have q1e : wr.heap.size < w1.heap.size := by omega); (try have q1f : wr.heap.size + 1 < w1.heap.size := by omega))) | (go_at_call 59; (with_reducible refine (x2 _ ?hh _ (sl_week _ _ rfl _ _ _)).mono ?_); (case hh => (repeat' (first | exact Below.refl _ _ | assumption | (with_reducible refine Below.drew ?_) | (with_reducible refine Below.setCell ?_ (by (first | (simp; done) | (simp; omega))) _) | (with_reducible refine below_drewN' ?_ _) | (refine Below.alloc ?_ (by (try simp only [World.size_alloc, World.size_drew, World.size_setCell]); omega) _) | (refine Below.trans ?_ (Below.mono (by assumption) (by (try simp only [World.size_alloc, World.size_drew, World.size_setCell]); omega)))))); rintro e w2 ⟨rfl, hb2⟩; (obtain ⟨hc2, hf2⟩ := bcell hb2; have z2 := hb2.size; (try simp only [World.size_alloc, World.size_drew, World.size_setCell] at z2); (try have q2a : w.heap.size < w2.heap.size := by omega); (try have q2b : w.heap.size + 1 < w2.heap.size := by omega); (try have q2c : w.heap.size + 1 + 1 < w2.heap.size := by omega); (try have q2d : w.heap.size + 1 + 1 + 1 < w2.heap.size := by omega); (try have q2e : wr.heap.size < w2.heap.size := by omega); (try have q2f : wr.heap.size + 1 < w2.heap.size := by omega); (try have q2g : w1.heap.size < w2.heap.size := by omega); (try have q2h : w1.heap.size + 1 < w2.heap.size := by omega))) | (go_at_call 55; (with_reducible refine (x3 _ _ (sl_one _ _ rfl _ _)).mono ?_); rintro e w3 ⟨rfl, hb3⟩; (obtain ⟨hc3, hf3⟩ := bcell hb3; have z3 := hb3.size; (try simp only [World.size_alloc, World.size_drew, World.size_setCell] at z3); (try have q3a : w.heap.size < w3.heap.size := by omega); (try have q3b : w.heap.size + 1 < w3.heap.size := by omega); (try have q3c : w.heap.size + 1 + 1 < w3.heap.size := by omega); (try have q3d : w.heap.size + 1 + 1 + 1 < w3.heap.size := by omega); (try have q3e : wr.heap.size < w3.heap.size := by omega); (try have q3f : wr.heap.size + 1 < w3.heap.size := by omega); (try have q3g : w2.heap.size < w3.heap.size := by omega); (try have q3h : w2.heap.size + 1 < w3.heap.size := by omega))))
  have BW : Below w.heap.size w w3 := by (repeat' (first | exact Below.refl _ _ | assumption | (with_reducible refine Below.drew ?_) | (with_reducible refine Below.setCell ?_ (by (first | (simp; done) | (simp; omega))) _) | (with_reducible refine below_drewN' ?_ _) | (refine Below.alloc ?_ (by (try simp only [World.size_alloc, World.size_drew, World.size_setCell]); omega) _) | (refine Below.trans ?_ (Below.mono (by assumption) (by (try simp only [World.size_alloc, World.size_drew, World.size_setCell]); omega)))))
  clear hc1 hf1 hc2 hf2 hc3 hf3
  go_loopg [1, 32] 501 (fun gg s1 iv wr => ∃ (p : Nat) (u : Value), p ≤ 501 ∧ 501 - p ≤ gg ∧ iv = .int .i64 p ∧ u = s1 ∧ Aside (Sl wr 1 eI u (wseq worn week p)) ∧ Aside (lastF M limit 501 0 = lastF M limit (501 - p) p) ∧ Aside (Below w.heap.size w wr))
  case atStart => exact ⟨0, _, by omega, by omega, rfl, rfl, Sl.below HW.out BW, rfl, BW⟩
  case round =>
    obtain ⟨p, u, hp, hg, rfl, rfl, HU, HF, BK⟩ := hrel
    by_cases hlt : p < 501
    · have hltz : (p : Int) < 501 := by omega
      have x4 := X4.out p wr u HU.out
      rw [HMM.out] at x4
      have HF2 : Aside (lastF M limit (501 - p) p = if limit < M p then (p : Int) else lastF M limit (501 - (p + 1)) (p + 1)) := by
        show _ = _
        rw [show 501 - p = (501 - (p + 1)) + 1 by omega]; rfl
      obtain ⟨mp, hmp⟩ : ∃ mp, M p = mp := ⟨_, rfl⟩
      rw [hmp] at x4 HF2
      clear hmp
      by_cases hgt : limit < mp
      · rw [HF.out, HF2.out, if_pos hgt]
        go_wp2_with (go_at_call 61; (with_reducible refine x4.mono ?_); rintro e w5 ⟨rfl, hb5⟩)
        go_ret2
        exact ⟨rfl, BK.out.trans (hb5.mono BK.out.size)⟩
      · go_wp2_with (first | (go_at_call 61; (with_reducible refine x4.mono ?_); rintro e w5 ⟨rfl, hb5⟩) | (go_at_call 62; (with_reducible refine (X5.out p _ _ _ (by omega) ?hh (Sl.below (Sl.below HU.out hb5) ((Below.refl _ _).alloc (Nat.le_refl _) _)) (sl_week _ _ rfl _ _ _)).mono ?_); (case hh => exact (BK.out.trans (hb5.mono BK.out.size)).alloc (Nat.le_trans BK.out.size hb5.size) _); rintro e w6 ⟨v1, v2, rfl, hs6, hb6⟩; have HS6 : Aside _ := hs6; clear hs6))
        go_roundg (501 - (p + 1))
        case measure => omega
        case rel =>
          have z1 := hb5.size
          have z2 := BK.out.size
          refine ⟨p + 1, _, by omega, by omega, by go_num, rfl, HS6.out, by show _ = _; rw [HF.out, HF2.out, if_neg (by omega)], ((BK.out.trans (hb5.mono z2)).alloc (by omega) _).trans (hb6.mono ?_)⟩
          simp; omega
    · have hpe : p = 501 := by omega
      subst hpe
      have HF3 : Aside (lastF M limit 501 0 = -1) := HF.out
      clear HF
      go_wp2_with fail
      go_ret2
      rw [HF3.out]
      exact ⟨rfl, BK.out⟩

set_option maxRecDepth 100000 in
set_option maxHeartbeats 4000000 in
theorem Last_chk (vb v vk : Value) (b : Brd) (worn week : List Int) (k : Int) (w : World) (h : BrdAt w vb b) (hw : Sl w 1 eI v worn) (hk : Sl w 1 eI vk week) (hc : ¬ chk b = 0) :
    Calls Tryz.prog 36 #[vb, v, vk, .int .i64 k] w (Ret (.tuple #[.int .i64 0, .int .i64 (chk b)]) w) := by
  have x1 := fun W (hW : Below w.heap.size w W) => check_any vb b W (h.below hW)
  obtain ⟨vr, vl, vn, rfl, hr, hl, hn⟩ := h
  obtain ⟨ar, cr, rfl, lr, _⟩ := hr
  obtain ⟨al, cl, rfl, ll, _⟩ := hl
  obtain ⟨an, cn, rfl, ln, _⟩ := hn
  obtain ⟨a, c, rfl, l1, _⟩ := hw
  obtain ⟨a2, c2, rfl, l2, _⟩ := hk
  generalize chk b = c at *
  generalize b.rings.length = lenr at *
  generalize b.lines.length = lenl at *
  generalize b.nums.length = lenn at *
  generalize worn.length = lw at *
  generalize week.length = lk at *
  go_enter Tryz.func36, Tryz.ntmps36
  go_wp2_with (go_at_call 10; (with_reducible refine (x1 _ ?hh).mono ?_); (case hh => (repeat' (first | exact Below.refl _ _ | assumption | (with_reducible refine Below.drew ?_) | (with_reducible refine Below.setCell ?_ (by (first | (simp; done) | (simp; omega))) _) | (with_reducible refine below_drewN' ?_ _) | (refine Below.alloc ?_ (by (try simp only [World.size_alloc, World.size_drew, World.size_setCell]); omega) _) | (refine Below.trans ?_ (Below.mono (by assumption) (by (try simp only [World.size_alloc, World.size_drew, World.size_setCell]); omega)))))); rintro e w1 ⟨rfl, hb1⟩; (obtain ⟨hc1, hf1⟩ := bcell hb1; have z1 := hb1.size; (try simp only [World.size_alloc, World.size_drew, World.size_setCell] at z1); (try have q1a : w.heap.size < w1.heap.size := by omega); (try have q1b : w.heap.size + 1 < w1.heap.size := by omega); (try have q1c : w.heap.size + 1 + 1 < w1.heap.size := by omega); (try have q1d : w.heap.size + 1 + 1 + 1 < w1.heap.size := by omega); (try have q1e : wr.heap.size < w1.heap.size := by omega); (try have q1f : wr.heap.size + 1 < w1.heap.size := by omega)))
  go_ret2
  exact ⟨rfl, by (repeat' (first | exact Below.refl _ _ | assumption | (with_reducible refine Below.drew ?_) | (with_reducible refine Below.setCell ?_ (by (first | (simp; done) | (simp; omega))) _) | (with_reducible refine below_drewN' ?_ _) | (refine Below.alloc ?_ (by (try simp only [World.size_alloc, World.size_drew, World.size_setCell]); omega) _) | (refine Below.trans ?_ (Below.mono (by assumption) (by (try simp only [World.size_alloc, World.size_drew, World.size_setCell]); omega)))))⟩

set_option maxRecDepth 100000 in
set_option maxHeartbeats 4000000 in
theorem Last_form (vb v vk : Value) (b : Brd) (worn week : List Int) (k : Int) (w : World) (h : BrdAt w vb b) (hw : Sl w 1 eI v worn) (hk : Sl w 1 eI vk week) (hc : chk b = 0) (E : Int) (he : frm b.nums.length worn [week] = E) (hE : ¬ E = 0) :
    Calls Tryz.prog 36 #[vb, v, vk, .int .i64 k] w (Ret (.tuple #[.int .i64 0, .int .i64 (E)]) w) := by
  have g := good_of_chk hc
  have gl := g.len
  have x1 := fun W (hW : Below w.heap.size w W) => check_any vb b W (h.below hW)
  have x2 := fun W (hW : Below w.heap.size w W) (vs : Value) (hv : Sl W 1 eR vs [(vk, week)]) => wearError_any (b.nums.length : Int) v worn vs [(vk, week)] W (hw.below hW) hv (fun x hm => by simp at hm; subst hm; exact hk.below hW)
  simp only [wErr_frm, List.map_cons, List.map_nil] at x2
  rw [hc] at x1
  rw [he] at x2
  obtain ⟨vr, vl, vn, rfl, hr, hl, hn⟩ := h
  obtain ⟨ar, cr, rfl, lr, _⟩ := hr
  obtain ⟨al, cl, rfl, ll, _⟩ := hl
  obtain ⟨an, cn, rfl, ln, _⟩ := hn
  obtain ⟨a, c, rfl, l1, _⟩ := hw
  obtain ⟨a2, c2, rfl, l2, _⟩ := hk
  generalize b.rings.length = lenr at *
  generalize b.lines.length = lenl at *
  generalize b.nums.length = lenn at *
  generalize worn.length = lw at *
  generalize week.length = lk at *
  clear he g gl hc
  go_enter Tryz.func36, Tryz.ntmps36
  go_wp2_with (first | (go_at_call 10; (with_reducible refine (x1 _ ?hh).mono ?_); (case hh => (repeat' (first | exact Below.refl _ _ | assumption | (with_reducible refine Below.drew ?_) | (with_reducible refine Below.setCell ?_ (by (first | (simp; done) | (simp; omega))) _) | (with_reducible refine below_drewN' ?_ _) | (refine Below.alloc ?_ (by (try simp only [World.size_alloc, World.size_drew, World.size_setCell]); omega) _) | (refine Below.trans ?_ (Below.mono (by assumption) (by (try simp only [World.size_alloc, World.size_drew, World.size_setCell]); omega)))))); rintro e w1 ⟨rfl, hb1⟩; (obtain ⟨hc1, hf1⟩ := bcell hb1; have z1 := hb1.size; (try simp only [World.size_alloc, World.size_drew, World.size_setCell] at z1); (try have q1a : w.heap.size < w1.heap.size := by omega); (try have q1b : w.heap.size + 1 < w1.heap.size := by omega); (try have q1c : w.heap.size + 1 + 1 < w1.heap.size := by omega); (try have q1d : w.heap.size + 1 + 1 + 1 < w1.heap.size := by omega); (try have q1e : wr.heap.size < w1.heap.size := by omega); (try have q1f : wr.heap.size + 1 < w1.heap.size := by omega))) | (go_at_call 59; (with_reducible refine (x2 _ ?hh _ (sl_week _ _ rfl _ _ _)).mono ?_); (case hh => (repeat' (first | exact Below.refl _ _ | assumption | (with_reducible refine Below.drew ?_) | (with_reducible refine Below.setCell ?_ (by (first | (simp; done) | (simp; omega))) _) | (with_reducible refine below_drewN' ?_ _) | (refine Below.alloc ?_ (by (try simp only [World.size_alloc, World.size_drew, World.size_setCell]); omega) _) | (refine Below.trans ?_ (Below.mono (by assumption) (by (try simp only [World.size_alloc, World.size_drew, World.size_setCell]); omega)))))); rintro e w2 ⟨rfl, hb2⟩; (obtain ⟨hc2, hf2⟩ := bcell hb2; have z2 := hb2.size; (try simp only [World.size_alloc, World.size_drew, World.size_setCell] at z2); (try have q2a : w.heap.size < w2.heap.size := by omega); (try have q2b : w.heap.size + 1 < w2.heap.size := by omega); (try have q2c : w.heap.size + 1 + 1 < w2.heap.size := by omega); (try have q2d : w.heap.size + 1 + 1 + 1 < w2.heap.size := by omega); (try have q2e : wr.heap.size < w2.heap.size := by omega); (try have q2f : wr.heap.size + 1 < w2.heap.size := by omega); (try have q2g : w1.heap.size < w2.heap.size := by omega); (try have q2h : w1.heap.size + 1 < w2.heap.size := by omega))))
  go_ret2
  exact ⟨rfl, by (repeat' (first | exact Below.refl _ _ | assumption | (with_reducible refine Below.drew ?_) | (with_reducible refine Below.setCell ?_ (by (first | (simp; done) | (simp; omega))) _) | (with_reducible refine below_drewN' ?_ _) | (refine Below.alloc ?_ (by (try simp only [World.size_alloc, World.size_drew, World.size_setCell]); omega) _) | (refine Below.trans ?_ (Below.mono (by assumption) (by (try simp only [World.size_alloc, World.size_drew, World.size_setCell]); omega)))))⟩

set_option maxRecDepth 100000 in
set_option maxHeartbeats 4000000 in
theorem Last_range (vb v vk : Value) (b : Brd) (worn week : List Int) (k : Int) (w : World) (h : BrdAt w vb b) (hw : Sl w 1 eI v worn) (hk : Sl w 1 eI vk week) (hc : chk b = 0) (he : frm b.nums.length worn [week] = 0) (hkn : ¬ (0 ≤ k ∧ k ≤ 1000000000)) :
    Calls Tryz.prog 36 #[vb, v, vk, .int .i64 k] w (Ret (.tuple #[.int .i64 0, .int .i64 (3)]) w) := by
  have g := good_of_chk hc
  have gl := g.len
  have he' : wErr b.nums.length worn [(vk, week)] = 0 := (wErr_frm _ _ _).trans he
  obtain ⟨e1, e2, e3, e4⟩ := wErr_ok he'
  have x1 := fun W (hW : Below w.heap.size w W) => check_any vb b W (h.below hW)
  have x2 := fun W (hW : Below w.heap.size w W) (vs : Value) (hv : Sl W 1 eR vs [(vk, week)]) => wearError_any (b.nums.length : Int) v worn vs [(vk, week)] W (hw.below hW) hv (fun x hm => by simp at hm; subst hm; exact hk.below hW)
  have x3 := fun W (hW : Below w.heap.size w W) (vs : Value) (hv : Sl W 1 eI vs [k]) => within_any 0 1000000000 vs [k] W hv
  have hin : ([k].all (inb 0 1000000000)) = false := by unfold inb; simp; omega
  rw [hin] at x3
  rw [hc] at x1
  rw [he'] at x2
  obtain ⟨vr, vl, vn, rfl, hr, hl, hn⟩ := h
  obtain ⟨ar, cr, rfl, lr, _⟩ := hr
  obtain ⟨al, cl, rfl, ll, _⟩ := hl
  obtain ⟨an, cn, rfl, ln, _⟩ := hn
  obtain ⟨a, c, rfl, l1, _⟩ := hw
  obtain ⟨a2, c2, rfl, l2, _⟩ := hk
  generalize b.rings.length = lenr at *
  generalize b.lines.length = lenl at *
  generalize b.nums.length = lenn at *
  generalize worn.length = lw at *
  generalize week.length = lk at *
  clear he he' e1 e2 e3 e4 g gl hc hin hkn
  go_enter Tryz.func36, Tryz.ntmps36
  go_wp2_with (first | (go_at_call 10; (with_reducible refine (x1 _ ?hh).mono ?_); (case hh => (repeat' (first | exact Below.refl _ _ | assumption | (with_reducible refine Below.drew ?_) | (with_reducible refine Below.setCell ?_ (by (first | (simp; done) | (simp; omega))) _) | (with_reducible refine below_drewN' ?_ _) | (refine Below.alloc ?_ (by (try simp only [World.size_alloc, World.size_drew, World.size_setCell]); omega) _) | (refine Below.trans ?_ (Below.mono (by assumption) (by (try simp only [World.size_alloc, World.size_drew, World.size_setCell]); omega)))))); rintro e w1 ⟨rfl, hb1⟩; (obtain ⟨hc1, hf1⟩ := bcell hb1; have z1 := hb1.size; (try simp only [World.size_alloc, World.size_drew, World.size_setCell] at z1); (try have q1a : w.heap.size < w1.heap.size := by omega); (try have q1b : w.heap.size + 1 < w1.heap.size := by omega); (try have q1c : w.heap.size + 1 + 1 < w1.heap.size := by omega); (try have q1d : w.heap.size + 1 + 1 + 1 < w1.heap.size := by omega); (try have q1e : wr.heap.size < w1.heap.size := by omega); (try have q1f : wr.heap.size + 1 < w1.heap.size := by omega))) | (go_at_call 59; (with_reducible refine (x2 _ ?hh _ (sl_week _ _ rfl _ _ _)).mono ?_); (case hh => (repeat' (first | exact Below.refl _ _ | assumption | (with_reducible refine Below.drew ?_) | (with_reducible refine Below.setCell ?_ (by (first | (simp; done) | (simp; omega))) _) | (with_reducible refine below_drewN' ?_ _) | (refine Below.alloc ?_ (by (try simp only [World.size_alloc, World.size_drew, World.size_setCell]); omega) _) | (refine Below.trans ?_ (Below.mono (by assumption) (by (try simp only [World.size_alloc, World.size_drew, World.size_setCell]); omega)))))); rintro e w2 ⟨rfl, hb2⟩; (obtain ⟨hc2, hf2⟩ := bcell hb2; have z2 := hb2.size; (try simp only [World.size_alloc, World.size_drew, World.size_setCell] at z2); (try have q2a : w.heap.size < w2.heap.size := by omega); (try have q2b : w.heap.size + 1 < w2.heap.size := by omega); (try have q2c : w.heap.size + 1 + 1 < w2.heap.size := by omega); (try have q2d : w.heap.size + 1 + 1 + 1 < w2.heap.size := by omega); (try have q2e : wr.heap.size < w2.heap.size := by omega); (try have q2f : wr.heap.size + 1 < w2.heap.size := by omega); (try have q2g : w1.heap.size < w2.heap.size := by omega); (try have q2h : w1.heap.size + 1 < w2.heap.size := by omega))) | (go_at_call 55; (with_reducible refine (x3 _ ?hh _ (sl_one _ _ rfl _ _)).mono ?_); (case hh => (repeat' (first | exact Below.refl _ _ | assumption | (with_reducible refine Below.drew ?_) | (with_reducible refine Below.setCell ?_ (by (first | (simp; done) | (simp; omega))) _) | (with_reducible refine below_drewN' ?_ _) | (refine Below.alloc ?_ (by (try simp only [World.size_alloc, World.size_drew, World.size_setCell]); omega) _) | (refine Below.trans ?_ (Below.mono (by assumption) (by (try simp only [World.size_alloc, World.size_drew, World.size_setCell]); omega)))))); rintro e w3 ⟨rfl, hb3⟩; (obtain ⟨hc3, hf3⟩ := bcell hb3; have z3 := hb3.size; (try simp only [World.size_alloc, World.size_drew, World.size_setCell] at z3); (try have q3a : w.heap.size < w3.heap.size := by omega); (try have q3b : w.heap.size + 1 < w3.heap.size := by omega); (try have q3c : w.heap.size + 1 + 1 < w3.heap.size := by omega); (try have q3d : w.heap.size + 1 + 1 + 1 < w3.heap.size := by omega); (try have q3e : wr.heap.size < w3.heap.size := by omega); (try have q3f : wr.heap.size + 1 < w3.heap.size := by omega); (try have q3g : w2.heap.size < w3.heap.size := by omega); (try have q3h : w2.heap.size + 1 < w3.heap.size := by omega))))
  go_ret2
  exact ⟨rfl, by (repeat' (first | exact Below.refl _ _ | assumption | (with_reducible refine Below.drew ?_) | (with_reducible refine Below.setCell ?_ (by (first | (simp; done) | (simp; omega))) _) | (with_reducible refine below_drewN' ?_ _) | (refine Below.alloc ?_ (by (try simp only [World.size_alloc, World.size_drew, World.size_setCell]); omega) _) | (refine Below.trans ?_ (Below.mono (by assumption) (by (try simp only [World.size_alloc, World.size_drew, World.size_setCell]); omega)))))⟩

/-- The error of Last, and the week. -/
def lastE (b : Brd) (worn week : List Int) (limit : Int) : Int :=
  if chk b = 0 then (if frm b.nums.length worn [week] = 0 then (if 0 ≤ limit ∧ limit ≤ 1000000000 then 0 else 3) else frm b.nums.length worn [week]) else chk b
theorem last_any (vb v vk : Value) (b : Brd) (worn week : List Int) (limit : Int) (w : World) (h : BrdAt w vb b) (hw : Sl w 1 eI v worn) (hk : Sl w 1 eI vk week) :
    Calls Tryz.prog 36 #[vb, v, vk, .int .i64 limit] w (Ret (.tuple #[.int .i64 (if lastE b worn week limit = 0 then lastV worn week limit else 0), .int .i64 (lastE b worn week limit)]) w) := by
  by_cases hc : chk b = 0
  · by_cases hf : frm b.nums.length worn [week] = 0
    · by_cases hl : 0 ≤ limit ∧ limit ≤ 1000000000
      · have e1 : lastE b worn week limit = 0 := by unfold lastE; rw [if_pos hc, if_pos hf, if_pos hl]
        rw [if_pos e1, e1]
        have hf' : wErr b.nums.length worn [(vk, week)] = 0 := by rw [wErr_frm]; exact hf
        obtain ⟨f1, f2, f3, f4⟩ := wErr_ok hf'
        exact Last_ok vb v vk b worn week limit w h hw hk hc f1 (f2 (vk, week) (by simp)) f3 (f4 (vk, week) (by simp)) hl.1 hl.2
      · have e1 : lastE b worn week limit = 3 := by unfold lastE; rw [if_pos hc, if_pos hf, if_neg hl]
        rw [if_neg (by rw [e1]; decide), e1]
        exact Last_range vb v vk b worn week limit w h hw hk hc hf hl
    · have e1 : lastE b worn week limit = frm b.nums.length worn [week] := by unfold lastE; rw [if_pos hc, if_neg hf]
      rw [if_neg (by rw [e1]; exact hf), e1]
      exact Last_form vb v vk b worn week limit w h hw hk hc _ rfl hf
  · have e1 : lastE b worn week limit = chk b := by unfold lastE; rw [if_neg hc]
    rw [if_neg (by rw [e1]; exact hc), e1]
    exact Last_chk vb v vk b worn week limit w h hw hk hc
end Go.Proofs.YtgceffpkhmjmkaaGreat

namespace Go.Proofs.YtgceffpkhmjmkaaGreat
open Go.RowKit Go.Shelf

theorem sl_same {α : Type} {w w' : World} {k g n c : Nat} {enc : α → List Value} {xs : List α} (h : Sl w k enc (.slice (some ⟨g, 0, none⟩) n c) xs) (hz : w.heap.size ≤ w'.heap.size) (he : w'.heap[g]? = w.heap[g]?) : Sl w' k enc (.slice (some ⟨g, 0, none⟩) n c) xs := by
  obtain ⟨a, c', e, hl, hs⟩ := h
  refine ⟨a, c', e, hl, fun hne => ?_⟩
  obtain ⟨b, off, ha, hb, hc⟩ := hs hne
  refine ⟨b, off, ha, by omega, fun j x hx i u hu => ?_⟩
  have h0 := hc j x hx i u hu
  simp only [Value.slice.injEq] at e
  obtain ⟨rfl, _, _⟩ := e
  cases ha
  rw [← h0]
  simp [World.cell?, he]
/-- A row of another type is not touched by an append. -/
theorem sl_grown {α : Type} {w w' : World} {k g n c : Nat} {enc : α → List Value} {xs : List α} {T T' : TypeId} {base sz m : Nat} {v2 : Value} {ys : List Value} (h : Sl w k enc (.slice (some ⟨g, 0, none⟩) n c) xs) (ht : TbO xs w g T) (h2 : w.ownsRow base T' sz v2 m ys) (hT : T ≠ T') (hg : w.grownBy w' v2.ownBlock) :
    Sl w' k enc (.slice (some ⟨g, 0, none⟩) n c) xs ∧ TbO xs w' g T := by
  rcases ht with rfl | ⟨cur, hc⟩
  · obtain ⟨a, c', e, _, _⟩ := h
    rw [e]
    exact ⟨sl_nil2 _ _ _ _ _, .inl rfl⟩
  · have hlt := (Array.getElem?_eq_some_iff.1 hc).1
    have he : w'.heap[g]? = w.heap[g]? := hg.block g hlt (by
      intro e
      rcases h2.2 with ⟨rfl, _⟩ | ⟨g', cap', cur', rfl, _, hc', _⟩
      · simp [Value.ownBlock] at e
      · simp only [Value.ownBlock, Option.some.injEq] at e
        subst e
        rw [hc] at hc'
        simp only [Option.some.injEq, Obj.cells.injEq] at hc'
        exact hT hc'.2.1)
    exact ⟨sl_same h hg.size he, .inr ⟨cur, he.trans hc⟩⟩
theorem info_ii : (Tryz.prog.info? 24).map (fun i => (i.zero, i.size, i.bytes)) = some (some (.slice none 0 0), 1, 24) := by kernel_rfl
theorem one_newJ (w : World) (x : Value) (t : TypeId) : ∀ j u, [x][j]? = some u → (w.alloc (.cells #[x] t)).cell? ((⟨w.heap.size, 0, none⟩ : Addr).add j) = some u := by
  intro j u hu
  match j, hu with
  | 0, hu => simp at hu; subst hu; rw [Addr.add_lit]; go_simp
  | j + 1, hu => simp at hu
theorem sl_of_ownJ {α : Type} {w : World} {base n : Nat} {e : TypeId} {v : Value} {xs : List α} (f : α → Value) (hl : xs.length ≤ 9223372036854775807) (h : w.ownsRow base e 1 v n (xs.map f)) (hn : n = xs.length) : Sl w 1 (fun x => [f x]) v xs := by
  subst hn
  rcases h.2 with ⟨h0, h1⟩ | ⟨g, cap, cur, rfl, h1, hg, h2⟩
  · have e : xs = [] := List.eq_nil_of_length_eq_zero h1
    subst e
    rw [h0]; exact sl_nil2 _ _ _ _ _
  · have hh := h
    refine ⟨_, _, rfl, hl, fun _ => ⟨g, 0, rfl, (Array.getElem?_eq_some_iff.1 hg).1, ?_⟩⟩
    intro j x hx i u hu
    have hj : j < xs.length := (List.getElem?_eq_some_iff.1 hx).1
    match i, hu with
    | 0, hu =>
      simp at hu; subst hu
      have := hh.cellAt j (by omega)
      rw [List.getElem?_map, hx] at this
      simpa using this
    | i + 1, hu => simp at hu

/-- A row that lies in a block of ints of its own. -/
def RowI (x : Value × List Int) (W : World) : Prop := ∃ g c, x.1 = .slice (some ⟨g, 0, none⟩) x.2.length c ∧ Sl W 1 eI x.1 x.2 ∧ TbO x.2 W g 3
theorem RowI.below {x : Value × List Int} {W W' : World} (h : RowI x W) (hB : Below W.heap.size W W') : RowI x W' := by
  obtain ⟨g, c, e, h1, h2⟩ := h
  exact ⟨g, c, e, h1.below hB, h2.below hB⟩
theorem RowI.grown {x : Value × List Int} {w w' : World} {T' : TypeId} {base sz m : Nat} {v2 : Value} {ys : List Value} (h : RowI x w) (h2 : w.ownsRow base T' sz v2 m ys) (hT : 3 ≠ T') (hg : w.grownBy w' v2.ownBlock) : RowI x w' := by
  obtain ⟨g, c, e, h1, ht⟩ := h
  rw [e] at h1
  obtain ⟨q1, q2⟩ := sl_grown h1 ht h2 hT hg
  exact ⟨g, c, e, by rw [e]; exact q1, q2⟩

/-- What weeks leaves. -/
def WeeksAll (ls : List (List Int)) (w : World) (e : Ending) (w' : World) : Prop :=
  ∃ (a2 : Option Addr) (c2 : Nat) (us : List (Value × List Int)), e = .returned (.slice a2 ls.length c2) ∧ Sl w' 1 eR (.slice a2 ls.length c2) us ∧ us.map (·.2) = ls ∧ (∀ x ∈ us, Sl w' 1 eI x.1 x.2) ∧ Below w.heap.size w w'

set_option maxRecDepth 100000 in
set_option maxHeartbeats 4000000 in
theorem weeks_all (v : Value) (ws : List (Value × List Int)) (w : World) (hs : Sl w 1 eR v ws) (hx : ∀ x ∈ ws, Sl w 1 eI x.1 x.2) (hl : ∀ x ∈ ws, x.2.length ≤ 1000) (h2 : ws.length ≤ 1000) :
    Calls Tryz.prog 34 #[v] w (WeeksAll (ws.map (·.2)) w) := by
  obtain ⟨a, c, rfl, hll, hr⟩ := rows_of hs hx
  have HR : Aside (∀ j x, ws[j]? = some x → ∃ g off, a = some ⟨g, off, none⟩ ∧ w.cell? ⟨g, off + j, none⟩ = some x.1 ∧ Sl w 1 eI x.1 x.2) := hr
  have HL : Aside (∀ x ∈ ws, x.2.length ≤ 1000) := hl
  have HN : Aside (∀ k u xs, ws[k]? = some (u, xs) → (ws.map (·.2)).take (k + 1) = (ws.map (·.2)).take k ++ [xs]) := by
    intro k u xs h
    obtain ⟨hk, e⟩ := List.getElem?_eq_some_iff.1 h
    rw [List.take_succ_eq_append_getElem (by rw [List.length_map]; exact hk), List.getElem_map, e]
  have HE : Aside (ws.map (·.2) = (ws.map (·.2)).take ws.length ∧ (ws.map (·.2)).length = ws.length) := ⟨(List.take_of_length_le (by simp)).symm, List.length_map _⟩
  clear hs hx hl hr
  obtain ⟨ls, hls⟩ : ∃ ls, ws.map (·.2) = ls := ⟨_, rfl⟩
  rw [hls] at HN HE ⊢
  clear hls
  obtain ⟨n, hn⟩ : ∃ n, ws.length = n := ⟨_, rfl⟩
  have HNN : Aside (ws.length = n) := hn
  rw [hn] at h2 hll HE ⊢
  clear hn
  obtain ⟨i1, hii, hy0, hy1, hy2⟩ := info_parts info_ii
  go_enter Tryz.func34, Tryz.ntmps34
  go_wp2_with fail
  have o2 : (w.alloc (.cells #[] 24)).ownsRow w.heap.size 24 1 (.slice (some ⟨w.heap.size, 0, none⟩) 0 0) 0 [] := owns_empty w _ 1
  have B0 : Below w.heap.size w (w.alloc (.cells #[] 24)) := (Below.refl _ _).alloc (Nat.le_refl _) _
  go_loopg [3, 4] n (fun gg s3 iv wr => ∃ (q : Nat) (v2 : Value) (us : List (Value × List Int)), q ≤ n ∧ n - q ≤ gg ∧ iv = .int .i64 q ∧ v2 = s3 ∧ wr.ownsRow w.heap.size 24 1 v2 q (us.map (·.1)) ∧ Aside (us.length = q ∧ us.map (·.2) = ls.take q ∧ ∀ x ∈ us, RowI x wr) ∧ Aside (Below w.heap.size w wr))
  case atStart => exact ⟨0, _, [], Nat.zero_le _, by omega, rfl, rfl, o2, ⟨rfl, rfl, by simp⟩, B0⟩
  case round =>
    obtain ⟨q, v2, us, hq, hg, rfl, rfl, own2, HUS, BK⟩ := hrel
    by_cases hlt : q < n
    · have hltz : (q : Int) < (n : Int) := by omega
      obtain ⟨⟨u, xs⟩, hu⟩ : ∃ x, ws[q]? = some x := ⟨_, List.getElem?_eq_getElem (by rw [HNN.out]; exact hlt)⟩
      obtain ⟨gq, oq, han, hcell, hsl⟩ := HR.out q _ hu
      subst han
      have kc := keepc BK.out hcell
      have x1 := ints_allT u xs wr (hsl.below BK.out) (HL.out _ (List.mem_of_getElem? hu))
      unfold RetSlT at x1
      have HT : Aside _ := HN.out q u xs hu
      have HXL : Aside (xs.length ≤ 1000) := HL.out _ (List.mem_of_getElem? hu)
      have HZ := BK.out.size
      clear hu hcell hsl
      simp only [] at kc
      go_wp2_with (first | (go_at_call 24; (with_reducible refine x1.mono ?_); rintro e w1 ⟨gu, cu, rfl, hgu, hgu2, hs1, ht1, hb1⟩; have OW1 : Aside (RowI (.slice (some ⟨gu, 0, none⟩) xs.length cu, xs) w1) := ⟨_, _, rfl, hs1, ht1⟩; clear hs1 ht1) | (at_builtin; refine wpList_append_own _ rfl _ _ 54 rfl w.heap.size 24 i1 (.slice none 0 0) 1 24 Tryz.underlying54 hii hy0 hy1 hy2 rfl (by decide) v2 q _ rfl ((owns_below2 own2 hb1).alloc _) ⟨w1.heap.size, 0, none⟩ 1 1 [.slice (some ⟨gu, 0, none⟩) xs.length cu] rfl rfl (one_newJ w1 _ _) (by intro u hu; simp at hu; subst hu; rfl) (by unfold maxLen; omega) (by omega) (by simp; have := hb1.size; omega) ?_; intro v' w2 hown2 hgrow2 _))
      go_roundg (n - (q + 1))
      case measure => omega
      case rel =>
        have z1 := hb1.size
        have ow := (owns_below2 own2 hb1).alloc (.cells #[.slice (some ⟨gu, 0, none⟩) xs.length cu] 24)
        have ba : Below w1.heap.size w1 (w1.alloc (.cells #[.slice (some ⟨gu, 0, none⟩) xs.length cu] 24)) := (Below.refl _ _).alloc (Nat.le_refl _) _
        obtain ⟨h1, h2, h3⟩ := HUS.out
        refine ⟨q + 1, _, us ++ [(.slice (some ⟨gu, 0, none⟩) xs.length cu, xs)], by omega, by omega, by go_num, rfl, by rw [List.map_append]; exact hown2, ⟨by simp; omega, by rw [List.map_append, h2, HT.out]; rfl, ?_⟩, ((BK.out.trans (hb1.mono HZ)).trans ((Below.refl _ _).alloc (by omega) _)).grown hgrow2 (by simp; omega) (fun r e => (ow.lt r e).1)⟩
        intro x hx
        rcases List.mem_append.1 hx with hx | hx
        · exact (((h3 x hx).below hb1).below ba).grown ow (by decide) hgrow2
        · rw [List.mem_singleton] at hx
          subst hx
          exact (OW1.out.below ba).grown ow (by decide) hgrow2
    · have hqe : q = n := by omega
      subst hqe
      have hltz : ¬ (q : Int) < (q : Int) := by omega
      go_wp2_with fail
      go_ret
      obtain ⟨h1, h2, h3⟩ := HUS.out
      have hs := sl_of_ownJ (·.1) (by omega) own2 h1.symm
      obtain ⟨a2, c2, e2, hz⟩ := hs
      rw [h1] at e2
      subst e2
      refine ⟨a2, c2, us, by rw [HE.out.2]; rfl, by rw [HE.out.2]; exact ⟨a2, c2, by rw [h1], hz⟩, by rw [h2, ← HE.out.1], ?_, BK.out⟩
      intro x hx
      obtain ⟨_, _, _, h4, _⟩ := h3 x hx
      exact h4
end Go.Proofs.YtgceffpkhmjmkaaGreat

namespace Go.Proofs.YtgceffpkhmjmkaaGreat
open Go.RowKit Go.Shelf
attribute [local go_sem] Oper.semAt_some

theorem sl_nilK {α : Type} (w : World) (k : Nat) (enc : α → List Value) (a : Option Addr) (c : Nat) : Sl w k enc (.slice a 0 c) [] := ⟨a, c, rfl, by simp, fun h => absurd rfl h⟩

/-- A slice without elements. -/
def NilV (v : Value) : Prop := ∃ g c, v = .slice (some ⟨g, 0, none⟩) 0 c

set_option maxRecDepth 100000 in
set_option maxHeartbeats 1000000 in
theorem clone_nil (g c : Nat) (w : World) :
    Calls Tryz.prog 102 #[.slice (some ⟨g, 0, none⟩) 0 c] w (fun e w' => ∃ v, e = .returned v ∧ NilV v ∧ Below w.heap.size w w') := by
  have hnil := fun (w : World) (a : Addr) (n c : Nat) => Lib.run_eql_slice_nil (P := Tryz.prog) w 24 3 (some a) n c 0 0 Tryz.underlying24
  go_enter Tryz.func102, Tryz.ntmps102
  go_wp2_with fail
  go_ret
  exact ⟨_, rfl, ⟨_, _, rfl⟩, by (repeat' (first | exact Below.refl _ _ | assumption | (with_reducible refine Below.drew ?_) | (with_reducible refine Below.setCell ?_ (by (first | (simp; done) | (simp; omega))) _) | (with_reducible refine below_drewN' ?_ _) | (refine Below.alloc ?_ (by (try simp only [World.size_alloc, World.size_drew, World.size_setCell]); omega) _) | (refine Below.trans ?_ (Below.mono (by assumption) (by (try simp only [World.size_alloc, World.size_drew, World.size_setCell]); omega)))))⟩

set_option maxRecDepth 100000 in
set_option maxHeartbeats 2000000 in
theorem plans0_in (n : Nat) (hn : 1 ≤ n) (l Bw Bs S : Nat) (J : Nat → World → Prop) (W : World) (hJ : Turn1s W.heap.size J)
    (hY : ∀ i v W1, J i W1 → i < 1 → NilV v → W.heap.size < W1.heap.size → YieldAt Fence.wide (n - 1) Tryz.prog l #[v] W1 fun e W' => e = .returned (.bool true) ∧ J (i + 1) W' ∧ W1.heap.size ≤ W'.heap.size ∧ W'.heap[W.heap.size]? = W1.heap[W.heap.size]?)
    (hJs : ∀ i A, J i A → A.cell? ⟨Bs, 0, none⟩ = some (.int .i64 S)) (hBs : Bs < W.heap.size) (hBw : Bw < W.heap.size) (h0 : J 0 W) (c0 : W.cell? ⟨Bw, 0, none⟩ = some (.int .i64 0)) (hS1 : 1 ≤ S) (hS2 : S ≤ 1000) :
    CallsIn Fence.wide n Tryz.prog 100 #[.func (.yield l) #[] #[], .pointer (some ⟨Bw, 0, none⟩), .pointer (some ⟨Bs, 0, none⟩)] W fun e W' => (∃ v, e = .returned v) ∧ J 1 W' := by
  obtain ⟨i0, hi, hz0, hz1, hz2⟩ := info_parts info_int
  have b2 : i0.bytes * 0 ≤ 281474976710656 := by omega
  have HJ : Aside (Turn1s W.heap.size J) := hJ
  have HY : Aside (∀ i v W1, J i W1 → i < 1 → NilV v → W.heap.size < W1.heap.size → YieldAt Fence.wide (n - 1) Tryz.prog l #[v] W1 fun e W' => e = .returned (.bool true) ∧ J (i + 1) W' ∧ W1.heap.size ≤ W'.heap.size ∧ W'.heap[W.heap.size]? = W1.heap[W.heap.size]?) := hY
  have HJS : Aside (∀ i A, J i A → A.cell? ⟨Bs, 0, none⟩ = some (.int .i64 S)) := hJs
  clear hJ hY hJs
  refine callsIn_of_wp Tryz.func100 rfl trivial ?_ rfl
  simp only [Tryz.ntmps100, List.size_toArray, List.length_cons, List.length_nil, Nat.reduceAdd, Nat.reduceSub, Array.replicate_succ, Array.replicate_zero, List.push_toArray, List.append_toArray, List.nil_append, List.cons_append]
  gi_wp2_with (gi_at_make; refine wpListIn_make_full _ rfl _ _ 24 rfl 0 3 i0 (.int .i64 0) 1 Tryz.underlying24 hi hz0 hz1 .i64 .i64 _ _ 0 rfl rfl rfl rfl b2 (by unfold maxLen; omega) (Nat.zero_le _) ?_; intro w1 hown1 hgrow1)
  rw [made_zero, List.replicate_zero, List.map_nil] at hown1
  have B1 : Below W.heap.size W w1 := (Below.refl _ W).grown hgrow1 (Nat.le_refl _) (fun j e => by cases e)
  have sz1 : W.heap.size < w1.heap.size := (hown1.lt _ rfl).2
  have J1 : Aside (J 0 w1) := HJ.out _ _ _ h0 (Nat.le_refl _) (Turns1.of_below B1)
  clear hgrow1 hi hz0 hz1 hz2 b2 h0
  gi_loopg [5] 2 (fun gg v wr => (v = .bool true ∧ 1 ≤ gg ∧ wr.ownsRow 0 3 1 (.slice (some ⟨W.heap.size, 0, none⟩) 0 0) 0 [] ∧ Aside (J 0 wr)) ∨ (v = .bool false ∧ Aside (J 1 wr)))
  case atStart => exact .inl ⟨rfl, by omega, hown1, J1⟩
  case round =>
    rcases hrel with ⟨rfl, hg, hown, HJi⟩ | ⟨rfl, HJN⟩
    · have hsz : W.heap.size < wr.heap.size := (hown.lt _ rfl).2
      have x1 := clone_nil W.heap.size 0 wr
      gi_wp2_with (refine ⟨trivial, ?_⟩; gi_at_call 102; refine (callsIn_wide.2 x1).mono ?_; rintro e w2 ⟨v2, rfl, hnv, hb2⟩; have z2 := hb2.size; obtain ⟨fn, tmps, assign, body, hy, hR⟩ := HY.out 0 _ w2 (HJ.out _ _ _ HJi.out (by omega) (Turns1.of_below hb2)) (by omega) hnv (by omega))
      refine hR.mono ?_
      clear hR hy x1
      rintro e w3 ⟨rfl, hJ3, hz3, hg3⟩
      have hown2 := owns_same hown (hb2.block _ hsz)
      have hown3 := owns_same hown2 hg3
      have kS := HJS.out _ _ hJ3
      have x2 := advance_any 0 W.heap.size S [] w3 (Nat.zero_le _) hown3 (by simp) (by simp)
      unfold RetAdv at x2
      simp only [List.length_nil, advAt] at x2
      gi_wp2_with (refine ⟨trivial, ?_⟩; gi_at_call 101; refine (callsIn_wide.2 x2).mono ?_; rintro e w4 ⟨rfl, hown4, hb4, hk4⟩)
      gi_roundg 0
      case measure => omega
      case rel => exact .inr ⟨rfl, HJ.out _ _ _ hJ3 (by omega) ⟨hb4.os, hb4.tape, hb4.output, hb4.size, fun k h1 h2 => hk4 k h2 h1⟩⟩
    · gi_wp2
      go_end0
      exact ⟨⟨_, rfl⟩, HJN.out⟩

/-- What evenest leaves for no weeks. -/
def RetEven0 (worn : List Int) (w : World) (e : Ending) (w' : World) : Prop :=
  ∃ v1 a c, e = .returned (.tuple #[v1, .slice a worn.length c]) ∧ NilV v1 ∧ Sl w' 1 eI (.slice a worn.length c) worn ∧ Below w.heap.size w w'

set_option maxRecDepth 100000 in
set_option maxHeartbeats 4000000 in
theorem evenest_nil (v : Value) (a2 : Option Addr) (c2 : Nat) (worn : List Int) (w : World) (hw : Sl w 1 eI v worn)
    (hn1 : worn ≠ []) (hn2 : worn.length ≤ 1000) (hb1 : ∀ x ∈ worn, 0 ≤ x ∧ x ≤ 100000000000) :
    Calls Tryz.prog 62 #[v, .slice a2 0 c2] w (RetEven0 worn w) := by
  have HW : Aside (Sl w 1 eI v worn) := hw
  have XM : Aside (∀ u W, Sl W 1 eI u worn → Calls Tryz.prog 61 #[u] W (Ret (.int .i64 (mx worn)) W)) := fun u W hu => max_any u worn W hu hn1
  have HMB : Aside (mx worn ≤ 100000000000) := (mx_bd 100000000000 _ hn1 (fun x hx => by have := hb1 x hx; omega)).2
  obtain ⟨a, c, rfl, hl, _⟩ := hw
  have hS1 : 1 ≤ worn.length := List.length_pos_iff.2 hn1
  clear hb1 hn1
  unfold RetEven0
  obtain ⟨S, hS⟩ : ∃ S, worn.length = S := ⟨_, rfl⟩
  rw [hS] at hn2 hS1 hl HW ⊢
  clear hS
  obtain ⟨M, hM⟩ : ∃ M, mx worn = M := ⟨_, rfl⟩
  rw [hM] at XM HMB
  clear hM
  refine callsIn_wide (n := 10).1 ?_
  refine callsIn_of_wp_marks Tryz.func62 rfl trivial ?_ rfl
  simp only [Tryz.ntmps62, List.size_toArray, List.length_cons, List.length_nil, Nat.reduceAdd, Nat.reduceSub, Array.replicate_succ, Array.replicate_zero, List.push_toArray, List.append_toArray, List.nil_append, List.cons_append]
  gi_wp2_with (refine ⟨trivial, ?_⟩; gi_at_call 82; refine (callsIn_wide.2 (plans_any _ _ _)).mono ?_; rintro e w2 ⟨rfl, rfl⟩)
  obtain ⟨W0, hW0⟩ : ∃ W0, W0 = (((((((w.alloc (.cells #[.slice a S c] 24)).alloc (.cells #[.slice a2 0 c2] 54)).alloc (.cells #[.slice none 0 0] 24)).alloc (.cells #[.slice none 0 0] 24)).alloc (.cells #[.int .i64 9223372036854775807] 3)).alloc (.cells #[.int .i64 0] 3)).alloc (.cells #[.int .i64 S] 3)) := ⟨_, rfl⟩
  have s0 : W0.heap.size = w.heap.size + 7 := by rw [hW0]; simp
  have B0 : Below w.heap.size w W0 := by rw [hW0]; clear hW0; (repeat' (first | exact Below.refl _ _ | assumption | (with_reducible refine Below.drew ?_) | (with_reducible refine Below.setCell ?_ (by (first | (simp; done) | (simp; omega))) _) | (with_reducible refine below_drewN' ?_ _) | (refine Below.alloc ?_ (by (try simp only [World.size_alloc, World.size_drew, World.size_setCell]); omega) _) | (refine Below.trans ?_ (Below.mono (by assumption) (by (try simp only [World.size_alloc, World.size_drew, World.size_setCell]); omega)))))
  have g0 : W0.cell? ⟨w.heap.size, 0, none⟩ = some (.slice a S c) := by rw [hW0]; clear hW0; go_simp
  have g1 : W0.cell? ⟨w.heap.size + 1, 0, none⟩ = some (.slice a2 0 c2) := by rw [hW0]; clear hW0; go_simp
  have g2 : W0.cell? ⟨w.heap.size + 1 + 1, 0, none⟩ = some (.slice none 0 0) := by rw [hW0]; clear hW0; go_simp
  have g3 : W0.cell? ⟨w.heap.size + 1 + 1 + 1, 0, none⟩ = some (.slice none 0 0) := by rw [hW0]; clear hW0; go_simp
  have g4 : W0.cell? ⟨w.heap.size + 1 + 1 + 1 + 1, 0, none⟩ = some (.int .i64 9223372036854775807) := by rw [hW0]; clear hW0; go_simp
  have g5 : W0.cell? ⟨w.heap.size + 1 + 1 + 1 + 1 + 1, 0, none⟩ = some (.int .i64 0) := by rw [hW0]; clear hW0; go_simp
  have g6 : W0.cell? ⟨w.heap.size + 1 + 1 + 1 + 1 + 1 + 1, 0, none⟩ = some (.int .i64 S) := by rw [hW0]; clear hW0; go_simp
  have f2 : W0.frozen? ⟨w.heap.size + 1 + 1, 0, none⟩ = false := by rw [hW0]; clear hW0; go_simp
  have f3 : W0.frozen? ⟨w.heap.size + 1 + 1 + 1, 0, none⟩ = false := by rw [hW0]; clear hW0; go_simp
  have f4 : W0.frozen? ⟨w.heap.size + 1 + 1 + 1 + 1, 0, none⟩ = false := by rw [hW0]; clear hW0; go_simp
  rw [← hW0]
  clear hW0
  refine rangeFunc_all rfl (by decide) (gf := 100) (lb := #[.pointer (some ⟨w.heap.size + 1 + 1 + 1 + 1 + 1, 0, none⟩), .pointer (some ⟨w.heap.size + 1 + 1 + 1 + 1 + 1 + 1, 0, none⟩)]) rfl trivial (enters_of Tryz.func100 (by kernel_rfl) rfl) rfl
    1 (fun W => W.cell? ⟨w.heap.size + 1 + 1 + 1 + 1 + 1 + 1, 0, none⟩ = some (.int .i64 S)) (fun _ v _ => NilV v) (fun i v W l o o' h1 h2 h3 => h1)
    (fun J W1 hsz hb hJ hR hY h0 => plans0_in 9 (by decide) (W0.heap.size + 1) (w.heap.size + 1 + 1 + 1 + 1 + 1) (w.heap.size + 1 + 1 + 1 + 1 + 1 + 1) S J W1 (by rw [hsz]; exact hJ) (by rw [hsz]; exact hY) hR (by omega) (by omega) h0 (keepc hb g5) hS1 hn2)
    (fun i W => ∃ vt vw L, W.cell? ⟨w.heap.size, 0, none⟩ = some (.slice a S c) ∧ W.cell? ⟨w.heap.size + 1, 0, none⟩ = some (.slice a2 0 c2) ∧ W.cell? ⟨w.heap.size + 1 + 1, 0, none⟩ = some vt ∧ W.cell? ⟨w.heap.size + 1 + 1 + 1, 0, none⟩ = some vw ∧ W.cell? ⟨w.heap.size + 1 + 1 + 1 + 1, 0, none⟩ = some (.int .i64 L) ∧
      W.frozen? ⟨w.heap.size + 1 + 1, 0, none⟩ = false ∧ W.frozen? ⟨w.heap.size + 1 + 1 + 1, 0, none⟩ = false ∧ W.frozen? ⟨w.heap.size + 1 + 1 + 1 + 1, 0, none⟩ = false ∧ W.cell? ⟨w.heap.size + 1 + 1 + 1 + 1 + 1 + 1, 0, none⟩ = some (.int .i64 S) ∧ Aside (Below w.heap.size w W) ∧ Aside ((i = 0 ∧ L = 9223372036854775807) ∨ (i = 1 ∧ NilV vt ∧ vw = .slice a S c)))
    (fun i A B hi ht => by
      obtain ⟨vt, vw, L, k0, k1, k2, k3, k4, l2, l3, l4, k6, hB, hS⟩ := hi
      exact ⟨vt, vw, L, ht.cellk (.inl (by omega)) k0, ht.cellk (.inl (by omega)) k1, ht.cellk (.inl (by omega)) k2, ht.cellk (.inl (by omega)) k3, ht.cellk (.inl (by omega)) k4, ht.frozenk (.inl (by omega)) k2 l2, ht.frozenk (.inl (by omega)) k3 l3, ht.frozenk (.inl (by omega)) k4 l4, ht.cellk (.inl (by omega)) k6, ht.below hB.out (by omega) (Nat.le_refl _), hS⟩)
    (fun i W h => by obtain ⟨vt, vw, L, k0, k1, k2, k3, k4, l2, l3, l4, k6, hB, hS⟩ := h; exact k6)
    ⟨_, _, _, g0, g1, g2, g3, g4, f2, f3, f4, g6, B0, .inl ⟨rfl, rfl⟩⟩
    (fun v => { tmps := #[.slice a S c, .slice a2 0 c2, .pointer (some ⟨w.heap.size, 0, none⟩), .pointer (some ⟨w.heap.size + 1, 0, none⟩), .pointer (some ⟨w.heap.size + 1 + 1, 0, none⟩), .pointer (some ⟨w.heap.size + 1 + 1 + 1, 0, none⟩), .pointer (some ⟨w.heap.size + 1 + 1 + 1 + 1, 0, none⟩), v, undef, undef, undef, undef,
        .slice a2 0 c2, .int .i64 0, .slice a S c, .int .i64 S, .func (.func 100) #[] #[.pointer (some ⟨w.heap.size + 1 + 1 + 1 + 1 + 1, 0, none⟩), .pointer (some ⟨w.heap.size + 1 + 1 + 1 + 1 + 1 + 1, 0, none⟩)],
        v, undef, undef, undef, undef, undef, undef, undef, undef, undef, undef, undef, undef, undef, undef, undef, undef, undef, undef, undef, undef, undef, undef, undef, undef, undef, undef], defers := [] }) ?assign ?body ?done
  case assign =>
    intro l x W K hK
    gi_wp2
    exact hK
  case body =>
    rintro l i v W ⟨vt, vw, L, k0, k1, k2, k3, k4, l2, l3, l4, k6, hB, hBst⟩ hi ⟨gx, cx, rfl⟩ hbig
    obtain ⟨rfl, rfl⟩ : i = 0 ∧ L = 9223372036854775807 := by
      rcases hBst.out with h | ⟨h, _⟩
      · exact h
      · omega
    clear hBst
    have HSW : Aside (Sl W 1 eI (.slice a S c) worn) := HW.out.below hB.out
    gi_wp2
    gi_loopg [8, 21] 0 (fun gg vx iv wr => iv = .int .i64 0 ∧ vx = .slice a S c ∧ W = wr)
    case atStart => exact ⟨rfl, rfl, rfl⟩
    case round =>
      obtain ⟨rfl, rfl, rfl⟩ := hrel
      have XM1 := XM.out _ W HSW.out
      have hml : M < 9223372036854775807 := by have := HMB.out; omega
      gi_wp2_with (refine ⟨trivial, ?_⟩; gi_at_call 61; refine (callsIn_wide.2 XM1).mono ?_; rintro e w5 ⟨rfl, hb5⟩; have q4' := keepc hb5 k4; have q2' := keepc hb5 k2; have q3' := keepc hb5 k3; have u4' := (hb5.frozen (p := ⟨w.heap.size + 1 + 1 + 1 + 1, 0, none⟩) (by simp; omega)).trans l4; have u2' := (hb5.frozen (p := ⟨w.heap.size + 1 + 1, 0, none⟩) (by simp; omega)).trans l2; have u3' := (hb5.frozen (p := ⟨w.heap.size + 1 + 1 + 1, 0, none⟩) (by simp; omega)).trans l3; have HB5 : Aside (Below W.heap.size W w5) := hb5; clear hb5)
      have HB0 : Below W.heap.size W w5 := HB5.out
      have HBw : Below w.heap.size w w5 := hB.out.trans (HB0.mono hB.out.size)
      refine ⟨(((keepsOthers_of_below HB0).trans (KeepsOthers.setCell _ _ _)).trans (KeepsOthers.setCell _ _ _)).trans (KeepsOthers.setCell _ _ _), ?_, _, _, M,
        cellOther (by first | (simp; done) | (simp; omega) | omega) (cellOther (by first | (simp; done) | (simp; omega) | omega) (cellOther (by first | (simp; done) | (simp; omega) | omega) (keepc HB0 k0))), cellOther (by first | (simp; done) | (simp; omega) | omega) (cellOther (by first | (simp; done) | (simp; omega) | omega) (cellOther (by first | (simp; done) | (simp; omega) | omega) (keepc HB0 k1))),
        cellOther (by first | (simp; done) | (simp; omega) | omega) (World.cell?_setCell_same' _ _ _ (by rw [cellOther (by first | (simp; done) | (simp; omega) | omega) q2']; rfl)), World.cell?_setCell_same' _ _ _ (by rw [cellOther (by first | (simp; done) | (simp; omega) | omega) (cellOther (by first | (simp; done) | (simp; omega) | omega) q3')]; rfl),
        cellOther (by first | (simp; done) | (simp; omega) | omega) (cellOther (by first | (simp; done) | (simp; omega) | omega) (World.cell?_setCell_same' _ _ _ (by rw [q4']; rfl))), by simp only [World.frozen?_setCell]; exact u2', by simp only [World.frozen?_setCell]; exact u3', by simp only [World.frozen?_setCell]; exact u4',
        cellOther (by first | (simp; done) | (simp; omega) | omega) (cellOther (by first | (simp; done) | (simp; omega) | omega) (cellOther (by first | (simp; done) | (simp; omega) | omega) (keepc HB0 k6))), ?_, ?_⟩
      · exact (Below.heap_setCell _ _ _ _ (by first | (simp; done) | (simp; omega) | omega)).trans ((Below.heap_setCell _ _ _ _ (by first | (simp; done) | (simp; omega) | omega)).trans ((Below.heap_setCell _ _ _ _ (by first | (simp; done) | (simp; omega) | omega)).trans (HB0.block _ (by omega))))
      · exact ((HBw.setCell (p := ⟨w.heap.size + 1 + 1 + 1 + 1, 0, none⟩) (by first | (simp; done) | (simp; omega) | omega) _).setCell (p := ⟨w.heap.size + 1 + 1, 0, none⟩) (by first | (simp; done) | (simp; omega) | omega) _).setCell (p := ⟨w.heap.size + 1 + 1 + 1, 0, none⟩) (by first | (simp; done) | (simp; omega) | omega) _
      · exact .inr ⟨rfl, ⟨gx, cx, rfl⟩, rfl⟩
  case done =>
    rintro D W hD ⟨vt, vw, L, k0, k1, k2, k3, k4, l2, l3, l4, k6, hB, hBst⟩ hK
    obtain ⟨gx, cx, rfl, rfl⟩ : ∃ gx cx, vt = .slice (some ⟨gx, 0, none⟩) 0 cx ∧ vw = .slice a S c := by
      rcases hBst.out with ⟨h, _⟩ | ⟨_, ⟨gx, cx, h⟩, h2⟩
      · omega
      · exact ⟨gx, cx, h, h2⟩
    clear hBst
    gi_wp2
    gi_region
    gi_wp2
    have hK' := ((KeepsOthers.setCell W ⟨w.heap.size + 1 + 1, 0, none⟩ (.slice (some ⟨gx, 0, none⟩) 0 cx)).trans (KeepsOthers.setCell _ ⟨w.heap.size + 1 + 1 + 1, 0, none⟩ (.slice a S c))).trans (KeepsOthers.drew _) |>.same D _ hK rfl
    refine ⟨by simp, .inl ⟨_, _, rfl, run_takeDeferred hK', ?_⟩⟩
    obtain ⟨X, hX⟩ : ∃ X, ((W.setCell ⟨w.heap.size + 1 + 1, 0, none⟩ (.slice (some ⟨gx, 0, none⟩) 0 cx)).setCell ⟨w.heap.size + 1 + 1 + 1, 0, none⟩ (.slice a S c)).drew.putObj D (.deferred none) = X := ⟨_, rfl⟩
    have hc4 : X.cell? ⟨w.heap.size + 1 + 1, 0, none⟩ = some (.slice (some ⟨gx, 0, none⟩) 0 cx) := by
      rw [← hX]
      refine cell_kept (W := ((W.setCell ⟨w.heap.size + 1 + 1, 0, none⟩ (.slice (some ⟨gx, 0, none⟩) 0 cx)).setCell ⟨w.heap.size + 1 + 1 + 1, 0, none⟩ (.slice a S c)).drew) (cellOther (p := ⟨w.heap.size + 1 + 1 + 1, 0, none⟩) (u := .slice a S c) (by first | (simp; done) | (simp; omega) | omega) (World.cell?_setCell_same' W ⟨w.heap.size + 1 + 1, 0, none⟩ (.slice (some ⟨gx, 0, none⟩) 0 cx) (by rw [k2]; rfl))) (grownBy_putObj' _ D (.deferred none)) (fun r e => by cases e; exact ⟨_, hK', rfl⟩)
    have hc5 : X.cell? ⟨w.heap.size + 1 + 1 + 1, 0, none⟩ = some (.slice a S c) := by
      rw [← hX]
      refine cell_kept (W := ((W.setCell ⟨w.heap.size + 1 + 1, 0, none⟩ (.slice (some ⟨gx, 0, none⟩) 0 cx)).setCell ⟨w.heap.size + 1 + 1 + 1, 0, none⟩ (.slice a S c)).drew) (World.cell?_setCell_same' (W.setCell ⟨w.heap.size + 1 + 1, 0, none⟩ (.slice (some ⟨gx, 0, none⟩) 0 cx)) ⟨w.heap.size + 1 + 1 + 1, 0, none⟩ (.slice a S c) (by rw [cellOther (by first | (simp; done) | (simp; omega) | omega) k3]; rfl)) (grownBy_putObj' _ D (.deferred none)) (fun r e => by cases e; exact ⟨_, hK', rfl⟩)
    have hBX := (((hB.out.setCell (p := ⟨w.heap.size + 1 + 1, 0, none⟩) (by first | (simp; done) | (simp; omega) | omega) (.slice (some ⟨gx, 0, none⟩) 0 cx)).setCell (p := ⟨w.heap.size + 1 + 1 + 1, 0, none⟩) (by first | (simp; done) | (simp; omega) | omega) (.slice a S c)).drew).trans (belowK_b (w := w) (Nat.le_refl _) _ D _ (.deferred none) (by omega) hK' rfl rfl)
    rw [hX] at hBX ⊢
    clear hX hK'
    refine ⟨.tuple #[.slice (some ⟨gx, 0, none⟩) 0 cx, .slice a S c], ?_, ⟨_, a, c, rfl, ⟨gx, cx, rfl⟩, HW.out.below hBX, hBX⟩⟩
    simp [results, Tryz.f62, go_sem, hc4, hc5]
end Go.Proofs.YtgceffpkhmjmkaaGreat

namespace Go.Proofs.YtgceffpkhmjmkaaGreat
open Go.RowKit Go.Shelf

theorem planM_nil (worn : List Int) : planM worn [] = mx worn := rfl

set_option maxRecDepth 100000 in
set_option maxHeartbeats 4000000 in
theorem Plan_nil (vb v : Value) (a2 : Option Addr) (c2 : Nat) (b : Brd) (worn : List Int) (w : World) (h : BrdAt w vb b) (hw : Sl w 1 eI v worn)
    (hc : chk b = 0) (he : wErr b.nums.length worn [] = 0) :
    Calls Tryz.prog 35 #[vb, v, .slice a2 0 c2] w (fun e w' => ∃ v1, e = .returned (.tuple #[v1, .int .i64 (mx worn), .int .i64 0]) ∧ NilV v1 ∧ Below w.heap.size w w') := by
  have g := good_of_chk hc
  obtain ⟨e1, e2, e3, e4⟩ := wErr_ok he
  have hn1 : worn ≠ [] := by
    intro e; rw [e] at e1
    have := List.length_pos_iff.2 g.lines
    have := g.same
    simp at e1; omega
  have gl := g.len
  have x1 := fun W (hW : Below w.heap.size w W) => check_any vb b W (h.below hW)
  have x2 := fun W (hW : Below w.heap.size w W) => wearError_any (b.nums.length : Int) v worn (.slice a2 0 c2) [] W (hw.below hW) (sl_nilK _ _ _ _ _) (fun x hm => by simp at hm)
  have x3 := fun W (hW : Below w.heap.size w W) => evenest_nil v a2 c2 worn W (hw.below hW) hn1 (by omega) (fun x hx => by have := e3 x hx; omega)
  have x4 : ∀ (W : World) (u : Value), Sl W 1 eI u worn → Calls Tryz.prog 61 #[u] W (Ret (.int .i64 (mx worn)) W) := fun W u hu => max_any u _ W hu hn1
  have HM : Aside (mx worn ≤ 1000000000) := (mx_bd 1000000000 _ hn1 (fun x hx => by have := e3 x hx; omega)).2
  unfold RetEven0 at x3
  rw [hc] at x1
  rw [he] at x2
  obtain ⟨vr, vl, vn, rfl, hr, hl, hn⟩ := h
  obtain ⟨ar, cr, rfl, lr, _⟩ := hr
  obtain ⟨al, cl, rfl, ll, _⟩ := hl
  obtain ⟨an, cn, rfl, ln, _⟩ := hn
  obtain ⟨a, c, rfl, l1, _⟩ := hw
  obtain ⟨M, hMM⟩ : ∃ M, mx worn = M := ⟨_, rfl⟩
  rw [hMM] at x4 HM ⊢
  clear hMM e1 e2 e3 e4 g he hc hn1
  have hM := HM.out
  generalize worn.length = lw at *
  generalize b.rings.length = lenr at *
  generalize b.lines.length = lenl at *
  generalize b.nums.length = lenn at *
  go_enter Tryz.func35, Tryz.ntmps35
  go_wp2_with (first | (go_at_call 10; (with_reducible refine (x1 _ ?hh).mono ?_); (case hh => (repeat' (first | exact Below.refl _ _ | assumption | (with_reducible refine Below.drew ?_) | (with_reducible refine Below.setCell ?_ (by (first | (simp; done) | (simp; omega))) _) | (with_reducible refine below_drewN' ?_ _) | (refine Below.alloc ?_ (by (try simp only [World.size_alloc, World.size_drew, World.size_setCell]); omega) _) | (refine Below.trans ?_ (Below.mono (by assumption) (by (try simp only [World.size_alloc, World.size_drew, World.size_setCell]); omega)))))); rintro e w1 ⟨rfl, hb1⟩; (obtain ⟨hc1, hf1⟩ := bcell hb1; have z1 := hb1.size; (try simp only [World.size_alloc, World.size_drew, World.size_setCell] at z1); (try have q1a : w.heap.size < w1.heap.size := by omega); (try have q1b : w.heap.size + 1 < w1.heap.size := by omega); (try have q1c : w.heap.size + 1 + 1 < w1.heap.size := by omega); (try have q1d : w.heap.size + 1 + 1 + 1 < w1.heap.size := by omega); (try have q1e : wr.heap.size < w1.heap.size := by omega); (try have q1f : wr.heap.size + 1 < w1.heap.size := by omega))) | (go_at_call 59; (with_reducible refine (x2 _ ?hh).mono ?_); (case hh => (repeat' (first | exact Below.refl _ _ | assumption | (with_reducible refine Below.drew ?_) | (with_reducible refine Below.setCell ?_ (by (first | (simp; done) | (simp; omega))) _) | (with_reducible refine below_drewN' ?_ _) | (refine Below.alloc ?_ (by (try simp only [World.size_alloc, World.size_drew, World.size_setCell]); omega) _) | (refine Below.trans ?_ (Below.mono (by assumption) (by (try simp only [World.size_alloc, World.size_drew, World.size_setCell]); omega)))))); rintro e w2 ⟨rfl, hb2⟩; (obtain ⟨hc2, hf2⟩ := bcell hb2; have z2 := hb2.size; (try simp only [World.size_alloc, World.size_drew, World.size_setCell] at z2); (try have q2a : w.heap.size < w2.heap.size := by omega); (try have q2b : w.heap.size + 1 < w2.heap.size := by omega); (try have q2c : w.heap.size + 1 + 1 < w2.heap.size := by omega); (try have q2d : w.heap.size + 1 + 1 + 1 < w2.heap.size := by omega); (try have q2e : wr.heap.size < w2.heap.size := by omega); (try have q2f : wr.heap.size + 1 < w2.heap.size := by omega); (try have q2g : w1.heap.size < w2.heap.size := by omega); (try have q2h : w1.heap.size + 1 < w2.heap.size := by omega))) | (go_at_call 62; (with_reducible refine (x3 _ ?hh).mono ?_); (case hh => (repeat' (first | exact Below.refl _ _ | assumption | (with_reducible refine Below.drew ?_) | (with_reducible refine Below.setCell ?_ (by (first | (simp; done) | (simp; omega))) _) | (with_reducible refine below_drewN' ?_ _) | (refine Below.alloc ?_ (by (try simp only [World.size_alloc, World.size_drew, World.size_setCell]); omega) _) | (refine Below.trans ?_ (Below.mono (by assumption) (by (try simp only [World.size_alloc, World.size_drew, World.size_setCell]); omega)))))); rintro e w3 ⟨v1, q1, q2, rfl, s1, s2, hb3⟩; have S1 : Aside (NilV v1) := s1; have S2 : Aside (Sl w3 1 eI (.slice q1 lw q2) worn) := s2; clear s1 s2; (obtain ⟨hc3, hf3⟩ := bcell hb3; have z3 := hb3.size; (try simp only [World.size_alloc, World.size_drew, World.size_setCell] at z3); (try have q3a : w.heap.size < w3.heap.size := by omega); (try have q3b : w.heap.size + 1 < w3.heap.size := by omega); (try have q3c : w.heap.size + 1 + 1 < w3.heap.size := by omega); (try have q3d : w.heap.size + 1 + 1 + 1 < w3.heap.size := by omega); (try have q3e : wr.heap.size < w3.heap.size := by omega); (try have q3f : wr.heap.size + 1 < w3.heap.size := by omega); (try have q3g : w2.heap.size < w3.heap.size := by omega); (try have q3h : w2.heap.size + 1 < w3.heap.size := by omega))) | (go_at_call 61; (with_reducible refine (x4 _ _ ?hh).mono ?_); (case hh => exact S2.out); rintro e w4 ⟨rfl, hb4⟩; (obtain ⟨hc4, hf4⟩ := bcell hb4; have z4 := hb4.size; (try simp only [World.size_alloc, World.size_drew, World.size_setCell] at z4); (try have q4a : w.heap.size < w4.heap.size := by omega); (try have q4b : w.heap.size + 1 < w4.heap.size := by omega); (try have q4c : w.heap.size + 1 + 1 < w4.heap.size := by omega); (try have q4d : w.heap.size + 1 + 1 + 1 < w4.heap.size := by omega); (try have q4e : wr.heap.size < w4.heap.size := by omega); (try have q4f : wr.heap.size + 1 < w4.heap.size := by omega); (try have q4g : w3.heap.size < w4.heap.size := by omega); (try have q4h : w3.heap.size + 1 < w4.heap.size := by omega))) | (go_at_call 61; (with_reducible refine (x4 _ _ (Sl.below S2.out hb4)).mono ?_); rintro e w5 ⟨rfl, hb5⟩; (obtain ⟨hc5, hf5⟩ := bcell hb5; have z5 := hb5.size; (try simp only [World.size_alloc, World.size_drew, World.size_setCell] at z5); (try have q5a : w.heap.size < w5.heap.size := by omega); (try have q5b : w.heap.size + 1 < w5.heap.size := by omega); (try have q5c : w.heap.size + 1 + 1 < w5.heap.size := by omega); (try have q5d : w.heap.size + 1 + 1 + 1 < w5.heap.size := by omega); (try have q5e : wr.heap.size < w5.heap.size := by omega); (try have q5f : wr.heap.size + 1 < w5.heap.size := by omega); (try have q5g : w4.heap.size < w5.heap.size := by omega); (try have q5h : w4.heap.size + 1 < w5.heap.size := by omega))))
  go_ret3
  exact ⟨_, rfl, S1.out, by (repeat' (first | exact Below.refl _ _ | assumption | (with_reducible refine Below.drew ?_) | (with_reducible refine Below.setCell ?_ (by (first | (simp; done) | (simp; omega))) _) | (with_reducible refine below_drewN' ?_ _) | (refine Below.alloc ?_ (by (try simp only [World.size_alloc, World.size_drew, World.size_setCell]); omega) _) | (refine Below.trans ?_ (Below.mono (by assumption) (by (try simp only [World.size_alloc, World.size_drew, World.size_setCell]); omega)))))⟩

/-- The turns of a plan. -/
def planL (b : Brd) (worn : List Int) (ws : List (List Int)) : List Int := if planE b worn ws = 0 then digI worn.length ws.length (bestP worn ws) else []
theorem plan_any (vb v vs : Value) (b : Brd) (worn : List Int) (ws : List (Value × List Int)) (w : World) (h : BrdAt w vb b) (hw : Sl w 1 eI v worn) (hs : Sl w 1 eR vs ws) (hx : ∀ x ∈ ws, Sl w 1 eI x.1 x.2) :
    Calls Tryz.prog 35 #[vb, v, vs] w (fun e w' => ∃ aa na ca, e = .returned (.tuple #[.slice aa na ca, .int .i64 (if planE b worn (ws.map (·.2)) = 0 then planM worn (ws.map (·.2)) else 0), .int .i64 (planE b worn (ws.map (·.2)))]) ∧ Sl w' 1 eI (.slice aa na ca) (planL b worn (ws.map (·.2))) ∧ na = (planL b worn (ws.map (·.2))).length ∧ Below w.heap.size w w') := by
  by_cases hE : planE b worn (ws.map (·.2)) = 0
  · have e1 : planL b worn (ws.map (·.2)) = digI worn.length (ws.map (·.2)).length (bestP worn (ws.map (·.2))) := by unfold planL; rw [if_pos hE]
    rw [if_pos hE, e1, hE]
    unfold planE at hE
    by_cases hc : chk b = 0
    · rw [if_pos hc] at hE
      by_cases h3 : 3 < (ws.map (·.2)).length
      · rw [if_pos h3] at hE; cases hE
      · rw [if_neg h3] at hE
        by_cases hf : frm b.nums.length worn (ws.map (·.2)) = 0
        · rw [if_pos hf] at hE
          have hf' : wErr b.nums.length worn ws = 0 := by rw [wErr_frm]; exact hf
          by_cases hM : planM worn (ws.map (·.2)) ≤ 1000000000
          · by_cases hn : ws = []
            · subst hn
              obtain ⟨a2, c2, rfl, _, _⟩ := hs
              refine (Plan_nil vb v a2 c2 b worn w h hw hc hf').mono ?_
              rintro e w' ⟨v1, rfl, ⟨g, c, rfl⟩, hB⟩
              exact ⟨_, _, _, rfl, sl_nilK _ _ _ _ _, rfl, hB⟩
            · refine (Plan_ok vb v vs b worn ws w h hw hs hx hc hn (by simp at h3; exact h3) hf' hM).mono ?_
              rintro e w' ⟨g, c, rfl, hsl, hB⟩
              exact ⟨_, _, _, rfl, by rw [List.length_map] at hsl ⊢; exact hsl, by rw [digI_length], hB⟩
          · rw [if_neg hM] at hE; cases hE
        · rw [if_neg hf] at hE; exact absurd hE hf
    · rw [if_neg hc] at hE; exact absurd hE hc
  · have e1 : planL b worn (ws.map (·.2)) = [] := by unfold planL; rw [if_neg hE]
    rw [if_neg hE, e1]
    by_cases hn : ws = []
    · subst hn
      have hE2 := hE
      unfold planE at hE2
      simp only [List.map_nil, List.length_nil] at hE2
      by_cases hc : chk b = 0
      · rw [if_pos hc, if_neg (by omega)] at hE2
        by_cases hf : frm b.nums.length worn [] = 0
        · exfalso
          rw [if_pos hf] at hE2
          have hf' : wErr b.nums.length worn [] = 0 := by rw [wErr_frm]; exact hf
          obtain ⟨q1, q2, q3, q4⟩ := wErr_ok hf'
          have hn1 : worn ≠ [] := by
            have g := good_of_chk hc
            intro e; rw [e] at q1
            have := List.length_pos_iff.2 g.lines
            have := g.same
            simp at q1; omega
          have hM : planM worn [] ≤ 1000000000 := by
            rw [planM_nil]
            exact (mx_bd 1000000000 _ hn1 (fun x hx => by have := q3 x hx; omega)).2
          rw [if_pos hM] at hE2
          exact hE2 rfl
        · have e2 : planE b worn [] = frm b.nums.length worn [] := by unfold planE; rw [if_pos hc, if_neg (by simp), if_neg hf]
          simp only [List.map_nil]
          rw [e2]
          refine (Plan_form vb v vs b worn [] w h hw hs (by simp) hc (by simp) _ rfl hf).mono ?_
          rintro e w' ⟨rfl, hB⟩
          exact ⟨_, _, _, rfl, sl_nilK _ _ _ _ _, rfl, hB⟩
      · have e2 : planE b worn [] = chk b := by unfold planE; rw [if_neg hc]
        simp only [List.map_nil]
        rw [e2]
        refine (Plan_chk vb v vs b worn [] w h hw hs (by simp) hc).mono ?_
        rintro e w' ⟨rfl, hB⟩
        exact ⟨_, _, _, rfl, sl_nilK _ _ _ _ _, rfl, hB⟩
    · refine (Plan_err vb v vs b worn ws w h hw hs hx _ rfl hE hn).mono ?_
      rintro e w' ⟨rfl, hB⟩
      exact ⟨_, _, _, rfl, sl_nilK _ _ _ _ _, rfl, hB⟩
end Go.Proofs.YtgceffpkhmjmkaaGreat
