/- Board, part Zt: elements of slices that are written; a copy of a board that is made and laid down in one region. -/
import Derived.Test.YtilgchkndfhdhaaUh
import Derived.Test.YtilgchkndfhdhaaYj
import Derived.Test.YtilgchkndfhdhaaZp
set_option linter.unusedVariables false
set_option linter.unusedSimpArgs false
namespace Go.Proofs.Ytilgchkndfhdhaa
open Go.RowKit Go.Shelf

/-- A block of cells of a type, not frozen. -/
def Tb (W : World) (g : Nat) (T : TypeId) : Prop := ∃ cur, W.heap[g]? = some (.cells cur T (0, 0))
theorem Tb.below {W W' : World} {g : Nat} {T : TypeId} (h : Tb W g T) (hb : Below W.heap.size W W') : Tb W' g T := by
  obtain ⟨cur, h⟩ := h
  exact ⟨cur, (hb.block g (Array.getElem?_eq_some_iff.1 h).1).trans h⟩
theorem Tb.setCell {W : World} {g : Nat} {T : TypeId} (h : Tb W g T) {k i : Nat} {u : Value} : Tb (W.setCell ⟨k, i, none⟩ u) g T := by
  obtain ⟨cur, h⟩ := h
  by_cases e : g = k
  · subst e
    exact ⟨_, Go.Joins.block_setCell (i := i) h u⟩
  · exact ⟨cur, (Below.heap_setCell W ⟨k, i, none⟩ u g e).trans h⟩
theorem Tb.frozen {W : World} {g : Nat} {T : TypeId} (h : Tb W g T) (i : Nat) : W.frozen? ⟨g, i, none⟩ = false := by
  obtain ⟨cur, h⟩ := h
  simp [World.frozen?, h]
theorem Tb.ne {W : World} {g g' : Nat} {T T' : TypeId} (h : Tb W g T) (h' : Tb W g' T') (hT : T ≠ T') : g ≠ g' := by
  intro e
  subst e
  obtain ⟨c, h⟩ := h
  obtain ⟨c', h'⟩ := h'
  rw [h] at h'
  simp at h'
  exact hT h'.2
theorem tb_row {w : World} {base k n : Nat} {T : TypeId} {g c : Nat} {xs : List Value} (h : w.ownsRow base T k (.slice (some ⟨g, 0, none⟩) n c) n xs) : Tb w g T := by
  rcases h.2 with ⟨h0, _⟩ | ⟨g', cap, cur, h1, _, h2, _⟩
  · cases h0
  · simp at h1
    obtain ⟨rfl, _⟩ := h1
    exact ⟨cur, h2⟩
def RetSl3 {α : Type} (k : Nat) (enc : α → List Value) (xs : List α) (T : TypeId) (w : World) (e : Ending) (w' : World) : Prop :=
  ∃ g c, e = .returned (.slice (some ⟨g, 0, none⟩) xs.length c) ∧ w.heap.size ≤ g ∧ g < w'.heap.size ∧ Sl w' k enc (.slice (some ⟨g, 0, none⟩) xs.length c) xs ∧ Tb w' g T ∧ Below w.heap.size w w'
set_option maxRecDepth 100000 in
set_option maxHeartbeats 1000000 in
theorem ints_own2 (v : Value) (xs : List (Int)) (w : World) (hs : Sl w 1 (fun x => [Value.int .i64 x]) v xs) (hne : xs ≠ []) (hle : xs.length ≤ 1000) :
    Calls Try.prog 20 #[v] w (RetSl3 1 (fun x => [Value.int .i64 x]) xs 3 w) := by
  have hk : ∀ x, (((fun x => [Value.int .i64 x])) x).length = 1 := fun _ => rfl
  obtain ⟨a, c, rfl, hl, hs⟩ := hs
  obtain ⟨b, off, rfl, hb, hc⟩ := hs hne
  have HC : Aside (∀ j u, ((xs.map ((fun x => [Value.int .i64 x]))).flatten)[j]? = some u → w.cell? ⟨b, off + j, none⟩ = some u) := by
    intro j u h
    obtain ⟨q, x, i, h1, h2, h3⟩ := flat_inv _ 1 hk xs j u h
    have := hc q x h1 i u h2
    rw [h3, ← Nat.add_assoc]; exact this
  have H1 : Aside (∀ u ∈ (xs.map ((fun x => [Value.int .i64 x]))).flatten, u.oneCell' = true) := by
    intro u hu
    obtain ⟨l, hl, hu⟩ := List.mem_flatten.1 hu
    obtain ⟨x, _, rfl⟩ := List.mem_map.1 hl
    try simp only [] at hu
    simp only [List.mem_cons, List.not_mem_nil, or_false] at hu
    subst hu; rfl
  have HL := flat_len ((fun x => [Value.int .i64 x])) 1 hk xs
  have HF : Aside (∀ (w' : World) (v' : Value), w'.ownsRow w.heap.size 3 1 v' (0 + xs.length) ([] ++ (xs.map ((fun x => [Value.int .i64 x]))).flatten) → ∃ g c, v' = .slice (some ⟨g, 0, none⟩) xs.length c ∧ w.heap.size ≤ g ∧ g < w'.heap.size ∧ Sl w' 1 ((fun x => [Value.int .i64 x])) (.slice (some ⟨g, 0, none⟩) xs.length c) xs ∧ Tb w' g 3) := fun w' v' h => by
    have h2 : w'.ownsRow w.heap.size 3 1 v' xs.length ((xs.map ((fun x => [Value.int .i64 x]))).flatten) := by simpa using h
    obtain ⟨g, c, rfl, h3, h4, h5⟩ := sl_of_row hk hl hne h2
    exact ⟨g, c, rfl, h3, h4, h5, tb_row h2⟩
  obtain ⟨i0, hi, hz0, hz1, hz2⟩ := info_parts info_ints
  clear hs hc hk hne
  have HLA : Aside (((xs.map ((fun x => [Value.int .i64 x]))).flatten).length = xs.length * 1) := HL
  clear HL
  have HC2 : Aside (∀ j u, ((xs.map ((fun x => [Value.int .i64 x]))).flatten)[j]? = some u → (w.alloc (.cells #[] 3)).cell? ((⟨b, off, none⟩ : Addr).add j) = some u) := by
    intro j u h
    rw [Addr.add_lit]
    exact keepc (W := w) (w1 := w.alloc (.cells #[] 3)) (a := ⟨b, off + j, none⟩) (by (repeat' (first | exact Below.refl _ _ | assumption | (with_reducible refine Below.drew ?_) | (with_reducible refine Below.setCell ?_ (by (first | (simp; done) | (simp; omega))) _) | (with_reducible refine below_drewN' ?_ _) | (refine Below.alloc ?_ (by (try simp only [World.size_alloc, World.size_drew, World.size_setCell]); omega) _) | (refine Below.trans ?_ (Below.mono (by assumption) (by (try simp only [World.size_alloc, World.size_drew, World.size_setCell]); omega)))))) (HC.out j u h)
  have hm1 : 0 + xs.length ≤ maxLen := by unfold maxLen; omega
  have hm2 : (0 + xs.length) * 8 ≤ 140737488355328 := by omega
  go_enter Try.func20, Try.ntmps20
  go_wp2_with (at_builtin; refine wpList_append_own _ rfl _ _ 29 rfl w.heap.size 3 i0 (.int .i64 0) 1 8 Try.underlying29 hi hz0 hz1 hz2 rfl (by decide) _ 0 [] rfl (owns_empty _ _ _) ⟨b, off, none⟩ xs.length c ((xs.map ((fun x => [Value.int .i64 x]))).flatten) rfl HLA.out HC2.out H1.out hm1 hm2 (by simp) ?_; intro v' w1 hown1 hgrow1 _; obtain ⟨g, c', rfl, hg1, hg2, hsl, htb⟩ := HF.out _ _ hown1)
  go_ret
  refine ⟨g, c', rfl, hg1, hg2, hsl, htb, ?_⟩
  exact ((Below.refl _ w).alloc (Nat.le_refl _) _).grown hgrow1 (by simp) (fun k e => by cases e; exact Nat.le_refl _)
def OwnOk2 (b : Brd) (w : World) (e : Ending) (w' : World) : Prop :=
  ∃ g1 c1 g2 c2 g3 c3, e = .returned (.agg #[.int .i64 b.eye, .int .i64 b.bull, .slice (some ⟨g1, 0, none⟩) b.rings.length c1, .slice (some ⟨g2, 0, none⟩) b.lines.length c2, .slice (some ⟨g3, 0, none⟩) b.nums.length c3, .int .i64 b.wire]) ∧
    BrdAt w' (.agg #[.int .i64 b.eye, .int .i64 b.bull, .slice (some ⟨g1, 0, none⟩) b.rings.length c1, .slice (some ⟨g2, 0, none⟩) b.lines.length c2, .slice (some ⟨g3, 0, none⟩) b.nums.length c3, .int .i64 b.wire]) b ∧ w.heap.size ≤ g2 ∧ w.heap.size ≤ g3 ∧ Tb w' g1 78 ∧ Tb w' g2 34 ∧ Tb w' g3 3 ∧ Below w.heap.size w w'
/-- What each operation of own's statement lays down. -/
def ownD2 (B : Nat) (b : Brd) (vr vl vn : Value) : Nat → Value → World → Prop
  | 0, x, _ | 4, x, _ => ∃ g, x = .slice (some ⟨g, 0, none⟩) 0 0
  | 1, x, _ | 11, x, _ => x = .pointer (some ⟨B, 2, none⟩)
  | 5, x, _ | 13, x, _ => x = .pointer (some ⟨B, 3, none⟩)
  | 8, x, _ | 15, x, _ => x = .pointer (some ⟨B, 4, none⟩)
  | 2, x, _ => x = vr
  | 6, x, _ => x = vl
  | 9, x, _ => x = vn
  | 3, x, w => ∃ g c, x = .slice (some ⟨g, 0, none⟩) b.rings.length c ∧ B + 2 ≤ g ∧ Sl w 2 encP x b.rings ∧ Tb w g 78
  | 7, x, w => ∃ g c, x = .slice (some ⟨g, 0, none⟩) b.lines.length c ∧ B + 2 ≤ g ∧ Sl w 2 encP x b.lines ∧ Tb w g 34
  | 10, x, w => ∃ g c, x = .slice (some ⟨g, 0, none⟩) b.nums.length c ∧ B + 2 ≤ g ∧ Sl w 1 (fun x => [Value.int .i64 x]) x b.nums ∧ Tb w g 3
  | _, _, _ => True
theorem ownD2_mono (B : Nat) (b : Brd) (vr vl vn : Value) : ∀ i x w w', Below w.heap.size w w' → ownD2 B b vr vl vn i x w → ownD2 B b vr vl vn i x w' := by
  intro i x w w' hB h
  unfold ownD2 at *
  split <;> try exact h
  all_goals
    simp only [] at h
    first
      | exact h
      | (obtain ⟨g, c, h1, h2, h3, h4⟩ := h; exact ⟨g, c, h1, h2, h3.below hB, h4.below hB⟩)
      | (obtain ⟨g, c, h1, h2, h3⟩ := h; exact ⟨g, c, h1, h2, h3.below hB⟩)

set_option maxRecDepth 100000 in
set_option maxHeartbeats 4000000 in
theorem own_any2 (v : Value) (b : Brd) (w : World) (h : BrdAt w v b) (hr : b.rings ≠ []) (hl : b.lines ≠ []) (hn : b.nums ≠ []) (kr : b.rings.length ≤ 1000) (kl : b.lines.length ≤ 1000) (kn : b.nums.length ≤ 1000) :
    Calls Try.prog 11 #[v] w (OwnOk2 b w) := by
  obtain ⟨vr, vl, vn, rfl, sr, sl, sn⟩ := h
  have HR : Aside (Sl w 2 encP vr b.rings) := sr
  have HL : Aside (Sl w 2 encP vl b.lines) := sl
  have HN : Aside (Sl w 1 (fun x => [Value.int .i64 x]) vn b.nums) := sn
  obtain ⟨ar, cr, rfl, lr, _⟩ := sr
  obtain ⟨al, cl, rfl, ll, _⟩ := sl
  obtain ⟨an, cn, rfl, ln, _⟩ := sn
  go_enter Try.func11, Try.ntmps11
  go_wp2_with fail
  obtain ⟨W0, hW0⟩ : ∃ W0, W0 = (w.alloc (.cells #[.int .i64 b.eye, .int .i64 b.bull, .slice ar b.rings.length cr, .slice al b.lines.length cl, .slice an b.nums.length cn, .int .i64 b.wire] 31)).alloc (.cells #[.int .i64 0, .int .i64 0, .slice none 0 0, .slice none 0 0, .slice none 0 0, .int .i64 0] 31) := ⟨_, rfl⟩
  rw [← hW0]
  have s0 : W0.heap.size = w.heap.size + 2 := by rw [hW0]; simp
  have B0 : Below w.heap.size w W0 := by rw [hW0]; clear hW0; (repeat' (first | exact Below.refl _ _ | assumption | (with_reducible refine Below.drew ?_) | (with_reducible refine Below.setCell ?_ (by (first | (simp; done) | (simp; omega))) _) | (with_reducible refine below_drewN' ?_ _) | (refine Below.alloc ?_ (by (try simp only [World.size_alloc, World.size_drew, World.size_setCell]); omega) _) | (refine Below.trans ?_ (Below.mono (by assumption) (by (try simp only [World.size_alloc, World.size_drew, World.size_setCell]); omega)))))
  have k0 : W0.cell? ⟨w.heap.size, 0, none⟩ = some (.int .i64 b.eye) := by rw [hW0]; clear hW0; go_simp
  have k1 : W0.cell? ⟨w.heap.size, 1, none⟩ = some (.int .i64 b.bull) := by rw [hW0]; clear hW0; go_simp
  have k2 : W0.cell? ⟨w.heap.size, 2, none⟩ = some (.slice ar b.rings.length cr) := by rw [hW0]; clear hW0; go_simp
  have k3 : W0.cell? ⟨w.heap.size, 3, none⟩ = some (.slice al b.lines.length cl) := by rw [hW0]; clear hW0; go_simp
  have k4 : W0.cell? ⟨w.heap.size, 4, none⟩ = some (.slice an b.nums.length cn) := by rw [hW0]; clear hW0; go_simp
  have k5 : W0.cell? ⟨w.heap.size, 5, none⟩ = some (.int .i64 b.wire) := by rw [hW0]; clear hW0; go_simp
  have f0 : ∀ i, W0.frozen? ⟨w.heap.size, i, none⟩ = false := by intro i; rw [hW0]; clear hW0; go_simp
  have f1 : ∀ i, W0.frozen? ⟨w.heap.size + 1, i, none⟩ = false := by intro i; rw [hW0]; clear hW0; go_simp
  have r0 : W0.cell? ⟨w.heap.size + 1, 0, none⟩ = some (.int .i64 0) := by rw [hW0]; clear hW0; go_simp
  have r1 : W0.cell? ⟨w.heap.size + 1, 1, none⟩ = some (.int .i64 0) := by rw [hW0]; clear hW0; go_simp
  have r2 : W0.cell? ⟨w.heap.size + 1, 2, none⟩ = some (.slice none 0 0) := by rw [hW0]; clear hW0; go_simp
  have r3 : W0.cell? ⟨w.heap.size + 1, 3, none⟩ = some (.slice none 0 0) := by rw [hW0]; clear hW0; go_simp
  have r4 : W0.cell? ⟨w.heap.size + 1, 4, none⟩ = some (.slice none 0 0) := by rw [hW0]; clear hW0; go_simp
  have r5 : W0.cell? ⟨w.heap.size + 1, 5, none⟩ = some (.int .i64 0) := by rw [hW0]; clear hW0; go_simp
  clear hW0
  have S0 : Aside (W0.heap.size = w.heap.size + 2) := s0
  have HBX : Aside (Below w.heap.size w W0) := B0
  have HF0 : Aside (∀ (A : World) (i : Nat), Below W0.heap.size W0 A → A.frozen? ⟨w.heap.size, i, none⟩ = false) := fun A i hA => (hA.frozen (p := ⟨w.heap.size, i, none⟩) (by show w.heap.size < _; omega)).trans (f0 i)
  have HF1 : Aside (∀ (A : World) (i : Nat), Below W0.heap.size W0 A → A.frozen? ⟨w.heap.size + 1, i, none⟩ = false) := fun A i hA => (hA.frozen (p := ⟨w.heap.size + 1, i, none⟩) (by show w.heap.size + 1 < _; omega)).trans (f1 i)
  clear f0 f1 s0 B0
  refine region_laid [true, true, true, true, true, true, true, true, true, true, true, true, false, false, false, false, false] 5 (ownD2 w.heap.size b (.slice ar b.rings.length cr) (.slice al b.lines.length cl) (.slice an b.nums.length cn)) (fun w' => Below W0.heap.size W0 w') (by kernel_rfl) rfl (by show layable _ 18 _ = true; decide +kernel) rfl ((Below.refl _ _).drew) (ownD2_mono _ _ _ _ _) ?step ?rest
  case step =>
    intro i o listed a W hA ho hL he
    have ha1 : a.tmps.getD 1 undef = .pointer (some ⟨w.heap.size, 0, none⟩) := hL.kept 1 (by decide +kernel)
    have BW : Below w.heap.size w W := HBX.out.trans (hL.cls.mono HBX.out.size)
    have zW : w.heap.size + 2 ≤ W.heap.size := by have := hL.cls.size; have := S0.out; omega
    have m2 := keepc hL.cls k2
    have m3 := keepc hL.cls k3
    have m4 := keepc hL.cls k4
    have CL : ∀ W', Below W.heap.size W W' → Below W0.heap.size W0 W' := fun W' h => hL.cls.trans (h.mono hL.cls.size)
    match i, hA, ho with
    | 0, _, ho =>
      cases ho
      refine wpOp_plain rfl rfl ?_
      unfold Oper.wp
      go_simp
      exact ⟨_, rfl, (Below.refl _ _).alloc (Nat.le_refl _) _, CL _ ((Below.refl _ _).alloc (Nat.le_refl _) _), ⟨_, rfl⟩⟩
    | 4, _, ho =>
      cases ho
      refine wpOp_plain rfl rfl ?_
      unfold Oper.wp
      go_simp
      exact ⟨_, rfl, (Below.refl _ _).alloc (Nat.le_refl _) _, CL _ ((Below.refl _ _).alloc (Nat.le_refl _) _), ⟨_, rfl⟩⟩
    | 1, _, ho | 5, _, ho | 8, _, ho | 11, _, ho =>
      cases ho
      refine wpOp_plain rfl rfl ?_
      unfold Oper.wp
      go_simp
      exact ⟨_, rfl, Below.refl _ _, CL _ (Below.refl _ _), rfl⟩
    | 2, _, ho =>
      cases ho
      have d4 : a.tmps.getD 4 undef = .pointer (some ⟨w.heap.size, 2, none⟩) := hL.new 1 _ 4 rfl (he ⟨1, .data⟩ (by simp) rfl) rfl
      refine wpOp_plain rfl rfl ?_
      unfold Oper.wp
      go_simp
      exact ⟨_, rfl, Below.refl _ _, CL _ (Below.refl _ _), rfl⟩
    | 6, _, ho =>
      cases ho
      have d4 : a.tmps.getD 8 undef = .pointer (some ⟨w.heap.size, 3, none⟩) := hL.new 5 _ 8 rfl (he ⟨5, .data⟩ (by simp) rfl) rfl
      refine wpOp_plain rfl rfl ?_
      unfold Oper.wp
      go_simp
      exact ⟨_, rfl, Below.refl _ _, CL _ (Below.refl _ _), rfl⟩
    | 9, _, ho =>
      cases ho
      have d4 : a.tmps.getD 11 undef = .pointer (some ⟨w.heap.size, 4, none⟩) := hL.new 8 _ 11 rfl (he ⟨8, .data⟩ (by simp) rfl) rfl
      refine wpOp_plain rfl rfl ?_
      unfold Oper.wp
      go_simp
      exact ⟨_, rfl, Below.refl _ _, CL _ (Below.refl _ _), rfl⟩
    | 3, _, ho =>
      cases ho
      obtain ⟨g, d3⟩ : ∃ g, a.tmps.getD 3 undef = .slice (some ⟨g, 0, none⟩) 0 0 := hL.new 0 _ 3 rfl (he ⟨0, .data⟩ (by simp) rfl) rfl
      have d5 : a.tmps.getD 5 undef = .slice ar b.rings.length cr := hL.new 2 _ 5 rfl (he ⟨2, .data⟩ (by simp) rfl) rfl
      obtain ⟨ad, news, rfl, hn1, hn2, hn3, hn4⟩ := news_of_sl (k := 2) (enc := encP) (fun _ => rfl) (fun x u hu => by unfold encP at hu; simp at hu; rcases hu with rfl | rfl <;> rfl) (HR.out.below BW) hr
      obtain ⟨i0, hi, hz0, hz1, hz2⟩ := info_parts info_rings
      refine wpOp_plain rfl rfl ?_
      refine wp_append_grows rfl (.tmp 3) (.tmp 5) 27 rfl 78 i0 (.agg #[.int .i64 0, .int .i64 0]) 2 16 Try.underlying27 hi hz0 hz1 hz2 rfl (by decide) ⟨g, 0, none⟩ d3 ad b.rings.length cr news d5 hn1 hn2 hn3 (List.length_pos_iff.2 hr) (by unfold maxLen; omega) (by omega) ?_
      intro v' w' r1 r2
      obtain ⟨g', c', rfl, hg1, hg2, hsl⟩ := hn4 _ w' v' r1
      have htb := tb_row r1
      have hBn : Below W.heap.size W w' := (Below.refl _ _).grown r2 (Nat.le_refl _) (fun j e => by cases e)
      exact ⟨_, rfl, hBn, CL _ hBn, ⟨g', c', rfl, by omega, hsl, htb⟩⟩
    | 7, _, ho =>
      cases ho
      obtain ⟨g, d3⟩ : ∃ g, a.tmps.getD 7 undef = .slice (some ⟨g, 0, none⟩) 0 0 := hL.new 4 _ 7 rfl (he ⟨4, .data⟩ (by simp) rfl) rfl
      have d5 : a.tmps.getD 9 undef = .slice al b.lines.length cl := hL.new 6 _ 9 rfl (he ⟨6, .data⟩ (by simp) rfl) rfl
      obtain ⟨ad, news, rfl, hn1, hn2, hn3, hn4⟩ := news_of_sl (k := 2) (enc := encP) (fun _ => rfl) (fun x u hu => by unfold encP at hu; simp at hu; rcases hu with rfl | rfl <;> rfl) (HL.out.below BW) hl
      obtain ⟨i0, hi, hz0, hz1, hz2⟩ := info_parts info_pts
      refine wpOp_plain rfl rfl ?_
      refine wp_append_grows rfl (.tmp 7) (.tmp 9) 28 rfl 34 i0 (.agg #[.int .i64 0, .int .i64 0]) 2 16 Try.underlying28 hi hz0 hz1 hz2 rfl (by decide) ⟨g, 0, none⟩ d3 ad b.lines.length cl news d5 hn1 hn2 hn3 (List.length_pos_iff.2 hl) (by unfold maxLen; omega) (by omega) ?_
      intro v' w' r1 r2
      obtain ⟨g', c', rfl, hg1, hg2, hsl⟩ := hn4 _ w' v' r1
      have htb := tb_row r1
      have hBn : Below W.heap.size W w' := (Below.refl _ _).grown r2 (Nat.le_refl _) (fun j e => by cases e)
      exact ⟨_, rfl, hBn, CL _ hBn, ⟨g', c', rfl, by omega, hsl, htb⟩⟩
    | 10, _, ho =>
      cases ho
      have d5 : a.tmps.getD 12 undef = .slice an b.nums.length cn := hL.new 9 _ 12 rfl (he ⟨9, .data⟩ (by simp) rfl) rfl
      have x := ints_own2 _ b.nums W (HN.out.below BW) hn kn
      unfold RetSl3 at x
      refine wpOp_plain rfl rfl ?_
      unfold Oper.wp
      go_simp
      refine x.mono ?_
      rintro e w' ⟨g', c', rfl, hg1, hg2, hsl, htb, hBn⟩
      exact ⟨_, rfl, hBn, CL _ hBn, ⟨g', c', rfl, by omega, hsl, htb⟩⟩
    | 12, hA, _ | 13, hA, _ | 14, hA, _ | 15, hA, _ | 16, hA, _ => cases hA
    | n + 17, hA, _ => simp at hA
  case rest =>
    intro a W hL
    obtain ⟨g0, e3⟩ : ∃ g, a.tmps.getD 3 undef = .slice (some ⟨g, 0, none⟩) 0 0 := hL.new 0 _ 3 rfl rfl rfl
    have e4 : a.tmps.getD 4 undef = .pointer (some ⟨w.heap.size, 2, none⟩) := hL.new 1 _ 4 rfl rfl rfl
    have e5 : a.tmps.getD 5 undef = .slice ar b.rings.length cr := hL.new 2 _ 5 rfl rfl rfl
    obtain ⟨g1, c1, e6, hg1, hs1, ht1⟩ : ∃ g c, a.tmps.getD 6 undef = .slice (some ⟨g, 0, none⟩) b.rings.length c ∧ w.heap.size + 2 ≤ g ∧ Sl W 2 encP (a.tmps.getD 6 undef) b.rings ∧ Tb W g 78 := hL.new 3 _ 6 rfl rfl rfl
    obtain ⟨g0', e7⟩ : ∃ g, a.tmps.getD 7 undef = .slice (some ⟨g, 0, none⟩) 0 0 := hL.new 4 _ 7 rfl rfl rfl
    have e8 : a.tmps.getD 8 undef = .pointer (some ⟨w.heap.size, 3, none⟩) := hL.new 5 _ 8 rfl rfl rfl
    have e9 : a.tmps.getD 9 undef = .slice al b.lines.length cl := hL.new 6 _ 9 rfl rfl rfl
    obtain ⟨g2, c2, e10, hg2, hs2, ht2⟩ : ∃ g c, a.tmps.getD 10 undef = .slice (some ⟨g, 0, none⟩) b.lines.length c ∧ w.heap.size + 2 ≤ g ∧ Sl W 2 encP (a.tmps.getD 10 undef) b.lines ∧ Tb W g 34 := hL.new 7 _ 10 rfl rfl rfl
    have e11 : a.tmps.getD 11 undef = .pointer (some ⟨w.heap.size, 4, none⟩) := hL.new 8 _ 11 rfl rfl rfl
    have e12 : a.tmps.getD 12 undef = .slice an b.nums.length cn := hL.new 9 _ 12 rfl rfl rfl
    obtain ⟨g3, c3, e13, hg3, hs3, ht3⟩ : ∃ g c, a.tmps.getD 13 undef = .slice (some ⟨g, 0, none⟩) b.nums.length c ∧ w.heap.size + 2 ≤ g ∧ Sl W 1 (fun x => [Value.int .i64 x]) (a.tmps.getD 13 undef) b.nums ∧ Tb W g 3 := hL.new 10 _ 13 rfl rfl rfl
    have e14 : a.tmps.getD 14 undef = .pointer (some ⟨w.heap.size, 2, none⟩) := hL.new 11 _ 14 rfl rfl rfl
    have e0 : a.tmps.getD 0 undef = .agg #[.int .i64 b.eye, .int .i64 b.bull, .slice ar b.rings.length cr, .slice al b.lines.length cl, .slice an b.nums.length cn, .int .i64 b.wire] := hL.kept2 0 (by decide +kernel)
    have e1 : a.tmps.getD 1 undef = .pointer (some ⟨w.heap.size, 0, none⟩) := hL.kept2 1 (by decide +kernel)
    have e2 : a.tmps.getD 2 undef = .pointer (some ⟨w.heap.size + 1, 0, none⟩) := hL.kept2 2 (by decide +kernel)
    have e15 : a.tmps.getD 15 undef = undef := hL.kept2 15 (by decide +kernel)
    have e16 : a.tmps.getD 16 undef = undef := hL.kept2 16 (by decide +kernel)
    have e17 : a.tmps.getD 17 undef = undef := hL.kept2 17 (by decide +kernel)
    rw [e6] at hs1
    rw [e10] at hs2
    rw [e13] at hs3
    have BW : Below w.heap.size w W := HBX.out.trans (hL.cls.mono HBX.out.size)
    have zW : w.heap.size + 2 ≤ W.heap.size := by have := hL.cls.size; have := S0.out; omega
    have m0 := keepc hL.cls k0
    have m1 := keepc hL.cls k1
    have m2 := keepc hL.cls k2
    have m3 := keepc hL.cls k3
    have m4 := keepc hL.cls k4
    have m5 := keepc hL.cls k5
    have F0 := fun i => HF0.out W i hL.cls
    have F1 := fun i => HF1.out W i hL.cls
    have n0 := keepc hL.cls r0
    have n1 := keepc hL.cls r1
    have n2 := keepc hL.cls r2
    have n3 := keepc hL.cls r3
    have n4 := keepc hL.cls r4
    have n5 := keepc hL.cls r5
    obtain rfl := act_lit (a := a) (lits := [.agg #[.int .i64 b.eye, .int .i64 b.bull, .slice ar b.rings.length cr, .slice al b.lines.length cl, .slice an b.nums.length cn, .int .i64 b.wire], .pointer (some ⟨w.heap.size, 0, none⟩), .pointer (some ⟨w.heap.size + 1, 0, none⟩), .slice (some ⟨g0, 0, none⟩) 0 0, .pointer (some ⟨w.heap.size, 2, none⟩), .slice ar b.rings.length cr, .slice (some ⟨g1, 0, none⟩) b.rings.length c1, .slice (some ⟨g0', 0, none⟩) 0 0,
      .pointer (some ⟨w.heap.size, 3, none⟩), .slice al b.lines.length cl, .slice (some ⟨g2, 0, none⟩) b.lines.length c2, .pointer (some ⟨w.heap.size, 4, none⟩), .slice an b.nums.length cn, .slice (some ⟨g3, 0, none⟩) b.nums.length c3, .pointer (some ⟨w.heap.size, 2, none⟩), undef, undef, undef]) hL.defers hL.size (by
      simp only [List.zipIdx_cons, List.zipIdx_nil, List.forall_mem_cons, List.not_mem_nil, false_implies, implies_true, and_true, Nat.zero_add, Nat.reduceAdd]
      exact ⟨e0, e1, e2, e3, e4, e5, e6, e7, e8, e9, e10, e11, e12, e13, e14, e15, e16, e17⟩)
    clear hL e0 e1 e2 e3 e4 e5 e6 e7 e8 e9 e10 e11 e12 e13 e14 e15 e16 e17 k0 k1 k2 k3 k4 k5 r0 r1 r2 r3 r4 r5
    refine wpAny_one (i := 12) (by decide +kernel) rfl rfl ?_
    unfold Oper.wp
    go_simp
    refine wpAny_one (i := 13) (by decide +kernel) rfl rfl ?_
    unfold Oper.wp
    go_simp
    refine wpAny_one (i := 14) (by decide +kernel) rfl rfl ?_
    unfold Oper.wp
    go_simp
    refine wpAny_one (i := 15) (by decide +kernel) rfl rfl ?_
    unfold Oper.wp
    go_simp
    refine wpAny_one (i := 16) (by decide +kernel) rfl rfl ?_
    unfold Oper.wp
    go_simp
    refine wpAny_done (by decide +kernel) ?_ _
    go_wp2
    obtain ⟨V, hV⟩ : ∃ V, V = (((((((((W.setCell ⟨w.heap.size, 2, none⟩ (.slice (some ⟨g1, 0, none⟩) b.rings.length c1)).setCell ⟨w.heap.size, 3, none⟩ (.slice (some ⟨g2, 0, none⟩) b.lines.length c2)).setCell ⟨w.heap.size, 4, none⟩ (.slice (some ⟨g3, 0, none⟩) b.nums.length c3)).setCell
      ⟨w.heap.size + 1, 0, none⟩ (.int .i64 b.eye)).setCell ⟨w.heap.size + 1, 1, none⟩ (.int .i64 b.bull)).setCell ⟨w.heap.size + 1, 2, none⟩ (.slice (some ⟨g1, 0, none⟩) b.rings.length c1)).setCell ⟨w.heap.size + 1, 3, none⟩ (.slice (some ⟨g2, 0, none⟩) b.lines.length c2)).setCell ⟨w.heap.size + 1, 4, none⟩ (.slice (some ⟨g3, 0, none⟩) b.nums.length c3)).setCell ⟨w.heap.size + 1, 5, none⟩ (.int .i64 b.wire)) := ⟨_, rfl⟩
    have p0 : V.cell? ⟨w.heap.size + 1, 0, none⟩ = some (.int .i64 b.eye) := by rw [hV]; clear hV; (first | (go_simp; done) | (go_simp; refine World.cell?_setCell_same' _ _ _ ?_; (repeat (with_reducible refine some_set' ?_)); go_simp))
    have p1 : V.cell? ⟨w.heap.size + 1, 1, none⟩ = some (.int .i64 b.bull) := by rw [hV]; clear hV; (first | (go_simp; done) | (go_simp; refine World.cell?_setCell_same' _ _ _ ?_; (repeat (with_reducible refine some_set' ?_)); go_simp))
    have p2 : V.cell? ⟨w.heap.size + 1, 2, none⟩ = some (.slice (some ⟨g1, 0, none⟩) b.rings.length c1) := by rw [hV]; clear hV; (first | (go_simp; done) | (go_simp; refine World.cell?_setCell_same' _ _ _ ?_; (repeat (with_reducible refine some_set' ?_)); go_simp))
    have p3 : V.cell? ⟨w.heap.size + 1, 3, none⟩ = some (.slice (some ⟨g2, 0, none⟩) b.lines.length c2) := by rw [hV]; clear hV; (first | (go_simp; done) | (go_simp; refine World.cell?_setCell_same' _ _ _ ?_; (repeat (with_reducible refine some_set' ?_)); go_simp))
    have p4 : V.cell? ⟨w.heap.size + 1, 4, none⟩ = some (.slice (some ⟨g3, 0, none⟩) b.nums.length c3) := by rw [hV]; clear hV; (first | (go_simp; done) | (go_simp; refine World.cell?_setCell_same' _ _ _ ?_; (repeat (with_reducible refine some_set' ?_)); go_simp))
    have p5 : V.cell? ⟨w.heap.size + 1, 5, none⟩ = some (.int .i64 b.wire) := by rw [hV]; clear hV; (first | (go_simp; done) | (go_simp; refine World.cell?_setCell_same' _ _ _ ?_; (repeat (with_reducible refine some_set' ?_)); go_simp))
    have q1 : Sl V 2 encP (.slice (some ⟨g1, 0, none⟩) b.rings.length c1) b.rings := by rw [hV]; exact ((((((((((hs1).setO (by first | (simp; done) | (simp; omega) | omega)).setO (by first | (simp; done) | (simp; omega) | omega)).setO (by first | (simp; done) | (simp; omega) | omega)).setO (by first | (simp; done) | (simp; omega) | omega)).setO (by first | (simp; done) | (simp; omega) | omega)).setO (by first | (simp; done) | (simp; omega) | omega)).setO (by first | (simp; done) | (simp; omega) | omega)).setO (by first | (simp; done) | (simp; omega) | omega)).setO (by first | (simp; done) | (simp; omega) | omega))
    have q2 : Sl V 2 encP (.slice (some ⟨g2, 0, none⟩) b.lines.length c2) b.lines := by rw [hV]; exact ((((((((((hs2).setO (by first | (simp; done) | (simp; omega) | omega)).setO (by first | (simp; done) | (simp; omega) | omega)).setO (by first | (simp; done) | (simp; omega) | omega)).setO (by first | (simp; done) | (simp; omega) | omega)).setO (by first | (simp; done) | (simp; omega) | omega)).setO (by first | (simp; done) | (simp; omega) | omega)).setO (by first | (simp; done) | (simp; omega) | omega)).setO (by first | (simp; done) | (simp; omega) | omega)).setO (by first | (simp; done) | (simp; omega) | omega))
    have q3 : Sl V 1 (fun x => [Value.int .i64 x]) (.slice (some ⟨g3, 0, none⟩) b.nums.length c3) b.nums := by rw [hV]; exact ((((((((((hs3).setO (by first | (simp; done) | (simp; omega) | omega)).setO (by first | (simp; done) | (simp; omega) | omega)).setO (by first | (simp; done) | (simp; omega) | omega)).setO (by first | (simp; done) | (simp; omega) | omega)).setO (by first | (simp; done) | (simp; omega) | omega)).setO (by first | (simp; done) | (simp; omega) | omega)).setO (by first | (simp; done) | (simp; omega) | omega)).setO (by first | (simp; done) | (simp; omega) | omega)).setO (by first | (simp; done) | (simp; omega) | omega))
    have ht1V : Tb V g1 78 := by rw [hV]; exact ht1.setCell.setCell.setCell.setCell.setCell.setCell.setCell.setCell.setCell
    have ht2V : Tb V g2 34 := by rw [hV]; exact ht2.setCell.setCell.setCell.setCell.setCell.setCell.setCell.setCell.setCell
    have ht3V : Tb V g3 3 := by rw [hV]; exact ht3.setCell.setCell.setCell.setCell.setCell.setCell.setCell.setCell.setCell
    have hbV : Below w.heap.size w V := by
      rw [hV]
      exact ((((((((BW.setCell (p := ⟨w.heap.size, 2, none⟩) (by first | (simp; done) | (simp; omega) | omega) _).setCell (p := ⟨w.heap.size, 3, none⟩) (by first | (simp; done) | (simp; omega) | omega) _).setCell (p := ⟨w.heap.size, 4, none⟩) (by first | (simp; done) | (simp; omega) | omega) _).setCell (p := ⟨w.heap.size + 1, 0, none⟩) (by first | (simp; done) | (simp; omega) | omega) _).setCell (p := ⟨w.heap.size + 1, 1, none⟩) (by first | (simp; done) | (simp; omega) | omega) _).setCell (p := ⟨w.heap.size + 1, 2, none⟩) (by first | (simp; done) | (simp; omega) | omega) _).setCell (p := ⟨w.heap.size + 1, 3, none⟩) (by first | (simp; done) | (simp; omega) | omega) _).setCell (p := ⟨w.heap.size + 1, 4, none⟩) (by first | (simp; done) | (simp; omega) | omega) _).setCell (p := ⟨w.heap.size + 1, 5, none⟩) (by first | (simp; done) | (simp; omega) | omega) _
    rw [← hV]
    clear hV
    exact bodyPost_ret (v := .agg #[.int .i64 b.eye, .int .i64 b.bull, .slice (some ⟨g1, 0, none⟩) b.rings.length c1, .slice (some ⟨g2, 0, none⟩) b.lines.length c2, .slice (some ⟨g3, 0, none⟩) b.nums.length c3, .int .i64 b.wire]) (by simp [results, Try.results11, go_sem, p0, p1, p2, p3, p4, p5]) rfl ⟨g1, c1, g2, c2, g3, c3, rfl, ⟨_, _, _, rfl, q1, q2, q3⟩, by omega, by omega, ht1V, ht2V, ht3V, hbV⟩

theorem cs_other {w : World} {a b : Addr} {v : Value} (h : a ≠ b) : (w.setCell a v).cell? b = w.cell? b := World.cell?_setCell_other w a b v h
theorem cs_same {w : World} {a : Addr} {v u : Value} (h : w.cell? a = some u) : (w.setCell a v).cell? a = some v := World.cell?_setCell_same' w a v (by rw [h]; rfl)
theorem Sl.putP {w : World} {g n c i : Nat} {xs : List (Int × Int)} {y : Int × Int} (h : Sl w 2 encP (.slice (some ⟨g, 0, none⟩) n c) xs) (hi : i < xs.length) :
    Sl ((w.setCell ⟨g, i * 2, none⟩ (.int .i64 y.1)).setCell ⟨g, i * 2 + 1, none⟩ (.int .i64 y.2)) 2 encP (.slice (some ⟨g, 0, none⟩) n c) (xs.set i y) := by
  obtain ⟨a, c', e, hl, hs⟩ := h
  obtain ⟨b, off, ha, hb, hc⟩ := hs (by intro e; rw [e] at hi; simp at hi)
  cases e
  cases ha
  have h0 := hc i _ (List.getElem?_eq_getElem hi) 0 _ rfl
  have h1 := hc i _ (List.getElem?_eq_getElem hi) 1 _ rfl
  rw [Nat.zero_add, Nat.add_zero] at h0
  rw [Nat.zero_add] at h1
  refine ⟨_, _, by rw [List.length_set], by rw [List.length_set]; exact hl, fun _ => ⟨g, 0, rfl, by simpa using hb, fun j x hx q u hu => ?_⟩⟩
  rw [Nat.zero_add]
  have hq : q < 2 := by have := (List.getElem?_eq_some_iff.1 hu).1; simpa [encP] using this
  by_cases hij : i = j
  · subst hij
    rw [List.getElem?_set_self hi] at hx
    cases hx
    by_cases q0 : q = 0
    · subst q0
      simp only [encP, List.getElem?_cons_zero, Option.some.injEq] at hu
      subst hu
      rw [Nat.add_zero, cs_other (by intro e; simp at e)]
      exact cs_same h0
    · obtain rfl : q = 1 := by omega
      simp only [encP, List.getElem?_cons_succ, List.getElem?_cons_zero, Option.some.injEq] at hu
      subst hu
      rw [cs_same ((cs_other (by intro e; simp at e)).trans h1)]
  · rw [List.getElem?_set_ne hij] at hx
    have h2 := hc j x hx q u hu
    rw [Nat.zero_add] at h2
    rw [cs_other (by intro e; simp at e <;> omega), cs_other (by intro e; simp at e <;> omega)]
    exact h2
theorem Sl.put1 {w : World} {g n c i : Nat} {xs : List Int} {y : Int} (h : Sl w 1 (fun x => [Value.int .i64 x]) (.slice (some ⟨g, 0, none⟩) n c) xs) (hi : i < xs.length) :
    Sl (w.setCell ⟨g, i, none⟩ (.int .i64 y)) 1 (fun x => [Value.int .i64 x]) (.slice (some ⟨g, 0, none⟩) n c) (xs.set i y) := by
  obtain ⟨a, c', e, hl, hs⟩ := h
  obtain ⟨b, off, ha, hb, hc⟩ := hs (by intro e; rw [e] at hi; simp at hi)
  cases e
  cases ha
  have h0 := hc i _ (List.getElem?_eq_getElem hi) 0 _ rfl
  rw [Nat.zero_add, Nat.add_zero, Nat.mul_one] at h0
  refine ⟨_, _, by rw [List.length_set], by rw [List.length_set]; exact hl, fun _ => ⟨g, 0, rfl, by simpa using hb, fun j x hx q u hu => ?_⟩⟩
  rw [Nat.zero_add, Nat.mul_one]
  have hq : q < 1 := by have := (List.getElem?_eq_some_iff.1 hu).1; simpa using this
  obtain rfl : q = 0 := by omega
  rw [Nat.add_zero]
  by_cases hij : i = j
  · subst hij
    rw [List.getElem?_set_self hi] at hx
    cases hx
    simp only [List.getElem?_cons_zero, Option.some.injEq] at hu
    subst hu
    rw [cs_same h0]
  · rw [List.getElem?_set_ne hij] at hx
    have h2 := hc j x hx 0 u hu
    rw [Nat.zero_add, Nat.mul_one, Nat.add_zero] at h2
    rw [cs_other (by intro e; simp at e <;> omega)]
    exact h2
/-- The first elements are those of one list, the others those of another one. -/
def mix {α : Type} (M L : List α) (i : Nat) : List α := M.take i ++ L.drop i
theorem mix_zero {α : Type} (M L : List α) : mix M L 0 = L := by simp [mix]
theorem mix_end {α : Type} {M L : List α} (h : M.length = L.length) : mix M L L.length = M := by
  unfold mix; rw [List.drop_length, ← h, List.take_length, List.append_nil]
theorem mix_len {α : Type} {M L : List α} (h : M.length = L.length) (i : Nat) (hi : i ≤ L.length) : (mix M L i).length = L.length := by
  unfold mix; rw [List.length_append, List.length_take, List.length_drop]; omega
theorem mix_set {α : Type} {M L : List α} (h : M.length = L.length) {i : Nat} {y : α} (hi : i < L.length) (hy : M[i]? = some y) : (mix M L i).set i y = mix M L (i + 1) := by
  obtain ⟨hm, e⟩ := List.getElem?_eq_some_iff.1 hy
  unfold mix
  rw [List.set_append, if_neg (by rw [List.length_take]; omega), List.length_take, Nat.min_eq_left (by omega), Nat.sub_self, List.drop_eq_getElem_cons hi, List.set_cons_zero, List.take_succ_eq_append_getElem hm, e, List.append_assoc]
  rfl

/-- What a copy of a board is. -/
def CopyAt (B : World) (b : Brd) (x : Value) (w : World) : Prop :=
  ∃ g1 c1 g2 c2 g3 c3, x = .agg #[.int .i64 b.eye, .int .i64 b.bull, .slice (some ⟨g1, 0, none⟩) b.rings.length c1, .slice (some ⟨g2, 0, none⟩) b.lines.length c2, .slice (some ⟨g3, 0, none⟩) b.nums.length c3, .int .i64 b.wire] ∧
    Sl w 2 encP (.slice (some ⟨g1, 0, none⟩) b.rings.length c1) b.rings ∧ Sl w 2 encP (.slice (some ⟨g2, 0, none⟩) b.lines.length c2) b.lines ∧ Sl w 1 (fun x => [Value.int .i64 x]) (.slice (some ⟨g3, 0, none⟩) b.nums.length c3) b.nums ∧
    B.heap.size ≤ g2 ∧ B.heap.size ≤ g3 ∧ Tb w g1 78 ∧ Tb w g2 34 ∧ Tb w g3 3
theorem CopyAt.below {B w w' : World} {b : Brd} {x : Value} (h : CopyAt B b x w) (hb : Below w.heap.size w w') : CopyAt B b x w' := by
  obtain ⟨g1, c1, g2, c2, g3, c3, e, h1, h2, h3, h4, h5, h6, h7, h8⟩ := h
  exact ⟨g1, c1, g2, c2, g3, c3, e, h1.below hb, h2.below hb, h3.below hb, h4, h5, h6.below hb, h7.below hb, h8.below hb⟩
theorem CopyAt.setCell {B w : World} {b : Brd} {x : Value} {g i : Nat} {u : Value} (h : CopyAt B b x w) (hg : Tb w g 31) : CopyAt B b x (w.setCell ⟨g, i, none⟩ u) := by
  obtain ⟨g1, c1, g2, c2, g3, c3, e, h1, h2, h3, h4, h5, h6, h7, h8⟩ := h
  exact ⟨g1, c1, g2, c2, g3, c3, e, h1.setO (h6.ne hg (by decide)), h2.setO (h7.ne hg (by decide)), h3.setO (h8.ne hg (by decide)), h4, h5, h6.setCell, h7.setCell, h8.setCell⟩

/-- A board's own block and the copy that is stored there (operations 1, 5, 6; slots 19, 155). -/
def Cm (B : World) (b : Brd) (listed : Array Bool) (a : Act) (w : World) : Prop :=
  Below B.heap.size B w ∧ (listed.getD 5 false = true → ∃ g, a.tmps.getD 19 undef = .pointer (some ⟨g, 0, none⟩) ∧ B.heap.size ≤ g ∧ Tb w g 31 ∧ (listed.getD 6 false = false → w.heap[g]? = some (.cells #[.int .i64 0, .int .i64 0, .slice none 0 0, .slice none 0 0, .slice none 0 0, .int .i64 0] 31 (0, 0)))) ∧
    (listed.getD 1 false = true → CopyAt B b (a.tmps.getD 155 undef) w) ∧
    (listed.getD 6 false = true → ∃ g cs, a.tmps.getD 19 undef = .pointer (some ⟨g, 0, none⟩) ∧ a.tmps.getD 155 undef = .agg cs ∧ w.heap[g]? = some (.cells cs 31 (0, 0)))
theorem replicate_false (n i : Nat) : (Array.replicate n false).getD i false = false := by
  simp only [Array.getD_eq_getD_getElem?, Array.getElem?_replicate]
  split <;> rfl
theorem Cm.start (B : World) (b : Brd) (n : Nat) (a : Act) : Cm B b (Array.replicate n false) a B.drew :=
  by
  unfold Cm
  rw [replicate_false, replicate_false, replicate_false]
  exact ⟨(Below.refl _ _).drew, (fun h => absurd h (by decide)), (fun h => absurd h (by decide)), (fun h => absurd h (by decide))⟩
theorem Cm.other {B w w' : World} {b : Brd} {i t : Nat} {listed : Array Bool} {a : Act} {x : Value} (h : Cm B b listed a w) (hi : i ≠ 1 ∧ i ≠ 5 ∧ i ≠ 6 ∧ t ≠ 19 ∧ t ≠ 155) (hB : Below w.heap.size w w') : Cm B b (listed.setIfInBounds i true) (a.put (some t) x) w' := by
  obtain ⟨h1, h2, h3, h4⟩ := h
  obtain ⟨i1, i2, i3, i4, i5⟩ := hi
  have e1 : (listed.setIfInBounds i true).getD 1 false = listed.getD 1 false := getD_set_ne _ _ _ _ (Ne.symm i1)
  have e5 : (listed.setIfInBounds i true).getD 5 false = listed.getD 5 false := getD_set_ne _ _ _ _ (Ne.symm i2)
  have e6 : (listed.setIfInBounds i true).getD 6 false = listed.getD 6 false := getD_set_ne _ _ _ _ (Ne.symm i3)
  have t1 : (a.put (some t) x).tmps.getD 19 undef = a.tmps.getD 19 undef := getDV_set_ne _ _ _ _ _ (Ne.symm i4)
  have t2 : (a.put (some t) x).tmps.getD 155 undef = a.tmps.getD 155 undef := getDV_set_ne _ _ _ _ _ (Ne.symm i5)
  unfold Cm
  rw [e1, e5, e6, t1, t2]
  refine ⟨h1.trans (hB.mono h1.size), fun h => ?_, fun h => (h3 h).below hB, fun h => ?_⟩
  · obtain ⟨g, q1, q2, q3, q4⟩ := h2 h
    exact ⟨g, q1, q2, q3.below hB, fun hh => (hB.block g (by obtain ⟨c, hc⟩ := q3; exact (Array.getElem?_eq_some_iff.1 hc).1)).trans (q4 hh)⟩
  · obtain ⟨g, cs, q1, q2, q3⟩ := h4 h
    exact ⟨g, cs, q1, q2, (hB.block g (Array.getElem?_eq_some_iff.1 q3).1).trans q3⟩
theorem Cm.own {B w w' : World} {b : Brd} {listed : Array Bool} {a : Act} {x : Value} (h : Cm B b listed a w) (hs : 155 < a.tmps.size) (h6 : listed.getD 6 false = false) (hB : Below w.heap.size w w') (hx : CopyAt B b x w') : Cm B b (listed.setIfInBounds 1 true) (a.put (some 155) x) w' := by
  obtain ⟨h1, h2, h3, h4⟩ := h
  have e5 : (listed.setIfInBounds 1 true).getD 5 false = listed.getD 5 false := getD_set_ne _ _ _ _ (by decide)
  have e6 : (listed.setIfInBounds 1 true).getD 6 false = listed.getD 6 false := getD_set_ne _ _ _ _ (by decide)
  have t1 : (a.put (some 155) x).tmps.getD 19 undef = a.tmps.getD 19 undef := getDV_set_ne _ _ _ _ _ (by decide)
  have t2 : (a.put (some 155) x).tmps.getD 155 undef = x := getDV_set_self _ _ _ _ hs
  unfold Cm
  rw [e5, e6, t1, t2]
  refine ⟨h1.trans (hB.mono h1.size), fun h => ?_, fun _ => hx, fun h => by rw [h6] at h; cases h⟩
  obtain ⟨g, q1, q2, q3, q4⟩ := h2 h
  exact ⟨g, q1, q2, q3.below hB, fun hh => (hB.block g (by obtain ⟨c, hc⟩ := q3; exact (Array.getElem?_eq_some_iff.1 hc).1)).trans (q4 hh)⟩
theorem Cm.alloc {B w : World} {b : Brd} {listed : Array Bool} {a : Act} (h : Cm B b listed a w) (hs : 19 < a.tmps.size) (h6 : listed.getD 6 false = false) :
    Cm B b (listed.setIfInBounds 5 true) (a.put (some 19) (.pointer (some ⟨w.heap.size, 0, none⟩))) (w.alloc (.cells #[.int .i64 0, .int .i64 0, .slice none 0 0, .slice none 0 0, .slice none 0 0, .int .i64 0] 31 (0, 0))) := by
  obtain ⟨h1, h2, h3, h4⟩ := h
  have e1 : (listed.setIfInBounds 5 true).getD 1 false = listed.getD 1 false := getD_set_ne _ _ _ _ (by decide)
  have e6 : (listed.setIfInBounds 5 true).getD 6 false = listed.getD 6 false := getD_set_ne _ _ _ _ (by decide)
  have t1 : (a.put (some 19) (.pointer (some ⟨w.heap.size, 0, none⟩))).tmps.getD 19 undef = .pointer (some ⟨w.heap.size, 0, none⟩) := getDV_set_self _ _ _ _ hs
  have t2 : (a.put (some 19) (.pointer (some ⟨w.heap.size, 0, none⟩))).tmps.getD 155 undef = a.tmps.getD 155 undef := getDV_set_ne _ _ _ _ _ (by decide)
  unfold Cm
  rw [e1, e6, t1, t2]
  exact ⟨h1.alloc h1.size _, fun _ => ⟨_, rfl, h1.size, ⟨_, World.alloc_heap_new _ _⟩, fun _ => World.alloc_heap_new _ _⟩, fun h => (h3 h).below ((Below.refl _ _).alloc (Nat.le_refl _) _), fun h => by rw [h6] at h; cases h⟩
theorem put6 {W : World} {g : Nat} {x0 x1 x2 x3 x4 x5 y0 y1 y2 y3 y4 y5 : Value} {T : TypeId} (h : W.heap[g]? = some (.cells #[y0, y1, y2, y3, y4, y5] T (0, 0))) : Put g (.cells #[x0, x1, x2, x3, x4, x5] T (0, 0)) W ((((((W.setCell ⟨g, 0, none⟩ x0).setCell ⟨g, 1, none⟩ x1).setCell ⟨g, 2, none⟩ x2).setCell ⟨g, 3, none⟩ x3).setCell ⟨g, 4, none⟩ x4).setCell ⟨g, 5, none⟩ x5) := by
  have z0 := Go.Joins.block_setCell (i := 0) h x0
  have z1 := Go.Joins.block_setCell (i := 1) z0 x1
  have z2 := Go.Joins.block_setCell (i := 2) z1 x2
  have z3 := Go.Joins.block_setCell (i := 3) z2 x3
  have z4 := Go.Joins.block_setCell (i := 4) z3 x4
  have z5 := Go.Joins.block_setCell (i := 5) z4 x5
  have hb := ((((((Below.refl g W).setCell (p := ⟨g, 0, none⟩) (Nat.le_refl _) x0).setCell (p := ⟨g, 1, none⟩) (Nat.le_refl _) x1).setCell (p := ⟨g, 2, none⟩) (Nat.le_refl _) x2).setCell (p := ⟨g, 3, none⟩) (Nat.le_refl _) x3).setCell (p := ⟨g, 4, none⟩) (Nat.le_refl _) x4).setCell (p := ⟨g, 5, none⟩) (Nat.le_refl _) x5
  exact ⟨hb.os, hb.tape, hb.output, by simp [World.setCell], z5, fun k hk => by rw [Below.heap_setCell _ _ _ _ hk, Below.heap_setCell _ _ _ _ hk, Below.heap_setCell _ _ _ _ hk, Below.heap_setCell _ _ _ _ hk, Below.heap_setCell _ _ _ _ hk, Below.heap_setCell _ _ _ _ hk]⟩
theorem Cm.store {B w : World} {b : Brd} {listed : Array Bool} {a : Act} {g : Nat} {x0 x1 x2 x3 x4 x5 y0 y1 y2 y3 y4 y5 : Value} (h : Cm B b listed a w) (h5 : listed.getD 5 false = true) (hg : a.tmps.getD 19 undef = .pointer (some ⟨g, 0, none⟩)) (hin : 6 < listed.size)
    (hx : a.tmps.getD 155 undef = .agg #[x0, x1, x2, x3, x4, x5]) (hz : w.heap[g]? = some (.cells #[y0, y1, y2, y3, y4, y5] 31 (0, 0))) :
    Cm B b (listed.setIfInBounds 6 true) a ((((((w.setCell ⟨g, 0, none⟩ x0).setCell ⟨g, 1, none⟩ x1).setCell ⟨g, 2, none⟩ x2).setCell ⟨g, 3, none⟩ x3).setCell ⟨g, 4, none⟩ x4).setCell ⟨g, 5, none⟩ x5) := by
  obtain ⟨h1, h2, h3, h4⟩ := h
  have e1 : (listed.setIfInBounds 6 true).getD 1 false = listed.getD 1 false := getD_set_ne _ _ _ _ (by decide)
  have e5 : (listed.setIfInBounds 6 true).getD 5 false = listed.getD 5 false := getD_set_ne _ _ _ _ (by decide)
  have e6 : (listed.setIfInBounds 6 true).getD 6 false = true := getD_set_self _ _ _ hin
  obtain ⟨g', q1, q2, q3, q4⟩ := h2 h5
  have hgg : g' = g := by rw [q1] at hg; simpa using hg
  subst hgg
  have hp := put6 (x0 := x0) (x1 := x1) (x2 := x2) (x3 := x3) (x4 := x4) (x5 := x5) hz
  unfold Cm
  rw [e1, e5, e6, hg, hx]
  refine ⟨⟨hp.os.trans h1.os, hp.tape.trans h1.tape, hp.output.trans h1.output, by rw [hp.size]; exact h1.size, fun k hk => by rw [hp.block k (by omega)]; exact h1.block k hk⟩, fun _ => ⟨g', rfl, q2, ⟨_, hp.self⟩, fun h => by cases h⟩, fun h => ?_, fun _ => ⟨g', _, rfl, rfl, hp.self⟩⟩
  have h9 := h3 h
  rw [hx] at h9
  exact (((((h9.setCell q3).setCell q3.setCell).setCell q3.setCell.setCell).setCell q3.setCell.setCell.setCell).setCell q3.setCell.setCell.setCell.setCell).setCell q3.setCell.setCell.setCell.setCell.setCell

/-- A board whose lines and numbers are written one after another, until those of a mirror stand there; no line is hit so far. -/
def MirAt (b : Brd) (P : Int × Int) (g g1 c1 g2 c2 g3 c3 i j k : Nat) (w : World) : Prop :=
  w.heap[g]? = some (.cells #[.int .i64 b.eye, .int .i64 b.bull, .slice (some ⟨g1, 0, none⟩) b.rings.length c1, .slice (some ⟨g2, 0, none⟩) b.lines.length c2, .slice (some ⟨g3, 0, none⟩) b.nums.length c3, .int .i64 b.wire] 31 (0, 0)) ∧
    Sl w 2 encP (.slice (some ⟨g1, 0, none⟩) b.rings.length c1) b.rings ∧ Sl w 2 encP (.slice (some ⟨g2, 0, none⟩) b.lines.length c2) (mix (mirB b).lines b.lines i) ∧ Sl w 1 (fun x => [Value.int .i64 x]) (.slice (some ⟨g3, 0, none⟩) b.nums.length c3) (mix (mirB b).nums b.nums j) ∧
    Tb w g1 78 ∧ Tb w g2 34 ∧ Tb w g3 3 ∧ ∀ q l, q < k → b.lines[q]? = some l → crs l P ≠ 0
theorem mirB_len (b : Brd) : (mirB b).lines.length = b.lines.length ∧ (mirB b).nums.length = b.nums.length := by simp [mirB]
theorem MirAt.tb {b : Brd} {P : Int × Int} {g g1 c1 g2 c2 g3 c3 i j k : Nat} {w : World} (h : MirAt b P g g1 c1 g2 c2 g3 c3 i j k w) : Tb w g 31 := ⟨_, h.1⟩
theorem MirAt.below {b : Brd} {P : Int × Int} {g g1 c1 g2 c2 g3 c3 i j k : Nat} {w w' : World} (h : MirAt b P g g1 c1 g2 c2 g3 c3 i j k w) (hb : Below w.heap.size w w') : MirAt b P g g1 c1 g2 c2 g3 c3 i j k w' := by
  obtain ⟨h1, h2, h3, h4, h5, h6, h7, h8⟩ := h
  exact ⟨(hb.block g (Array.getElem?_eq_some_iff.1 h1).1).trans h1, h2.below hb, h3.below hb, h4.below hb, h5.below hb, h6.below hb, h7.below hb, h8⟩
theorem MirAt.putL {b : Brd} {P : Int × Int} {g g1 c1 g2 c2 g3 c3 i j k : Nat} {w : World} {y : Int × Int} (h : MirAt b P g g1 c1 g2 c2 g3 c3 i j k w) (hi : i < b.lines.length) (hy : (mirB b).lines[i]? = some y) : MirAt b P g g1 c1 g2 c2 g3 c3 (i + 1) j k ((w.setCell ⟨g2, i * 2, none⟩ (.int .i64 y.1)).setCell ⟨g2, i * 2 + 1, none⟩ (.int .i64 y.2)) := by
  have ht := h.tb
  obtain ⟨h1, h2, h3, h4, h5, h6, h7, h8⟩ := h
  have n0 : g ≠ g2 := ht.ne h6 (by decide)
  have n1 : g1 ≠ g2 := h5.ne h6 (by decide)
  have n3 : g3 ≠ g2 := h7.ne h6 (by decide)
  refine ⟨by rw [Below.heap_setCell _ _ _ _ n0, Below.heap_setCell _ _ _ _ n0]; exact h1, (h2.setO n1).setO n1, ?_, (h4.setO n3).setO n3, h5.setCell.setCell, h6.setCell.setCell, h7.setCell.setCell, h8⟩
  have := h3.putP (y := y) (i := i) (by rw [mix_len (mirB_len b).1 i (by omega)]; exact hi)
  rwa [mix_set (mirB_len b).1 hi hy] at this
theorem MirAt.putN {b : Brd} {P : Int × Int} {g g1 c1 g2 c2 g3 c3 i j k : Nat} {w : World} {y : Int} (h : MirAt b P g g1 c1 g2 c2 g3 c3 i j k w) (hj : j < b.nums.length) (hy : (mirB b).nums[j]? = some y) : MirAt b P g g1 c1 g2 c2 g3 c3 i (j + 1) k (w.setCell ⟨g3, j, none⟩ (.int .i64 y)) := by
  have ht := h.tb
  obtain ⟨h1, h2, h3, h4, h5, h6, h7, h8⟩ := h
  have n0 : g ≠ g3 := ht.ne h7 (by decide)
  have n1 : g1 ≠ g3 := h5.ne h7 (by decide)
  have n2 : g2 ≠ g3 := h6.ne h7 (by decide)
  refine ⟨by rw [Below.heap_setCell _ _ _ _ n0]; exact h1, h2.setO n1, h3.setO n2, ?_, h5.setCell, h6.setCell, h7.setCell, h8⟩
  have := h4.put1 (y := y) (i := j) (by rw [mix_len (mirB_len b).2 j (by omega)]; exact hj)
  rwa [mix_set (mirB_len b).2 hj hy] at this
theorem MirAt.miss {b : Brd} {P : Int × Int} {g g1 c1 g2 c2 g3 c3 i j k : Nat} {w : World} {l : Int × Int} (h : MirAt b P g g1 c1 g2 c2 g3 c3 i j k w) (hl : b.lines[k]? = some l) (hc : crs l P ≠ 0) : MirAt b P g g1 c1 g2 c2 g3 c3 i j (k + 1) w := by
  obtain ⟨h1, h2, h3, h4, h5, h6, h7, h8⟩ := h
  refine ⟨h1, h2, h3, h4, h5, h6, h7, fun q l' hq hl' => ?_⟩
  by_cases e : q = k
  · subst e
    rw [hl] at hl'
    cases hl'
    exact hc
  · exact h8 q l' (by omega) hl'
/-- The cells that are written next. -/
theorem MirAt.cellsL {b : Brd} {P : Int × Int} {g g1 c1 g2 c2 g3 c3 i j k : Nat} {w : World} (h : MirAt b P g g1 c1 g2 c2 g3 c3 i j k w) (hi : i < b.lines.length) : (∃ u, w.cell? ⟨g2, i * 2, none⟩ = some u) ∧ ∃ u, w.cell? ⟨g2, i * 2 + 1, none⟩ = some u := by
  obtain ⟨a, c', e, _, hs⟩ := h.2.2.1
  have hl : i < (mix (mirB b).lines b.lines i).length := by rw [mix_len (mirB_len b).1 i (by omega)]; exact hi
  obtain ⟨b', off, ha, hb, hc⟩ := hs (by intro e; rw [e] at hl; simp at hl)
  simp only [Value.slice.injEq] at e
  obtain ⟨rfl, _, _⟩ := e
  cases ha
  have h0 := hc i _ (List.getElem?_eq_getElem hl) 0 _ rfl
  have h1 := hc i _ (List.getElem?_eq_getElem hl) 1 _ rfl
  rw [Nat.zero_add, Nat.add_zero] at h0
  rw [Nat.zero_add] at h1
  exact ⟨⟨_, h0⟩, ⟨_, h1⟩⟩
theorem MirAt.cellsN {b : Brd} {P : Int × Int} {g g1 c1 g2 c2 g3 c3 i j k : Nat} {w : World} (h : MirAt b P g g1 c1 g2 c2 g3 c3 i j k w) (hj : j < b.nums.length) : ∃ u, w.cell? ⟨g3, j, none⟩ = some u := by
  obtain ⟨a, c', e, _, hs⟩ := h.2.2.2.1
  have hl : j < (mix (mirB b).nums b.nums j).length := by rw [mix_len (mirB_len b).2 j (by omega)]; exact hj
  obtain ⟨b', off, ha, hb, hc⟩ := hs (by intro e; rw [e] at hl; simp at hl)
  simp only [Value.slice.injEq] at e
  obtain ⟨rfl, _, _⟩ := e
  cases ha
  have h0 := hc j _ (List.getElem?_eq_getElem hl) 0 _ rfl
  rw [Nat.zero_add, Nat.add_zero, Nat.mul_one] at h0
  exact ⟨_, h0⟩
theorem MirAt.brd {b : Brd} {P : Int × Int} {g g1 c1 g2 c2 g3 c3 k : Nat} {w : World} (h : MirAt b P g g1 c1 g2 c2 g3 c3 b.lines.length b.nums.length k w) :
    BrdAt w (.agg #[.int .i64 b.eye, .int .i64 b.bull, .slice (some ⟨g1, 0, none⟩) b.rings.length c1, .slice (some ⟨g2, 0, none⟩) b.lines.length c2, .slice (some ⟨g3, 0, none⟩) b.nums.length c3, .int .i64 b.wire]) (mirB b) := by
  obtain ⟨h1, h2, h3, h4, h5, h6, h7, h8⟩ := h
  rw [mix_end (mirB_len b).1] at h3
  rw [mix_end (mirB_len b).2] at h4
  exact ⟨_, _, _, rfl, h2, h3, h4⟩
theorem mir_line (b : Brd) (i : Nat) (hi : i < b.lines.length) : ∃ l, b.lines[(b.lines.length - i) % b.lines.length]? = some l ∧ (mirB b).lines[i]? = some (mir l) := by
  have hlt : (b.lines.length - i) % b.lines.length < b.lines.length := Nat.mod_lt _ (by omega)
  refine ⟨_, List.getElem?_eq_getElem hlt, ?_⟩
  simp only [mirB]
  rw [List.getElem?_map, List.getElem?_range hi, Option.map_some, List.getElem?_eq_getElem hlt, Option.getD_some]
theorem mir_num (b : Brd) (i : Nat) (hi : i < b.nums.length) : ∃ x, b.nums[b.nums.length - 1 - i]? = some x ∧ (mirB b).nums[i]? = some x := by
  have hlt : b.nums.length - 1 - i < b.nums.length := by omega
  refine ⟨_, List.getElem?_eq_getElem hlt, ?_⟩
  simp only [mirB]
  rw [List.getElem?_map, List.getElem?_range hi, Option.map_some, List.getElem?_eq_getElem hlt, Option.getD_some]
end Go.Proofs.Ytilgchkndfhdhaa
