/- Board, part Uh: the statements' own copy of a board. -/
import Derived.Test.YtgceffpkhmjmkaaGreatRg
import Derived.Test.YtgceffpkhmjmkaaGreatX
import Derived.Test.YtgceffpkhmjmkaaGreatY
import Derived.Deep.RegionLawGrows
set_option linter.unusedVariables false
set_option linter.unusedSimpArgs false
namespace Go.Proofs.YtgceffpkhmjmkaaGreat
open Go.RowKit Go.Shelf

def OwnOk (b : Brd) (w : World) (e : Ending) (w' : World) : Prop :=
  ∃ g1 c1 g2 c2 g3 c3, e = .returned (.agg #[.int .i64 b.eye, .int .i64 b.bull, .slice (some ⟨g1, 0, none⟩) b.rings.length c1, .slice (some ⟨g2, 0, none⟩) b.lines.length c2, .slice (some ⟨g3, 0, none⟩) b.nums.length c3, .int .i64 b.wire]) ∧
    BrdAt w' (.agg #[.int .i64 b.eye, .int .i64 b.bull, .slice (some ⟨g1, 0, none⟩) b.rings.length c1, .slice (some ⟨g2, 0, none⟩) b.lines.length c2, .slice (some ⟨g3, 0, none⟩) b.nums.length c3, .int .i64 b.wire]) b ∧ Below w.heap.size w w'

theorem Sl.setO {α : Type} {w : World} {k g n c : Nat} {enc : α → List Value} {xs : List α} {p : Addr} {u : Value} (h : Sl w k enc (.slice (some ⟨g, 0, none⟩) n c) xs) (hp : g ≠ p.block) : Sl (w.setCell p u) k enc (.slice (some ⟨g, 0, none⟩) n c) xs := by
  obtain ⟨a, c', e, hl, hs⟩ := h
  refine ⟨a, c', e, hl, fun hne => ?_⟩
  obtain ⟨b, off, ha, hb, hc⟩ := hs hne
  have hbg : b = g := by rw [ha] at e; simp at e; omega
  exact ⟨b, off, ha, by simpa using hb, fun j x hx i y hy => (World.cell?_of_block (Below.heap_setCell w p u b (by rw [hbg]; exact hp))).trans (hc j x hx i y hy)⟩
theorem some_set' {W : World} {p q : Addr} {u : Value} (h : (W.cell? q).isSome = true) : ((W.setCell p u).cell? q).isSome = true := by
  obtain ⟨v, hv⟩ := Option.isSome_iff_exists.1 h
  obtain ⟨v', hv'⟩ := cell?_setCell_some (w := W) (p := p) (x := u) hv
  rw [hv']; rfl
/-- The cells of a slice, to be appended to one without room. -/
theorem news_of_sl {α : Type} {w : World} {k len : Nat} {enc : α → List Value} {ao : Option Addr} {c : Nat} {xs : List α} (hk : ∀ x, (enc x).length = k) (h1 : ∀ x, ∀ u ∈ enc x, u.oneCell' = true) (h : Sl w k enc (.slice ao len c) xs) (hne : xs ≠ []) :
    ∃ ad news, ao = some ad ∧ news.length = xs.length * k ∧ (∀ j u, news[j]? = some u → w.cell? (ad.add j) = some u) ∧ (∀ u ∈ news, u.oneCell' = true) ∧
      ∀ (B : Nat) (w' : World) (v' : Value) {e : TypeId}, w'.ownsRow B e k v' xs.length news → ∃ g c, v' = .slice (some ⟨g, 0, none⟩) xs.length c ∧ B ≤ g ∧ g < w'.heap.size ∧ Sl w' k enc (.slice (some ⟨g, 0, none⟩) xs.length c) xs := by
  obtain ⟨a, c', e, hl, hs⟩ := h
  obtain ⟨b, off, ha, hb, hc⟩ := hs hne
  cases e
  subst ha
  refine ⟨⟨b, off, none⟩, (xs.map enc).flatten, rfl, flat_len enc k hk xs, ?_, ?_, ?_⟩
  · intro j u h
    obtain ⟨q, x, i, h1, h2, h3⟩ := flat_inv _ k hk xs j u h
    rw [Addr.add_lit, h3, ← Nat.add_assoc]
    exact hc q x h1 i u h2
  · intro u hu
    obtain ⟨l, hl, hu⟩ := List.mem_flatten.1 hu
    obtain ⟨x, _, rfl⟩ := List.mem_map.1 hl
    exact h1 x u hu
  · intro B w' v' e h
    exact sl_of_row hk hl hne h

/-- What each operation of own's statement lays down. -/
def ownD (B : Nat) (b : Brd) (vr vl vn : Value) : Nat → Value → World → Prop
  | 0, x, _ | 4, x, _ => ∃ g, x = .slice (some ⟨g, 0, none⟩) 0 0
  | 1, x, _ | 11, x, _ => x = .pointer (some ⟨B, 2, none⟩)
  | 5, x, _ | 13, x, _ => x = .pointer (some ⟨B, 3, none⟩)
  | 8, x, _ | 15, x, _ => x = .pointer (some ⟨B, 4, none⟩)
  | 2, x, _ => x = vr
  | 6, x, _ => x = vl
  | 9, x, _ => x = vn
  | 3, x, w => ∃ g c, x = .slice (some ⟨g, 0, none⟩) b.rings.length c ∧ B + 2 ≤ g ∧ Sl w 2 encP x b.rings
  | 7, x, w => ∃ g c, x = .slice (some ⟨g, 0, none⟩) b.lines.length c ∧ B + 2 ≤ g ∧ Sl w 2 encP x b.lines
  | 10, x, w => ∃ g c, x = .slice (some ⟨g, 0, none⟩) b.nums.length c ∧ B + 2 ≤ g ∧ Sl w 1 (fun x => [Value.int .i64 x]) x b.nums
  | _, _, _ => True
theorem ownD_mono (B : Nat) (b : Brd) (vr vl vn : Value) : ∀ i x w w', Below w.heap.size w w' → ownD B b vr vl vn i x w → ownD B b vr vl vn i x w' := by
  intro i x w w' hB h
  unfold ownD at *
  split <;> try exact h
  all_goals
    simp only [] at h
    first
      | exact h
      | (obtain ⟨g, c, h1, h2, h3⟩ := h; exact ⟨g, c, h1, h2, h3.below hB⟩)

set_option maxRecDepth 100000 in
set_option maxHeartbeats 4000000 in
theorem own_any (v : Value) (b : Brd) (w : World) (h : BrdAt w v b) (hr : b.rings ≠ []) (hl : b.lines ≠ []) (hn : b.nums ≠ []) (kr : b.rings.length ≤ 1000) (kl : b.lines.length ≤ 1000) (kn : b.nums.length ≤ 1000) :
    Calls Tryz.prog 9 #[v] w (OwnOk b w) := by
  obtain ⟨vr, vl, vn, rfl, sr, sl, sn⟩ := h
  have HR : Aside (Sl w 2 encP vr b.rings) := sr
  have HL : Aside (Sl w 2 encP vl b.lines) := sl
  have HN : Aside (Sl w 1 (fun x => [Value.int .i64 x]) vn b.nums) := sn
  obtain ⟨ar, cr, rfl, lr, _⟩ := sr
  obtain ⟨al, cl, rfl, ll, _⟩ := sl
  obtain ⟨an, cn, rfl, ln, _⟩ := sn
  go_enter Tryz.func9, Tryz.ntmps9
  go_wp2_with fail
  obtain ⟨W0, hW0⟩ : ∃ W0, W0 = (w.alloc (.cells #[.int .i64 b.eye, .int .i64 b.bull, .slice ar b.rings.length cr, .slice al b.lines.length cl, .slice an b.nums.length cn, .int .i64 b.wire] 26)).alloc (.cells #[.int .i64 0, .int .i64 0, .slice none 0 0, .slice none 0 0, .slice none 0 0, .int .i64 0] 26) := ⟨_, rfl⟩
  rw [← hW0]
  have s0 : W0.heap.size = w.heap.size + 2 := by rw [hW0]; simp
  have B0 : Below w.heap.size w W0 := by rw [hW0]; clear hW0; (repeat' (first | exact Below.refl _ _ | assumption | (with_reducible refine Below.drew ?_) | (with_reducible refine Below.setCell ?_ (by (first | (simp; done) | (simp; omega))) _) | (with_reducible refine below_drewN' ?_ _) | (refine Below.alloc ?_ (by (try simp only [World.size_alloc, World.size_drew, World.size_setCell]); omega) _) | (refine Below.trans ?_ (Below.mono (by assumption) (by (try simp only [World.size_alloc, World.size_drew, World.size_setCell]); omega)))))
  have k0 : W0.cell? ⟨w.heap.size, 0, none⟩ = some (.int .i64 b.eye) := by rw [hW0]; clear hW0; go_simp
  have k1 : W0.cell? ⟨w.heap.size, 1, none⟩ = some (.int .i64 b.bull) := by rw [hW0]; clear hW0; go_simp
  have k2 : W0.cell? ⟨w.heap.size, 2, none⟩ = some (.slice ar b.rings.length cr) := by rw [hW0]; clear hW0; go_simp
  have k3 : W0.cell? ⟨w.heap.size, 3, none⟩ = some (.slice al b.lines.length cl) := by rw [hW0]; clear hW0; go_simp
  have k4 : W0.cell? ⟨w.heap.size, 4, none⟩ = some (.slice an b.nums.length cn) := by rw [hW0]; clear hW0; go_simp
  have k5 : W0.cell? ⟨w.heap.size, 5, none⟩ = some (.int .i64 b.wire) := by rw [hW0]; clear hW0; go_simp
  have f0 : ∀ i, W0.frozen? ⟨w.heap.size, i, none⟩ = false := by intro i; rw [hW0]; clear hW0; go_simp
  have f1 : ∀ i, W0.frozen? ⟨w.heap.size + 1, i, none⟩ = false := by intro i; rw [hW0]; clear hW0; go_simp
  have r0 : W0.cell? ⟨w.heap.size + 1, 0, none⟩ = some (.int .i64 0) := by rw [hW0]; clear hW0; go_simp
  have r1 : W0.cell? ⟨w.heap.size + 1, 1, none⟩ = some (.int .i64 0) := by rw [hW0]; clear hW0; go_simp
  have r2 : W0.cell? ⟨w.heap.size + 1, 2, none⟩ = some (.slice none 0 0) := by rw [hW0]; clear hW0; go_simp
  have r3 : W0.cell? ⟨w.heap.size + 1, 3, none⟩ = some (.slice none 0 0) := by rw [hW0]; clear hW0; go_simp
  have r4 : W0.cell? ⟨w.heap.size + 1, 4, none⟩ = some (.slice none 0 0) := by rw [hW0]; clear hW0; go_simp
  have r5 : W0.cell? ⟨w.heap.size + 1, 5, none⟩ = some (.int .i64 0) := by rw [hW0]; clear hW0; go_simp
  clear hW0
  have S0 : Aside (W0.heap.size = w.heap.size + 2) := s0
  have HBX : Aside (Below w.heap.size w W0) := B0
  have HF0 : Aside (∀ (A : World) (i : Nat), Below W0.heap.size W0 A → A.frozen? ⟨w.heap.size, i, none⟩ = false) := fun A i hA => (hA.frozen (p := ⟨w.heap.size, i, none⟩) (by show w.heap.size < _; omega)).trans (f0 i)
  have HF1 : Aside (∀ (A : World) (i : Nat), Below W0.heap.size W0 A → A.frozen? ⟨w.heap.size + 1, i, none⟩ = false) := fun A i hA => (hA.frozen (p := ⟨w.heap.size + 1, i, none⟩) (by show w.heap.size + 1 < _; omega)).trans (f1 i)
  clear f0 f1 s0 B0
  refine region_laid [true, true, true, true, true, true, true, true, true, true, true, true, false, false, false, false, false] 5 (ownD w.heap.size b (.slice ar b.rings.length cr) (.slice al b.lines.length cl) (.slice an b.nums.length cn)) (fun w' => Below W0.heap.size W0 w') (by kernel_rfl) rfl (by show layable _ 18 _ = true; decide +kernel) rfl ((Below.refl _ _).drew) (ownD_mono _ _ _ _ _) ?step ?rest
  case step =>
    intro i o listed a W hA ho hL he
    have ha1 : a.tmps.getD 1 undef = .pointer (some ⟨w.heap.size, 0, none⟩) := hL.kept 1 (by decide +kernel)
    have BW : Below w.heap.size w W := HBX.out.trans (hL.cls.mono HBX.out.size)
    have zW : w.heap.size + 2 ≤ W.heap.size := by have := hL.cls.size; have := S0.out; omega
    have m2 := keepc hL.cls k2
    have m3 := keepc hL.cls k3
    have m4 := keepc hL.cls k4
    have CL : ∀ W', Below W.heap.size W W' → Below W0.heap.size W0 W' := fun W' h => hL.cls.trans (h.mono hL.cls.size)
    match i, hA, ho with
    | 0, _, ho =>
      cases ho
      refine wpOp_plain rfl rfl ?_
      unfold Oper.wp
      go_simp
      exact ⟨_, rfl, (Below.refl _ _).alloc (Nat.le_refl _) _, CL _ ((Below.refl _ _).alloc (Nat.le_refl _) _), ⟨_, rfl⟩⟩
    | 4, _, ho =>
      cases ho
      refine wpOp_plain rfl rfl ?_
      unfold Oper.wp
      go_simp
      exact ⟨_, rfl, (Below.refl _ _).alloc (Nat.le_refl _) _, CL _ ((Below.refl _ _).alloc (Nat.le_refl _) _), ⟨_, rfl⟩⟩
    | 1, _, ho | 5, _, ho | 8, _, ho | 11, _, ho =>
      cases ho
      refine wpOp_plain rfl rfl ?_
      unfold Oper.wp
      go_simp
      exact ⟨_, rfl, Below.refl _ _, CL _ (Below.refl _ _), rfl⟩
    | 2, _, ho =>
      cases ho
      have d4 : a.tmps.getD 4 undef = .pointer (some ⟨w.heap.size, 2, none⟩) := hL.new 1 _ 4 rfl (he ⟨1, .data⟩ (by simp) rfl) rfl
      refine wpOp_plain rfl rfl ?_
      unfold Oper.wp
      go_simp
      exact ⟨_, rfl, Below.refl _ _, CL _ (Below.refl _ _), rfl⟩
    | 6, _, ho =>
      cases ho
      have d4 : a.tmps.getD 8 undef = .pointer (some ⟨w.heap.size, 3, none⟩) := hL.new 5 _ 8 rfl (he ⟨5, .data⟩ (by simp) rfl) rfl
      refine wpOp_plain rfl rfl ?_
      unfold Oper.wp
      go_simp
      exact ⟨_, rfl, Below.refl _ _, CL _ (Below.refl _ _), rfl⟩
    | 9, _, ho =>
      cases ho
      have d4 : a.tmps.getD 11 undef = .pointer (some ⟨w.heap.size, 4, none⟩) := hL.new 8 _ 11 rfl (he ⟨8, .data⟩ (by simp) rfl) rfl
      refine wpOp_plain rfl rfl ?_
      unfold Oper.wp
      go_simp
      exact ⟨_, rfl, Below.refl _ _, CL _ (Below.refl _ _), rfl⟩
    | 3, _, ho =>
      cases ho
      obtain ⟨g, d3⟩ : ∃ g, a.tmps.getD 3 undef = .slice (some ⟨g, 0, none⟩) 0 0 := hL.new 0 _ 3 rfl (he ⟨0, .data⟩ (by simp) rfl) rfl
      have d5 : a.tmps.getD 5 undef = .slice ar b.rings.length cr := hL.new 2 _ 5 rfl (he ⟨2, .data⟩ (by simp) rfl) rfl
      obtain ⟨ad, news, rfl, hn1, hn2, hn3, hn4⟩ := news_of_sl (k := 2) (enc := encP) (fun _ => rfl) (fun x u hu => by unfold encP at hu; simp at hu; rcases hu with rfl | rfl <;> rfl) (HR.out.below BW) hr
      obtain ⟨i0, hi, hz0, hz1, hz2⟩ := info_parts info_rings
      refine wpOp_plain rfl rfl ?_
      refine wp_append_grows rfl (.tmp 3) (.tmp 5) 22 rfl 79 i0 (.agg #[.int .i64 0, .int .i64 0]) 2 16 Tryz.underlying22 hi hz0 hz1 hz2 rfl (by decide) ⟨g, 0, none⟩ d3 ad b.rings.length cr news d5 hn1 hn2 hn3 (List.length_pos_iff.2 hr) (by unfold maxLen; omega) (by omega) ?_
      intro v' w' r1 r2
      obtain ⟨g', c', rfl, hg1, hg2, hsl⟩ := hn4 _ w' v' r1
      have hBn : Below W.heap.size W w' := (Below.refl _ _).grown r2 (Nat.le_refl _) (fun j e => by cases e)
      exact ⟨_, rfl, hBn, CL _ hBn, ⟨g', c', rfl, by omega, hsl⟩⟩
    | 7, _, ho =>
      cases ho
      obtain ⟨g, d3⟩ : ∃ g, a.tmps.getD 7 undef = .slice (some ⟨g, 0, none⟩) 0 0 := hL.new 4 _ 7 rfl (he ⟨4, .data⟩ (by simp) rfl) rfl
      have d5 : a.tmps.getD 9 undef = .slice al b.lines.length cl := hL.new 6 _ 9 rfl (he ⟨6, .data⟩ (by simp) rfl) rfl
      obtain ⟨ad, news, rfl, hn1, hn2, hn3, hn4⟩ := news_of_sl (k := 2) (enc := encP) (fun _ => rfl) (fun x u hu => by unfold encP at hu; simp at hu; rcases hu with rfl | rfl <;> rfl) (HL.out.below BW) hl
      obtain ⟨i0, hi, hz0, hz1, hz2⟩ := info_parts info_pts
      refine wpOp_plain rfl rfl ?_
      refine wp_append_grows rfl (.tmp 7) (.tmp 9) 23 rfl 28 i0 (.agg #[.int .i64 0, .int .i64 0]) 2 16 Tryz.underlying23 hi hz0 hz1 hz2 rfl (by decide) ⟨g, 0, none⟩ d3 ad b.lines.length cl news d5 hn1 hn2 hn3 (List.length_pos_iff.2 hl) (by unfold maxLen; omega) (by omega) ?_
      intro v' w' r1 r2
      obtain ⟨g', c', rfl, hg1, hg2, hsl⟩ := hn4 _ w' v' r1
      have hBn : Below W.heap.size W w' := (Below.refl _ _).grown r2 (Nat.le_refl _) (fun j e => by cases e)
      exact ⟨_, rfl, hBn, CL _ hBn, ⟨g', c', rfl, by omega, hsl⟩⟩
    | 10, _, ho =>
      cases ho
      have d5 : a.tmps.getD 12 undef = .slice an b.nums.length cn := hL.new 9 _ 12 rfl (he ⟨9, .data⟩ (by simp) rfl) rfl
      have x := ints_own _ b.nums W (HN.out.below BW) hn kn
      unfold RetSl at x
      refine wpOp_plain rfl rfl ?_
      unfold Oper.wp
      go_simp
      refine x.mono ?_
      rintro e w' ⟨g', c', rfl, hg1, hg2, hsl, hBn⟩
      exact ⟨_, rfl, hBn, CL _ hBn, ⟨g', c', rfl, by omega, hsl⟩⟩
    | 12, hA, _ | 13, hA, _ | 14, hA, _ | 15, hA, _ | 16, hA, _ => cases hA
    | n + 17, hA, _ => simp at hA
  case rest =>
    intro a W hL
    obtain ⟨g0, e3⟩ : ∃ g, a.tmps.getD 3 undef = .slice (some ⟨g, 0, none⟩) 0 0 := hL.new 0 _ 3 rfl rfl rfl
    have e4 : a.tmps.getD 4 undef = .pointer (some ⟨w.heap.size, 2, none⟩) := hL.new 1 _ 4 rfl rfl rfl
    have e5 : a.tmps.getD 5 undef = .slice ar b.rings.length cr := hL.new 2 _ 5 rfl rfl rfl
    obtain ⟨g1, c1, e6, hg1, hs1⟩ : ∃ g c, a.tmps.getD 6 undef = .slice (some ⟨g, 0, none⟩) b.rings.length c ∧ w.heap.size + 2 ≤ g ∧ Sl W 2 encP (a.tmps.getD 6 undef) b.rings := hL.new 3 _ 6 rfl rfl rfl
    obtain ⟨g0', e7⟩ : ∃ g, a.tmps.getD 7 undef = .slice (some ⟨g, 0, none⟩) 0 0 := hL.new 4 _ 7 rfl rfl rfl
    have e8 : a.tmps.getD 8 undef = .pointer (some ⟨w.heap.size, 3, none⟩) := hL.new 5 _ 8 rfl rfl rfl
    have e9 : a.tmps.getD 9 undef = .slice al b.lines.length cl := hL.new 6 _ 9 rfl rfl rfl
    obtain ⟨g2, c2, e10, hg2, hs2⟩ : ∃ g c, a.tmps.getD 10 undef = .slice (some ⟨g, 0, none⟩) b.lines.length c ∧ w.heap.size + 2 ≤ g ∧ Sl W 2 encP (a.tmps.getD 10 undef) b.lines := hL.new 7 _ 10 rfl rfl rfl
    have e11 : a.tmps.getD 11 undef = .pointer (some ⟨w.heap.size, 4, none⟩) := hL.new 8 _ 11 rfl rfl rfl
    have e12 : a.tmps.getD 12 undef = .slice an b.nums.length cn := hL.new 9 _ 12 rfl rfl rfl
    obtain ⟨g3, c3, e13, hg3, hs3⟩ : ∃ g c, a.tmps.getD 13 undef = .slice (some ⟨g, 0, none⟩) b.nums.length c ∧ w.heap.size + 2 ≤ g ∧ Sl W 1 (fun x => [Value.int .i64 x]) (a.tmps.getD 13 undef) b.nums := hL.new 10 _ 13 rfl rfl rfl
    have e14 : a.tmps.getD 14 undef = .pointer (some ⟨w.heap.size, 2, none⟩) := hL.new 11 _ 14 rfl rfl rfl
    have e0 : a.tmps.getD 0 undef = .agg #[.int .i64 b.eye, .int .i64 b.bull, .slice ar b.rings.length cr, .slice al b.lines.length cl, .slice an b.nums.length cn, .int .i64 b.wire] := hL.kept2 0 (by decide +kernel)
    have e1 : a.tmps.getD 1 undef = .pointer (some ⟨w.heap.size, 0, none⟩) := hL.kept2 1 (by decide +kernel)
    have e2 : a.tmps.getD 2 undef = .pointer (some ⟨w.heap.size + 1, 0, none⟩) := hL.kept2 2 (by decide +kernel)
    have e15 : a.tmps.getD 15 undef = undef := hL.kept2 15 (by decide +kernel)
    have e16 : a.tmps.getD 16 undef = undef := hL.kept2 16 (by decide +kernel)
    have e17 : a.tmps.getD 17 undef = undef := hL.kept2 17 (by decide +kernel)
    rw [e6] at hs1
    rw [e10] at hs2
    rw [e13] at hs3
    have BW : Below w.heap.size w W := HBX.out.trans (hL.cls.mono HBX.out.size)
    have zW : w.heap.size + 2 ≤ W.heap.size := by have := hL.cls.size; have := S0.out; omega
    have m0 := keepc hL.cls k0
    have m1 := keepc hL.cls k1
    have m2 := keepc hL.cls k2
    have m3 := keepc hL.cls k3
    have m4 := keepc hL.cls k4
    have m5 := keepc hL.cls k5
    have F0 := fun i => HF0.out W i hL.cls
    have F1 := fun i => HF1.out W i hL.cls
    have n0 := keepc hL.cls r0
    have n1 := keepc hL.cls r1
    have n2 := keepc hL.cls r2
    have n3 := keepc hL.cls r3
    have n4 := keepc hL.cls r4
    have n5 := keepc hL.cls r5
    obtain rfl := act_lit (a := a) (lits := [.agg #[.int .i64 b.eye, .int .i64 b.bull, .slice ar b.rings.length cr, .slice al b.lines.length cl, .slice an b.nums.length cn, .int .i64 b.wire], .pointer (some ⟨w.heap.size, 0, none⟩), .pointer (some ⟨w.heap.size + 1, 0, none⟩), .slice (some ⟨g0, 0, none⟩) 0 0, .pointer (some ⟨w.heap.size, 2, none⟩), .slice ar b.rings.length cr, .slice (some ⟨g1, 0, none⟩) b.rings.length c1, .slice (some ⟨g0', 0, none⟩) 0 0,
      .pointer (some ⟨w.heap.size, 3, none⟩), .slice al b.lines.length cl, .slice (some ⟨g2, 0, none⟩) b.lines.length c2, .pointer (some ⟨w.heap.size, 4, none⟩), .slice an b.nums.length cn, .slice (some ⟨g3, 0, none⟩) b.nums.length c3, .pointer (some ⟨w.heap.size, 2, none⟩), undef, undef, undef]) hL.defers hL.size (by
      simp only [List.zipIdx_cons, List.zipIdx_nil, List.forall_mem_cons, List.not_mem_nil, false_implies, implies_true, and_true, Nat.zero_add, Nat.reduceAdd]
      exact ⟨e0, e1, e2, e3, e4, e5, e6, e7, e8, e9, e10, e11, e12, e13, e14, e15, e16, e17⟩)
    clear hL e0 e1 e2 e3 e4 e5 e6 e7 e8 e9 e10 e11 e12 e13 e14 e15 e16 e17 k0 k1 k2 k3 k4 k5 r0 r1 r2 r3 r4 r5
    refine wpAny_one (i := 12) (by decide +kernel) rfl rfl ?_
    unfold Oper.wp
    go_simp
    refine wpAny_one (i := 13) (by decide +kernel) rfl rfl ?_
    unfold Oper.wp
    go_simp
    refine wpAny_one (i := 14) (by decide +kernel) rfl rfl ?_
    unfold Oper.wp
    go_simp
    refine wpAny_one (i := 15) (by decide +kernel) rfl rfl ?_
    unfold Oper.wp
    go_simp
    refine wpAny_one (i := 16) (by decide +kernel) rfl rfl ?_
    unfold Oper.wp
    go_simp
    refine wpAny_done (by decide +kernel) ?_ _
    go_wp2
    obtain ⟨V, hV⟩ : ∃ V, V = (((((((((W.setCell ⟨w.heap.size, 2, none⟩ (.slice (some ⟨g1, 0, none⟩) b.rings.length c1)).setCell ⟨w.heap.size, 3, none⟩ (.slice (some ⟨g2, 0, none⟩) b.lines.length c2)).setCell ⟨w.heap.size, 4, none⟩ (.slice (some ⟨g3, 0, none⟩) b.nums.length c3)).setCell
      ⟨w.heap.size + 1, 0, none⟩ (.int .i64 b.eye)).setCell ⟨w.heap.size + 1, 1, none⟩ (.int .i64 b.bull)).setCell ⟨w.heap.size + 1, 2, none⟩ (.slice (some ⟨g1, 0, none⟩) b.rings.length c1)).setCell ⟨w.heap.size + 1, 3, none⟩ (.slice (some ⟨g2, 0, none⟩) b.lines.length c2)).setCell ⟨w.heap.size + 1, 4, none⟩ (.slice (some ⟨g3, 0, none⟩) b.nums.length c3)).setCell ⟨w.heap.size + 1, 5, none⟩ (.int .i64 b.wire)) := ⟨_, rfl⟩
    have p0 : V.cell? ⟨w.heap.size + 1, 0, none⟩ = some (.int .i64 b.eye) := by rw [hV]; clear hV; (first | (go_simp; done) | (go_simp; refine World.cell?_setCell_same' _ _ _ ?_; (repeat (with_reducible refine some_set' ?_)); go_simp))
    have p1 : V.cell? ⟨w.heap.size + 1, 1, none⟩ = some (.int .i64 b.bull) := by rw [hV]; clear hV; (first | (go_simp; done) | (go_simp; refine World.cell?_setCell_same' _ _ _ ?_; (repeat (with_reducible refine some_set' ?_)); go_simp))
    have p2 : V.cell? ⟨w.heap.size + 1, 2, none⟩ = some (.slice (some ⟨g1, 0, none⟩) b.rings.length c1) := by rw [hV]; clear hV; (first | (go_simp; done) | (go_simp; refine World.cell?_setCell_same' _ _ _ ?_; (repeat (with_reducible refine some_set' ?_)); go_simp))
    have p3 : V.cell? ⟨w.heap.size + 1, 3, none⟩ = some (.slice (some ⟨g2, 0, none⟩) b.lines.length c2) := by rw [hV]; clear hV; (first | (go_simp; done) | (go_simp; refine World.cell?_setCell_same' _ _ _ ?_; (repeat (with_reducible refine some_set' ?_)); go_simp))
    have p4 : V.cell? ⟨w.heap.size + 1, 4, none⟩ = some (.slice (some ⟨g3, 0, none⟩) b.nums.length c3) := by rw [hV]; clear hV; (first | (go_simp; done) | (go_simp; refine World.cell?_setCell_same' _ _ _ ?_; (repeat (with_reducible refine some_set' ?_)); go_simp))
    have p5 : V.cell? ⟨w.heap.size + 1, 5, none⟩ = some (.int .i64 b.wire) := by rw [hV]; clear hV; (first | (go_simp; done) | (go_simp; refine World.cell?_setCell_same' _ _ _ ?_; (repeat (with_reducible refine some_set' ?_)); go_simp))
    have q1 : Sl V 2 encP (.slice (some ⟨g1, 0, none⟩) b.rings.length c1) b.rings := by rw [hV]; exact ((((((((((hs1).setO (by first | (simp; done) | (simp; omega) | omega)).setO (by first | (simp; done) | (simp; omega) | omega)).setO (by first | (simp; done) | (simp; omega) | omega)).setO (by first | (simp; done) | (simp; omega) | omega)).setO (by first | (simp; done) | (simp; omega) | omega)).setO (by first | (simp; done) | (simp; omega) | omega)).setO (by first | (simp; done) | (simp; omega) | omega)).setO (by first | (simp; done) | (simp; omega) | omega)).setO (by first | (simp; done) | (simp; omega) | omega))
    have q2 : Sl V 2 encP (.slice (some ⟨g2, 0, none⟩) b.lines.length c2) b.lines := by rw [hV]; exact ((((((((((hs2).setO (by first | (simp; done) | (simp; omega) | omega)).setO (by first | (simp; done) | (simp; omega) | omega)).setO (by first | (simp; done) | (simp; omega) | omega)).setO (by first | (simp; done) | (simp; omega) | omega)).setO (by first | (simp; done) | (simp; omega) | omega)).setO (by first | (simp; done) | (simp; omega) | omega)).setO (by first | (simp; done) | (simp; omega) | omega)).setO (by first | (simp; done) | (simp; omega) | omega)).setO (by first | (simp; done) | (simp; omega) | omega))
    have q3 : Sl V 1 (fun x => [Value.int .i64 x]) (.slice (some ⟨g3, 0, none⟩) b.nums.length c3) b.nums := by rw [hV]; exact ((((((((((hs3).setO (by first | (simp; done) | (simp; omega) | omega)).setO (by first | (simp; done) | (simp; omega) | omega)).setO (by first | (simp; done) | (simp; omega) | omega)).setO (by first | (simp; done) | (simp; omega) | omega)).setO (by first | (simp; done) | (simp; omega) | omega)).setO (by first | (simp; done) | (simp; omega) | omega)).setO (by first | (simp; done) | (simp; omega) | omega)).setO (by first | (simp; done) | (simp; omega) | omega)).setO (by first | (simp; done) | (simp; omega) | omega))
    have hbV : Below w.heap.size w V := by
      rw [hV]
      exact ((((((((BW.setCell (p := ⟨w.heap.size, 2, none⟩) (by first | (simp; done) | (simp; omega) | omega) _).setCell (p := ⟨w.heap.size, 3, none⟩) (by first | (simp; done) | (simp; omega) | omega) _).setCell (p := ⟨w.heap.size, 4, none⟩) (by first | (simp; done) | (simp; omega) | omega) _).setCell (p := ⟨w.heap.size + 1, 0, none⟩) (by first | (simp; done) | (simp; omega) | omega) _).setCell (p := ⟨w.heap.size + 1, 1, none⟩) (by first | (simp; done) | (simp; omega) | omega) _).setCell (p := ⟨w.heap.size + 1, 2, none⟩) (by first | (simp; done) | (simp; omega) | omega) _).setCell (p := ⟨w.heap.size + 1, 3, none⟩) (by first | (simp; done) | (simp; omega) | omega) _).setCell (p := ⟨w.heap.size + 1, 4, none⟩) (by first | (simp; done) | (simp; omega) | omega) _).setCell (p := ⟨w.heap.size + 1, 5, none⟩) (by first | (simp; done) | (simp; omega) | omega) _
    rw [← hV]
    clear hV
    exact bodyPost_ret (v := .agg #[.int .i64 b.eye, .int .i64 b.bull, .slice (some ⟨g1, 0, none⟩) b.rings.length c1, .slice (some ⟨g2, 0, none⟩) b.lines.length c2, .slice (some ⟨g3, 0, none⟩) b.nums.length c3, .int .i64 b.wire]) (by simp [results, Tryz.results9, go_sem, p0, p1, p2, p3, p4, p5]) rfl ⟨g1, c1, g2, c2, g3, c3, rfl, ⟨_, _, _, rfl, q1, q2, q3⟩, hbV⟩
end Go.Proofs.YtgceffpkhmjmkaaGreat
