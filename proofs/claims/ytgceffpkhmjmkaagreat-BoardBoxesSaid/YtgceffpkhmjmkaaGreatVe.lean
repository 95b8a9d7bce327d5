/- Board, part Ve: rows that one owns; the reference's radii. -/
import Derived.Test.YtgceffpkhmjmkaaGreatVd
import Derived.Test.YtgceffpkhmjmkaaGreatUf
set_option linter.unusedVariables false
set_option linter.unusedSimpArgs false
namespace Go.Proofs.YtgceffpkhmjmkaaGreat
open Go.RowKit Go.Shelf

theorem vrow_form {w : World} {base : Nat} {e : TypeId} {size : Nat} {v : Value} {n : Nat} {xs : List Value} (h : w.ownsRow base e size v n xs) (hn : 0 < n) : ∃ g c, v = .slice (some ⟨g, 0, none⟩) n c := by
  rcases h.2 with ⟨_, h0⟩ | ⟨g, cap, cur, h0, _⟩
  · omega
  · exact ⟨g, cap, h0⟩
theorem vone_new (w : World) (x : Value) (t : TypeId) : ∀ j u, [x][j]? = some u → (w.alloc (.cells #[x] t)).cell? ((⟨w.heap.size, 0, none⟩ : Addr).add j) = some u := by
  intro j u hu
  match j, hu with
  | 0, hu => simp at hu; subst hu; rw [Addr.add_lit]; go_simp
  | j + 1, hu => simp at hu
theorem vinfo_int : (Tryz.prog.info? 3).map (fun i => (i.zero, i.size, i.bytes)) = some (some (.int .i64 0), 1, 8) := by kernel_rfl

/-- The first radii. -/
def radT (b : Brd) (k : Nat) : List Int := b.eye :: b.bull :: (b.rings.take k).map (·.1)
theorem radT_len (b : Brd) (k : Nat) (h : k ≤ b.rings.length) : (radT b k).length = 2 + k := by
  unfold radT
  rw [List.length_cons, List.length_cons, List.length_map, List.length_take]; omega
theorem radT_succ (b : Brd) (k : Nat) (p : Int × Int) (h : b.rings[k]? = some p) : radT b (k + 1) = radT b k ++ [p.1] := by
  obtain ⟨hk, e⟩ := List.getElem?_eq_some_iff.1 h
  unfold radT
  rw [List.take_succ_eq_append_getElem hk, e, List.map_append]; rfl
theorem radT_all (b : Brd) : radT b b.rings.length = radii b := by unfold radT radii; rw [List.take_length]
def SlOk (xs : List Int) (w : World) (e : Ending) (w' : World) : Prop :=
  ∃ g c, e = .returned (.slice (some ⟨g, 0, none⟩) xs.length c) ∧ Sl w' 1 eI (.slice (some ⟨g, 0, none⟩) xs.length c) xs ∧ Below w.heap.size w w'

set_option maxRecDepth 100000 in
set_option maxHeartbeats 4000000 in
theorem rRadii_any (v : Value) (b : Brd) (w : World) (h : BrdAt w v b) (hn : b.rings.length ≤ 10) :
    Calls Tryz.prog 47 #[v] w (SlOk (radii b) w) := by
  obtain ⟨vr, vl, vn, rfl, sr, ⟨al, cl, rfl, ll, _⟩, ⟨an, cn, rfl, ln, _⟩⟩ := h
  have hs := sr
  obtain ⟨ar, cr, rfl, lr, _⟩ := sr
  have HC : Aside (∀ j p, b.rings[j]? = some p → ∃ g off, ar = some ⟨g, off, none⟩ ∧ w.cell? ⟨g, off + j * 2, none⟩ = some (.int .i64 p.1) ∧ w.cell? ⟨g, off + j * 2 + 1, none⟩ = some (.int .i64 p.2)) := cells_of hs
  have HF : Aside (∀ (W : World) (v : Value), W.ownsRow (w.heap.size + 1) 3 1 v (2 + b.rings.length) ((radT b b.rings.length).map encZ) → Below w.heap.size w W → SlOk (radii b) w (.returned v) W) := by
    intro W v hown hB
    obtain ⟨g, c, rfl⟩ := vrow_form hown (by omega)
    have hlen : (radii b).length = 2 + b.rings.length := by rw [← radT_all, radT_len b _ (Nat.le_refl _)]
    rw [radT_all] at hown
    refine ⟨g, c, by rw [hlen], ?_, hB⟩
    have := sl_of_owns (by omega) hown hlen.symm (by intro e; rw [e] at hlen; simp at hlen; omega)
    rwa [hlen]
  clear hs
  obtain ⟨n, hn0⟩ : ∃ n, b.rings.length = n := ⟨_, rfl⟩
  have HN : Aside (b.rings.length = n) := hn0
  rw [hn0] at hn lr HF ⊢
  have HRT : Aside (∀ k p, b.rings[k]? = some p → (radT b (k + 1)).map encZ = (radT b k).map encZ ++ [.int .i64 p.1]) := by
    intro k p h; rw [radT_succ b k p h, List.map_append]; rfl
  clear hn0
  generalize b.lines.length = lenl at *
  generalize b.nums.length = lenn at *
  obtain ⟨i0, hi, hz0, hz1, hz2⟩ := info_parts vinfo_int
  go_enter Tryz.func47, Tryz.ntmps47
  go_wp2_with fail
  obtain ⟨W0, hW0⟩ : ∃ W0, W0 = w.alloc (.cells #[.int .i64 b.eye, .int .i64 b.bull, .slice ar n cr, .slice al lenl cl, .slice an lenn cn, .int .i64 b.wire] 26) := ⟨_, rfl⟩
  have x2 : W0.cell? ⟨w.heap.size, 2, none⟩ = some (.slice ar n cr) := by rw [hW0]; clear hW0; go_simp
  have s0 : W0.heap.size = w.heap.size + 1 := by rw [hW0]; simp
  have B0 : Aside (Below w.heap.size w W0) := by rw [hW0]; clear hW0; show Below _ _ _; (repeat' (first | exact Below.refl _ _ | assumption | (with_reducible refine Below.drew ?_) | (with_reducible refine Below.setCell ?_ (by (first | (simp; done) | (simp; omega))) _) | (with_reducible refine below_drewN' ?_ _) | (refine Below.alloc ?_ (by (try simp only [World.size_alloc, World.size_drew, World.size_setCell]); omega) _) | (refine Below.trans ?_ (Below.mono (by assumption) (by (try simp only [World.size_alloc, World.size_drew, World.size_setCell]); omega)))))
  rw [← hW0]
  have OW : Aside ((W0.alloc (.cells #[.int .i64 b.eye, .int .i64 b.bull] 3)).ownsRow (w.heap.size + 1) 3 1 (.slice (some ⟨w.heap.size + 1, 0, none⟩) 2 2) (2 + 0) ((radT b 0).map encZ)) := by
    show World.ownsRow _ _ _ _ _ _ _
    rw [← s0]
    exact World.ownsRow_lit W0 _ 2 (Nat.le_refl _) (by unfold maxLen; omega) rfl
  have BWS : Aside (Below (w.heap.size + 1) W0 (W0.alloc (.cells #[.int .i64 b.eye, .int .i64 b.bull] 3))) := (Below.refl _ _).alloc (by omega) _
  clear hW0
  go_loopg [3, 4] n (fun gg lv iv wr => ∃ (k : Nat) (v : Value), k ≤ n ∧ n - k ≤ gg ∧ iv = .int .i64 k ∧ lv = v ∧ Aside (wr.ownsRow (w.heap.size + 1) 3 1 v (2 + k) ((radT b k).map encZ)) ∧ Aside (Below (w.heap.size + 1) W0 wr))
  case atStart => exact ⟨0, _, Nat.zero_le _, by omega, rfl, rfl, OW, BWS⟩
  case round =>
    clear OW BWS
    obtain ⟨k, v, hk, hg, rfl, rfl, OW, BW⟩ := hrel
    have j2 : wr.cell? ⟨w.heap.size, 2, none⟩ = some (.slice ar n cr) := (BW.out.cell (p := ⟨w.heap.size, 2, none⟩) (by simp)).trans x2
    have zr : w.heap.size + 1 ≤ wr.heap.size := by have := BW.out.size; omega
    by_cases hlt : k < n
    · have hltz : (k : Int) < (n : Int) := by omega
      obtain ⟨p, hp⟩ : ∃ p, b.rings[k]? = some p := ⟨_, List.getElem?_eq_getElem (by rw [HN.out]; exact hlt)⟩
      obtain ⟨g, off, rfl, c0, c1⟩ := HC.out k p hp
      have BW2 : Aside (Below w.heap.size w wr) := B0.out.trans (BW.out.mono (by omega))
      have j0 := keepc BW2.out c0
      have HR : Aside _ := HRT.out k p hp
      obtain ⟨x, y⟩ := p
      simp only [] at j0 HR
      clear hp c0 c1
      have hown := OW.out
      go_wp2_with (at_builtin; refine wpList_append_own _ rfl _ _ 24 rfl (w.heap.size + 1) 3 i0 (.int .i64 0) 1 8 Tryz.underlying24 hi hz0 hz1 hz2 rfl (by decide) _ (2 + k) _ rfl (hown.alloc _) ⟨wr.heap.size, 0, none⟩ 1 1 [.int .i64 x] rfl rfl (vone_new wr _ _) (by intro u hu; simp at hu; subst hu; rfl) (by unfold maxLen; omega) (by omega) (by simp; omega) ?_; intro v' w2 hown2 hgrow2 _)
      go_roundg (n - (k + 1))
      case measure => omega
      case rel =>
        have ow := hown.alloc (.cells #[.int .i64 x] 3)
        exact ⟨k + 1, _, by omega, by omega, by go_num, rfl, (show Aside _ by show World.ownsRow _ _ _ _ _ _ _; rw [HR.out]; exact hown2), (BW.out.trans ((Below.refl _ _).alloc zr _)).grown hgrow2 (by simp; omega) (fun r e => (ow.lt r e).1)⟩
    · have : k = n := by omega
      subst this
      have hltz : ¬ (k : Int) < (k : Int) := by omega
      go_wp2_with fail
      go_ret
      exact HF.out _ _ OW.out (B0.out.trans (BW.out.mono (by omega)))
end Go.Proofs.YtgceffpkhmjmkaaGreat
