/- Board, part Vj: the reference's sector of a direction. -/
import Derived.Test.YtgceffpkhmjmkaaGreatVb
import Derived.Test.YtgceffpkhmjmkaaGreatVd
import Derived.Test.YtgceffpkhmjmkaaGreatZq
set_option linter.unusedVariables false
set_option linter.unusedSimpArgs false
namespace Go.Proofs.YtgceffpkhmjmkaaGreat
open Go.RowKit Go.Shelf

set_option maxRecDepth 100000 in
set_option maxHeartbeats 4000000 in
theorem rSector_any (v : Value) (b : Brd) (p : Int × Int) (w : World) (h : BrdAt w v b) (hc : chk b = 0) (hp : Near p) (hp0 : 0 < dt p p) :
    Calls Tryz.prog 50 #[v, pt p] w (Ret (.int .i64 (sector b p)) w) := by
  obtain ⟨vr, vl, vn, rfl, ⟨ar, cr, rfl, lr, _⟩, sl, ⟨an, cn, rfl, ln, _⟩⟩ := h
  have hCL := sl
  obtain ⟨al, cl, rfl, ll, _⟩ := sl
  have HCL : Aside (∀ j p, b.lines[j]? = some p → ∃ g off, al = some ⟨g, off, none⟩ ∧ w.cell? ⟨g, off + j * 2, none⟩ = some (.int .i64 p.1) ∧ w.cell? ⟨g, off + j * 2 + 1, none⟩ = some (.int .i64 p.2)) := cells_of hCL
  obtain ⟨s1, s2, s3⟩ := sector_btw hc hp0
  have gd := good_of_chk hc
  have HNr : Aside (∀ l ∈ b.lines, Near l) := fun l hl => (gd.pts l hl).near
  have hn20 : b.lines.length ≤ 20 := gd.len.2.1
  have hn0 : 0 < b.lines.length := List.length_pos_iff.2 gd.lines
  have HP : Aside (Near p) := hp
  obtain ⟨s, hs⟩ : ∃ s, sector b p = s := ⟨_, rfl⟩
  rw [hs] at s1 s2 s3 ⊢
  have HB1 : Aside (btwAt b.lines p s = true) := s2
  have HB2 : Aside (∀ i, i < s → btwAt b.lines p i = false) := s3
  obtain ⟨nl, hnl⟩ : ∃ n, b.lines.length = n := ⟨_, rfl⟩
  have HL : Aside (b.lines.length = nl) := hnl
  rw [hnl] at s1 hn20 hn0 ll ⊢
  clear hCL gd hp hp0 hs s2 s3 hnl hc
  have HBW : Aside (∀ k, k < nl → btwAt b.lines p k = btw (gl b.lines k) (gl b.lines ((k + 1) % nl)) p) := by
    intro k _; unfold btwAt; rw [HL.out]
  generalize b.rings.length = lenr at *
  generalize b.nums.length = lenn at *
  obtain ⟨ey, hey⟩ : ∃ x, b.eye = x := ⟨_, rfl⟩
  obtain ⟨bu, hbu⟩ : ∃ x, b.bull = x := ⟨_, rfl⟩
  obtain ⟨wi, hwi⟩ : ∃ x, b.wire = x := ⟨_, rfl⟩
  rw [hey, hbu, hwi]
  clear hey hbu hwi
  obtain ⟨px, py⟩ := p
  unfold pt
  simp only []
  go_enter Tryz.func50, Tryz.ntmps50
  go_wp2_with fail
  obtain ⟨W0, hW0⟩ : ∃ W0, W0 = (w.alloc (.cells #[.int .i64 ey, .int .i64 bu, .slice ar lenr cr, .slice al nl cl, .slice an lenn cn, .int .i64 wi] 26)).alloc (.cells #[.int .i64 px, .int .i64 py] 28) := ⟨_, rfl⟩
  have B0 : Aside (Below w.heap.size w W0) := by rw [hW0]; clear hW0; show Below _ _ _; (repeat' (first | exact Below.refl _ _ | assumption | (with_reducible refine Below.drew ?_) | (with_reducible refine Below.setCell ?_ (by (first | (simp; done) | (simp; omega))) _) | (with_reducible refine below_drewN' ?_ _) | (refine Below.alloc ?_ (by (try simp only [World.size_alloc, World.size_drew, World.size_setCell]); omega) _) | (refine Below.trans ?_ (Below.mono (by assumption) (by (try simp only [World.size_alloc, World.size_drew, World.size_setCell]); omega)))))
  have x3 : W0.cell? ⟨w.heap.size, 3, none⟩ = some (.slice al nl cl) := by rw [hW0]; clear hW0; go_simp
  have q0 : W0.cell? ⟨w.heap.size + 1, 0, none⟩ = some (.int .i64 px) := by rw [hW0]; clear hW0; go_simp
  have q1 : W0.cell? ⟨w.heap.size + 1, 1, none⟩ = some (.int .i64 py) := by rw [hW0]; clear hW0; go_simp
  rw [← hW0]
  clear hW0
  go_loopg [6] nl (fun gg i wr => ∃ k : Nat, k ≤ s ∧ nl - k ≤ gg ∧ i = .int .i64 k ∧ Aside (Below W0.heap.size W0 wr))
  case atStart => exact ⟨0, Nat.zero_le _, by omega, rfl, Below.refl _ _⟩
  case round =>
    obtain ⟨k, hk, hg, rfl, BW⟩ := hrel
    have hlt : k < nl := by omega
    have hltz : (k : Int) < (nl : Int) := by omega
    obtain ⟨m, hm⟩ : ∃ m, (k + 1) % nl = m := ⟨_, rfl⟩
    have hmk : m < nl := by rw [← hm]; exact Nat.mod_lt _ (by omega)
    have hmz : ((k : Int) + 1).tmod (nl : Int) = (m : Int) := by
      rw [Int.tmod_eq_emod_of_nonneg (by omega), show (k : Int) + 1 = ((k + 1 : Nat) : Int) by omega, ← hm]
      exact (Int.natCast_emod _ _).symm
    obtain ⟨g, off, rfl, p0, p1⟩ := HCL.out k _ (gl_get (by rw [HL.out]; exact hlt))
    obtain ⟨g', off', e', n0, n1⟩ := HCL.out m _ (gl_get (by rw [HL.out]; exact hmk))
    simp only [Option.some.injEq, Addr.mk.injEq, and_true] at e'
    obtain ⟨rfl, rfl⟩ := e'
    have hbt := fun W => rBetween_any (gl b.lines k) (gl b.lines m) (px, py) W (HNr.out _ (gl_mem (by rw [HL.out]; exact hlt))) (HNr.out _ (gl_mem (by rw [HL.out]; exact hmk))) HP.out
    have HX : Aside (btwAt b.lines (px, py) k = btw (gl b.lines k) (gl b.lines m) (px, py)) := by show _ = _; rw [HBW.out k hlt, hm]
    have p0 := keepc BW.out (keepc B0.out p0)
    have p1 := keepc BW.out (keepc B0.out p1)
    have n0 := keepc BW.out (keepc B0.out n0)
    have n1 := keepc BW.out (keepc B0.out n1)
    have z3 := keepc BW.out x3
    have q0 := keepc BW.out q0
    have q1 := keepc BW.out q1
    obtain ⟨bt, hbt'⟩ : ∃ bt, btw (gl b.lines k) (gl b.lines m) (px, py) = bt := ⟨_, rfl⟩
    rw [hbt'] at hbt HX
    clear hbt' hm
    obtain ⟨pp, hpp⟩ : ∃ p, gl b.lines k = p := ⟨_, rfl⟩
    obtain ⟨pn, hpn⟩ : ∃ p, gl b.lines m = p := ⟨_, rfl⟩
    rw [hpp] at p0 p1 hbt
    rw [hpn] at n0 n1 hbt
    clear hpp hpn
    obtain ⟨lx, ly⟩ := pp
    obtain ⟨nx, ny⟩ := pn
    unfold pt at hbt
    simp only [] at p0 p1 n0 n1 hbt
    have MK : Aside (∀ w', Below wr.heap.size wr w' → (Below wr.heap.size wr w' ∧ w'.cell? ⟨g, off + k * 2, none⟩ = some (.int .i64 lx) ∧ w'.cell? ⟨g, off + k * 2 + 1, none⟩ = some (.int .i64 ly) ∧ w'.cell? ⟨g, off + m * 2, none⟩ = some (.int .i64 nx) ∧ w'.cell? ⟨g, off + m * 2 + 1, none⟩ = some (.int .i64 ny) ∧ w'.cell? ⟨w.heap.size, 3, none⟩ = some (.slice (some ⟨g, off, none⟩) nl cl) ∧ w'.cell? ⟨w.heap.size + 1, 0, none⟩ = some (.int .i64 px) ∧ w'.cell? ⟨w.heap.size + 1, 1, none⟩ = some (.int .i64 py))) := fun w' hB => ⟨hB, keepc hB p0, keepc hB p1, keepc hB n0, keepc hB n1, keepc hB z3, keepc hB q0, keepc hB q1⟩
    have hw1 : IntKind.i64.wrap ((k : Int) + 1) = (k : Int) + 1 := IntWalk.i64_in _ (by omega)
    have hw2 : IntKind.i64.wrap (m : Int) = (m : Int) := IntWalk.i64_in _ (by omega)
    have hw3 : ¬ (nl : Int) = 0 := by omega
    have hw4 : ¬ nl = 0 := by omega
    have hmkz : (m : Int) < (nl : Int) := by omega
    go_upto_region 5 with (fail)
    refine region_class (fun w' => Below wr.heap.size wr w' ∧ w'.cell? ⟨g, off + k * 2, none⟩ = some (.int .i64 lx) ∧ w'.cell? ⟨g, off + k * 2 + 1, none⟩ = some (.int .i64 ly) ∧ w'.cell? ⟨g, off + m * 2, none⟩ = some (.int .i64 nx) ∧ w'.cell? ⟨g, off + m * 2 + 1, none⟩ = some (.int .i64 ny) ∧ w'.cell? ⟨w.heap.size, 3, none⟩ = some (.slice (some ⟨g, off, none⟩) nl cl) ∧ w'.cell? ⟨w.heap.size + 1, 0, none⟩ = some (.int .i64 px) ∧ w'.cell? ⟨w.heap.size + 1, 1, none⟩ = some (.int .i64 py)) (by kernel_rfl) (by kernel_rfl) (MK.out _ ((Below.refl _ _).drew)) ?_
    iterate 15 (first | go_big_quiet_skip | (go_big_quiet_want; unfold Oper.quiet; apply Exists.intro; refine ⟨fun W hW => ?_, ?_⟩; (go_split_ands; unfold Oper.quietAt; go_simp; first | rfl | exact ⟨rfl, rfl⟩ | ((with_reducible refine (hbt _).mono ?_); rintro e w2 ⟨rfl, hb2⟩; exact ⟨rfl, MK.out _ (Below.trans (by assumption) (Below.mono (by assumption) (Below.size (by assumption))))⟩)); go_big_quiet_on; (try simp only [Act.put, List.setIfInBounds_toArray, List.set_cons_zero, List.set_cons_succ])))
    refine wpQuiet_nil ?_
    intro W hW
    obtain ⟨hBW, _⟩ := hW
    cases bt with
    | true =>
      have e : s = k := by
        by_cases h : k < s
        · have := HB2.out k h
          rw [HX.out] at this; cases this
        · omega
      subst e
      go_wp2_with fail
      go_ret
      exact ⟨rfl, B0.out.trans ((BW.out.trans (hBW.mono BW.out.size)).mono B0.out.size)⟩
    | false =>
      have e : k + 1 ≤ s := by
        by_cases h : k = s
        · have := HB1.out
          rw [← h, HX.out] at this; cases this
        · omega
      go_wp2_with fail
      go_roundg (nl - (k + 1))
      case measure => omega
      case rel => exact ⟨k + 1, by omega, by omega, by go_num, BW.out.trans (hBW.mono BW.out.size)⟩
end Go.Proofs.YtgceffpkhmjmkaaGreat
