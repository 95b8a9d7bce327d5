/- Board, part S: Turn, where it succeeds. -/
import Derived.Test.YtgceffpkhmjmkaaGreatO
import Derived.Test.YtgceffpkhmjmkaaGreatQ
import Derived.Deep.DeepCutAuto
set_option linter.unusedVariables false
set_option linter.unusedSimpArgs false
namespace Go.Proofs.YtgceffpkhmjmkaaGreat
open Go.RowKit Go.Shelf

def turnB (b : Brd) (k : Nat) : Brd := { b with nums := rot b.nums k }

/-- What Turn leaves. -/
def TurnOk (b : Brd) (k : Nat) (w : World) (e : Ending) (w' : World) : Prop :=
  ∃ g1 c1 g2 c2 g3 c3, e = .returned (.tuple #[.agg #[.int .i64 b.eye, .int .i64 b.bull, .slice (some ⟨g1, 0, none⟩) b.rings.length c1, .slice (some ⟨g2, 0, none⟩) b.lines.length c2, .slice (some ⟨g3, 0, none⟩) b.nums.length c3, .int .i64 b.wire], .int .i64 0]) ∧
    BrdAt w' (.agg #[.int .i64 b.eye, .int .i64 b.bull, .slice (some ⟨g1, 0, none⟩) b.rings.length c1, .slice (some ⟨g2, 0, none⟩) b.lines.length c2, .slice (some ⟨g3, 0, none⟩) b.nums.length c3, .int .i64 b.wire]) (turnB b k) ∧ Below w.heap.size w w'

theorem sl_of_ints {w : World} {base g n : Nat} {e : TypeId} {xs : List Int} (hl : xs.length ≤ 9223372036854775807) (h : w.ownsRow base e 1 (.slice (some ⟨g, 0, none⟩) n n) n (xs.map (Value.int .i64))) (hn : n = xs.length) : Sl w 1 (fun x => [Value.int .i64 x]) (.slice (some ⟨g, 0, none⟩) n n) xs := by
  subst hn
  have h' := h
  refine ⟨_, _, rfl, hl, fun hne => ⟨g, 0, rfl, ?_, ?_⟩⟩
  · rcases h.2 with ⟨h0, _⟩ | ⟨g', cap, cur, h0, _, hg, _⟩
    · cases h0
    · cases h0; exact (Array.getElem?_eq_some_iff.1 hg).1
  · intro j x hx i y hy
    match i, hy with
    | 0, hy =>
      simp at hy; subst hy
      have := h'.cellAt j (by have := (List.getElem?_eq_some_iff.1 hx).1; omega)
      rw [Nat.mul_one, Nat.zero_add, Nat.add_zero, this, List.getElem?_map, hx]; rfl
    | i + 1, hy => simp at hy

theorem Sl.setCell {α : Type} {w : World} {k g n c : Nat} {enc : α → List Value} {xs : List α} {p : Addr} {u : Value} (h : Sl w k enc (.slice (some ⟨g, 0, none⟩) n c) xs) (hp : g ≠ p.block) : Sl (w.setCell p u) k enc (.slice (some ⟨g, 0, none⟩) n c) xs := by
  obtain ⟨a, c', e, hl, hs⟩ := h
  refine ⟨a, c', e, hl, fun hne => ?_⟩
  obtain ⟨b, off, ha, hb, hc⟩ := hs hne
  have hbg : b = g := by rw [ha] at e; simp at e; omega
  exact ⟨b, off, ha, by simpa using hb, fun j x hx i y hy => (World.cell?_of_block (Below.heap_setCell w p u b (by rw [hbg]; exact hp))).trans (hc j x hx i y hy)⟩

set_option maxRecDepth 100000 in
set_option maxHeartbeats 16000000 in
theorem Turn_ok (v : Value) (b : Brd) (k : Nat) (w : World) (h : BrdAt w v b) (hc : chk b = 0) (hk : k < b.nums.length) :
    Calls Tryz.prog 26 #[v, .int .i64 k] w (TurnOk b k w) := by
  have g := good_of_chk hc
  have x1 := fun W (hW : Below w.heap.size w W) => check_any v b W (h.below hW)
  rw [hc] at x1
  have x2 := fun W kk hkk t => within_any 0 ((b.nums.length : Int) - 1) _ [(k : Int)] _ (sl_one W kk hkk t (k : Int))
  have e2 : ([(k : Int)].all (inb 0 ((b.nums.length : Int) - 1))) = true := by
    unfold inb; simp; omega
  rw [e2] at x2
  obtain ⟨vr, vl, vn, rfl, hr, hl, hn⟩ := h
  obtain ⟨g1, g2, g3⟩ := g.len
  have gn : b.nums ≠ [] := by intro e; rw [e] at hk; simp at hk
  have x3 := fun W (hW : Below w.heap.size w W) => clone_rings vr b.rings W (hr.below hW) g.rings (by omega)
  have x4 := fun W (hW : Below w.heap.size w W) => clone_pts vl b.lines W (hl.below hW) g.lines (by omega)
  have x5 := fun W (hW : Below w.heap.size w W) => turned_any vn b.nums k W (hn.below hW) hk (by omega)
  unfold RetSl at x3 x4
  unfold RetRow at x5
  rw [rot_length] at x5
  unfold TurnOk
  have HF : Aside (∀ (w' : World) (g1 c1 g2 c2 g3 : Nat) (bs : Nat), Sl w' 2 encP (.slice (some ⟨g1, 0, none⟩) b.rings.length c1) b.rings → Sl w' 2 encP (.slice (some ⟨g2, 0, none⟩) b.lines.length c2) b.lines → Sl w' 1 (fun x => [Value.int .i64 x]) (.slice (some ⟨g3, 0, none⟩) b.nums.length b.nums.length) (rot b.nums k) →
      BrdAt w' (.agg #[.int .i64 b.eye, .int .i64 b.bull, .slice (some ⟨g1, 0, none⟩) b.rings.length c1, .slice (some ⟨g2, 0, none⟩) b.lines.length c2, .slice (some ⟨g3, 0, none⟩) b.nums.length b.nums.length, .int .i64 b.wire]) (turnB b k)) :=
    fun w' g1 c1 g2 c2 g3 bs h1 h2 h3 => ⟨_, _, _, rfl, h1, h2, h3⟩
  have HSI : Aside (∀ (W : World) (gg bs : Nat), W.ownsRow bs 3 1 (.slice (some ⟨gg, 0, none⟩) b.nums.length b.nums.length) b.nums.length ((rot b.nums k).map (Value.int .i64)) → Sl W 1 (fun x => [Value.int .i64 x]) (.slice (some ⟨gg, 0, none⟩) b.nums.length b.nums.length) (rot b.nums k)) :=
    fun W gg bs h => sl_of_ints (by rw [rot_length]; omega) h (rot_length _ _).symm
  obtain ⟨ar, cr, rfl, lr, _⟩ := hr
  obtain ⟨al, cl, rfl, ll, _⟩ := hl
  obtain ⟨an, cn, rfl, ln, _⟩ := hn
  clear g hc gn e2
  generalize b.rings.length = lenr at *
  generalize b.lines.length = lenl at *
  generalize b.nums.length = lenn at *
  have ez : (0 : Int) ≤ (lenn : Int) - 1 := by omega
  go_enter Tryz.func26, Tryz.ntmps26
  go_upto_region 6 with (first | (go_at_call 10; (with_reducible refine (x1 _ ?hh).mono ?_); (case hh => (repeat' (first | exact Below.refl _ _ | assumption | (with_reducible refine Below.drew ?_) | (with_reducible refine Below.setCell ?_ (by (first | (simp; done) | (simp; omega))) _) | (with_reducible refine below_drewN' ?_ _) | (refine Below.alloc ?_ (by (try simp only [World.size_alloc, World.size_drew, World.size_setCell]); omega) _) | (refine Below.trans ?_ (Below.mono (by assumption) (by (try simp only [World.size_alloc, World.size_drew, World.size_setCell]); omega)))))); rintro e w1 ⟨rfl, hb1⟩; (obtain ⟨hc1, hf1⟩ := bcell hb1; have z1 := hb1.size; (try simp only [World.size_alloc, World.size_drew, World.size_setCell] at z1); (try have q1a : w.heap.size < w1.heap.size := by omega); (try have q1b : w.heap.size + 1 < w1.heap.size := by omega); (try have q1c : w.heap.size + 1 + 1 < w1.heap.size := by omega); (try have q1d : w.heap.size + 1 + 1 + 1 < w1.heap.size := by omega); (try have q1e : wr.heap.size < w1.heap.size := by omega); (try have q1f : wr.heap.size + 1 < w1.heap.size := by omega))) | (go_at_call 55; (with_reducible refine (x2 _ _ (by simp) _).mono ?_); rintro e w2 ⟨rfl, hb2⟩; (obtain ⟨hc2, hf2⟩ := bcell hb2; have z2 := hb2.size; (try simp only [World.size_alloc, World.size_drew, World.size_setCell] at z2); (try have q2a : w.heap.size < w2.heap.size := by omega); (try have q2b : w.heap.size + 1 < w2.heap.size := by omega); (try have q2c : w.heap.size + 1 + 1 < w2.heap.size := by omega); (try have q2d : w.heap.size + 1 + 1 + 1 < w2.heap.size := by omega); (try have q2e : wr.heap.size < w2.heap.size := by omega); (try have q2f : wr.heap.size + 1 < w2.heap.size := by omega); (try have q2g : w1.heap.size < w2.heap.size := by omega); (try have q2h : w1.heap.size + 1 < w2.heap.size := by omega))))
  have BX : Below w.heap.size w w2 := by (repeat' (first | exact Below.refl _ _ | assumption | (with_reducible refine Below.drew ?_) | (with_reducible refine Below.setCell ?_ (by (first | (simp; done) | (simp; omega))) _) | (with_reducible refine below_drewN' ?_ _) | (refine Below.alloc ?_ (by (try simp only [World.size_alloc, World.size_drew, World.size_setCell]); omega) _) | (refine Below.trans ?_ (Below.mono (by assumption) (by (try simp only [World.size_alloc, World.size_drew, World.size_setCell]); omega)))))
  have k0 : w2.cell? ⟨w.heap.size, 0, none⟩ = some (.int .i64 b.eye) := by go_simp
  have k1 : w2.cell? ⟨w.heap.size, 1, none⟩ = some (.int .i64 b.bull) := by go_simp
  have k2 : w2.cell? ⟨w.heap.size, 2, none⟩ = some (.slice ar lenr cr) := by go_simp
  have k3 : w2.cell? ⟨w.heap.size, 3, none⟩ = some (.slice al lenl cl) := by go_simp
  have k4 : w2.cell? ⟨w.heap.size, 4, none⟩ = some (.slice an lenn cn) := by go_simp
  have k5 : w2.cell? ⟨w.heap.size, 5, none⟩ = some (.int .i64 b.wire) := by go_simp
  have r0 : w2.cell? ⟨w.heap.size + 1, 0, none⟩ = some (.int .i64 0) := by go_simp
  have r1 : w2.cell? ⟨w.heap.size + 1, 1, none⟩ = some (.int .i64 0) := by go_simp
  have r2 : w2.cell? ⟨w.heap.size + 1, 2, none⟩ = some (.slice none 0 0) := by go_simp
  have r3 : w2.cell? ⟨w.heap.size + 1, 3, none⟩ = some (.slice none 0 0) := by go_simp
  have r4 : w2.cell? ⟨w.heap.size + 1, 4, none⟩ = some (.slice none 0 0) := by go_simp
  have r5 : w2.cell? ⟨w.heap.size + 1, 5, none⟩ = some (.int .i64 0) := by go_simp
  have hfr : ∀ i, w2.frozen? ⟨w.heap.size, i, none⟩ = false := by intro i; go_simp
  have hfr2 : ∀ i, w2.frozen? ⟨w.heap.size + 1, i, none⟩ = false := by intro i; go_simp
  have q1 : w.heap.size + 1 < w2.heap.size := by omega
  clear hc1 hf1 hc2 hf2
  have q0 : w.heap.size < w2.heap.size := by omega
  have BK : Aside (∀ A w' : World, Below A.heap.size A w' → (A.cell? ⟨w.heap.size, 0, none⟩ = some (.int .i64 b.eye) ∧ A.cell? ⟨w.heap.size, 1, none⟩ = some (.int .i64 b.bull) ∧ A.cell? ⟨w.heap.size, 2, none⟩ = some (.slice ar lenr cr) ∧ A.cell? ⟨w.heap.size, 3, none⟩ = some (.slice al lenl cl) ∧ A.cell? ⟨w.heap.size, 4, none⟩ = some (.slice an lenn cn) ∧ A.cell? ⟨w.heap.size, 5, none⟩ = some (.int .i64 b.wire) ∧ A.cell? ⟨w.heap.size + 1, 0, none⟩ = some (.int .i64 0) ∧ A.cell? ⟨w.heap.size + 1, 1, none⟩ = some (.int .i64 0) ∧ A.cell? ⟨w.heap.size + 1, 2, none⟩ = some (.slice none 0 0) ∧ A.cell? ⟨w.heap.size + 1, 3, none⟩ = some (.slice none 0 0) ∧ A.cell? ⟨w.heap.size + 1, 4, none⟩ = some (.slice none 0 0) ∧ A.cell? ⟨w.heap.size + 1, 5, none⟩ = some (.int .i64 0) ∧ (∀ i, A.frozen? ⟨w.heap.size, i, none⟩ = false) ∧ (∀ i, A.frozen? ⟨w.heap.size + 1, i, none⟩ = false) ∧ w.heap.size + 1 < A.heap.size) → (w'.cell? ⟨w.heap.size, 0, none⟩ = some (.int .i64 b.eye) ∧ w'.cell? ⟨w.heap.size, 1, none⟩ = some (.int .i64 b.bull) ∧ w'.cell? ⟨w.heap.size, 2, none⟩ = some (.slice ar lenr cr) ∧ w'.cell? ⟨w.heap.size, 3, none⟩ = some (.slice al lenl cl) ∧ w'.cell? ⟨w.heap.size, 4, none⟩ = some (.slice an lenn cn) ∧ w'.cell? ⟨w.heap.size, 5, none⟩ = some (.int .i64 b.wire) ∧ w'.cell? ⟨w.heap.size + 1, 0, none⟩ = some (.int .i64 0) ∧ w'.cell? ⟨w.heap.size + 1, 1, none⟩ = some (.int .i64 0) ∧ w'.cell? ⟨w.heap.size + 1, 2, none⟩ = some (.slice none 0 0) ∧ w'.cell? ⟨w.heap.size + 1, 3, none⟩ = some (.slice none 0 0) ∧ w'.cell? ⟨w.heap.size + 1, 4, none⟩ = some (.slice none 0 0) ∧ w'.cell? ⟨w.heap.size + 1, 5, none⟩ = some (.int .i64 0) ∧ (∀ i, w'.frozen? ⟨w.heap.size, i, none⟩ = false) ∧ (∀ i, w'.frozen? ⟨w.heap.size + 1, i, none⟩ = false) ∧ w.heap.size + 1 < w'.heap.size)) := by
    rintro A w' hB ⟨k00, k01, k02, k03, k04, k05, r00, r01, r02, r03, r04, r05, f01, f02, q0⟩
    exact ⟨keepc hB k00, keepc hB k01, keepc hB k02, keepc hB k03, keepc hB k04, keepc hB k05, keepc hB r00, keepc hB r01, keepc hB r02, keepc hB r03, keepc hB r04, keepc hB r05, fun i => (hB.frozen (p := ⟨w.heap.size, i, none⟩) (by show w.heap.size < _; omega)).trans (f01 i), fun i => (hB.frozen (p := ⟨w.heap.size + 1, i, none⟩) (by show w.heap.size + 1 < _; omega)).trans (f02 i), Nat.lt_of_lt_of_le q0 hB.size⟩
  have X2 : Aside (w2.drew.cell? ⟨w.heap.size, 0, none⟩ = some (.int .i64 b.eye) ∧ w2.drew.cell? ⟨w.heap.size, 1, none⟩ = some (.int .i64 b.bull) ∧ w2.drew.cell? ⟨w.heap.size, 2, none⟩ = some (.slice ar lenr cr) ∧ w2.drew.cell? ⟨w.heap.size, 3, none⟩ = some (.slice al lenl cl) ∧ w2.drew.cell? ⟨w.heap.size, 4, none⟩ = some (.slice an lenn cn) ∧ w2.drew.cell? ⟨w.heap.size, 5, none⟩ = some (.int .i64 b.wire) ∧ w2.drew.cell? ⟨w.heap.size + 1, 0, none⟩ = some (.int .i64 0) ∧ w2.drew.cell? ⟨w.heap.size + 1, 1, none⟩ = some (.int .i64 0) ∧ w2.drew.cell? ⟨w.heap.size + 1, 2, none⟩ = some (.slice none 0 0) ∧ w2.drew.cell? ⟨w.heap.size + 1, 3, none⟩ = some (.slice none 0 0) ∧ w2.drew.cell? ⟨w.heap.size + 1, 4, none⟩ = some (.slice none 0 0) ∧ w2.drew.cell? ⟨w.heap.size + 1, 5, none⟩ = some (.int .i64 0) ∧ (∀ i, w2.drew.frozen? ⟨w.heap.size, i, none⟩ = false) ∧ (∀ i, w2.drew.frozen? ⟨w.heap.size + 1, i, none⟩ = false) ∧ w.heap.size + 1 < w2.drew.heap.size) := ⟨k0, k1, k2, k3, k4, k5, r0, r1, r2, r3, r4, r5, hfr, hfr2, q1⟩
  go_cut [24] (fun s24 wc => ∃ ga ca gb cb gc : Nat, wc.cell? ⟨w.heap.size, 0, none⟩ = some (.int .i64 b.eye) ∧ wc.cell? ⟨w.heap.size, 1, none⟩ = some (.int .i64 b.bull) ∧ wc.cell? ⟨w.heap.size, 2, none⟩ = some (.slice (some ⟨ga, 0, none⟩) lenr ca) ∧ wc.cell? ⟨w.heap.size, 3, none⟩ = some (.slice (some ⟨gb, 0, none⟩) lenl cb) ∧ wc.cell? ⟨w.heap.size, 4, none⟩ = some (.slice (some ⟨gc, 0, none⟩) lenn lenn) ∧ wc.cell? ⟨w.heap.size, 5, none⟩ = some (.int .i64 b.wire) ∧ wc.cell? ⟨w.heap.size + 1, 0, none⟩ = some (.int .i64 0) ∧ wc.cell? ⟨w.heap.size + 1, 1, none⟩ = some (.int .i64 0) ∧ wc.cell? ⟨w.heap.size + 1, 2, none⟩ = some (.slice none 0 0) ∧ wc.cell? ⟨w.heap.size + 1, 3, none⟩ = some (.slice none 0 0) ∧ wc.cell? ⟨w.heap.size + 1, 4, none⟩ = some (.slice none 0 0) ∧ wc.cell? ⟨w.heap.size + 1, 5, none⟩ = some (.int .i64 0) ∧ (∀ i, wc.frozen? ⟨w.heap.size + 1, i, none⟩ = false) ∧ Aside (Sl wc 2 encP (.slice (some ⟨ga, 0, none⟩) lenr ca) b.rings ∧ Sl wc 2 encP (.slice (some ⟨gb, 0, none⟩) lenl cb) b.lines ∧ Sl wc 1 (fun x => [Value.int .i64 x]) (.slice (some ⟨gc, 0, none⟩) lenn lenn) (rot b.nums k)) ∧ Aside (Below w.heap.size w wc) ∧ w.heap.size + 1 < ga ∧ w.heap.size + 1 < gb ∧ w.heap.size + 1 < gc ∧ w.heap.size + 1 < wc.heap.size)
  case first =>
    go_region_with (first
      | (go_at_call 56; (with_reducible refine (x3 _ ?hh).mono ?_); (case hh => (repeat' (first | exact Below.refl _ _ | assumption | (with_reducible refine Below.drew ?_) | (with_reducible refine Below.setCell ?_ (by (first | (simp; done) | (simp; omega))) _) | (with_reducible refine below_drewN' ?_ _) | (refine Below.alloc ?_ (by (try simp only [World.size_alloc, World.size_drew, World.size_setCell]); omega) _) | (refine Below.trans ?_ (Below.mono (by assumption) (by (try simp only [World.size_alloc, World.size_drew, World.size_setCell]); omega)))))); rintro e w4 ⟨gg4, cc4, rfl, ga4, gb4, sl4, hb4⟩; have X4 : Aside _ := BK.out _ _ hb4 X2.out; obtain ⟨k40, k41, k42, k43, k44, k45, r40, r41, r42, r43, r44, r45, f41, f42, q4⟩ := X4.out; have s4 := hb4.size; simp only [World.size_drew] at s4)
      | (go_at_call 57; (with_reducible refine (x4 _ ?hh).mono ?_); (case hh => (repeat' (first | exact Below.refl _ _ | assumption | (with_reducible refine Below.drew ?_) | (with_reducible refine Below.setCell ?_ (by (first | (simp; done) | (simp; omega))) _) | (with_reducible refine below_drewN' ?_ _) | (refine Below.alloc ?_ (by (try simp only [World.size_alloc, World.size_drew, World.size_setCell]); omega) _) | (refine Below.trans ?_ (Below.mono (by assumption) (by (try simp only [World.size_alloc, World.size_drew, World.size_setCell]); omega)))))); rintro e w5 ⟨gg5, cc5, rfl, ga5, gb5, sl5, hb5⟩; have X5 : Aside _ := BK.out _ _ hb5 X4.out; obtain ⟨k50, k51, k52, k53, k54, k55, r50, r51, r52, r53, r54, r55, f51, f52, q5⟩ := X5.out; have s5 := hb5.size)
      | (go_at_call 58; (with_reducible refine (x5 _ ?hh).mono ?_); (case hh => (repeat' (first | exact Below.refl _ _ | assumption | (with_reducible refine Below.drew ?_) | (with_reducible refine Below.setCell ?_ (by (first | (simp; done) | (simp; omega))) _) | (with_reducible refine below_drewN' ?_ _) | (refine Below.alloc ?_ (by (try simp only [World.size_alloc, World.size_drew, World.size_setCell]); omega) _) | (refine Below.trans ?_ (Below.mono (by assumption) (by (try simp only [World.size_alloc, World.size_drew, World.size_setCell]); omega)))))); rintro e w6 ⟨gg6, rfl, ga6, sl6, hb6⟩; have X6 : Aside _ := BK.out _ _ hb6 X5.out; obtain ⟨k60, k61, k62, k63, k64, k65, r60, r61, r62, r63, r64, r65, f61, f62, q6⟩ := X6.out; have s6 := hb6.size))
    all_goals
      go_wp2_with fail
      go_meet
      have ga4' : w2.heap.size ≤ gg4 := ga4
      have hs6 := HSI.out _ _ _ sl6
      have hs4 := (sl4.below hb5).below hb6
      have hs5 := sl5.below hb6
      refine ⟨gg4, cc4, gg5, cc5, gg6, ?_, ?_, ?_, ?_, ?_, ?_, ?_, ?_, ?_, ?_, ?_, ?_, ?_, ?_, ?_, ?_, ?_, ?_, ?_⟩
      rotate_left 12
      · intro i; (repeat rw [World.frozen?_setCell]); exact f62 i
      · exact ⟨((hs4.setCell (by simp; omega)).setCell (by simp; omega)).setCell (by simp; omega), ((hs5.setCell (by simp; omega)).setCell (by simp; omega)).setCell (by simp; omega), ((hs6.setCell (by simp; omega)).setCell (by simp; omega)).setCell (by simp; omega)⟩
      · show Below _ _ _
        (repeat' (first | exact Below.refl _ _ | assumption | (with_reducible refine Below.drew ?_) | (with_reducible refine Below.setCell ?_ (by (first | (simp; done) | (simp; omega))) _) | (with_reducible refine below_drewN' ?_ _) | (refine Below.alloc ?_ (by (try simp only [World.size_alloc, World.size_drew, World.size_setCell]); omega) _) | (refine Below.trans ?_ (Below.mono (by assumption) (by (try simp only [World.size_alloc, World.size_drew, World.size_setCell]); omega)))))
      · omega
      · omega
      · omega
      · simp; omega
      all_goals go_simp
  case rest =>
    obtain ⟨ga, ca, gb, cb, gc, m0, m1, m2, m3, m4, m5, n0, n1, n2, n3, n4, n5, hf, HSL, HBL, o1, o2, o3, o4⟩ := hcut
    clear k0 k1 k2 k3 k4 k5 r0 r1 r2 r3 r4 r5 hfr hfr2 X2 BK x1 x2 x3 x4 x5 BX HSI
    go_wp2
    obtain ⟨h1, h2, h3⟩ := HSL.out
    have hbl := HBL.out
    obtain ⟨V, hV⟩ : ∃ V, V = ((((((wc.setCell ⟨w.heap.size + 1, 0, none⟩ (.int .i64 b.eye)).setCell ⟨w.heap.size + 1, 1, none⟩ (.int .i64 b.bull)).setCell ⟨w.heap.size + 1, 2, none⟩ (.slice (some ⟨ga, 0, none⟩) lenr ca)).setCell ⟨w.heap.size + 1, 3, none⟩ (.slice (some ⟨gb, 0, none⟩) lenl cb)).setCell ⟨w.heap.size + 1, 4, none⟩ (.slice (some ⟨gc, 0, none⟩) lenn lenn)).setCell ⟨w.heap.size + 1, 5, none⟩ (.int .i64 b.wire)) := ⟨_, rfl⟩
    have p0 : V.cell? ⟨w.heap.size + 1, 0, none⟩ = some (.int .i64 b.eye) := by rw [hV]; clear hV; (first | (go_simp; done) | (go_simp; refine World.cell?_setCell_same' _ _ _ ?_; (repeat (with_reducible refine some_set ?_)); go_simp))
    have p1 : V.cell? ⟨w.heap.size + 1, 1, none⟩ = some (.int .i64 b.bull) := by rw [hV]; clear hV; (first | (go_simp; done) | (go_simp; refine World.cell?_setCell_same' _ _ _ ?_; (repeat (with_reducible refine some_set ?_)); go_simp))
    have p2 : V.cell? ⟨w.heap.size + 1, 2, none⟩ = some (.slice (some ⟨ga, 0, none⟩) lenr ca) := by rw [hV]; clear hV; (first | (go_simp; done) | (go_simp; refine World.cell?_setCell_same' _ _ _ ?_; (repeat (with_reducible refine some_set ?_)); go_simp))
    have p3 : V.cell? ⟨w.heap.size + 1, 3, none⟩ = some (.slice (some ⟨gb, 0, none⟩) lenl cb) := by rw [hV]; clear hV; (first | (go_simp; done) | (go_simp; refine World.cell?_setCell_same' _ _ _ ?_; (repeat (with_reducible refine some_set ?_)); go_simp))
    have p4 : V.cell? ⟨w.heap.size + 1, 4, none⟩ = some (.slice (some ⟨gc, 0, none⟩) lenn lenn) := by rw [hV]; clear hV; (first | (go_simp; done) | (go_simp; refine World.cell?_setCell_same' _ _ _ ?_; (repeat (with_reducible refine some_set ?_)); go_simp))
    have p5 : V.cell? ⟨w.heap.size + 1, 5, none⟩ = some (.int .i64 b.wire) := by rw [hV]; clear hV; (first | (go_simp; done) | (go_simp; refine World.cell?_setCell_same' _ _ _ ?_; (repeat (with_reducible refine some_set ?_)); go_simp))
    have q1 : Sl V 2 encP (.slice (some ⟨ga, 0, none⟩) lenr ca) b.rings := by rw [hV]; exact ((((((h1).setCell (by simp; omega)).setCell (by simp; omega)).setCell (by simp; omega)).setCell (by simp; omega)).setCell (by simp; omega)).setCell (by simp; omega)
    have q2 : Sl V 2 encP (.slice (some ⟨gb, 0, none⟩) lenl cb) b.lines := by rw [hV]; exact ((((((h2).setCell (by simp; omega)).setCell (by simp; omega)).setCell (by simp; omega)).setCell (by simp; omega)).setCell (by simp; omega)).setCell (by simp; omega)
    have q3 : Sl V 1 (fun x => [Value.int .i64 x]) (.slice (some ⟨gc, 0, none⟩) lenn lenn) (rot b.nums k) := by rw [hV]; exact ((((((h3).setCell (by simp; omega)).setCell (by simp; omega)).setCell (by simp; omega)).setCell (by simp; omega)).setCell (by simp; omega)).setCell (by simp; omega)
    have hbV : Below w.heap.size w V := by rw [hV]; clear hV; (repeat' (first | exact Below.refl _ _ | assumption | (with_reducible refine Below.drew ?_) | (with_reducible refine Below.setCell ?_ (by (first | (simp; done) | (simp; omega))) _) | (with_reducible refine below_drewN' ?_ _) | (refine Below.alloc ?_ (by (try simp only [World.size_alloc, World.size_drew, World.size_setCell]); omega) _) | (refine Below.trans ?_ (Below.mono (by assumption) (by (try simp only [World.size_alloc, World.size_drew, World.size_setCell]); omega)))))
    rw [← hV]
    clear hV
    exact bodyPost_ret (v := .tuple #[.agg #[.int .i64 b.eye, .int .i64 b.bull, .slice (some ⟨ga, 0, none⟩) lenr ca, .slice (some ⟨gb, 0, none⟩) lenl cb, .slice (some ⟨gc, 0, none⟩) lenn lenn, .int .i64 b.wire], .int .i64 0]) (by simp [results, Tryz.results26, go_sem, p0, p1, p2, p3, p4, p5]) rfl ⟨ga, ca, gb, cb, gc, lenn, rfl, HF.out V ga ca gb cb gc 0 q1 q2 q3, hbV⟩
end Go.Proofs.YtgceffpkhmjmkaaGreat
