/- Board, part L: what a valid board has; whether a dart is on the wire of some line. -/
import Derived.Test.YtgceffpkhmjmkaaGreatI
import Derived.Test.YtgceffpkhmjmkaaGreatK
set_option linter.unusedVariables false
set_option linter.unusedSimpArgs false
namespace Go.Proofs.YtgceffpkhmjmkaaGreat
open Go.RowKit Go.Shelf

/-- What a valid board has. -/
structure Good (b : Brd) : Prop where
  rings : b.rings ≠ []
  lines : b.lines ≠ []
  pts : ∀ p ∈ b.lines, Pt5 p
  wire0 : 0 ≤ b.wire
  wire1 : b.wire ≤ 20
  rad : ∀ r ∈ radii b, 0 < r ∧ r ≤ 5000
  fac : ∀ r ∈ b.rings, 0 ≤ r.2 ∧ r.2 ≤ 4
  num : ∀ n ∈ b.nums, 1 ≤ n ∧ n ≤ 20
  same : b.nums.length = b.lines.length
  len : b.rings.length ≤ 8 ∧ b.lines.length ≤ 20 ∧ b.nums.length ≤ 20

theorem radOk_bd (wi : Int) (hw : 0 ≤ wi) : ∀ (xs : List Int) (a : Int), 0 ≤ a → radOk wi a xs = true → ∀ r ∈ xs, 0 < r ∧ r ≤ 5000 := by
  intro xs
  induction xs with
  | nil => intro a _ _ r hr; cases hr
  | cons x xs ih =>
    intro a ha h r hr
    simp only [radOk, Bool.and_eq_true, decide_eq_true_eq] at h
    rcases List.mem_cons.1 hr with rfl | hr
    · omega
    · exact ih _ (by omega) h.2 r hr

theorem good_of_chk {b : Brd} (h : chk b = 0) : Good b := by
  unfold chk at h
  cases hl : long b with
  | true => rw [hl] at h; simp at h
  | false =>
    rw [hl] at h
    cases hv : valid b with
    | false => rw [hv] at h; simp at h
    | true =>
      unfold valid at hv
      simp only [Bool.and_eq_true] at hv
      obtain ⟨⟨⟨h1, h2⟩, h3⟩, h4⟩ := hv
      unfold inb at h1
      simp only [decide_eq_true_eq] at h1
      unfold ringsOk at h2
      simp only [Bool.and_eq_true, Bool.not_eq_true', List.isEmpty_eq_false_iff, List.all_eq_true] at h2
      unfold numsOk at h3
      simp only [Bool.and_eq_true, decide_eq_true_eq, List.all_eq_true] at h3
      unfold linesOk at h4
      simp only [Bool.and_eq_true, decide_eq_true_eq] at h4
      refine ⟨h2.1.1, fun e => by rw [e] at h4; simp at h4, ?_, h1.1, h1.2, radOk_bd _ h1.1 _ _ h1.1 h2.2, ?_, ?_, h3.1.1, long_false hl⟩
      · intro p hp
        have := h4.1.2
        simp only [Bool.not_eq_true', List.any_eq_false] at this
        have := this p hp
        simp at this
        exact pt5_of_vpt this.2
      · intro r hr
        have := h2.1.2 r hr
        unfold inb at this; simpa using this
      · intro n hn
        have := h3.1.2 n hn
        unfold inb at this; simpa using this

theorem Good.rimMem {b : Brd} (g : Good b) : 0 < rim b ∧ rim b ≤ 5000 := by
  obtain ⟨r, hr⟩ : ∃ r, b.rings.getLast? = some r := by
    rw [List.getLast?_eq_some_getLast g.rings]; exact ⟨_, rfl⟩
  have e : rim b = r.1 := by unfold rim; rw [hr]
  rw [e]
  refine g.rad r.1 ?_
  unfold radii
  exact List.mem_cons_of_mem _ (List.mem_cons_of_mem _ (List.mem_map.2 ⟨r, List.mem_of_getLast? hr, rfl⟩))
theorem Good.eyeMem {b : Brd} (g : Good b) : 0 < b.eye ∧ b.eye ≤ 5000 := g.rad _ (by simp [radii])
theorem Good.bullMem {b : Brd} (g : Good b) : 0 < b.bull ∧ b.bull ≤ 5000 := g.rad _ (by simp [radii])

/-- A dart at a board, as a value. -/
def thr (b : Brd) (d : Int × Int) (vr vl vn : Value) : Value := .agg #[.int .i64 b.eye, .int .i64 b.bull, vr, vl, vn, .int .i64 b.wire, .int .i64 d.1, .int .i64 d.2]

def onLine (b : Brd) (d : Int × Int) : Bool :=
  if dt d d < b.bull * b.bull ∨ rim b * rim b < dt d d then false else b.lines.any (nearLine b.wire d)

set_option maxRecDepth 100000 in
set_option maxHeartbeats 4000000 in
theorem onLine_any (vr vl vn : Value) (b : Brd) (d : Int × Int) (w : World) (hr : Sl w 2 encP vr b.rings) (hl : Sl w 2 encP vl b.lines) (hn : Sl w 1 (fun x => [Value.int .i64 x]) vn b.nums) (g : Good b) (hd : Pt5 d) :
    Calls Tryz.prog 67 #[thr b d vr vl vn] w (Ret (.bool (onLine b d)) w) := by
  have x1 := fun W => square_any d W hd.near
  have x2 := fun W (hW : Below w.heap.size w W) => rim_any (.agg #[.int .i64 b.eye, .int .i64 b.bull, vr, vl, vn, .int .i64 b.wire]) b W ⟨vr, vl, vn, rfl, hr.below hW, hl.below hW, hn.below hW⟩ g.rings
  have x3 := fun W (hW : Below w.heap.size w W) (T : Nat) (c5 : W.cell? ⟨T, 5, none⟩ = some (.int .i64 b.wire)) (c6 : W.cell? ⟨T, 6, none⟩ = some (.int .i64 d.1)) (c7 : W.cell? ⟨T, 7, none⟩ = some (.int .i64 d.2)) =>
    pts_any (nearLine b.wire d) 92 #[.pointer (some ⟨T, 0, none⟩)] (enters_of Tryz.func92 (by kernel_rfl) rfl) vl b.lines W (hl.below hW) (fun W' hW' x hx => near_any T b.wire d x W' hd (g.pts x hx) g.wire0 g.wire1 (keepc hW' c5) (keepc hW' c6) (keepc hW' c7))
  have hq := dt_bd5 hd hd
  have hb := g.bullMem
  have hb2 := mul_bd b.bull b.bull 5000 5000 (by omega) (by omega) (by omega) (by omega)
  have hm := g.rimMem
  have hm2 := mul_bd (rim b) (rim b) 5000 5000 (by omega) (by omega) (by omega) (by omega)
  obtain ⟨hq1, hq2⟩ := hq
  obtain ⟨hb3, hb4⟩ := hb2
  obtain ⟨hm3, hm4⟩ := hm2
  obtain ⟨hb5, hb6⟩ := hb
  obtain ⟨hm5, hm6⟩ := hm
  unfold onLine
  obtain ⟨ar, cr, rfl, lr, _⟩ := hr
  obtain ⟨al, cl, rfl, ll, _⟩ := hl
  obtain ⟨an, cn, rfl, ln, _⟩ := hn
  clear g hd
  unfold thr
  unfold pt at x1
  generalize dt d d = q at *
  generalize rim b = m at *
  generalize b.rings.length = lenr at *
  generalize (b.lines.any (nearLine b.wire d)) = r at *
  generalize b.lines.length = lenl at *
  generalize b.nums.length = lenn at *
  generalize b.bull = bull at *
  generalize b.wire = wi at *
  generalize b.eye = eye at *
  obtain ⟨dx, dy⟩ := d
  simp only [] at *
  obtain ⟨X, hX⟩ : ∃ X, X = w.alloc (.cells #[.int .i64 eye, .int .i64 bull, .slice ar lenr cr, .slice al lenl cl, .slice an lenn cn, .int .i64 wi, .int .i64 dx, .int .i64 dy] 87) := ⟨_, rfl⟩
  have k0 : X.cell? ⟨w.heap.size, 0, none⟩ = some (.int .i64 eye) := by rw [hX]; clear hX; go_simp
  have k1 : X.cell? ⟨w.heap.size, 1, none⟩ = some (.int .i64 bull) := by rw [hX]; clear hX; go_simp
  have k2 : X.cell? ⟨w.heap.size, 2, none⟩ = some (.slice ar lenr cr) := by rw [hX]; clear hX; go_simp
  have k3 : X.cell? ⟨w.heap.size, 3, none⟩ = some (.slice al lenl cl) := by rw [hX]; clear hX; go_simp
  have k4 : X.cell? ⟨w.heap.size, 4, none⟩ = some (.slice an lenn cn) := by rw [hX]; clear hX; go_simp
  have k5 : X.cell? ⟨w.heap.size, 5, none⟩ = some (.int .i64 wi) := by rw [hX]; clear hX; go_simp
  have k6 : X.cell? ⟨w.heap.size, 6, none⟩ = some (.int .i64 dx) := by rw [hX]; clear hX; go_simp
  have k7 : X.cell? ⟨w.heap.size, 7, none⟩ = some (.int .i64 dy) := by rw [hX]; clear hX; go_simp
  have BX : Below w.heap.size w X := by rw [hX]; clear hX; (repeat' (first | exact Below.refl _ _ | assumption | (with_reducible refine Below.drew ?_) | (with_reducible refine Below.setCell ?_ (by (first | (simp; done) | (simp; omega))) _) | (with_reducible refine below_drewN' ?_ _) | (refine Below.alloc ?_ (by (try simp only [World.size_alloc, World.size_drew, World.size_setCell]); omega) _) | (refine Below.trans ?_ (Below.mono (by assumption) (by (try simp only [World.size_alloc, World.size_drew, World.size_setCell]); omega)))))
  have sX : w.heap.size < X.heap.size := by rw [hX]; simp
  have MK : Aside (∀ w', Below X.heap.size X w' → (Below X.heap.size X w' ∧ w'.cell? ⟨w.heap.size, 0, none⟩ = some (.int .i64 eye) ∧ w'.cell? ⟨w.heap.size, 1, none⟩ = some (.int .i64 bull) ∧ w'.cell? ⟨w.heap.size, 2, none⟩ = some (.slice ar lenr cr) ∧ w'.cell? ⟨w.heap.size, 3, none⟩ = some (.slice al lenl cl) ∧ w'.cell? ⟨w.heap.size, 4, none⟩ = some (.slice an lenn cn) ∧ w'.cell? ⟨w.heap.size, 5, none⟩ = some (.int .i64 wi) ∧ w'.cell? ⟨w.heap.size, 6, none⟩ = some (.int .i64 dx) ∧ w'.cell? ⟨w.heap.size, 7, none⟩ = some (.int .i64 dy))) :=
    fun w' hB => ⟨hB, keepc hB k0, keepc hB k1, keepc hB k2, keepc hB k3, keepc hB k4, keepc hB k5, keepc hB k6, keepc hB k7⟩
  have e1 : IntKind.i64.wrap (bull * bull) = bull * bull := IntWalk.i64_in _ (by omega)
  have e2 : IntKind.i64.wrap (m * m) = m * m := IntWalk.i64_in _ (by omega)
  by_cases h1 : q < bull * bull
  · rw [if_pos (Or.inl h1)]
    go_enter Tryz.func67, Tryz.ntmps67
    go_wp2_with fail
    rw [← hX]
    clear hX
    refine region_class (fun w' => Below X.heap.size X w' ∧ w'.cell? ⟨w.heap.size, 0, none⟩ = some (.int .i64 eye) ∧ w'.cell? ⟨w.heap.size, 1, none⟩ = some (.int .i64 bull) ∧ w'.cell? ⟨w.heap.size, 2, none⟩ = some (.slice ar lenr cr) ∧ w'.cell? ⟨w.heap.size, 3, none⟩ = some (.slice al lenl cl) ∧ w'.cell? ⟨w.heap.size, 4, none⟩ = some (.slice an lenn cn) ∧ w'.cell? ⟨w.heap.size, 5, none⟩ = some (.int .i64 wi) ∧ w'.cell? ⟨w.heap.size, 6, none⟩ = some (.int .i64 dx) ∧ w'.cell? ⟨w.heap.size, 7, none⟩ = some (.int .i64 dy)) (by kernel_rfl) (by kernel_rfl) (MK.out _ ((Below.refl _ _).drew)) ?_
    iterate 8 (first | go_big_quiet_skip | (go_big_quiet_want; unfold Oper.quiet; apply Exists.intro; refine ⟨fun W hW => ?_, ?_⟩; (go_split_ands; unfold Oper.quietAt; go_simp; first | rfl | exact ⟨rfl, rfl⟩ | (refine (x1 _).mono ?_; rintro e w2 ⟨rfl, hb2⟩; exact ⟨rfl, MK.out _ (Below.trans (by assumption) (Below.mono (by assumption) (Below.size (by assumption))))⟩) | (refine (x2 _ (BX.trans (Below.mono (by assumption) BX.size))).mono ?_; rintro e w2 ⟨rfl, hb2⟩; exact ⟨rfl, MK.out _ (Below.trans (by assumption) (Below.mono (by assumption) (Below.size (by assumption))))⟩)); go_big_quiet_on; (try simp only [Act.put, List.setIfInBounds_toArray, List.set_cons_zero, List.set_cons_succ])))
    refine wpQuiet_nil ?_
    intro W hW
    go_split_ands
    have BW : Below w.heap.size w W := BX.trans (Below.mono (by assumption) BX.size)
    have x4 := x3 W BW w.heap.size (by assumption) (by assumption) (by assumption)
    have sW : X.heap.size ≤ W.heap.size := Below.size (by assumption)
    clear x3
    go_wp2_with (go_at_call 87; (with_reducible refine x4.mono ?_); rintro e w5 ⟨rfl, hb5⟩; (obtain ⟨hc5, hf5⟩ := bcell hb5; have z5 := hb5.size; (try simp only [World.size_alloc, World.size_drew, World.size_setCell] at z5); (try have q5a : w.heap.size < w5.heap.size := by omega); (try have q5b : w.heap.size + 1 < w5.heap.size := by omega); (try have q5c : w.heap.size + 1 + 1 < w5.heap.size := by omega); (try have q5d : w.heap.size + 1 + 1 + 1 < w5.heap.size := by omega); (try have q5e : wr.heap.size < w5.heap.size := by omega); (try have q5f : wr.heap.size + 1 < w5.heap.size := by omega); (try have q5g : w4.heap.size < w5.heap.size := by omega); (try have q5h : w4.heap.size + 1 < w5.heap.size := by omega)))
    go_ret
    exact ⟨rfl, by (repeat' (first | exact Below.refl _ _ | assumption | (with_reducible refine Below.drew ?_) | (with_reducible refine Below.setCell ?_ (by (first | (simp; done) | (simp; omega))) _) | (with_reducible refine below_drewN' ?_ _) | (refine Below.alloc ?_ (by (try simp only [World.size_alloc, World.size_drew, World.size_setCell]); omega) _) | (refine Below.trans ?_ (Below.mono (by assumption) (by (try simp only [World.size_alloc, World.size_drew, World.size_setCell]); omega)))))⟩
  · by_cases h2 : m * m < q
    · rw [if_pos (Or.inr h2)]
      go_enter Tryz.func67, Tryz.ntmps67
      go_wp2_with fail
      rw [← hX]
      clear hX
      refine region_class (fun w' => Below X.heap.size X w' ∧ w'.cell? ⟨w.heap.size, 0, none⟩ = some (.int .i64 eye) ∧ w'.cell? ⟨w.heap.size, 1, none⟩ = some (.int .i64 bull) ∧ w'.cell? ⟨w.heap.size, 2, none⟩ = some (.slice ar lenr cr) ∧ w'.cell? ⟨w.heap.size, 3, none⟩ = some (.slice al lenl cl) ∧ w'.cell? ⟨w.heap.size, 4, none⟩ = some (.slice an lenn cn) ∧ w'.cell? ⟨w.heap.size, 5, none⟩ = some (.int .i64 wi) ∧ w'.cell? ⟨w.heap.size, 6, none⟩ = some (.int .i64 dx) ∧ w'.cell? ⟨w.heap.size, 7, none⟩ = some (.int .i64 dy)) (by kernel_rfl) (by kernel_rfl) (MK.out _ ((Below.refl _ _).drew)) ?_
      iterate 8 (first | go_big_quiet_skip | (go_big_quiet_want; unfold Oper.quiet; apply Exists.intro; refine ⟨fun W hW => ?_, ?_⟩; (go_split_ands; unfold Oper.quietAt; go_simp; first | rfl | exact ⟨rfl, rfl⟩ | (refine (x1 _).mono ?_; rintro e w2 ⟨rfl, hb2⟩; exact ⟨rfl, MK.out _ (Below.trans (by assumption) (Below.mono (by assumption) (Below.size (by assumption))))⟩) | (refine (x2 _ (BX.trans (Below.mono (by assumption) BX.size))).mono ?_; rintro e w2 ⟨rfl, hb2⟩; exact ⟨rfl, MK.out _ (Below.trans (by assumption) (Below.mono (by assumption) (Below.size (by assumption))))⟩)); go_big_quiet_on; (try simp only [Act.put, List.setIfInBounds_toArray, List.set_cons_zero, List.set_cons_succ])))
      refine wpQuiet_nil ?_
      intro W hW
      go_split_ands
      have BW : Below w.heap.size w W := BX.trans (Below.mono (by assumption) BX.size)
      have x4 := x3 W BW w.heap.size (by assumption) (by assumption) (by assumption)
      have sW : X.heap.size ≤ W.heap.size := Below.size (by assumption)
      clear x3
      go_wp2_with (go_at_call 87; (with_reducible refine x4.mono ?_); rintro e w5 ⟨rfl, hb5⟩; (obtain ⟨hc5, hf5⟩ := bcell hb5; have z5 := hb5.size; (try simp only [World.size_alloc, World.size_drew, World.size_setCell] at z5); (try have q5a : w.heap.size < w5.heap.size := by omega); (try have q5b : w.heap.size + 1 < w5.heap.size := by omega); (try have q5c : w.heap.size + 1 + 1 < w5.heap.size := by omega); (try have q5d : w.heap.size + 1 + 1 + 1 < w5.heap.size := by omega); (try have q5e : wr.heap.size < w5.heap.size := by omega); (try have q5f : wr.heap.size + 1 < w5.heap.size := by omega); (try have q5g : w4.heap.size < w5.heap.size := by omega); (try have q5h : w4.heap.size + 1 < w5.heap.size := by omega)))
      go_ret
      exact ⟨rfl, by (repeat' (first | exact Below.refl _ _ | assumption | (with_reducible refine Below.drew ?_) | (with_reducible refine Below.setCell ?_ (by (first | (simp; done) | (simp; omega))) _) | (with_reducible refine below_drewN' ?_ _) | (refine Below.alloc ?_ (by (try simp only [World.size_alloc, World.size_drew, World.size_setCell]); omega) _) | (refine Below.trans ?_ (Below.mono (by assumption) (by (try simp only [World.size_alloc, World.size_drew, World.size_setCell]); omega)))))⟩
    · rw [if_neg (by omega)]
      go_enter Tryz.func67, Tryz.ntmps67
      go_wp2_with fail
      rw [← hX]
      clear hX
      refine region_class (fun w' => Below X.heap.size X w' ∧ w'.cell? ⟨w.heap.size, 0, none⟩ = some (.int .i64 eye) ∧ w'.cell? ⟨w.heap.size, 1, none⟩ = some (.int .i64 bull) ∧ w'.cell? ⟨w.heap.size, 2, none⟩ = some (.slice ar lenr cr) ∧ w'.cell? ⟨w.heap.size, 3, none⟩ = some (.slice al lenl cl) ∧ w'.cell? ⟨w.heap.size, 4, none⟩ = some (.slice an lenn cn) ∧ w'.cell? ⟨w.heap.size, 5, none⟩ = some (.int .i64 wi) ∧ w'.cell? ⟨w.heap.size, 6, none⟩ = some (.int .i64 dx) ∧ w'.cell? ⟨w.heap.size, 7, none⟩ = some (.int .i64 dy)) (by kernel_rfl) (by kernel_rfl) (MK.out _ ((Below.refl _ _).drew)) ?_
      iterate 8 (first | go_big_quiet_skip | (go_big_quiet_want; unfold Oper.quiet; apply Exists.intro; refine ⟨fun W hW => ?_, ?_⟩; (go_split_ands; unfold Oper.quietAt; go_simp; first | rfl | exact ⟨rfl, rfl⟩ | (refine (x1 _).mono ?_; rintro e w2 ⟨rfl, hb2⟩; exact ⟨rfl, MK.out _ (Below.trans (by assumption) (Below.mono (by assumption) (Below.size (by assumption))))⟩) | (refine (x2 _ (BX.trans (Below.mono (by assumption) BX.size))).mono ?_; rintro e w2 ⟨rfl, hb2⟩; exact ⟨rfl, MK.out _ (Below.trans (by assumption) (Below.mono (by assumption) (Below.size (by assumption))))⟩)); go_big_quiet_on; (try simp only [Act.put, List.setIfInBounds_toArray, List.set_cons_zero, List.set_cons_succ])))
      refine wpQuiet_nil ?_
      intro W hW
      go_split_ands
      have BW : Below w.heap.size w W := BX.trans (Below.mono (by assumption) BX.size)
      have x4 := x3 W BW w.heap.size (by assumption) (by assumption) (by assumption)
      have sW : X.heap.size ≤ W.heap.size := Below.size (by assumption)
      clear x3
      go_wp2_with (go_at_call 87; (with_reducible refine x4.mono ?_); rintro e w5 ⟨rfl, hb5⟩; (obtain ⟨hc5, hf5⟩ := bcell hb5; have z5 := hb5.size; (try simp only [World.size_alloc, World.size_drew, World.size_setCell] at z5); (try have q5a : w.heap.size < w5.heap.size := by omega); (try have q5b : w.heap.size + 1 < w5.heap.size := by omega); (try have q5c : w.heap.size + 1 + 1 < w5.heap.size := by omega); (try have q5d : w.heap.size + 1 + 1 + 1 < w5.heap.size := by omega); (try have q5e : wr.heap.size < w5.heap.size := by omega); (try have q5f : wr.heap.size + 1 < w5.heap.size := by omega); (try have q5g : w4.heap.size < w5.heap.size := by omega); (try have q5h : w4.heap.size + 1 < w5.heap.size := by omega)))
      go_ret
      exact ⟨rfl, by (repeat' (first | exact Below.refl _ _ | assumption | (with_reducible refine Below.drew ?_) | (with_reducible refine Below.setCell ?_ (by (first | (simp; done) | (simp; omega))) _) | (with_reducible refine below_drewN' ?_ _) | (refine Below.alloc ?_ (by (try simp only [World.size_alloc, World.size_drew, World.size_setCell]); omega) _) | (refine Below.trans ?_ (Below.mono (by assumption) (by (try simp only [World.size_alloc, World.size_drew, World.size_setCell]); omega)))))⟩
end Go.Proofs.YtgceffpkhmjmkaaGreat
