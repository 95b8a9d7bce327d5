/- Board, part Yf: after how many weeks a board is worn out. -/
import Derived.Test.YtifabfbnjnjhlaaYd
set_option linter.unusedVariables false
set_option linter.unusedSimpArgs false
namespace Go.Proofs.Ytifabfbnjnjhlaa
open Go.RowKit Go.Shelf

/-- The wear after some weeks with the best turns. -/
def wseq (worn week : List Int) : Nat → List Int
  | 0 => worn
  | p + 1 => endw (wseq worn week p) [week] (dig (wseq worn week p).length 1 (bestP (wseq worn week p) [week]))
/-- The first week from p on that passes the limit. -/
def lastF (M : Nat → Int) (limit : Int) : Nat → Nat → Int
  | 0, _ => -1
  | f + 1, p => if limit < M p then (p : Int) else lastF M limit f (p + 1)
def lastV (worn week : List Int) (limit : Int) : Int := lastF (fun p => mx (wseq worn week p)) limit 501 0

theorem lastF_spec (M : Nat → Int) (limit : Int) : ∀ f p, (lastF M limit f p = -1 ∧ ∀ q, p ≤ q → q < p + f → M q ≤ limit) ∨ (∃ q : Nat, lastF M limit f p = (q : Int) ∧ p ≤ q ∧ q < p + f ∧ limit < M q ∧ ∀ j, p ≤ j → j < q → M j ≤ limit) := by
  intro f
  induction f with
  | zero => intro p; exact .inl ⟨rfl, fun q h1 h2 => by omega⟩
  | succ f ih =>
    intro p
    unfold lastF
    split
    · rename_i h
      exact .inr ⟨p, rfl, Nat.le_refl _, by omega, h, fun j h1 h2 => by omega⟩
    · rename_i h
      rcases ih (p + 1) with ⟨h1, h2⟩ | ⟨q, h1, h2, h3, h4, h5⟩
      · refine .inl ⟨h1, fun q hq1 hq2 => ?_⟩
        by_cases e : q = p
        · subst e; omega
        · exact h2 q (by omega) (by omega)
      · refine .inr ⟨q, h1, by omega, by omega, h4, fun j hj1 hj2 => ?_⟩
        by_cases e : j = p
        · subst e; omega
        · exact h5 j (by omega) hj2

theorem wseq_one (worn week : List Int) (p n : Nat) (h : (wseq worn week p).length = n) (hn : 0 < n) : ∃ K : Nat, K < n ∧ bestK (wseq worn week p) week = (K : Int) ∧ wseq worn week (p + 1) = aft (wseq worn week p) week K := by
  obtain ⟨h1, _⟩ := best_lt (wseq worn week p) [week] (by omega)
  simp only [List.length_cons, List.length_nil, Nat.zero_add, Nat.pow_one] at h1
  have hd := dig_one _ _ h1
  refine ⟨bestP (wseq worn week p) [week], by omega, ?_, ?_⟩
  · unfold bestK digI; rw [hd]; rfl
  · show endw _ _ _ = _
    rw [hd]; rfl
theorem wseq_bd {worn week : List Int} {n : Nat} (hn : 0 < n) (h1 : worn.length = n) (h2 : week.length = n) (h3 : ∀ x ∈ worn, 0 ≤ x ∧ x ≤ 765) (h4 : ∀ x ∈ week, 0 ≤ x ∧ x ≤ 255) : ∀ p : Nat, (wseq worn week p).length = n ∧ ∀ x ∈ wseq worn week p, 0 ≤ x ∧ x ≤ 765 + 255 * (p : Int) := by
  intro p
  induction p with
  | zero => exact ⟨h1, fun x hx => by have := h3 x hx; omega⟩
  | succ p ih =>
    obtain ⟨K, hK, _, e⟩ := wseq_one worn week p n ih.1 hn
    rw [e]
    refine ⟨(aft_length _ _ _).trans h2, fun x hx => ?_⟩
    have := aft_bd (765 + 255 * (p : Int)) 255 (by omega) (by omega) _ week K ih.2 h4 x hx
    omega

/-- A week without hits. -/
theorem aft_zero (worn week : List Int) (k n : Nat) (h1 : worn.length = n) (h2 : week.length = n) (hz : ∀ x ∈ week, x = 0) : aft worn week k = worn := by
  apply List.ext_getElem?
  intro i
  by_cases hi : i < n
  · have hr : (rot week k)[i]?.getD 0 = 0 := by
      have hb := rot_bd week k 0 (by omega) (fun x hx => by rw [hz x hx]; omega) i
      omega
    unfold aft plus
    rw [List.getElem?_map, List.getElem?_range (by rw [rot_length]; omega)]
    simp only [Option.map_some]
    rw [if_pos (by omega), hr, List.getElem?_eq_getElem (by omega)]
    simp
  · rw [List.getElem?_eq_none (by rw [aft_length]; omega), List.getElem?_eq_none (by omega)]
theorem wseq_zero (worn week : List Int) (n : Nat) (hn : 0 < n) (h1 : worn.length = n) (h2 : week.length = n) (hz : ∀ x ∈ week, x = 0) : ∀ p, wseq worn week p = worn := by
  intro p
  induction p with
  | zero => rfl
  | succ p ih =>
    obtain ⟨K, _, _, e⟩ := wseq_one worn week p n (by rw [ih]; exact h1) hn
    rw [e, ih]
    exact aft_zero worn week K n h1 h2 hz
theorem sum_zero {xs : List Int} (h : ∀ x ∈ xs, 0 ≤ x) (hs : xs.sum ≤ 0) : ∀ x ∈ xs, x = 0 := by
  induction xs with
  | nil => simp
  | cons y ys ih =>
    have h1 := h y (by simp)
    have h2 : 0 ≤ ys.sum := by
      have key : ∀ l : List Int, (∀ x ∈ l, 0 ≤ x) → 0 ≤ l.sum := by
        intro l
        induction l with
        | nil => intro _; simp
        | cons z zs iz => intro hz; have a := hz z (by simp); have b := iz (fun x hx => hz x (by simp [hx])); rw [List.sum_cons]; omega
      exact key ys (fun x hx => h x (by simp [hx]))
    rw [List.sum_cons] at hs
    intro x hx
    rcases List.mem_cons.1 hx with rfl | hx
    · omega
    · exact ih (fun z hz => h z (by simp [hz])) (by omega) x hx

set_option maxRecDepth 100000 in
set_option maxHeartbeats 4000000 in
theorem Last_ok (vb v vk : Value) (b : Brd) (worn week : List Int) (limit : Int) (w : World) (h : BrdAt w vb b) (hw : Sl w 1 eI v worn) (hk : Sl w 1 eI vk week)
    (hc : chk b = 0) (h1 : worn.length = b.nums.length) (h2 : week.length = b.nums.length) (h3 : ∀ x ∈ worn, 0 ≤ x ∧ x ≤ 765) (h4 : ∀ x ∈ week, 0 ≤ x ∧ x ≤ 255) (hl0 : 0 ≤ limit) (hl1 : limit ≤ 1000000000) :
    Calls Try.prog 26 #[vb, v, vk, .int .i64 limit] w (Ret (.tuple #[.int .i64 (lastV worn week limit), .int .i64 0]) w) := by
  have g := good_of_chk hc
  have hn0 : 0 < b.nums.length := by rw [g.same]; exact List.length_pos_iff.2 g.lines
  have gl := g.len
  have he : ∀ u : Value, wErr b.nums.length worn [(u, week)] = 0 := fun u => wErr_zero h1 (fun z hz => by simp at hz; subst hz; exact h2) (fun z hz => by have := h3 z hz; omega) (fun z hz y hy => by simp at hz; subst hz; have := h4 y hy; omega)
  have x1 := fun W (hW : Below w.heap.size w W) => check_any vb b W (h.below hW)
  have x2 := fun W (hW : Below w.heap.size w W) (vs : Value) (hv : Sl W 1 eR vs [(vk, week)]) => wearError_any (b.nums.length : Int) v worn vs [(vk, week)] W (hw.below hW) hv (fun x hm => by simp at hm; subst hm; exact hk.below hW)
  rw [he] at x2
  rw [hc] at x1
  have hin : ([limit].all (inb 0 1000000000)) = true := by unfold inb; simp; omega
  have x3 := fun W (vs : Value) (hv : Sl W 1 eI vs [limit]) => within_any 0 1000000000 vs [limit] W hv
  rw [hin] at x3
  have HB := wseq_bd hn0 h1 h2 h3 h4
  have X4 : Aside (∀ (p : Nat) (W : World) (u : Value), Sl W 1 eI u (wseq worn week p) → Calls Try.prog 48 #[u] W (Ret (.int .i64 (mx (wseq worn week p))) W)) := fun p W u hu => max_any u _ W hu (by intro e; have := (HB p).1; rw [e] at this; simp at this; omega)
  have X5 : Aside (∀ (p : Nat) (W : World) (u vs : Value), p ≤ 501 → Below w.heap.size w W → Sl W 1 eI u (wseq worn week p) → Sl W 1 eR vs [(vk, week)] → Calls Try.prog 49 #[u, vs] W (fun e w' => ∃ v1 v2, e = .returned (.tuple #[v1, v2]) ∧ Sl w' 1 eI v2 (wseq worn week (p + 1)) ∧ Below W.heap.size W w')) := by
    intro p W u vs hp hW hu hv
    obtain ⟨b1, b2⟩ := HB p
    have x := evenest_any u vs (wseq worn week p) [(vk, week)] W hu hv (fun x hm => by simp at hm; subst hm; exact hk.below hW) (by intro e; rw [e] at b1; simp at b1; omega) (by omega) (by simp) (by simp) (fun x hm => by simp at hm; subst hm; show week.length = (wseq worn week p).length; omega) (fun x hx => by have := b2 x hx; omega) (fun x hm y hy => by simp at hm; subst hm; have := h4 y hy; omega)
    unfold RetEven at x
    refine x.mono ?_
    rintro e w' ⟨_, _, _, _, rfl, _, hs, hB⟩
    exact ⟨_, _, rfl, hs, hB⟩
  have HW : Aside (Sl w 1 eI v (wseq worn week 0)) := hw
  unfold lastV
  obtain ⟨M, hM⟩ : ∃ M : Nat → Int, (fun p => mx (wseq worn week p)) = M := ⟨_, rfl⟩
  have HMM : Aside (∀ p, mx (wseq worn week p) = M p) := fun p => by rw [← hM]
  rw [hM]
  have hkk : ∃ a c, vk = .slice a week.length c := by obtain ⟨a, c, e, _⟩ := hk; exact ⟨a, c, e⟩
  clear hM he hin HB h3 h4 hk
  obtain ⟨vr, vl, vn, rfl, hr, hl, hn⟩ := h
  obtain ⟨ar, cr, rfl, lr, _⟩ := hr
  obtain ⟨al, cl, rfl, ll, _⟩ := hl
  obtain ⟨an, cn, rfl, ln, _⟩ := hn
  obtain ⟨a, c, rfl, l1, _⟩ := hw
  obtain ⟨a2, c2, rfl⟩ := hkk
  rw [h1]
  rw [h1] at HW
  rw [h2] at X5 x2 ⊢
  rw [h1] at x2
  clear h1 h2 g hc
  generalize b.rings.length = lenr at *
  generalize b.lines.length = lenl at *
  generalize b.nums.length = lenn at *
  go_enter Try.func26, Try.ntmps26
  go_wp2_with (first | (go_at_call 13; (with_reducible refine (x1 _ ?hh).mono ?_); (case hh => (repeat' (first | exact Below.refl _ _ | assumption | (with_reducible refine Below.drew ?_) | (with_reducible refine Below.setCell ?_ (by (first | (simp; done) | (simp; omega))) _) | (with_reducible refine below_drewN' ?_ _) | (refine Below.alloc ?_ (by (try simp only [World.size_alloc, World.size_drew, World.size_setCell]); omega) _) | (refine Below.trans ?_ (Below.mono (by assumption) (by (try simp only [World.size_alloc, World.size_drew, World.size_setCell]); omega)))))); rintro e w1 ⟨rfl, hb1⟩; (obtain ⟨hc1, hf1⟩ := bcell hb1; have z1 := hb1.size; (try simp only [World.size_alloc, World.size_drew, World.size_setCell] at z1); (try have q1a : w.heap.size < w1.heap.size := by omega); (try have q1b : w.heap.size + 1 < w1.heap.size := by omega); (try have q1c : w.heap.size + 1 + 1 < w1.heap.size := by omega); (try have q1d : w.heap.size + 1 + 1 + 1 < w1.heap.size := by omega); (try have q1e : wr.heap.size < w1.heap.size := by omega); (try have q1f : wr.heap.size + 1 < w1.heap.size := by omega))) | (go_at_call 46; (with_reducible refine (x2 _ ?hh _ (sl_week _ _ rfl _ _ _)).mono ?_); (case hh => (repeat' (first | exact Below.refl _ _ | assumption | (with_reducible refine Below.drew ?_) | (with_reducible refine Below.setCell ?_ (by (first | (simp; done) | (simp; omega))) _) | (with_reducible refine below_drewN' ?_ _) | (refine Below.alloc ?_ (by (try simp only [World.size_alloc, World.size_drew, World.size_setCell]); omega) _) | (refine Below.trans ?_ (Below.mono (by assumption) (by (try simp only [World.size_alloc, World.size_drew, World.size_setCell]); omega)))))); rintro e w2 ⟨rfl, hb2⟩; (obtain ⟨hc2, hf2⟩ := bcell hb2; have z2 := hb2.size; (try simp only [World.size_alloc, World.size_drew, World.size_setCell] at z2); (try have q2a : w.heap.size < w2.heap.size := by omega); (try have q2b : w.heap.size + 1 < w2.heap.size := by omega); (try have q2c : w.heap.size + 1 + 1 < w2.heap.size := by omega); (try have q2d : w.heap.size + 1 + 1 + 1 < w2.heap.size := by omega); (try have q2e : wr.heap.size < w2.heap.size := by omega); (try have q2f : wr.heap.size + 1 < w2.heap.size := by omega); (try have q2g : w1.heap.size < w2.heap.size := by omega); (try have q2h : w1.heap.size + 1 < w2.heap.size := by omega))) | (go_at_call 41; (with_reducible refine (x3 _ _ (sl_one _ _ rfl _ _)).mono ?_); rintro e w3 ⟨rfl, hb3⟩; (obtain ⟨hc3, hf3⟩ := bcell hb3; have z3 := hb3.size; (try simp only [World.size_alloc, World.size_drew, World.size_setCell] at z3); (try have q3a : w.heap.size < w3.heap.size := by omega); (try have q3b : w.heap.size + 1 < w3.heap.size := by omega); (try have q3c : w.heap.size + 1 + 1 < w3.heap.size := by omega); (try have q3d : w.heap.size + 1 + 1 + 1 < w3.heap.size := by omega); (try have q3e : wr.heap.size < w3.heap.size := by omega); (try have q3f : wr.heap.size + 1 < w3.heap.size := by omega); (try have q3g : w2.heap.size < w3.heap.size := by omega); (try have q3h : w2.heap.size + 1 < w3.heap.size := by omega))))
  have BW : Below w.heap.size w w3 := by (repeat' (first | exact Below.refl _ _ | assumption | (with_reducible refine Below.drew ?_) | (with_reducible refine Below.setCell ?_ (by (first | (simp; done) | (simp; omega))) _) | (with_reducible refine below_drewN' ?_ _) | (refine Below.alloc ?_ (by (try simp only [World.size_alloc, World.size_drew, World.size_setCell]); omega) _) | (refine Below.trans ?_ (Below.mono (by assumption) (by (try simp only [World.size_alloc, World.size_drew, World.size_setCell]); omega)))))
  clear hc1 hf1 hc2 hf2 hc3 hf3
  go_loopg [1, 32] 501 (fun gg s1 iv wr => ∃ (p : Nat) (u : Value), p ≤ 501 ∧ 501 - p ≤ gg ∧ iv = .int .i64 p ∧ u = s1 ∧ Aside (Sl wr 1 eI u (wseq worn week p)) ∧ Aside (lastF M limit 501 0 = lastF M limit (501 - p) p) ∧ Aside (Below w.heap.size w wr))
  case atStart => exact ⟨0, _, by omega, by omega, rfl, rfl, Sl.below HW.out BW, rfl, BW⟩
  case round =>
    obtain ⟨p, u, hp, hg, rfl, rfl, HU, HF, BK⟩ := hrel
    by_cases hlt : p < 501
    · have hltz : (p : Int) < 501 := by omega
      have x4 := X4.out p wr u HU.out
      rw [HMM.out] at x4
      have HF2 : Aside (lastF M limit (501 - p) p = if limit < M p then (p : Int) else lastF M limit (501 - (p + 1)) (p + 1)) := by
        show _ = _
        rw [show 501 - p = (501 - (p + 1)) + 1 by omega]; rfl
      obtain ⟨mp, hmp⟩ : ∃ mp, M p = mp := ⟨_, rfl⟩
      rw [hmp] at x4 HF2
      clear hmp
      by_cases hgt : limit < mp
      · rw [HF.out, HF2.out, if_pos hgt]
        go_wp2_with (go_at_call 48; (with_reducible refine x4.mono ?_); rintro e w5 ⟨rfl, hb5⟩)
        go_ret2
        exact ⟨rfl, BK.out.trans (hb5.mono BK.out.size)⟩
      · go_wp2_with (first | (go_at_call 48; (with_reducible refine x4.mono ?_); rintro e w5 ⟨rfl, hb5⟩) | (go_at_call 49; (with_reducible refine (X5.out p _ _ _ (by omega) ?hh (Sl.below (Sl.below HU.out hb5) ((Below.refl _ _).alloc (Nat.le_refl _) _)) (sl_week _ _ rfl _ _ _)).mono ?_); (case hh => exact (BK.out.trans (hb5.mono BK.out.size)).alloc (Nat.le_trans BK.out.size hb5.size) _); rintro e w6 ⟨v1, v2, rfl, hs6, hb6⟩; have HS6 : Aside _ := hs6; clear hs6))
        go_roundg (501 - (p + 1))
        case measure => omega
        case rel =>
          have z1 := hb5.size
          have z2 := BK.out.size
          refine ⟨p + 1, _, by omega, by omega, by go_num, rfl, HS6.out, by show _ = _; rw [HF.out, HF2.out, if_neg (by omega)], ((BK.out.trans (hb5.mono z2)).alloc (by omega) _).trans (hb6.mono ?_)⟩
          simp; omega
    · have hpe : p = 501 := by omega
      subst hpe
      have HF3 : Aside (lastF M limit 501 0 = -1) := HF.out
      clear HF
      go_wp2_with fail
      go_ret2
      rw [HF3.out]
      exact ⟨rfl, BK.out⟩
end Go.Proofs.Ytifabfbnjnjhlaa
