/- Board, part W: the statements' own comparisons of lists. -/
import Derived.Test.YtgceffpkhmjmkaaGreatK
set_option linter.unusedVariables false
set_option linter.unusedSimpArgs false
namespace Go.Proofs.YtgceffpkhmjmkaaGreat
open Go.RowKit Go.Shelf

theorem ext_none {xs ys : List Int} (hl : xs.length = ys.length) (h : ∀ j, j < xs.length → xs[j]?.getD 0 = ys[j]?.getD 0) : xs = ys := by
  apply List.ext_getElem hl
  intro i h1 h2
  have := h i h1
  rw [List.getElem?_eq_getElem h1, List.getElem?_eq_getElem h2] at this
  simpa using this

set_option maxRecDepth 100000 in
set_option maxHeartbeats 2000000 in
theorem alike_any (v u : Value) (xs ys : List Int) (w : World) (h1 : Sl w 1 (fun x => [Value.int .i64 x]) v xs) (h2 : Sl w 1 (fun x => [Value.int .i64 x]) u ys) :
    Calls Tryz.prog 29 #[v, u] w (Ret (.bool (decide (xs = ys))) w) := by
  obtain ⟨a, c, rfl, l1, h1⟩ := h1
  obtain ⟨a2, c2, rfl, l2, h2⟩ := h2
  by_cases hl : xs.length = ys.length
  · have HD : Aside (∀ j, j < xs.length → ∃ b off b2 off2, a = some ⟨b, off, none⟩ ∧ a2 = some ⟨b2, off2, none⟩ ∧ w.cell? ⟨b, off + j, none⟩ = some (.int .i64 (xs[j]?.getD 0)) ∧ w.cell? ⟨b2, off2 + j, none⟩ = some (.int .i64 (ys[j]?.getD 0))) := by
      intro j hj
      obtain ⟨b, off, ha, _, hc⟩ := h1 (by intro e; rw [e] at hj; simp at hj)
      obtain ⟨b2, off2, ha2, _, hc2⟩ := h2 (by intro e; rw [hl, e] at hj; simp at hj)
      refine ⟨b, off, b2, off2, ha, ha2, ?_, ?_⟩
      · have := hc j _ (List.getElem?_eq_getElem hj) 0 (.int .i64 xs[j]) rfl
        rw [List.getElem?_eq_getElem hj]; simpa using this
      · have := hc2 j _ (List.getElem?_eq_getElem (show j < ys.length by omega)) 0 (.int .i64 (ys[j]'(by omega))) rfl
        rw [List.getElem?_eq_getElem (show j < ys.length by omega)]; simpa using this
    obtain ⟨n, hn⟩ : ∃ n, xs.length = n := ⟨_, rfl⟩
    have HN : Aside (xs.length = n ∧ ys.length = n) := ⟨hn, by omega⟩
    rw [← hl, hn]
    rw [hn] at HD l1
    clear h1 h2 hl hn l2
    obtain ⟨res, hres⟩ : ∃ res, decide (xs = ys) = res := ⟨_, rfl⟩
    have HR : Aside (decide (xs = ys) = res) := hres
    rw [hres]
    clear hres
    go_enter Tryz.func29, Tryz.ntmps29
    go_wp2
    go_loopg [5] n (fun gg i wr => ∃ k : Nat, k ≤ n ∧ n - k ≤ gg ∧ i = .int .i64 k ∧ Aside (Below w.heap.size w wr) ∧ Aside (∀ j, j < k → xs[j]?.getD 0 = ys[j]?.getD 0))
    case atStart => exact ⟨0, Nat.zero_le _, by omega, rfl, Below.refl _ _, fun j hj => absurd hj (Nat.not_lt_zero _)⟩
    case round =>
      obtain ⟨k, hk, hg, rfl, BW, A⟩ := hrel
      by_cases hlt : k < n
      · have hltz : (k : Int) < (n : Int) := by omega
        obtain ⟨b, off, b2, off2, rfl, rfl, c1, c2'⟩ := HD.out k hlt
        have k1 := keepc BW.out c1
        have k2 := keepc BW.out c2'
        obtain ⟨x, hx⟩ : ∃ x, xs[k]?.getD 0 = x := ⟨_, rfl⟩
        obtain ⟨y, hy⟩ : ∃ y, ys[k]?.getD 0 = y := ⟨_, rfl⟩
        have HX : Aside (xs[k]?.getD 0 = x ∧ ys[k]?.getD 0 = y) := ⟨hx, hy⟩
        rw [hx] at k1
        rw [hy] at k2
        clear c1 c2' hx hy
        have MK : Aside (∀ w', Below wr.heap.size wr w' → (Below wr.heap.size wr w' ∧ w'.cell? ⟨b, off + k, none⟩ = some (.int .i64 x) ∧ w'.cell? ⟨b2, off2 + k, none⟩ = some (.int .i64 y))) := fun w' hB => ⟨hB, keepc hB k1, keepc hB k2⟩
        by_cases hxy : x = y
        · subst hxy
          go_upto_region 6 with (fail)
          refine region_class (fun w' => Below wr.heap.size wr w' ∧ w'.cell? ⟨b, off + k, none⟩ = some (.int .i64 x) ∧ w'.cell? ⟨b2, off2 + k, none⟩ = some (.int .i64 x)) (by kernel_rfl) (by kernel_rfl) (MK.out _ ((Below.refl _ _).drew)) ?_
          iterate 9 (first | go_big_quiet_skip | (go_big_quiet_want; unfold Oper.quiet; apply Exists.intro; refine ⟨fun W hW => ?_, ?_⟩; (go_split_ands; unfold Oper.quietAt; go_simp; first | rfl | exact ⟨rfl, rfl⟩ | skip); go_big_quiet_on; (try simp only [Act.put, List.setIfInBounds_toArray, List.set_cons_zero, List.set_cons_succ])))
          refine wpQuiet_nil ?_
          intro W hW
          obtain ⟨hBW, _, _⟩ := hW
          go_wp2
          go_roundg (n - (k + 1))
          case measure => omega
          case rel => exact ⟨k + 1, by omega, by omega, by go_num, BW.out.trans (hBW.mono BW.out.size), (show Aside _ from fun j hj => by
            by_cases e : j = k
            · subst e; exact HX.out.1.trans HX.out.2.symm
            · exact A.out j (by omega))⟩
        · have HF : Aside (res = false) := by
            show _ = _
            rw [← HR.out]
            exact decide_eq_false (fun e => hxy (by rw [← HX.out.1, ← HX.out.2, e]))
          go_upto_region 6 with (fail)
          refine region_class (fun w' => Below wr.heap.size wr w' ∧ w'.cell? ⟨b, off + k, none⟩ = some (.int .i64 x) ∧ w'.cell? ⟨b2, off2 + k, none⟩ = some (.int .i64 y)) (by kernel_rfl) (by kernel_rfl) (MK.out _ ((Below.refl _ _).drew)) ?_
          iterate 9 (first | go_big_quiet_skip | (go_big_quiet_want; unfold Oper.quiet; apply Exists.intro; refine ⟨fun W hW => ?_, ?_⟩; (go_split_ands; unfold Oper.quietAt; go_simp; first | rfl | exact ⟨rfl, rfl⟩ | skip); go_big_quiet_on; (try simp only [Act.put, List.setIfInBounds_toArray, List.set_cons_zero, List.set_cons_succ])))
          refine wpQuiet_nil ?_
          intro W hW
          obtain ⟨hBW, _, _⟩ := hW
          go_wp2
          go_ret
          exact ⟨by rw [HF.out]; rfl, BW.out.trans (hBW.mono BW.out.size)⟩
      · have : k = n := by omega
        subst this
        have hltz : ¬ (k : Int) < (k : Int) := by omega
        have HT : Aside (res = true) := by
          show _ = _
          rw [← HR.out]
          exact decide_eq_true (ext_none (HN.out.1.trans HN.out.2.symm) (fun j hj => A.out j (by rw [HN.out.1] at hj; exact hj)))
        go_wp2
        go_ret
        exact ⟨by rw [HT.out]; rfl, BW.out⟩
  · rw [decide_eq_false (fun e => hl (by rw [e]))]
    clear h1 h2
    generalize xs.length = n at *
    generalize ys.length = m at *
    have hne : ¬ ((n : Int) = (m : Int)) := by omega
    go_enter Tryz.func29, Tryz.ntmps29
    go_wp2
    go_ret
    exact ⟨rfl, by (repeat' (first | exact Below.refl _ _ | assumption | (with_reducible refine Below.drew ?_) | (with_reducible refine Below.setCell ?_ (by (first | (simp; done) | (simp; omega))) _) | (with_reducible refine below_drewN' ?_ _) | (refine Below.alloc ?_ (by (try simp only [World.size_alloc, World.size_drew, World.size_setCell]); omega) _) | (refine Below.trans ?_ (Below.mono (by assumption) (by (try simp only [World.size_alloc, World.size_drew, World.size_setCell]); omega)))))⟩

set_option maxRecDepth 100000 in
set_option maxHeartbeats 2000000 in
theorem equal_any (v u : Value) (xs ys : List Int) (w : World) (h1 : Sl w 1 (fun x => [Value.int .i64 x]) v xs) (h2 : Sl w 1 (fun x => [Value.int .i64 x]) u ys) :
    Calls Tryz.prog 15 #[v, u] w (Ret (.bool (decide (xs = ys))) w) := by
  obtain ⟨a, c, rfl, l1, h1⟩ := h1
  obtain ⟨a2, c2, rfl, l2, h2⟩ := h2
  by_cases hl : xs.length = ys.length
  · have HD : Aside (∀ j, j < xs.length → ∃ b off b2 off2, a = some ⟨b, off, none⟩ ∧ a2 = some ⟨b2, off2, none⟩ ∧ w.cell? ⟨b, off + j, none⟩ = some (.int .i64 (xs[j]?.getD 0)) ∧ w.cell? ⟨b2, off2 + j, none⟩ = some (.int .i64 (ys[j]?.getD 0))) := by
      intro j hj
      obtain ⟨b, off, ha, _, hc⟩ := h1 (by intro e; rw [e] at hj; simp at hj)
      obtain ⟨b2, off2, ha2, _, hc2⟩ := h2 (by intro e; rw [hl, e] at hj; simp at hj)
      refine ⟨b, off, b2, off2, ha, ha2, ?_, ?_⟩
      · have := hc j _ (List.getElem?_eq_getElem hj) 0 (.int .i64 xs[j]) rfl
        rw [List.getElem?_eq_getElem hj]; simpa using this
      · have := hc2 j _ (List.getElem?_eq_getElem (show j < ys.length by omega)) 0 (.int .i64 (ys[j]'(by omega))) rfl
        rw [List.getElem?_eq_getElem (show j < ys.length by omega)]; simpa using this
    obtain ⟨n, hn⟩ : ∃ n, xs.length = n := ⟨_, rfl⟩
    have HN : Aside (xs.length = n ∧ ys.length = n) := ⟨hn, by omega⟩
    rw [← hl, hn]
    rw [hn] at HD l1
    clear h1 h2 hl hn l2
    obtain ⟨res, hres⟩ : ∃ res, decide (xs = ys) = res := ⟨_, rfl⟩
    have HR : Aside (decide (xs = ys) = res) := hres
    rw [hres]
    clear hres
    go_enter Tryz.func15, Tryz.ntmps15
    go_wp2
    go_loopg [5] n (fun gg i wr => ∃ k : Nat, k ≤ n ∧ n - k ≤ gg ∧ i = .int .i64 k ∧ Aside (Below w.heap.size w wr) ∧ Aside (∀ j, j < k → xs[j]?.getD 0 = ys[j]?.getD 0))
    case atStart => exact ⟨0, Nat.zero_le _, by omega, rfl, Below.refl _ _, fun j hj => absurd hj (Nat.not_lt_zero _)⟩
    case round =>
      obtain ⟨k, hk, hg, rfl, BW, A⟩ := hrel
      by_cases hlt : k < n
      · have hltz : (k : Int) < (n : Int) := by omega
        obtain ⟨b, off, b2, off2, rfl, rfl, c1, c2'⟩ := HD.out k hlt
        have k1 := keepc BW.out c1
        have k2 := keepc BW.out c2'
        obtain ⟨x, hx⟩ : ∃ x, xs[k]?.getD 0 = x := ⟨_, rfl⟩
        obtain ⟨y, hy⟩ : ∃ y, ys[k]?.getD 0 = y := ⟨_, rfl⟩
        have HX : Aside (xs[k]?.getD 0 = x ∧ ys[k]?.getD 0 = y) := ⟨hx, hy⟩
        rw [hx] at k1
        rw [hy] at k2
        clear c1 c2' hx hy
        have MK : Aside (∀ w', Below wr.heap.size wr w' → (Below wr.heap.size wr w' ∧ w'.cell? ⟨b, off + k, none⟩ = some (.int .i64 x) ∧ w'.cell? ⟨b2, off2 + k, none⟩ = some (.int .i64 y))) := fun w' hB => ⟨hB, keepc hB k1, keepc hB k2⟩
        by_cases hxy : x = y
        · subst hxy
          go_upto_region 6 with (fail)
          refine region_class (fun w' => Below wr.heap.size wr w' ∧ w'.cell? ⟨b, off + k, none⟩ = some (.int .i64 x) ∧ w'.cell? ⟨b2, off2 + k, none⟩ = some (.int .i64 x)) (by kernel_rfl) (by kernel_rfl) (MK.out _ ((Below.refl _ _).drew)) ?_
          iterate 9 (first | go_big_quiet_skip | (go_big_quiet_want; unfold Oper.quiet; apply Exists.intro; refine ⟨fun W hW => ?_, ?_⟩; (go_split_ands; unfold Oper.quietAt; go_simp; first | rfl | exact ⟨rfl, rfl⟩ | skip); go_big_quiet_on; (try simp only [Act.put, List.setIfInBounds_toArray, List.set_cons_zero, List.set_cons_succ])))
          refine wpQuiet_nil ?_
          intro W hW
          obtain ⟨hBW, _, _⟩ := hW
          go_wp2
          go_roundg (n - (k + 1))
          case measure => omega
          case rel => exact ⟨k + 1, by omega, by omega, by go_num, BW.out.trans (hBW.mono BW.out.size), (show Aside _ from fun j hj => by
            by_cases e : j = k
            · subst e; exact HX.out.1.trans HX.out.2.symm
            · exact A.out j (by omega))⟩
        · have HF : Aside (res = false) := by
            show _ = _
            rw [← HR.out]
            exact decide_eq_false (fun e => hxy (by rw [← HX.out.1, ← HX.out.2, e]))
          go_upto_region 6 with (fail)
          refine region_class (fun w' => Below wr.heap.size wr w' ∧ w'.cell? ⟨b, off + k, none⟩ = some (.int .i64 x) ∧ w'.cell? ⟨b2, off2 + k, none⟩ = some (.int .i64 y)) (by kernel_rfl) (by kernel_rfl) (MK.out _ ((Below.refl _ _).drew)) ?_
          iterate 9 (first | go_big_quiet_skip | (go_big_quiet_want; unfold Oper.quiet; apply Exists.intro; refine ⟨fun W hW => ?_, ?_⟩; (go_split_ands; unfold Oper.quietAt; go_simp; first | rfl | exact ⟨rfl, rfl⟩ | skip); go_big_quiet_on; (try simp only [Act.put, List.setIfInBounds_toArray, List.set_cons_zero, List.set_cons_succ])))
          refine wpQuiet_nil ?_
          intro W hW
          obtain ⟨hBW, _, _⟩ := hW
          go_wp2
          go_ret
          exact ⟨by rw [HF.out]; rfl, BW.out.trans (hBW.mono BW.out.size)⟩
      · have : k = n := by omega
        subst this
        have hltz : ¬ (k : Int) < (k : Int) := by omega
        have HT : Aside (res = true) := by
          show _ = _
          rw [← HR.out]
          exact decide_eq_true (ext_none (HN.out.1.trans HN.out.2.symm) (fun j hj => A.out j (by rw [HN.out.1] at hj; exact hj)))
        go_wp2
        go_ret
        exact ⟨by rw [HT.out]; rfl, BW.out⟩
  · rw [decide_eq_false (fun e => hl (by rw [e]))]
    clear h1 h2
    generalize xs.length = n at *
    generalize ys.length = m at *
    have hne : ¬ ((n : Int) = (m : Int)) := by omega
    go_enter Tryz.func15, Tryz.ntmps15
    go_wp2
    go_ret
    exact ⟨rfl, by (repeat' (first | exact Below.refl _ _ | assumption | (with_reducible refine Below.drew ?_) | (with_reducible refine Below.setCell ?_ (by (first | (simp; done) | (simp; omega))) _) | (with_reducible refine below_drewN' ?_ _) | (refine Below.alloc ?_ (by (try simp only [World.size_alloc, World.size_drew, World.size_setCell]); omega) _) | (refine Below.trans ?_ (Below.mono (by assumption) (by (try simp only [World.size_alloc, World.size_drew, World.size_setCell]); omega)))))⟩
end Go.Proofs.YtgceffpkhmjmkaaGreat
