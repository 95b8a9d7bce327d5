/- Board, part Vd: the reference's check of lines. -/
import Derived.Test.YtgceffpkhmjmkaaGreatVc
import Derived.Test.YtgceffpkhmjmkaaGreatK
set_option linter.unusedVariables false
set_option linter.unusedSimpArgs false
namespace Go.Proofs.YtgceffpkhmjmkaaGreat
open Go.RowKit Go.Shelf

theorem nzv_eq (x y : Int) : nzv (x, y) = (vpt (x, y) && !(decide (x = 0) && decide (y = 0))) := by
  unfold nzv
  congr 2
  rw [Bool.eq_iff_iff]
  simp
theorem cells_of {w : World} {a : Option Addr} {n c : Nat} {ls : List (Int × Int)} (h : Sl w 2 encP (.slice a n c) ls) : ∀ j p, ls[j]? = some p → ∃ b off, a = some ⟨b, off, none⟩ ∧ w.cell? ⟨b, off + j * 2, none⟩ = some (.int .i64 p.1) ∧ w.cell? ⟨b, off + j * 2 + 1, none⟩ = some (.int .i64 p.2) := by
  intro j p hx
  obtain ⟨a', c', e, _, hs⟩ := h
  cases e
  obtain ⟨b, off, ha, _, hc⟩ := hs (by intro e; rw [e] at hx; simp at hx)
  refine ⟨b, off, ha, ?_, ?_⟩
  · have := hc j p hx 0 _ rfl; simpa using this
  · have := hc j p hx 1 _ rfl; simpa using this

set_option maxRecDepth 100000 in
set_option maxHeartbeats 4000000 in
theorem rLines_any (v : Value) (ls : List (Int × Int)) (w : World) (hs : Sl w 2 encP v ls) (hn : ls.length ≤ 25) (hN : ∀ p ∈ ls, Near p) :
    Calls Tryz.prog 46 #[v] w (Ret (.bool (linesR ls)) w) := by
  have hs' := hs
  obtain ⟨a, c, rfl, hl, _⟩ := hs'
  have HC : Aside (∀ j p, ls[j]? = some p → ∃ b off, a = some ⟨b, off, none⟩ ∧ w.cell? ⟨b, off + j * 2, none⟩ = some (.int .i64 p.1) ∧ w.cell? ⟨b, off + j * 2 + 1, none⟩ = some (.int .i64 p.2)) := cells_of hs
  have HN : Aside (∀ p ∈ ls, Near p) := hN
  obtain ⟨n, hn0⟩ : ∃ n, ls.length = n := ⟨_, rfl⟩
  have HL : Aside (ls.length = n) := hn0
  rw [hn0] at hl hn ⊢
  clear hs hN
  obtain ⟨res, hres⟩ : ∃ res, linesR ls = res := ⟨_, rfl⟩
  have HR : Aside (linesR ls = res) := hres
  rw [hres]
  clear hres
  by_cases h3 : n < 3
  · have e : res = false := by rw [← HR.out]; unfold linesR; rw [HL.out, decide_eq_false (show ¬ 3 ≤ n by omega)]; rfl
    subst e
    clear hn0
    have h3z : (n : Int) < 3 := by omega
    go_enter Tryz.func46, Tryz.ntmps46
    go_wp2_with fail
    go_ret
    exact ⟨rfl, Below.refl _ _⟩
  · clear hn0
    have h3z : ¬ (n : Int) < 3 := by omega
    go_enter Tryz.func46, Tryz.ntmps46
    go_wp2_with fail
    go_loopg [5] n (fun gg i wr => ∃ k : Nat, k ≤ n ∧ n - k ≤ gg ∧ i = .int .i64 k ∧ Aside (∀ j, j < k → nzv (gl ls j) = true) ∧ Aside (Below w.heap.size w wr))
    case atStart => exact ⟨0, Nat.zero_le _, by omega, rfl, fun j hj => absurd hj (Nat.not_lt_zero _), Below.refl _ _⟩
    case round =>
      obtain ⟨k, hk, hg, rfl, HA, BW⟩ := hrel
      by_cases hlt : k < n
      · have hltz : (k : Int) < (n : Int) := by omega
        have hp : ls[k]? = some (gl ls k) := gl_get (by rw [HL.out]; exact hlt)
        obtain ⟨b, off, rfl, c0, c1⟩ := HC.out k _ hp
        have k0 := keepc BW.out c0
        have k1 := keepc BW.out c1
        have HP : Aside (k < ls.length) := by show _ < _; rw [HL.out]; exact hlt
        obtain ⟨p, hpe⟩ : ∃ p, gl ls k = p := ⟨_, rfl⟩
        have HPE : Aside (gl ls k = p) := hpe
        rw [hpe] at k0 k1
        clear c0 c1 hp hpe
        obtain ⟨x, y⟩ := p
        simp only [] at k0 k1
        have hpo := fun W => rPoint_any (x, y) W
        unfold pt at hpo
        simp only [] at hpo
        have HZ : Aside (nzv (x, y) = (vpt (x, y) && !(decide (x = 0) && decide (y = 0)))) := nzv_eq x y
        obtain ⟨pv, hpv⟩ : ∃ pv, vpt (x, y) = pv := ⟨_, rfl⟩
        rw [hpv] at hpo HZ
        clear hpv
        have HF : Aside (nzv (x, y) = false → res = false) := by
          intro h
          rw [← HR.out]
          have : ls.all nzv = false := by
            rw [List.all_eq_false]
            exact ⟨_, gl_mem HP.out, by rw [HPE.out, h]; simp⟩
          unfold linesR
          rw [this]; simp
        have HT : Aside (nzv (x, y) = true → ∀ j, j < k + 1 → nzv (gl ls j) = true) := by
          intro h j hj
          by_cases e : j = k
          · subst e; rw [HPE.out]; exact h
          · exact HA.out j (by omega)
        clear HA
        cases pv with
        | false =>
          have e : res = false := HF.out (by rw [HZ.out]; rfl)
          subst e
          go_wp2_with (go_at_call 17; (with_reducible refine (hpo _).mono ?_); rintro e w1 ⟨rfl, hb1⟩; have k0' := keepc hb1 k0; have k1' := keepc hb1 k1)
          go_ret
          exact ⟨rfl, BW.out.trans (hb1.mono BW.out.size)⟩
        | true =>
          by_cases hx : x = 0
          · by_cases hy : y = 0
            · have e : res = false := HF.out (by rw [HZ.out, hx, hy]; rfl)
              subst e
              subst hx
              subst hy
              go_wp2_with (go_at_call 17; (with_reducible refine (hpo _).mono ?_); rintro e w1 ⟨rfl, hb1⟩; have k0' := keepc hb1 k0; have k1' := keepc hb1 k1)
              go_ret
              exact ⟨rfl, BW.out.trans (hb1.mono BW.out.size)⟩
            · have HT2 : Aside (∀ j, j < k + 1 → nzv (gl ls j) = true) := HT.out (by rw [HZ.out, decide_eq_false hy]; simp)
              subst hx
              go_wp2_with (go_at_call 17; (with_reducible refine (hpo _).mono ?_); rintro e w1 ⟨rfl, hb1⟩; have k0' := keepc hb1 k0; have k1' := keepc hb1 k1)
              go_roundg (n - (k + 1))
              case measure => omega
              case rel => exact ⟨k + 1, by omega, by omega, by go_num, HT2, BW.out.trans (hb1.mono BW.out.size)⟩
          · have HT2 : Aside (∀ j, j < k + 1 → nzv (gl ls j) = true) := HT.out (by rw [HZ.out, decide_eq_false hx]; simp)
            go_wp2_with (go_at_call 17; (with_reducible refine (hpo _).mono ?_); rintro e w1 ⟨rfl, hb1⟩; have k0' := keepc hb1 k0; have k1' := keepc hb1 k1)
            go_roundg (n - (k + 1))
            case measure => omega
            case rel => exact ⟨k + 1, by omega, by omega, by go_num, HT2, BW.out.trans (hb1.mono BW.out.size)⟩
      · have : k = n := by omega
        subst this
        have hltz : ¬ (k : Int) < (k : Int) := by omega
        have HZ : Aside (ls.all nzv = true) := by
          show _ = _
          rw [List.all_eq_true]
          intro p hp
          obtain ⟨j, hj, rfl⟩ := List.getElem_of_mem hp
          have := HA.out j (by rw [← HL.out]; exact hj)
          unfold gl at this
          rw [List.getElem?_eq_getElem hj] at this
          exact this
        have HR2 : Aside (res = ((List.range k).all (stepAt ls) && decide (inCnt ls (gl ls 0) k = 1))) := by
          show _ = _
          rw [← HR.out]
          unfold linesR
          rw [HZ.out, HL.out, decide_eq_true (show 3 ≤ k by omega)]; rfl
        clear HA HZ HR
        obtain ⟨wp, rfl⟩ : ∃ w2 : World, w2 = wr := ⟨_, rfl⟩
        obtain ⟨f, hf⟩ : ∃ f, gl ls 0 = f := ⟨_, rfl⟩
        have HF0 : Aside (gl ls 0 = f) := hf
        rw [hf] at HR2
        clear hf
        go_wp2_with fail
        go_loopg [4, 6] k (fun gg cn i wr' => ∃ q : Nat, q ≤ k ∧ k - q ≤ gg ∧ i = .int .i64 q ∧ cn = .int .i64 (inCnt ls f q) ∧ Aside (∀ j, j < q → stepAt ls j = true) ∧ Aside (Below w.heap.size w wr'))
        case atStart => exact ⟨0, Nat.zero_le _, by omega, rfl, rfl, fun j hj => absurd hj (Nat.not_lt_zero _), BW⟩
        case round =>
          clear BW
          obtain ⟨q, hq, hg2, rfl, rfl, HA, BW⟩ := hrel
          by_cases hlt : q < k
          · have hltz2 : (q : Int) < (k : Int) := by omega
            obtain ⟨m, hm⟩ : ∃ m, (q + 1) % k = m := ⟨_, rfl⟩
            have hmk : m < k := by rw [← hm]; exact Nat.mod_lt _ (by omega)
            have hmz : ((q : Int) + 1).tmod (k : Int) = (m : Int) := by
              rw [Int.tmod_eq_emod_of_nonneg (by omega), show (q : Int) + 1 = ((q + 1 : Nat) : Int) by omega, ← hm]
              exact (Int.natCast_emod _ _).symm
            obtain ⟨b, off, rfl, p0, p1⟩ := HC.out q _ (gl_get (by rw [HL.out]; exact hlt))
            obtain ⟨b', off', e', n0, n1⟩ := HC.out m _ (gl_get (by rw [HL.out]; exact hmk))
            simp only [Option.some.injEq, Addr.mk.injEq, and_true] at e'
            obtain ⟨rfl, rfl⟩ := e'
            obtain ⟨b', off', e', f0, f1⟩ := HC.out 0 _ (gl_get (by rw [HL.out]; omega))
            simp only [Option.some.injEq, Addr.mk.injEq, and_true] at e'
            obtain ⟨rfl, rfl⟩ := e'
            have HNe : Aside (Near (gl ls q) ∧ Near (gl ls m) ∧ Near f) := ⟨HN.out _ (gl_mem (by rw [HL.out]; exact hlt)), HN.out _ (gl_mem (by rw [HL.out]; exact hmk)), by rw [← HF0.out]; exact HN.out _ (gl_mem (by rw [HL.out]; omega))⟩
            have HS : Aside (stepAt ls q = decide (crs (gl ls q) (gl ls m) < 0)) := by show _ = _; unfold stepAt; rw [HL.out, hm]
            have HI : Aside (inCnt ls f (q + 1) = inCnt ls f q + (if btw (gl ls q) (gl ls m) f then 1 else 0)) := by
              show _ = _
              rw [inCnt_succ]
              unfold btwAt
              rw [HL.out, hm]
            rw [HF0.out] at f0 f1
            rw [Nat.zero_mul, Nat.add_zero] at f0 f1
            obtain ⟨pp, hpp⟩ : ∃ p, gl ls q = p := ⟨_, rfl⟩
            obtain ⟨pn, hpn⟩ : ∃ p, gl ls m = p := ⟨_, rfl⟩
            rw [hpp] at p0 p1 HNe HS HI
            rw [hpn] at n0 n1 HNe HS HI
            have hic := inCnt_le ls f q
            have hcr := fun W => rCross_any pp pn W HNe.out.1 HNe.out.2.1
            have hbt := fun W => rBetween_any pp pn f W HNe.out.1 HNe.out.2.1 HNe.out.2.2
            have p0 := keepc BW.out p0
            have p1 := keepc BW.out p1
            have n0 := keepc BW.out n0
            have n1 := keepc BW.out n1
            have f0 := keepc BW.out f0
            have f1 := keepc BW.out f1
            clear hpp hpn HNe
            obtain ⟨cr, hcr'⟩ : ∃ cr, crs pp pn = cr := ⟨_, rfl⟩
            obtain ⟨bt, hbt'⟩ : ∃ bt, btw pp pn f = bt := ⟨_, rfl⟩
            rw [hcr'] at hcr HS
            rw [hbt'] at hbt HI
            clear hcr' hbt' hm
            obtain ⟨ic, hic'⟩ : ∃ ic, inCnt ls f q = ic := ⟨_, rfl⟩
            rw [hic'] at HI hic ⊢
            clear hic'
            obtain ⟨px, py⟩ := pp
            obtain ⟨nx, ny⟩ := pn
            obtain ⟨fx, fy⟩ := f
            unfold pt at hcr hbt
            simp only [] at p0 p1 n0 n1 f0 f1 hcr hbt
            have HW : Aside (IntKind.i64.wrap ((q : Int) + 1) = (q : Int) + 1 ∧ ((q : Int) + 1).tmod (k : Int) = (m : Int) ∧ ¬ (k : Int) = 0) := ⟨IntWalk.i64_in _ (by omega), hmz, by omega⟩
            have hmkz : (m : Int) < (k : Int) := by omega
            have hk0n : 0 < k := by omega
            have hk0z : (0 : Int) < (k : Int) := by omega
            clear hmz
            go_upto_region 12 with (fail)
            go_cut [7] (fun s7 wc => ∃ g, s7 = .pointer (some ⟨g, 0, none⟩) ∧ wc.cell? ⟨g, 0, none⟩ = some (.int .i64 nx) ∧ wc.cell? ⟨g, 1, none⟩ = some (.int .i64 ny) ∧ Aside (Below wr.heap.size wr wc))
            case first =>
              obtain ⟨hw1, hw2, hw3⟩ := HW.out
              have hk0 : ¬ k = 0 := by omega
              go_wp2_with fail
              go_meet
              refine ⟨_, rfl, ?_, ?_, ?_⟩
              · (first | (go_simp; done) | (go_simp; refine World.cell?_setCell_same' _ _ _ ?_; (repeat (with_reducible refine some_set ?_)); go_simp))
              · (first | (go_simp; done) | (go_simp; refine World.cell?_setCell_same' _ _ _ ?_; (repeat (with_reducible refine some_set ?_)); go_simp))
              · show Below _ _ _
                (repeat' (first | exact Below.refl _ _ | assumption | (with_reducible refine Below.drew ?_) | (with_reducible refine Below.setCell ?_ (by (first | (simp; done) | (simp; omega))) _) | (with_reducible refine below_drewN' ?_ _) | (refine Below.alloc ?_ (by (try simp only [World.size_alloc, World.size_drew, World.size_setCell]); omega) _) | (refine Below.trans ?_ (Below.mono (by assumption) (by (try simp only [World.size_alloc, World.size_drew, World.size_setCell]); omega)))))
            case rest =>
              obtain ⟨g, rfl, g0, g1, BC⟩ := hcut
              have p0 := keepc BC.out p0
              have p1 := keepc BC.out p1
              have f0 := keepc BC.out f0
              have f1 := keepc BC.out f1
              have BW2 : Aside (Below w.heap.size w wc) := BW.out.trans (BC.out.mono BW.out.size)
              clear n0 n1 HW BW BC
              have MK : Aside (∀ w', Below wc.heap.size wc w' → (Below wc.heap.size wc w' ∧ w'.cell? ⟨b, off + q * 2, none⟩ = some (.int .i64 px) ∧ w'.cell? ⟨b, off + q * 2 + 1, none⟩ = some (.int .i64 py) ∧ w'.cell? ⟨g, 0, none⟩ = some (.int .i64 nx) ∧ w'.cell? ⟨g, 1, none⟩ = some (.int .i64 ny) ∧ w'.cell? ⟨b, off, none⟩ = some (.int .i64 fx) ∧ w'.cell? ⟨b, off + 1, none⟩ = some (.int .i64 fy))) := fun w' hB => ⟨hB, keepc hB p0, keepc hB p1, keepc hB g0, keepc hB g1, keepc hB f0, keepc hB f1⟩
              go_upto_region 13 with (fail)
              refine region_class (fun w' => Below wc.heap.size wc w' ∧ w'.cell? ⟨b, off + q * 2, none⟩ = some (.int .i64 px) ∧ w'.cell? ⟨b, off + q * 2 + 1, none⟩ = some (.int .i64 py) ∧ w'.cell? ⟨g, 0, none⟩ = some (.int .i64 nx) ∧ w'.cell? ⟨g, 1, none⟩ = some (.int .i64 ny) ∧ w'.cell? ⟨b, off, none⟩ = some (.int .i64 fx) ∧ w'.cell? ⟨b, off + 1, none⟩ = some (.int .i64 fy)) (by kernel_rfl) (by kernel_rfl) (MK.out _ ((Below.refl _ _).drew)) ?_
              iterate 7 (first | go_big_quiet_skip | (go_big_quiet_want; unfold Oper.quiet; apply Exists.intro; refine ⟨fun W hW => ?_, ?_⟩; (go_split_ands; unfold Oper.quietAt; go_simp; first | rfl | exact ⟨rfl, rfl⟩ | ((with_reducible refine (hcr _).mono ?_); rintro e w2 ⟨rfl, hb2⟩; exact ⟨rfl, MK.out _ (Below.trans (by assumption) (Below.mono (by assumption) (Below.size (by assumption))))⟩)); go_big_quiet_on; (try simp only [Act.put, List.setIfInBounds_toArray, List.set_cons_zero, List.set_cons_succ])))
              refine wpQuiet_nil ?_
              intro W hW
              by_cases hc : cr < 0
              · have hcz : ¬ 0 ≤ cr := by omega
                have hs1 : Aside (∀ j, j < q + 1 → stepAt ls j = true) := by
                  intro j hj
                  by_cases e : j = q
                  · subst e; rw [HS.out, decide_eq_true hc]
                  · exact HA.out j (by omega)
                clear HA
                obtain ⟨hB, p0, p1, g0, g1, f0, f1⟩ := hW
                have MK : Aside (∀ w', Below W.heap.size W w' → (Below W.heap.size W w' ∧ w'.cell? ⟨b, off + q * 2, none⟩ = some (.int .i64 px) ∧ w'.cell? ⟨b, off + q * 2 + 1, none⟩ = some (.int .i64 py) ∧ w'.cell? ⟨g, 0, none⟩ = some (.int .i64 nx) ∧ w'.cell? ⟨g, 1, none⟩ = some (.int .i64 ny) ∧ w'.cell? ⟨b, off, none⟩ = some (.int .i64 fx) ∧ w'.cell? ⟨b, off + 1, none⟩ = some (.int .i64 fy))) := fun w' hB => ⟨hB, keepc hB p0, keepc hB p1, keepc hB g0, keepc hB g1, keepc hB f0, keepc hB f1⟩
                have BW3 : Aside (Below w.heap.size w W) := BW2.out.trans (hB.mono BW2.out.size)
                clear hB BW2
                go_upto_region 15 with (fail)
                refine region_class (fun w' => Below W.heap.size W w' ∧ w'.cell? ⟨b, off + q * 2, none⟩ = some (.int .i64 px) ∧ w'.cell? ⟨b, off + q * 2 + 1, none⟩ = some (.int .i64 py) ∧ w'.cell? ⟨g, 0, none⟩ = some (.int .i64 nx) ∧ w'.cell? ⟨g, 1, none⟩ = some (.int .i64 ny) ∧ w'.cell? ⟨b, off, none⟩ = some (.int .i64 fx) ∧ w'.cell? ⟨b, off + 1, none⟩ = some (.int .i64 fy)) (by kernel_rfl) (by kernel_rfl) (MK.out _ ((Below.refl _ _).drew)) ?_
                iterate 9 (first | go_big_quiet_skip | (go_big_quiet_want; unfold Oper.quiet; apply Exists.intro; refine ⟨fun W hW => ?_, ?_⟩; (go_split_ands; unfold Oper.quietAt; go_simp; first | rfl | exact ⟨rfl, rfl⟩ | ((with_reducible refine (hbt _).mono ?_); rintro e w2 ⟨rfl, hb2⟩; exact ⟨rfl, MK.out _ (Below.trans (by assumption) (Below.mono (by assumption) (Below.size (by assumption))))⟩)); go_big_quiet_on; (try simp only [Act.put, List.setIfInBounds_toArray, List.set_cons_zero, List.set_cons_succ])))
                refine wpQuiet_nil ?_
                intro W2 hW2
                obtain ⟨hB2, _⟩ := hW2
                have BW4 : Aside (Below w.heap.size w W2) := BW3.out.trans (hB2.mono BW3.out.size)
                cases bt with
                | true =>
                  have HI2 : Aside (inCnt ls (fx, fy) (q + 1) = ic + 1) := HI.out
                  go_wp2_with fail
                  go_roundg (k - (q + 1))
                  case measure => omega
                  case rel => exact ⟨q + 1, by omega, by omega, by go_num, by rw [HI2.out]; go_num, hs1, BW4⟩
                | false =>
                  have HI2 : Aside (inCnt ls (fx, fy) (q + 1) = ic) := HI.out
                  go_wp2_with fail
                  go_roundg (k - (q + 1))
                  case measure => omega
                  case rel => exact ⟨q + 1, by omega, by omega, by go_num, by rw [HI2.out], hs1, BW4⟩
              · have hcz : 0 ≤ cr := by omega
                have e : res = false := by
                  rw [HR2.out]
                  have : (List.range k).all (stepAt ls) = false := by
                    rw [List.all_eq_false]
                    exact ⟨q, List.mem_range.2 hlt, by rw [HS.out, decide_eq_false hc]; simp⟩
                  rw [this]; rfl
                subst e
                obtain ⟨hB, _⟩ := hW
                go_wp2_with fail
                go_ret
                exact ⟨rfl, BW2.out.trans (hB.mono BW2.out.size)⟩
          · have : q = k := by omega
            subst this
            have hltz2 : ¬ (q : Int) < (q : Int) := by omega
            have HT : Aside (res = decide (inCnt ls f q = 1)) := by
              show _ = _
              rw [HR2.out]
              have : (List.range q).all (stepAt ls) = true := by
                rw [List.all_eq_true]
                intro j hj
                exact HA.out j (List.mem_range.1 hj)
              rw [this]; rfl
            clear HA HR2
            have hic := inCnt_le ls f q
            generalize inCnt ls f q = ic at *
            by_cases e1 : ic = 1
            · have e : res = true := by rw [HT.out]; exact decide_eq_true e1
              subst e
              have e2 : ((ic : Int) == 1) = true := by rw [e1]; rfl
              clear HT
              subst e1
              go_wp2_with fail
              go_ret
              exact ⟨rfl, BW.out⟩
            · have e : res = false := by rw [HT.out]; exact decide_eq_false e1
              subst e
              have e2 : ((ic : Int) == 1) = false := by rw [beq_eq_false_iff_ne]; omega
              have e3 : ¬ (ic : Int) = 1 := by omega
              clear HT
              go_wp2_with fail
              go_ret
              exact ⟨rfl, BW.out⟩
end Go.Proofs.YtgceffpkhmjmkaaGreat
