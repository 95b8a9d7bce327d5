/- Board, part Yb: the statements' wear and weeks of an input. -/
import Derived.Test.YtifabfbnjnjhlaaYa
import Derived.Test.YtifabfbnjnjhlaaUo
import Derived.Test.YtifabfbnjnjhlaaUf
set_option linter.unusedVariables false
set_option linter.unusedSimpArgs false
namespace Go.Proofs.Ytifabfbnjnjhlaa
open Go.RowKit Go.Shelf

def atB (by_ : List Int) (i : Nat) : Int := by_[i % by_.length]?.getD 0
def wornB (by_ : List Int) (n : Nat) : List Int := (List.range n).map fun i => 3 * atB by_ i
def weekB (by_ : List Int) (n k : Nat) : List Int := (List.range n).map fun i => atB by_ (i + 5 * k + 1)
theorem atB_bd {by_ : List Int} (h : ∀ x ∈ by_, 0 ≤ x ∧ x ≤ 255) (i : Nat) : 0 ≤ atB by_ i ∧ atB by_ i ≤ 255 := by
  unfold atB
  cases hx : by_[i % by_.length]? with
  | none => simp
  | some x => exact h x (List.mem_of_getElem? hx)
theorem wornB_succ (by_ : List Int) (n : Nat) : wornB by_ (n + 1) = wornB by_ n ++ [3 * atB by_ n] := by
  unfold wornB; rw [List.range_succ, List.map_append]; rfl
theorem weekB_succ (by_ : List Int) (n k : Nat) : weekB by_ (n + 1) k = weekB by_ n k ++ [atB by_ (n + 5 * k + 1)] := by
  unfold weekB; rw [List.range_succ, List.map_append]; rfl

/-- A row of one type stays where a row of another type grows. -/
theorem owns_apart {A B : World} {b1 b2 : Nat} {e1 e2 : TypeId} {s1 s2 : Nat} {v1 v2 : Value} {n m : Nat} {xs ys : List Value} (h : A.ownsRow b1 e1 s1 v1 n xs) (h2 : A.ownsRow b2 e2 s2 v2 m ys) (hne : e1 ≠ e2) (hg : A.grownBy B v2.ownBlock) : B.ownsRow b1 e1 s1 v1 n xs := by
  refine ⟨h.1, ?_⟩
  rcases h.2 with h0 | ⟨g, cap, cur, rfl, hb, hc, r⟩
  · exact .inl h0
  · refine .inr ⟨g, cap, cur, rfl, hb, ?_, r⟩
    have hlt := (Array.getElem?_eq_some_iff.1 hc).1
    rw [hg.block g hlt ?_]
    · exact hc
    · intro e
      rcases h2.2 with ⟨rfl, _⟩ | ⟨g', cap', cur', rfl, _, hc', _⟩
      · simp [Value.ownBlock] at e
      · simp only [Value.ownBlock, Option.some.injEq] at e
        subst e
        rw [hc] at hc'
        simp only [Option.some.injEq, Obj.cells.injEq] at hc'
        exact hne hc'.2.1

set_option maxRecDepth 100000 in
set_option maxHeartbeats 1000000 in
theorem at_any (B : Nat) (v : Value) (by_ : List Int) (i : Nat) (w : World) (hc : w.cell? ⟨B, 0, none⟩ = some v) (hs : Sl w 1 eU v by_) (hb : ∀ x ∈ by_, 0 ≤ x ∧ x ≤ 255) :
    Calls Try.prog 45 #[.int .i64 i, .pointer (some ⟨B, 0, none⟩)] w (Ret (.int .i64 (atB by_ i)) w) := by
  obtain ⟨a, c, rfl, hl, hs⟩ := hs
  by_cases hne : by_ = []
  · subst hne
    go_enter Try.func45, Try.ntmps45
    go_wp2
    go_ret
    exact ⟨rfl, Below.refl _ _⟩
  · obtain ⟨b, off, rfl, hbs, hcc⟩ := hs hne
    have hpos : 0 < by_.length := List.length_pos_iff.2 hne
    have hq : i % by_.length < by_.length := Nat.mod_lt _ hpos
    have hx := List.getElem?_eq_getElem hq
    have kx := hcc _ _ hx 0 _ rfl
    obtain ⟨u1, u2⟩ := hb _ (List.getElem_mem hq)
    have HA : Aside (atB by_ i = by_[i % by_.length]) := by show _ = _; unfold atB; rw [hx]; rfl
    rw [HA.out]
    have hqz : ((i : Int)).tmod (by_.length : Int) = ((i % by_.length : Nat) : Int) := by rw [Int.tmod_eq_emod_of_nonneg (by omega)]; exact (Int.natCast_emod _ _).symm
    have hnz : ¬ (by_.length : Int) = 0 := by omega
    have hn0 : ¬ by_.length = 0 := by omega
    clear hs hcc hx HA hb
    generalize hmm : i % by_.length = q at *
    generalize by_[q] = x at *
    clear hmm hne
    generalize by_.length = n at *
    rw [Nat.mul_one, Nat.add_zero] at kx
    have hw : IntKind.i64.wrap x = x := IntWalk.i64_in _ (by omega)
    have MK : Aside (∀ w', Below w.heap.size w w' → (Below w.heap.size w w' ∧ w'.cell? ⟨B, 0, none⟩ = some (.slice (some ⟨b, off, none⟩) n c) ∧ w'.cell? ⟨b, off + q, none⟩ = some (.int .u8 x))) := fun w' hB => ⟨hB, keepc hB hc, keepc hB kx⟩
    go_enter Try.func45, Try.ntmps45
    go_upto_region 3 with (fail)
    refine region_class (fun w' => Below w.heap.size w w' ∧ w'.cell? ⟨B, 0, none⟩ = some (.slice (some ⟨b, off, none⟩) n c) ∧ w'.cell? ⟨b, off + q, none⟩ = some (.int .u8 x)) (by kernel_rfl) (by kernel_rfl) (MK.out _ ((Below.refl _ _).drew)) ?_
    iterate 9 (first | go_big_quiet_skip | (go_big_quiet_want; unfold Oper.quiet; apply Exists.intro; refine ⟨fun W hW => ?_, ?_⟩; (go_split_ands; unfold Oper.quietAt; go_simp; first | rfl | exact ⟨rfl, rfl⟩ | skip); go_big_quiet_on; (try simp only [Act.put, List.setIfInBounds_toArray, List.set_cons_zero, List.set_cons_succ])))
    refine wpQuiet_nil ?_
    intro W hW
    obtain ⟨hBW, _⟩ := hW
    go_wp2_with fail
    go_ret
    exact ⟨rfl, hBW⟩
/-- What wear leaves. -/
def WearsOk (by_ : List Int) (n many : Nat) (w : World) (e : Ending) (w' : World) : Prop :=
  ∃ (v1 v2 : Value) (ws : List (Value × List Int)), e = .returned (.tuple #[v1, v2]) ∧ Sl w' 1 eI v1 (wornB by_ n) ∧ Sl w' 1 eR v2 ws ∧ (∃ g c, v2 = .slice (some ⟨g, 0, none⟩) many c ∧ many ≤ c) ∧ ws.map (·.2) = (List.range many).map (weekB by_ n) ∧ (∀ x ∈ ws, Sl w' 1 eI x.1 x.2) ∧ Below w.heap.size w w'

theorem sl_of_own1 {α : Type} {w : World} {base n : Nat} {e : TypeId} {v : Value} {xs : List α} (f : α → Value) (hl : xs.length ≤ 9223372036854775807) (h : w.ownsRow base e 1 v n (xs.map f)) (hn : n = xs.length) (hne : xs ≠ []) : Sl w 1 (fun x => [f x]) v xs := by
  subst hn
  rcases h.2 with ⟨_, h1⟩ | ⟨g, cap, cur, rfl, h1, hg, h2⟩
  · exact absurd (List.eq_nil_of_length_eq_zero h1) hne
  · refine ⟨_, _, rfl, hl, fun _ => ⟨g, 0, rfl, (Array.getElem?_eq_some_iff.1 hg).1, ?_⟩⟩
    intro j x hx i y hy
    match i, hy with
    | 0, hy =>
      simp at hy; subst hy
      have := h.cellAt j (by have := (List.getElem?_eq_some_iff.1 hx).1; omega)
      rw [Nat.mul_one, Nat.zero_add, Nat.add_zero, this, List.getElem?_map, hx]; rfl
    | i + 1, hy => simp at hy

theorem one_new (w : World) (x : Value) (t : TypeId) : ∀ j u, [x][j]? = some u → (w.alloc (.cells #[x] t)).cell? ((⟨w.heap.size, 0, none⟩ : Addr).add j) = some u := by
  intro j u hu
  match j, hu with
  | 0, hu => simp at hu; subst hu; rw [Addr.add_lit]; go_simp
  | j + 1, hu => simp at hu

theorem info_ii : (Try.prog.info? 29).map (fun i => (i.zero, i.size, i.bytes)) = some (some (.slice none 0 0), 1, 24) := by kernel_rfl
set_option maxRecDepth 100000 in
set_option maxHeartbeats 4000000 in
theorem wear_any (v : Value) (by_ : List Int) (n many : Nat) (w : World) (hs : Sl w 1 eU v by_) (hb : ∀ x ∈ by_, 0 ≤ x ∧ x ≤ 255) (hn1 : 1 ≤ n) (hn : n ≤ 20) (hm1 : 1 ≤ many) (hm : many ≤ 3) :
    Calls Try.prog 18 #[v, .int .i64 n, .int .i64 many] w (WearsOk by_ n many w) := by
  have HAT : Aside (∀ (i : Nat) (W : World), W.cell? ⟨w.heap.size, 0, none⟩ = some v → Below w.heap.size w W → Calls Try.prog 45 #[.int .i64 i, .pointer (some ⟨w.heap.size, 0, none⟩)] W (Ret (.int .i64 (atB by_ i)) W)) := fun i W h hW => at_any _ v by_ i W h (hs.below hW) hb
  have HBD : Aside (∀ i, 0 ≤ atB by_ i ∧ atB by_ i ≤ 255) := atB_bd hb
  have HW1 : Aside (∀ k, wornB by_ (k + 1) = wornB by_ k ++ [3 * atB by_ k]) := wornB_succ by_
  have HW2 : Aside (∀ j k, weekB by_ (j + 1) k = weekB by_ j k ++ [atB by_ (j + 5 * k + 1)]) := fun j k => weekB_succ by_ j k
  obtain ⟨a, c, rfl, hl, _⟩ := hs
  clear hb
  generalize by_.length = lb at *
  obtain ⟨i0, hi, hz0, hz1, hz2⟩ := info_parts info_ints
  obtain ⟨i1, hii, hy0, hy1, hy2⟩ := info_parts info_ii
  go_enter Try.func18, Try.ntmps18
  go_wp2_with fail
  obtain ⟨W0, hW0⟩ : ∃ W0, W0 = ((w.alloc (.cells #[.slice a lb c] 22)).alloc (.cells #[] 3)).alloc (.cells #[] 29) := ⟨_, rfl⟩
  rw [← hW0]
  have s0 : W0.heap.size = w.heap.size + 3 := by rw [hW0]; simp
  have B0 : Below w.heap.size w W0 := by rw [hW0]; clear hW0; (repeat' (first | exact Below.refl _ _ | assumption | (with_reducible refine Below.drew ?_) | (with_reducible refine Below.setCell ?_ (by (first | (simp; done) | (simp; omega))) _) | (with_reducible refine below_drewN' ?_ _) | (refine Below.alloc ?_ (by (try simp only [World.size_alloc, World.size_drew, World.size_setCell]); omega) _) | (refine Below.trans ?_ (Below.mono (by assumption) (by (try simp only [World.size_alloc, World.size_drew, World.size_setCell]); omega)))))
  have k0 : W0.cell? ⟨w.heap.size, 0, none⟩ = some (.slice a lb c) := by rw [hW0]; clear hW0; go_simp
  have o1 : W0.ownsRow (w.heap.size + 1) 3 1 (.slice (some ⟨w.heap.size + 1, 0, none⟩) 0 0) 0 ((wornB by_ 0).map (Value.int .i64)) := by
    rw [hW0]
    have := owns_empty (w.alloc (.cells #[.slice a lb c] 22)) 3 1
    simp only [World.size_alloc] at this
    exact owns_below this ((Below.refl _ _).alloc (Nat.le_refl _) _)
  have o2 : W0.ownsRow (w.heap.size + 1) 29 1 (.slice (some ⟨w.heap.size + 1 + 1, 0, none⟩) 0 0) 0 [] := by
    rw [hW0]
    have := owns_empty ((w.alloc (.cells #[.slice a lb c] 22)).alloc (.cells #[] 3)) 29 1
    simp only [World.size_alloc] at this
    exact Go.Joins.ownsRow_le this (by omega)
  clear hW0
  have S0 : Aside (W0.heap.size = w.heap.size + 3) := s0
  have BW0 : Aside (Below w.heap.size w W0) := B0
  have K0 : Aside (∀ wr, Below (w.heap.size + 1) W0 wr → wr.cell? ⟨w.heap.size, 0, none⟩ = some (.slice a lb c)) := fun wr h => (World.cell?_of_block (a := ⟨w.heap.size, 0, none⟩) (h.block _ (by simp))).trans k0
  have BWK : Aside (∀ wr, Below (w.heap.size + 1) W0 wr → Below w.heap.size w wr) := fun wr h => B0.trans (Go.Joins.below_le h (by omega))
  clear s0 B0 k0
  have HAT2 : Aside (∀ (j k : Nat) (W : World), W.cell? ⟨w.heap.size, 0, none⟩ = some (.slice a lb c) → Below w.heap.size w W → Calls Try.prog 45 #[.int .i64 ((j : Int) + 5 * (k : Int) + 1), .pointer (some ⟨w.heap.size, 0, none⟩)] W (Ret (.int .i64 (atB by_ (j + 5 * k + 1))) W)) := by
    intro j k W h hW
    have := HAT.out (j + 5 * k + 1) W h hW
    rwa [show (((j + 5 * k + 1 : Nat)) : Int) = (j : Int) + 5 * (k : Int) + 1 by omega] at this
  go_loopg [9, 11] n (fun gg s9 iv wr => ∃ (k : Nat) (v1 : Value), k ≤ n ∧ n - k ≤ gg ∧ iv = .int .i64 k ∧ v1 = s9 ∧ wr.ownsRow (w.heap.size + 1) 3 1 v1 k ((wornB by_ k).map (Value.int .i64)) ∧ wr.ownsRow (w.heap.size + 1) 29 1 (.slice (some ⟨w.heap.size + 1 + 1, 0, none⟩) 0 0) 0 [] ∧ Aside (Below (w.heap.size + 1) W0 wr))
  case atStart => exact ⟨0, _, Nat.zero_le _, by omega, rfl, rfl, o1, o2, Below.refl _ _⟩
  case round =>
    obtain ⟨k, v1, hk, hg, rfl, rfl, own1, own2, BK⟩ := hrel
    by_cases hlt : k < n
    · have hltz : (k : Int) < (n : Int) := by omega
      have kc := K0.out wr BK.out
      have bw := BWK.out wr BK.out
      obtain ⟨u1, u2⟩ := HBD.out k
      have x1 := HAT.out k wr kc bw
      have HE := HW1.out k
      have HE2 : Aside _ := HE
      clear HE
      generalize atB by_ k = x at *
      go_wp2_with (first | (go_at_call 45; (with_reducible refine x1.mono ?_); rintro e w1 ⟨rfl, hb1⟩) | (at_builtin; refine wpList_append_own _ rfl _ _ 29 rfl (w.heap.size + 1) 3 i0 (.int .i64 0) 1 8 Try.underlying29 hi hz0 hz1 hz2 rfl (by decide) v1 k _ rfl ((owns_below own1 hb1).alloc _) ⟨w1.heap.size, 0, none⟩ 1 1 [.int .i64 (3 * x)] rfl rfl (one_new w1 _ _) (by intro u hu; simp at hu; subst hu; rfl) (by unfold maxLen; omega) (by omega) (by simp; have := hb1.size; have := bw.size; omega) ?_; intro v' w2 hown2 hgrow2 _))
      go_roundg (n - (k + 1))
      case measure => omega
      case rel =>
        have ow := (owns_below own1 hb1).alloc (.cells #[.int .i64 (3 * x)] 3)
        have z1 := hb1.size
        have z2 : w.heap.size + 1 ≤ wr.heap.size := by have := BK.out.size; have := S0.out; omega
        exact ⟨k + 1, _, by omega, by omega, by go_num, rfl, by rw [HE2.out, List.map_append]; exact hown2, owns_apart ((owns_below own2 hb1).alloc _) ow (by decide) hgrow2, (BK.out.trans ((hb1.mono z2).trans ((Below.refl _ _).alloc (by omega) _))).grown hgrow2 (by simp; omega) (fun r e => (ow.lt r e).1)⟩
    · have hke : k = n := by omega
      subst hke
      have hltz : ¬ (k : Int) < (k : Int) := by omega
      go_wp2_with fail
      have own3 : Aside (wr.ownsRow (w.heap.size + 1) 3 1 v1 k ((wornB by_ k).map (Value.int .i64))) := own1
      clear own1 hlt hltz hg o1 o2
      obtain ⟨wa, hwa⟩ : ∃ wa : World, wa = wr := ⟨_, rfl⟩
      rw [← hwa] at own3 own2 BK ⊢
      clear hwa
      go_loopg [10, 12] many (fun gg s10 iv wr => ∃ (q : Nat) (v2 : Value) (ws : List (Value × List Int)), q ≤ many ∧ many - q ≤ gg ∧ iv = .int .i64 q ∧ v2 = s10 ∧ Aside (wr.ownsRow (w.heap.size + 1) 3 1 v1 k ((wornB by_ k).map (Value.int .i64))) ∧ wr.ownsRow (w.heap.size + 1) 29 1 v2 q (ws.map (·.1)) ∧ Aside (ws.length = q ∧ ws.map (·.2) = (List.range q).map (weekB by_ k) ∧ ∀ x ∈ ws, wr.ownsRow (w.heap.size + 1) 3 1 x.1 k (x.2.map (Value.int .i64))) ∧ Aside (Below (w.heap.size + 1) W0 wr))
      case atStart => exact ⟨0, _, [], Nat.zero_le _, by omega, rfl, rfl, own3, own2, ⟨rfl, rfl, by simp⟩, BK⟩
      case round =>
        obtain ⟨q, v2, ws, hq, hg, rfl, rfl, own3, own2, HWS, BK⟩ := hrel
        by_cases hlt : q < many
        · have hltz : (q : Int) < (many : Int) := by omega
          go_wp2_with fail
          obtain ⟨wo, rfl⟩ : ∃ wo : World, wo = wr := ⟨_, rfl⟩
          have z2 : w.heap.size + 1 ≤ wo.heap.size := by have := BK.out.size; have := S0.out; omega
          have oe : (wo.alloc (.cells #[] 3)).ownsRow wo.heap.size 3 1 (.slice (some ⟨wo.heap.size, 0, none⟩) 0 0) 0 ((weekB by_ 0 q).map (Value.int .i64)) := owns_empty wo _ 1
          have be : Below wo.heap.size wo (wo.alloc (.cells #[] 3)) := (Below.refl _ _).alloc (Nat.le_refl _) _
          go_loopg [13, 14] k (fun gg s13 iv wq => ∃ (j : Nat) (u : Value), j ≤ k ∧ k - j ≤ gg ∧ iv = .int .i64 j ∧ u = s13 ∧ wq.ownsRow wo.heap.size 3 1 u j ((weekB by_ j q).map (Value.int .i64)) ∧ Aside (Below wo.heap.size wo wq))
          case atStart => exact ⟨0, _, Nat.zero_le _, by omega, rfl, rfl, oe, be⟩
          case round =>
            obtain ⟨j, u, hj, hgj, rfl, rfl, ownu, BQ⟩ := hrel
            have z3 := BQ.out.size
            by_cases hlj : j < k
            · have hljz : (j : Int) < (k : Int) := by omega
              have bq : Below (w.heap.size + 1) W0 wr := BK.out.trans (BQ.out.mono z2)
              have kc := K0.out _ bq
              have bw := BWK.out _ bq
              obtain ⟨u1, u2⟩ := HBD.out (j + 5 * q + 1)
              have x1 := HAT2.out j q wr kc bw
              have HE2 : Aside _ := HW2.out j q
              clear bq
              generalize atB by_ (j + 5 * q + 1) = x at *
              go_wp2_with (first | (go_at_call 45; (with_reducible refine x1.mono ?_); rintro e w1 ⟨rfl, hb1⟩) | (at_builtin; refine wpList_append_own _ rfl _ _ 29 rfl wo.heap.size 3 i0 (.int .i64 0) 1 8 Try.underlying29 hi hz0 hz1 hz2 rfl (by decide) u j _ rfl ((owns_below ownu hb1).alloc _) ⟨w1.heap.size, 0, none⟩ 1 1 [.int .i64 x] rfl rfl (one_new w1 _ _) (by intro u hu; simp at hu; subst hu; rfl) (by unfold maxLen; omega) (by omega) (by simp; have := hb1.size; omega) ?_; intro v' w2 hown2 hgrow2 _))
              go_roundg (k - (j + 1))
              case measure => omega
              case rel =>
                have ow := (owns_below ownu hb1).alloc (.cells #[.int .i64 x] 3)
                have z1 := hb1.size
                exact ⟨j + 1, _, by omega, by omega, by go_num, rfl, by rw [HE2.out, List.map_append]; exact hown2, (BQ.out.trans ((hb1.mono z3).trans ((Below.refl _ _).alloc (by omega) _))).grown hgrow2 (by simp; omega) (fun r e => (ow.lt r e).1)⟩
            · have hje : j = k := by omega
              subst hje
              have hljz : ¬ (j : Int) < (j : Int) := by omega
              obtain ⟨gu, cu, rfl⟩ := ownsRow_form ownu (by omega)
              have ov2 := owns_below own2 BQ.out
              have ov3 : Aside _ := owns_below own3.out BQ.out
              have ovu : Aside _ := Go.Joins.ownsRow_le ownu z2
              clear own2 ownu
              go_wp2_with (at_builtin; refine wpList_append_own _ rfl _ _ 61 rfl (w.heap.size + 1) 29 i1 (.slice none 0 0) 1 24 Try.underlying61 hii hy0 hy1 hy2 rfl (by decide) v2 q _ rfl (ov2.alloc _) ⟨wr.heap.size, 0, none⟩ 1 1 [.slice (some ⟨gu, 0, none⟩) j cu] rfl rfl (one_new wr _ _) (by intro u hu; simp at hu; subst hu; rfl) (by unfold maxLen; omega) (by omega) (by simp; omega) ?_; intro v' w2 hown2 hgrow2 _)
              go_roundg (many - (q + 1))
              case measure => omega
              case rel =>
                have ow := ov2.alloc (.cells #[.slice (some ⟨gu, 0, none⟩) j cu] 29)
                obtain ⟨h1, h2, h3⟩ := HWS.out
                refine ⟨q + 1, _, ws ++ [(.slice (some ⟨gu, 0, none⟩) j cu, weekB by_ j q)], by omega, by omega, by go_num, rfl, owns_apart (World.ownsRow.alloc ov3.out _) ow (by decide) hgrow2, by rw [List.map_append]; exact hown2, ⟨by simp; omega, by rw [List.map_append, h2, List.range_succ, List.map_append]; rfl, ?_⟩, ((BK.out.trans (BQ.out.mono z2)).trans ((Below.refl _ _).alloc (by omega) _)).grown hgrow2 (by simp; omega) (fun r e => (ow.lt r e).1)⟩
                intro x hx
                rcases List.mem_append.1 hx with hx | hx
                · exact owns_apart ((owns_below (h3 x hx) BQ.out).alloc _) ow (by decide) hgrow2
                · rw [List.mem_singleton] at hx
                  subst hx
                  exact owns_apart (World.ownsRow.alloc ovu.out _) ow (by decide) hgrow2
        · have hqe : q = many := by omega
          subst hqe
          have hltz : ¬ (q : Int) < (q : Int) := by omega
          go_wp2_with fail
          go_ret2
          obtain ⟨h1, h2, h3⟩ := HWS.out
          have hcap : ∃ g c, v2 = .slice (some ⟨g, 0, none⟩) q c ∧ q ≤ c := by
            rcases own2.2 with ⟨_, h0⟩ | ⟨g, cap, cur, e, _, _, hqc, _⟩
            · omega
            · exact ⟨g, cap, e, hqc⟩
          refine ⟨v1, v2, ws, rfl, ?_, ?_, hcap, h2, ?_, BWK.out _ BK.out⟩
          · have hlen : (wornB by_ k).length = k := by unfold wornB; simp
            exact sl_of_own1 (Value.int .i64) (by omega) own3.out hlen.symm (by intro e; rw [e] at hlen; simp at hlen; omega)
          · exact sl_of_own1 (·.1) (by omega) own2 h1.symm (by intro e; rw [e] at h1; simp at h1; omega)
          · intro x hx
            have hm2 : x.2 ∈ (List.range q).map (weekB by_ k) := by rw [← h2]; exact List.mem_map.2 ⟨x, hx, rfl⟩
            obtain ⟨y, hy, e⟩ := List.mem_map.1 hm2
            have hlen : x.2.length = k := by rw [← e]; unfold weekB; simp
            exact sl_of_own1 (Value.int .i64) (by omega) (h3 x hx) hlen.symm (by intro e; rw [e] at hlen; simp at hlen; omega)
end Go.Proofs.Ytifabfbnjnjhlaa
