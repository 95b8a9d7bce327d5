/- Leg: parts Nb, Nd, Ne, Ae, Af, Ah. -/
import Derived.Test.YtnhjoebdmmelaaaMav
import Derived.Test.YtnhjoebdmmelaaaMaz
import Derived.Test.YtnhjoebdmmelaaaMay
import Derived.Test.YtnhjoebdmmelaaaMao
set_option linter.unusedVariables false
set_option linter.unusedSimpArgs false
namespace Go.Proofs.Ytnhjoebdmmelaaa
section
open Go.RowKit Go.Maps Go.Sort Go.Shelf Go.Deep
theorem bb_cases (a b : Bool) : (a = true ∧ b = true) ∨ (a = true ∧ b = false) ∨ (a = false ∧ b = true) ∨ (a = false ∧ b = false) := by cases a <;> cases b <;> simp
theorem told_pos {r : LegR} (hr : r.Ok) {bs : List Int} (hb : ∀ x ∈ bs, 0 ≤ x ∧ x ≤ 255) {N : Nat} (hN : 0 < N) : 0 < (talK r bs N).vs.length := by
 rcases Nat.eq_zero_or_pos (talK r bs N).vs.length with h | h
 ·have e := tal_len_eq hr hb N
  rw [h] at e
  have ho : (talK r bs N).g.over = false := by rw [← e]; rfl
  have := (tal_inv hr hb N).len ho
  omega
 ·exact h
theorem told_vs {r : LegR} (hr : r.Ok) {bs : List Int} (hb : ∀ x ∈ bs, 0 ≤ x ∧ x ≤ 255) (N : Nat) : ∀ x ∈ (talK r bs N).vs, x.2.length ≤ 6 ∧ ∀ b ∈ x.2, -9223372036854775808 ≤ b ∧ b ≤ 9223372036854775807 := by
 intro x hx
 obtain ⟨j, hj⟩ := List.getElem?_of_mem hx
 have hlt := (List.getElem?_eq_some_iff.1 hj).1
 rw [(tal_pre hr hb N j hlt).2.2.1] at hj
 cases hj
 have := nam_beds (r := r) (bs := bs) hb j
 exact ⟨by have := this.2.1; show (talT r bs (talK r bs j) j).1.length ≤ 6; omega, fun b hb => by have := vbed_bd (this.2.2 b hb); omega⟩
theorem told_get {r : LegR} (hr : r.Ok) {bs : List Int} (hb : ∀ x ∈ bs, 0 ≤ x ∧ x ≤ 255) {N i : Nat} {lv : List (Int × Value × List Int)} {p : Int} {vb : Value} {xs : List Int} (hl : lv.map prV = (talK r bs N).vs) (hx : lv[i]? = some (p, vb, xs)) : p = (talP r i : Int) ∧ xs = (talT r bs (talK r bs i) i).1 ∧ (talK r bs i).g.over = false ∧ 0 < xs.length ∧ xs.length ≤ 3 := by
 have hv : (talK r bs N).vs[i]? = some (p, xs) := by rw [← hl, List.getElem?_map, hx]; rfl
 have hlt := (List.getElem?_eq_some_iff.1 hv).1
 obtain ⟨a1, a2, a3, a4⟩ := tal_pre hr hb N i hlt
 rw [a3] at hv
 simp only [Option.some.injEq, Prod.mk.injEq] at hv
 obtain ⟨e1, e2⟩ := hv
 obtain ⟨n1, n2, n3⟩ := nam_beds (r := r) (bs := bs) hb i
 rw [e2] at n1 n2 n3
 exact ⟨e1.symm, e2.symm, a1, n1, n2⟩
structure VisJ (r : LegR) (g g' : LegG) (k : Nat) (xs : List Int) (c : Cnt) (bk : Bool) (lk : Int) (t : Thr) : Prop where
 lt : k < r.counts.length
 cnt : r.counts[k]? = some c
 inn : g.inn[k]? = some bk
 left : g.left[k]? = some lk
 vis : visitF c bk lk xs = (t, 0)
 s0 : 0 ≤ t.score
 s1 : t.score = lk - t.left
 b : t.bust = true → t.score = 0
 w : t.won = decide (t.left = 0)
 d : t.darts = (xs.length : Int)
 l0 : 0 ≤ t.left
 gl : g'.left = g.left.set k t.left
 gi : g'.inn = g.inn.set k t.inn
 gs : sumT r g' = (sumT r g).set k ((c.1 - lk) + t.score)
 ss : (sumT r g)[k]? = some (c.1 - lk)
 lb : 0 ≤ lk ∧ lk ≤ 1001
 cb : 0 ≤ c.1 ∧ c.1 ≤ 1001
theorem told_step {r : LegR} (hr : r.Ok) {bs : List Int} (hb : ∀ x ∈ bs, 0 ≤ x ∧ x ≤ 255) {i : Nat} (ho : (talK r bs i).g.over = false) : ∃ c bk lk t, VisJ r (talK r bs i).g (talK r bs (i + 1)).g (talP r i) (talT r bs (talK r bs i) i).1 c bk lk t := by
 obtain ⟨t, h⟩ := told_visit hr hb ho
 have hG := told_end hr hb i
 obtain ⟨c, hc⟩ : ∃ c, r.counts[talP r i]? = some c := ⟨_, List.getElem?_eq_getElem h.lt⟩
 obtain ⟨bk, hbk⟩ : ∃ c, (talK r bs i).g.inn[talP r i]? = some c := ⟨_, List.getElem?_eq_getElem (by rw [hG.l3]; exact h.lt)⟩
 obtain ⟨lk, hlk⟩ : ∃ c, (talK r bs i).g.left[talP r i]? = some c := ⟨_, List.getElem?_eq_getElem (by rw [hG.l1]; exact h.lt)⟩
 have e1 : cntAt r (talP r i) = c := by unfold cntAt; rw [List.getD_eq_getElem?_getD, hc]; rfl
 have e2 : (talK r bs i).g.inn.getD (talP r i) false = bk := by rw [List.getD_eq_getElem?_getD, hbk]; rfl
 have e3 : (talK r bs i).g.left.getD (talP r i) 0 = lk := by rw [List.getD_eq_getElem?_getD, hlk]; rfl
 have hv := h.vis
 rw [e1, e2, e3] at hv
 have hf := h.fin
 rw [e3] at hf
 have hcb := vcnt_bd (hr.cnt c (List.mem_of_getElem? hc))
 have hs := sumT_step hG.l1 h.lt h.left (by rw [e3]; exact hf.s1)
 rw [e1, e3] at hs
 have hss := sumT_get (g := (talK r bs i).g) h.lt
 rw [e1, e3] at hss
 exact ⟨c, bk, lk, t, h.lt, hc, hbk, hlk, hv, hf.s0, hf.s1, hf.b, hf.w, hf.d, hf.l0, h.left, h.inn, hs, hss, hG.left lk (List.mem_of_getElem? hlk), by omega⟩
theorem sl_form {w : World} {v : Value} {xs : List Int} {n : Nat} (h : Sl w 1 eI v xs) (hn : xs.length = n) (h0 : 0 < n) : ∃ b o c, v = .slice (some ⟨b, o, none⟩) n c ∧ b < w.heap.size ∧ ∀ k x, xs[k]? = some x → w.cell? ⟨b, o + k, none⟩ = some (.int .i64 x) := by
 obtain ⟨a, c, rfl, -, h2⟩ := h
 obtain ⟨b, o, rfl, hb, h3⟩ := h2 (fun e => by rw [e] at hn; simp at hn; omega)
 exact ⟨b, o, c, by rw [hn], hb, fun k x hx => by have := h3 k x hx 0 _ rfl; simpa using this⟩
theorem sl_formB {w : World} {v : Value} {xs : List Bool} {n : Nat} (h : Sl w 1 eB v xs) (hn : xs.length = n) (h0 : 0 < n) : ∃ b o c, v = .slice (some ⟨b, o, none⟩) n c ∧ b < w.heap.size ∧ ∀ k x, xs[k]? = some x → w.cell? ⟨b, o + k, none⟩ = some (.bool x) := by
 obtain ⟨a, c, rfl, -, h2⟩ := h
 obtain ⟨b, o, rfl, hb, h3⟩ := h2 (fun e => by rw [e] at hn; simp at hn; omega)
 exact ⟨b, o, c, by rw [hn], hb, fun k x hx => by have := h3 k x hx 0 _ rfl; simpa using this⟩
theorem sl_formC {w : World} {a : Option Addr} {n c : Nat} {xs : List Cnt} (h : Sl w 3 encC (.slice a n c) xs) (hn : xs.length = n) (h0 : 0 < n) : ∃ b o, a = some ⟨b, o, none⟩ ∧ b < w.heap.size ∧ ∀ k x, xs[k]? = some x → w.cell? ⟨b, o + k * 3, none⟩ = some (.int .i64 x.1) ∧ w.cell? ⟨b, o + k * 3 + 1, none⟩ = some (.int .i64 x.2.1) ∧ w.cell? ⟨b, o + k * 3 + 2, none⟩ = some (.int .i64 x.2.2) := by
 obtain ⟨a', c', e, -, h2⟩ := h
 simp only [Value.slice.injEq] at e
 obtain ⟨rfl, -, -⟩ := e
 obtain ⟨b, o, rfl, hb, h3⟩ := h2 (fun e => by rw [e] at hn; simp at hn; omega)
 exact ⟨b, o, rfl, hb, fun k x hx => ⟨by have := h3 k x hx 0 _ rfl; simpa using this, by have := h3 k x hx 1 _ rfl; simpa using this, by have := h3 k x hx 2 _ rfl; simpa using this⟩⟩
theorem flat_ints (xs : List Int) : (xs.map eI).flatten = xs.map (Value.int .i64) := by
 induction xs with
 | nil => rfl
 | cons a l ih => rw [List.map_cons, List.flatten_cons, List.map_cons, ih]; rfl
theorem flat_bools (xs : List Bool) : (xs.map eB).flatten = xs.map Value.bool := by
 induction xs with
 | nil => rfl
 | cons a l ih => rw [List.map_cons, List.flatten_cons, List.map_cons, ih]; rfl
theorem row_ints {w : World} {base n : Nat} {v : Value} {xs : List Int} (h : w.ownsRow base 3 1 v n (xs.map (Value.int .i64))) (hl : xs.length ≤ 1000) : Sl w 1 eI v xs := by
 have hn : n = xs.length := by have := h.1; rw [List.length_map] at this; omega
 subst hn
 exact sl_owns (fun _ => rfl) (by omega) (by rw [flat_ints]; exact h)
theorem row_bools {w : World} {base n : Nat} {v : Value} {xs : List Bool} (h : w.ownsRow base 4 1 v n (xs.map Value.bool)) (hl : xs.length ≤ 1000) : Sl w 1 eB v xs := by
 have hn : n = xs.length := by have := h.1; rw [List.length_map] at this; omega
 subst hn
 exact sl_owns (fun _ => rfl) (by omega) (by rw [flat_bools]; exact h)
theorem tlr_rows {w W : World} {Z : Nat} {g : LegG} {vs : List (Int × List Int)} {vv : Nat → Value} {nn : Nat → Nat} {xx : Nat → List Value} (h : TlR w Z g vs vv nn xx W) (h1 : g.left.length ≤ 1000) (h2 : g.darts.length ≤ 1000) (h3 : g.inn.length ≤ 1000) (h4 : g.ended.length ≤ 1000) : Sl W 1 eI (vv 0) g.left ∧ Sl W 1 eI (vv 1) g.darts ∧ Sl W 1 eB (vv 2) g.inn ∧ Sl W 1 eI (vv 3) (g.ended.map (·.1)) ∧ Sl W 1 eI (vv 4) (g.ended.map (·.2)) := by
 have o0 := h.rows.own 0 (by decide)
 change W.ownsRow Z 3 1 (vv 0) (nn 0) (xx 0) at o0
 rw [h.x0] at o0
 have o1 := h.rows.own 1 (by decide)
 change W.ownsRow Z 3 1 (vv 1) (nn 1) (xx 1) at o1
 rw [h.x1] at o1
 have o2 := h.rows.own 2 (by decide)
 change W.ownsRow Z 4 1 (vv 2) (nn 2) (xx 2) at o2
 rw [h.x2] at o2
 have o3 := h.rows.own 3 (by decide)
 change W.ownsRow Z 3 1 (vv 3) (nn 3) (xx 3) at o3
 rw [h.x3] at o3
 have o4 := h.rows.own 4 (by decide)
 change W.ownsRow Z 3 1 (vv 4) (nn 4) (xx 4) at o4
 rw [h.x4] at o4
 exact ⟨row_ints o0 h1, row_ints o1 h2, row_bools o2 h3, row_ints (xs := g.ended.map (·.1)) (by rw [List.map_map]; exact o3) (by rw [List.length_map]; exact h4), row_ints (xs := g.ended.map (·.2)) (by rw [List.map_map]; exact o4) (by rw [List.length_map]; exact h4)⟩
def fillL {α : Type} (xs : List α) (z : α) (n k : Nat) : List α := xs.take k ++ List.replicate (n - k) z
theorem fill_zero {α : Type} (xs : List α) (z : α) (n : Nat) : fillL xs z n 0 = List.replicate n z := by unfold fillL; simp
theorem fill_all {α : Type} {xs : List α} (z : α) {n : Nat} (h : xs.length = n) : fillL xs z n n = xs := by unfold fillL; rw [← h, List.take_length, Nat.sub_self]; simp
theorem fill_step {α : Type} {xs : List α} {z x : α} {n k : Nat} (hl : xs.length = n) (hx : xs[k]? = some x) : (fillL xs z n k).set k x = fillL xs z n (k + 1) := by
 have hk : k < n := by rw [← hl]; exact (List.getElem?_eq_some_iff.1 hx).1
 unfold fillL
 apply List.ext_getElem?
 intro j
 by_cases hjk : k = j
 ·subst hjk
  rw [List.getElem?_set_self (by rw [List.length_append, List.length_take, List.length_replicate]; omega), List.getElem?_append_left (by rw [List.length_take]; omega), List.getElem?_take, if_pos (Nat.lt_succ_self _), hx]
 ·rw [List.getElem?_set_ne hjk]
  by_cases hj : j < k
  ·rw [List.getElem?_append_left (by rw [List.length_take]; omega), List.getElem?_append_left (by rw [List.length_take]; omega), List.getElem?_take, List.getElem?_take, if_pos hj, if_pos (by omega)]
  ·rw [List.getElem?_append_right (by rw [List.length_take]; omega), List.getElem?_append_right (by rw [List.length_take]; omega), List.getElem?_replicate, List.getElem?_replicate, List.length_take, List.length_take]
   by_cases hjn : j < n
   ·rw [if_pos (by omega), if_pos (by omega)]
   ·rw [if_neg (by omega), if_neg (by omega)]
end
section
open Go.RowKit Go.Maps Go.Sort Go.Shelf Go.Deep
section
variable {wr w5 : World} {g7 g8 b m cv : Nat} {vc : Value} {r : LegR} {lv : List (Int × Value × List Int)} {l : List (Int × List Int)} {gr : LegG} {Q1 Q2 : Value → Prop}
set_option maxRecDepth 100000 in
set_option maxHeartbeats 16000000 in
theorem tol4 {ops : List Oper} {Q : Exit → Act → World → Prop} {a0 : Act} (hru : wr.heap[g7]? = some (.cells #[vc, .int .i64 r.first, .int .i64 r.rounds, .bool r.equal] 42 (0, 0))) (k0 : wr.cell? ⟨g8, 0, none⟩ = some (.slice (some ⟨b, 0, none⟩) m cv)) (X1 : Aside (∀ W, Below wr.heap.size wr W → Calls Try.prog 19 #[.agg #[vc, .int .i64 r.first, .int .i64 r.rounds, .bool r.equal]] W (RulesOk r W))) (X2 : Aside (∀ W, Below wr.heap.size wr W → Calls Try.prog 20 #[.slice (some ⟨b, 0, none⟩) m cv] W (VisitsOk lv W))) (HLV : Aside (lv.map prV = l)) (X3 : Aside (∀ W vc' v', Below wr.heap.size wr W → Sl W 3 encC vc' r.counts → VisS l v' W → Calls Try.prog 22 #[.agg #[vc', .int .i64 r.first, .int .i64 r.rounds, .bool r.equal], v'] W (fun e w' => Below W.heap.size W w' ∧ ∃ v y z, e = .returned (.tuple #[v, y, z]) ∧ Q1 y ∧ Q2 z ∧ StAt w' v gr W.heap.size))) (hops : regOps 4 Try.f8 = some ops) (hsz0 : a0.tmps.size = 405) (hs3 : a0.tmps.getD 3 undef = .pointer (some ⟨g7, 0, none⟩)) (hs4 : a0.tmps.getD 4 undef = .pointer (some ⟨g8, 0, none⟩))
  (hrest : ∀ (ac : Act) (w5 : World), LaidG ops.toArray a0 (fun (i : Nat) (x : Value) (ww : World) => (match i with | 0 => x = .agg #[vc, .int .i64 r.first, .int .i64 r.rounds, .bool r.equal] | 1 => True | 2 => x = .pointer (some ⟨g8, 0, none⟩) | 3 => x = .slice (some ⟨b, 0, none⟩) m cv | 4 => True | 5 => True | 6 => True | 7 => True | 8 => Q1 x | 9 => Q2 x | 10 => True | 11 => True | 12 => Q1 x | 13 => Q2 x | _ => True : Prop)) (CR wr r l gr Q1 Q2 40 43 44 38 45 5) #[true, true, true, true, true, true, true, true, true, true, true, true, true, true] ac w5 → wpAny Try.prog .any ops.toArray Q 0 #[true, true, true, true, true, true, true, true, true, true, true, true, true, true] ac w5) : (Code.region 4 ops.toArray true).wp Try.prog Q a0 wr := by
 (conv at hops => lhs; whnf)
 obtain rfl := Option.some.inj hops
 clear hops
 refine region_laidK (fun _ _ => True) (fl := 16) [true, true, true, true, true, true, true, true, true, true, true, true, true, true] 0 (fun (i : Nat) (x : Value) (ww : World) => (match i with | 0 => x = .agg #[vc, .int .i64 r.first, .int .i64 r.rounds, .bool r.equal] | 1 => True | 2 => x = .pointer (some ⟨g8, 0, none⟩) | 3 => x = .slice (some ⟨b, 0, none⟩) m cv | 4 => True | 5 => True | 6 => True | 7 => True | 8 => Q1 x | 9 => Q2 x | 10 => True | 11 => True | 12 => Q1 x | 13 => Q2 x | _ => True : Prop)) (CR wr r l gr Q1 Q2 40 43 44 38 45 5) (by kernel_rfl) rfl (by rw [hsz0]; decide +kernel) rfl (CR.start _ _) ?mono ?step hrest
 case mono =>
  intro i x ww ww' hB h
  match i, h with
  | 0, h => exact h
  | 1, h => exact h
  | 2, h => exact h
  | 3, h => exact h
  | 4, h => exact h
  | 5, h => exact h
  | 6, h => exact h
  | 7, h => exact h
  | 8, h => exact h
  | 9, h => exact h
  | 10, h => exact h
  | 11, h => exact h
  | 12, h => exact h
  | 13, h => exact h
  | n + 14, h => exact h
 case step =>
  intro i o_ listed ac W hA ho hL he hcl hli hsz
  have hk3 : ac.tmps.getD 3 undef = .pointer (some ⟨g7, 0, none⟩) := (hL.kept 3 (by decide +kernel)).trans hs3
  have hk4 : ac.tmps.getD 4 undef = .pointer (some ⟨g8, 0, none⟩) := (hL.kept 4 (by decide +kernel)).trans hs4
  have y0 : W.cell? ⟨g7, 0, none⟩ = some (vc) := keepc hL.cls.bel (blk_cell hru (i := 0) rfl)
  have y1 : W.cell? ⟨g7, 1, none⟩ = some (.int .i64 r.first) := keepc hL.cls.bel (blk_cell hru (i := 1) rfl)
  have y2 : W.cell? ⟨g7, 2, none⟩ = some (.int .i64 r.rounds) := keepc hL.cls.bel (blk_cell hru (i := 2) rfl)
  have y3 : W.cell? ⟨g7, 3, none⟩ = some (.bool r.equal) := keepc hL.cls.bel (blk_cell hru (i := 3) rfl)
  have z0 := keepc hL.cls.bel k0
  match i, hA, ho with
  | 0, _, ho =>
   cases ho
   refine wpOp_plain rfl rfl ?_
   unfold Oper.wp
   go_simp
   first | exact ⟨_, rfl, trivial, (hL.cls.other rfl rfl (Below.refl _ _)), rfl⟩ | exact ⟨_, rfl, (hL.cls.other rfl rfl (Below.refl _ _)), rfl⟩ | exact ⟨(hL.cls.other rfl rfl (Below.refl _ _)), rfl⟩ | exact (hL.cls.other rfl rfl (Below.refl _ _))
  | 1, _, ho =>
   cases ho
   have d0 : ac.tmps.getD 39 undef = .agg #[vc, .int .i64 r.first, .int .i64 r.rounds, .bool r.equal] := hL.new 0 _ 39 rfl (he ⟨0, .data⟩ (by simp) rfl) rfl
   refine wpOp_plain rfl rfl ?_
   unfold Oper.wp
   go_simp
   refine (X1.out _ hL.cls.bel).mono ?_
   rintro e w' ⟨hBn, vc', rfl, h1⟩
   first | exact ⟨_, rfl, trivial, (hL.cls.rules (show CRd 40 43 44 38 45 5 by unfold CRd; decide) (by rw [hL.size, hsz0]; exact (by decide : (40 : Nat) < 405)) ⟨vc', rfl, h1⟩ hBn), trivial⟩ | exact ⟨_, rfl, trivial, (hL.cls.rules (show CRd 40 43 44 38 45 5 by unfold CRd; decide) (by rw [hL.size, hsz0]; exact (by decide : (40 : Nat) < 405)) ⟨vc', rfl, h1⟩ hBn)⟩ | exact ⟨_, rfl, (hL.cls.rules (show CRd 40 43 44 38 45 5 by unfold CRd; decide) (by rw [hL.size, hsz0]; exact (by decide : (40 : Nat) < 405)) ⟨vc', rfl, h1⟩ hBn)⟩ | exact (hL.cls.rules (show CRd 40 43 44 38 45 5 by unfold CRd; decide) (by rw [hL.size, hsz0]; exact (by decide : (40 : Nat) < 405)) ⟨vc', rfl, h1⟩ hBn)
  | 2, _, ho =>
   cases ho
   refine wpOp_plain rfl rfl ?_
   unfold Oper.wp
   go_simp
   first | exact ⟨_, rfl, trivial, (hL.cls.other rfl rfl (Below.refl _ _)), rfl⟩ | exact ⟨_, rfl, (hL.cls.other rfl rfl (Below.refl _ _)), rfl⟩ | exact ⟨(hL.cls.other rfl rfl (Below.refl _ _)), rfl⟩ | exact (hL.cls.other rfl rfl (Below.refl _ _))
  | 3, _, ho =>
   cases ho
   have d2 : ac.tmps.getD 41 undef = .pointer (some ⟨g8, 0, none⟩) := hL.new 2 _ 41 rfl (he ⟨2, .data⟩ (by simp) rfl) rfl
   refine wpOp_plain rfl rfl ?_
   unfold Oper.wp
   go_simp
   first | exact ⟨_, rfl, trivial, (hL.cls.other rfl rfl (Below.refl _ _)), rfl⟩ | exact ⟨_, rfl, (hL.cls.other rfl rfl (Below.refl _ _)), rfl⟩ | exact ⟨(hL.cls.other rfl rfl (Below.refl _ _)), rfl⟩ | exact (hL.cls.other rfl rfl (Below.refl _ _))
  | 4, _, ho =>
   cases ho
   have d3 : ac.tmps.getD 42 undef = .slice (some ⟨b, 0, none⟩) m cv := hL.new 3 _ 42 rfl (he ⟨3, .data⟩ (by simp) rfl) rfl
   refine wpOp_plain rfl rfl ?_
   unfold Oper.wp
   go_simp
   refine (X2.out _ hL.cls.bel).mono ?_
   rintro e w' ⟨hBn, v', lv', rfl, h1, h2, h3⟩
   first | exact ⟨_, rfl, trivial, (hL.cls.visits (show CRd 40 43 44 38 45 5 by unfold CRd; decide) (by rw [hL.size, hsz0]; exact (by decide : (43 : Nat) < 405)) ⟨lv', h1, h2, h3.trans HLV.out⟩ hBn), trivial⟩ | exact ⟨_, rfl, trivial, (hL.cls.visits (show CRd 40 43 44 38 45 5 by unfold CRd; decide) (by rw [hL.size, hsz0]; exact (by decide : (43 : Nat) < 405)) ⟨lv', h1, h2, h3.trans HLV.out⟩ hBn)⟩ | exact ⟨_, rfl, (hL.cls.visits (show CRd 40 43 44 38 45 5 by unfold CRd; decide) (by rw [hL.size, hsz0]; exact (by decide : (43 : Nat) < 405)) ⟨lv', h1, h2, h3.trans HLV.out⟩ hBn)⟩ | exact (hL.cls.visits (show CRd 40 43 44 38 45 5 by unfold CRd; decide) (by rw [hL.size, hsz0]; exact (by decide : (43 : Nat) < 405)) ⟨lv', h1, h2, h3.trans HLV.out⟩ hBn)
  | 5, _, ho =>
   cases ho
   have n5 : listed.getD 5 false = false := by
    simp only [Array.getD_eq_getD_getElem?] at hli ⊢
    rw [Array.getElem?_eq_getElem (show 5 < listed.size by rw [hsz]; decide)] at hli ⊢
    simpa using hli
   have l1 : listed.getD 1 false = true := he ⟨1, .data⟩ (by simp) rfl
   have l4 : listed.getD 4 false = true := he ⟨4, .data⟩ (by simp) rfl
   obtain ⟨vc', e1, h1⟩ := hL.cls.rul l1 n5
   have h2 := hL.cls.vis l4 n5
   obtain ⟨x4, hx4⟩ : ∃ x, ac.tmps.getD 43 undef = x := ⟨_, rfl⟩
   rw [hx4] at h2
   have e1b := e1
   simp only [Array.getD_eq_getD_getElem?] at e1b
   have e4b := hx4
   simp only [Array.getD_eq_getD_getElem?] at e4b
   have n6 : listed.getD 6 false = false := by
    cases hx : listed.getD 6 false with
    | false => rfl
    | true =>
     have h8 := hcl 6 _ rfl hx ⟨5, .data⟩ (by simp) rfl
     simp only [Array.getD_eq_getD_getElem?] at h8 hli
     rw [Array.getElem?_eq_getElem (show 5 < listed.size by rw [hsz]; decide)] at h8 hli
     rw [Option.getD_some] at h8 hli
     rw [h8] at hli
     exact absurd hli (by simp)
   have n7 : listed.getD 7 false = false := by
    cases hx : listed.getD 7 false with
    | false => rfl
    | true =>
     have h8 := hcl 7 _ rfl hx ⟨6, .data⟩ (by simp) rfl
     rw [n6] at h8; cases h8
   clear l1 l4
   refine wpOp_plain rfl rfl ?_
   unfold Oper.wp
   go_simp
   refine (X3.out _ _ _ hL.cls.bel h1 h2).mono ?_
   rintro e w' ⟨hBn, v, y, z, rfl, hy, hz, hst⟩
   first | exact ⟨_, rfl, trivial, (hL.cls.call (show CRd 40 43 44 38 45 5 by unfold CRd; decide) (by rw [hL.size, hsz0]; exact (by decide : (44 : Nat) < 405)) (by rw [hsz]; exact (by decide : (5 : Nat) < 14)) n6 n7 hy hz hst hBn), trivial⟩ | exact ⟨_, rfl, trivial, (hL.cls.call (show CRd 40 43 44 38 45 5 by unfold CRd; decide) (by rw [hL.size, hsz0]; exact (by decide : (44 : Nat) < 405)) (by rw [hsz]; exact (by decide : (5 : Nat) < 14)) n6 n7 hy hz hst hBn)⟩ | exact ⟨_, rfl, (hL.cls.call (show CRd 40 43 44 38 45 5 by unfold CRd; decide) (by rw [hL.size, hsz0]; exact (by decide : (44 : Nat) < 405)) (by rw [hsz]; exact (by decide : (5 : Nat) < 14)) n6 n7 hy hz hst hBn)⟩ | exact (hL.cls.call (show CRd 40 43 44 38 45 5 by unfold CRd; decide) (by rw [hL.size, hsz0]; exact (by decide : (44 : Nat) < 405)) (by rw [hsz]; exact (by decide : (5 : Nat) < 14)) n6 n7 hy hz hst hBn)
  | 6, _, ho =>
   cases ho
   have l5 : listed.getD 5 false = true := he ⟨5, .data⟩ (by simp) rfl
   obtain ⟨v, y, z, k1, k2, k3, k4⟩ := hL.cls.res l5
   have hm := hL.cls.move (show CRd 40 43 44 38 45 5 by unfold CRd; decide) (by rw [hL.size, hsz0]; exact (by decide : (38 : Nat) < 405))
   rw [k1] at hm
   have k1b := k1
   simp only [Array.getD_eq_getD_getElem?] at k1b
   have HM : Aside _ := hm
   clear hm
   refine wpOp_plain rfl rfl ?_
   unfold Oper.wp
   go_simp
   first | exact ⟨_, rfl, trivial, HM.out, trivial⟩ | exact ⟨_, rfl, trivial, HM.out⟩ | exact ⟨_, rfl, HM.out⟩ | exact HM.out
  | 7, _, ho =>
   cases ho
   have l6 : listed.getD 6 false = true := he ⟨6, .data⟩ (by simp) rfl
   have l5 : listed.getD 5 false = true := hcl 6 _ rfl l6 ⟨5, .data⟩ (by simp) rfl
   obtain ⟨v, y, z, k1, k2, k3, k4⟩ := hL.cls.res l5
   have km := (hL.cls.mv l6).trans k1
   have km2 := km
   simp only [Array.getD_eq_getD_getElem?] at km2
   have n11 : listed.getD 11 false = false := by
    cases hx : listed.getD 11 false with
    | false => rfl
    | true =>
     have h8 := hcl 11 _ rfl hx ⟨7, .data⟩ (by simp) rfl
     simp only [Array.getD_eq_getD_getElem?] at h8 hli
     rw [Array.getElem?_eq_getElem (show 7 < listed.size by rw [hsz]; decide)] at h8 hli
     rw [Option.getD_some] at h8 hli
     rw [h8] at hli
     exact absurd hli (by simp)
   have HM : Aside _ := hL.cls.first (show CRd 40 43 44 38 45 5 by unfold CRd; decide) (by rw [hL.size, hsz0]; exact (by decide : (45 : Nat) < 405)) n11 k1
   clear k4
   refine wpOp_plain rfl rfl ?_
   unfold Oper.wp
   go_simp
   first | exact ⟨_, rfl, trivial, HM.out, trivial⟩ | exact ⟨_, rfl, trivial, HM.out⟩ | exact ⟨_, rfl, HM.out⟩ | exact HM.out
  | 8, _, ho =>
   cases ho
   have l6 : listed.getD 6 false = true := he ⟨6, .data⟩ (by simp) rfl
   have l5 : listed.getD 5 false = true := hcl 6 _ rfl l6 ⟨5, .data⟩ (by simp) rfl
   obtain ⟨v, y, z, k1, k2, k3, k4⟩ := hL.cls.res l5
   have km := (hL.cls.mv l6).trans k1
   have km2 := km
   simp only [Array.getD_eq_getD_getElem?] at km2
   clear k4
   refine wpOp_plain rfl rfl ?_
   unfold Oper.wp
   go_simp
   first | exact ⟨_, rfl, trivial, (hL.cls.other rfl rfl (Below.refl _ _)), k2⟩ | exact ⟨_, rfl, (hL.cls.other rfl rfl (Below.refl _ _)), k2⟩ | exact ⟨(hL.cls.other rfl rfl (Below.refl _ _)), k2⟩
  | 9, _, ho =>
   cases ho
   have l6 : listed.getD 6 false = true := he ⟨6, .data⟩ (by simp) rfl
   have l5 : listed.getD 5 false = true := hcl 6 _ rfl l6 ⟨5, .data⟩ (by simp) rfl
   obtain ⟨v, y, z, k1, k2, k3, k4⟩ := hL.cls.res l5
   have km := (hL.cls.mv l6).trans k1
   have km2 := km
   simp only [Array.getD_eq_getD_getElem?] at km2
   clear k4
   refine wpOp_plain rfl rfl ?_
   unfold Oper.wp
   go_simp
   first | exact ⟨_, rfl, trivial, (hL.cls.other rfl rfl (Below.refl _ _)), k3⟩ | exact ⟨_, rfl, (hL.cls.other rfl rfl (Below.refl _ _)), k3⟩ | exact ⟨(hL.cls.other rfl rfl (Below.refl _ _)), k3⟩
  | 10, _, ho =>
   cases ho
   have n11 : listed.getD 11 false = false := by
    cases hx : listed.getD 11 false with
    | false => rfl
    | true =>
     have h8 := hcl 11 _ rfl hx ⟨10, .data⟩ (by simp) rfl
     simp only [Array.getD_eq_getD_getElem?] at h8 hli
     rw [Array.getElem?_eq_getElem (show 10 < listed.size by rw [hsz]; decide)] at h8 hli
     rw [Option.getD_some] at h8 hli
     rw [h8] at hli
     exact absurd hli (by simp)
   have HM : Aside _ := hL.cls.alloc (show CRd 40 43 44 38 45 5 by unfold CRd; decide) (by rw [hL.size, hsz0]; exact (by decide : (5 : Nat) < 405)) n11
   refine wpOp_plain rfl rfl ?_
   unfold Oper.wp
   go_simp
   first | exact ⟨_, rfl, trivial, HM.out, trivial⟩ | exact ⟨_, rfl, trivial, HM.out⟩ | exact ⟨_, rfl, HM.out⟩ | exact HM.out
  | 11, _, ho =>
   cases ho
   have l7 : listed.getD 7 false = true := he ⟨7, .data⟩ (by simp) rfl
   have l10 : listed.getD 10 false = true := he ⟨10, .data⟩ (by simp) rfl
   have l6 : listed.getD 6 false = true := hcl 7 _ rfl l7 ⟨6, .data⟩ (by simp) rfl
   have l5 : listed.getD 5 false = true := hcl 6 _ rfl l6 ⟨5, .data⟩ (by simp) rfl
   have n11 : listed.getD 11 false = false := by
    simp only [Array.getD_eq_getD_getElem?] at hli ⊢
    rw [Array.getElem?_eq_getElem (show 11 < listed.size by rw [hsz]; decide)] at hli ⊢
    simpa using hli
   obtain ⟨g, g1, g2, g3, g4, -⟩ := hL.cls.blk l10
   replace g4 := g4 n11
   obtain ⟨v, y, z, k1, -, -, k4⟩ := hL.cls.res l5
   obtain ⟨v', y', z', k1', k5⟩ := hL.cls.ex l7
   rw [k1] at k1'
   simp only [Value.tuple.injEq, Array.mk.injEq, List.cons.injEq, and_true] at k1'
   obtain ⟨rfl, rfl, rfl⟩ := k1'
   obtain ⟨vl, vd, vi, vw, rfl, ⟨s1, -⟩, ⟨s2, -⟩, ⟨s3, -⟩, ⟨s4, -⟩⟩ := k4
   obtain ⟨e1, f1, rfl, -⟩ := s1
   obtain ⟨e2, f2, rfl, -⟩ := s2
   obtain ⟨e3, f3, rfl, -⟩ := s3
   obtain ⟨e4, f4, rfl, -⟩ := s4
   have HM : Aside _ := hL.cls.store l10 l5 (by rw [hsz]; exact (by decide : (11 : Nat) < 14)) n11 g1 k5 ac rfl
   have g1b := g1
   simp only [Array.getD_eq_getD_getElem?] at g1b
   have k5b := k5
   simp only [Array.getD_eq_getD_getElem?] at k5b
   have zc0 : W.cell? ⟨g, 0, none⟩ = some (.slice none 0 0) := blk_cell g4 rfl
   have zc1 : W.cell? ⟨g, 1, none⟩ = some (.slice none 0 0) := blk_cell g4 rfl
   have zc2 : W.cell? ⟨g, 2, none⟩ = some (.slice none 0 0) := blk_cell g4 rfl
   have zc3 : W.cell? ⟨g, 3, none⟩ = some (.int .i64 0) := blk_cell g4 rfl
   have zc4 : W.cell? ⟨g, 4, none⟩ = some (.int .i64 0) := blk_cell g4 rfl
   have zc5 : W.cell? ⟨g, 5, none⟩ = some (.bool false) := blk_cell g4 rfl
   have zc6 : W.cell? ⟨g, 6, none⟩ = some (.slice none 0 0) := blk_cell g4 rfl
   have zf : ∀ i, W.frozen? ⟨g, i, none⟩ = false := fun i => blk_free g4 i
   clear g4 k1 k5 l7 l10 l6 l5
   refine wpOp_plain rfl rfl ?_
   unfold Oper.wp
   go_simp
   first | exact HM.out | exact ⟨trivial, HM.out⟩ | exact ⟨trivial, HM.out, trivial⟩ | exact ⟨HM.out, trivial⟩
  | 12, _, ho =>
   cases ho
   obtain ⟨x8, hx8⟩ : ∃ x, ac.tmps.getD 46 undef = x := ⟨_, rfl⟩
   have d8 := hL.new 8 _ 46 rfl (he ⟨8, .data⟩ (by simp) rfl) rfl
   rw [hx8] at d8
   have d8b := hx8
   simp only [Array.getD_eq_getD_getElem?] at d8b
   refine wpOp_plain rfl rfl ?_
   unfold Oper.wp
   go_simp
   first | exact ⟨_, rfl, trivial, (hL.cls.other rfl rfl (Below.refl _ _)), d8⟩ | exact ⟨_, rfl, (hL.cls.other rfl rfl (Below.refl _ _)), d8⟩ | exact ⟨(hL.cls.other rfl rfl (Below.refl _ _)), d8⟩
  | 13, _, ho =>
   cases ho
   obtain ⟨x9, hx9⟩ : ∃ x, ac.tmps.getD 47 undef = x := ⟨_, rfl⟩
   have d9 := hL.new 9 _ 47 rfl (he ⟨9, .data⟩ (by simp) rfl) rfl
   rw [hx9] at d9
   have d9b := hx9
   simp only [Array.getD_eq_getD_getElem?] at d9b
   refine wpOp_plain rfl rfl ?_
   unfold Oper.wp
   go_simp
   first | exact ⟨_, rfl, trivial, (hL.cls.other rfl rfl (Below.refl _ _)), d9⟩ | exact ⟨_, rfl, (hL.cls.other rfl rfl (Below.refl _ _)), d9⟩ | exact ⟨(hL.cls.other rfl rfl (Below.refl _ _)), d9⟩
  | n + 14, hA, _ => simp at hA
end
end
section
open Go.RowKit Go.Maps Go.Sort Go.Shelf Go.Deep
section
variable {wc wr w5 : World} {g7 g8 gL gI gS gX cb co cc k n m b c5 i0 dl c3v : Nat} {c1 c2 c3 tl ts td sk lk lo : Int} {ti tb tw bk : Bool} {a3 : Option Addr} {bs ss ls : List Int} {bo : List Bool}
set_option maxRecDepth 100000 in
set_option maxHeartbeats 16000000 in
theorem tol20 {ops : List Oper} {Q : Exit → Act → World → Prop} {a0 : Act} (k70 : wr.cell? ⟨g7, 0, none⟩ = some (.slice (some ⟨cb, co, none⟩) n cc)) (hkn : k < n) (hkz : (k : Int) < (n : Int)) (q1 : wr.cell? ⟨cb, co + k * 3, none⟩ = some (.int .i64 c1)) (q2 : wr.cell? ⟨cb, co + k * 3 + 1, none⟩ = some (.int .i64 c2)) (q3 : wr.cell? ⟨cb, co + k * 3 + 2, none⟩ = some (.int .i64 c3)) (i1 : wr.cell? ⟨gI, k, none⟩ = some (.bool bk)) (l1 : wr.cell? ⟨gL, k, none⟩ = some (.int .i64 lk)) (k80 : wr.cell? ⟨g8, 0, none⟩ = some (.slice (some ⟨b, 0, none⟩) m c5)) (him : i0 < m) (hiz : (i0 : Int) < (m : Int)) (v1 : wr.cell? ⟨b, i0 * 2 + 1, none⟩ = some (.slice a3 dl c3v)) (HXS : Aside (Sl wr 1 eI (.slice a3 dl c3v) bs)) (HDL : Aside (bs.length = dl ∧ 0 < dl ∧ dl ≤ 6)) (X3 : Aside (∀ W v', Sl W 1 eI v' bs → Calls Try.prog 14 #[.agg #[.int .i64 c1, .int .i64 c2, .int .i64 c3], .bool bk, .int .i64 lk, v'] W (Ret (.tuple #[.agg #[.int .i64 tl, .int .i64 ts, .int .i64 td, .bool ti, .bool tb, .bool tw], .int .i64 0]) W))) (hops : regOps 20 Try.f8 = some ops) (hsz0 : a0.tmps.size = 405) (hs3 : a0.tmps.getD 3 undef = .pointer (some ⟨g7, 0, none⟩)) (hs14 : a0.tmps.getD 14 undef = .int .i64 (k : Int)) (hs11 : a0.tmps.getD 11 undef = .slice (some ⟨gI, 0, none⟩) n n) (hs10 : a0.tmps.getD 10 undef = .slice (some ⟨gL, 0, none⟩) n n) (hs4 : a0.tmps.getD 4 undef = .pointer (some ⟨g8, 0, none⟩)) (hs13 : a0.tmps.getD 13 undef = .int .i64 (i0 : Int))
  (hrest : ∀ (ac : Act) (w5 : World), LaidG ops.toArray a0 (fun (i : Nat) (x : Value) (ww : World) => (match i with | 0 => x = .pointer (some ⟨g7, 0, none⟩) | 1 => x = .slice (some ⟨cb, co, none⟩) n cc | 2 => x = .int .i64 (k : Int) | 3 => x = .pointer (some ⟨cb, co + k * 3, none⟩) | 4 => x = .agg #[.int .i64 c1, .int .i64 c2, .int .i64 c3] | 5 => x = .slice (some ⟨gI, 0, none⟩) n n | 6 => x = .int .i64 (k : Int) | 7 => x = .pointer (some ⟨gI, k, none⟩) | 8 => x = .bool bk | 9 => x = .slice (some ⟨gL, 0, none⟩) n n | 10 => x = .int .i64 (k : Int) | 11 => x = .pointer (some ⟨gL, k, none⟩) | 12 => x = .int .i64 lk | 13 => ∃ g, x = .slice (some ⟨g, 0, none⟩) 0 0 ∧ ww.heap[g]? = some (.cells #[] 34 (0, 0)) | 14 => x = .pointer (some ⟨g8, 0, none⟩) | 15 => x = .slice (some ⟨b, 0, none⟩) m c5 | 16 => x = .int .i64 (i0 : Int) | 17 => x = .pointer (some ⟨b, i0 * 2, none⟩) | 18 => x = .pointer (some ⟨b, i0 * 2 + 1, none⟩) | 19 => x = .slice a3 dl c3v | 20 => RowB ww 1 eI 34 x bs | 21 => x = .tuple #[.agg #[.int .i64 tl, .int .i64 ts, .int .i64 td, .bool ti, .bool tb, .bool tw], .int .i64 0] | 22 => x = .tuple #[.agg #[.int .i64 tl, .int .i64 ts, .int .i64 td, .bool ti, .bool tb, .bool tw], .int .i64 0] | 23 => x = .agg #[.int .i64 tl, .int .i64 ts, .int .i64 td, .bool ti, .bool tb, .bool tw] | 24 => x = .int .i64 0 | 25 => True | 26 => True | 27 => x = .int .i64 0 | _ => True : Prop)) (Cl wr [(⟨25, 26, 15, .cells #[.int .i64 0, .int .i64 0, .int .i64 0, .bool false, .bool false, .bool false] 30 (0, 0), .cells #[.int .i64 tl, .int .i64 ts, .int .i64 td, .bool ti, .bool tb, .bool tw] 30 (0, 0)⟩ : AS)]) #[true, true, true, true, true, true, true, true, true, true, true, true, true, true, true, true, true, true, true, true, true, true, true, true, true, true, true, true] ac w5 → wpAny Try.prog .any ops.toArray Q 0 #[true, true, true, true, true, true, true, true, true, true, true, true, true, true, true, true, true, true, true, true, true, true, true, true, true, true, true, true] ac w5) : (Code.region 20 ops.toArray true).wp Try.prog Q a0 wr := by
 (conv at hops => lhs; whnf)
 obtain rfl := Option.some.inj hops
 clear hops
 obtain ⟨j0, hj0, jz0, jz1, jz2⟩ := info_parts info_bedD
 refine region_laidK (RTy 30) (fl := 16) [true, true, true, true, true, true, true, true, true, true, true, true, true, true, true, true, true, true, true, true, true, true, true, true, true, true, true, true] 0 (fun (i : Nat) (x : Value) (ww : World) => (match i with | 0 => x = .pointer (some ⟨g7, 0, none⟩) | 1 => x = .slice (some ⟨cb, co, none⟩) n cc | 2 => x = .int .i64 (k : Int) | 3 => x = .pointer (some ⟨cb, co + k * 3, none⟩) | 4 => x = .agg #[.int .i64 c1, .int .i64 c2, .int .i64 c3] | 5 => x = .slice (some ⟨gI, 0, none⟩) n n | 6 => x = .int .i64 (k : Int) | 7 => x = .pointer (some ⟨gI, k, none⟩) | 8 => x = .bool bk | 9 => x = .slice (some ⟨gL, 0, none⟩) n n | 10 => x = .int .i64 (k : Int) | 11 => x = .pointer (some ⟨gL, k, none⟩) | 12 => x = .int .i64 lk | 13 => ∃ g, x = .slice (some ⟨g, 0, none⟩) 0 0 ∧ ww.heap[g]? = some (.cells #[] 34 (0, 0)) | 14 => x = .pointer (some ⟨g8, 0, none⟩) | 15 => x = .slice (some ⟨b, 0, none⟩) m c5 | 16 => x = .int .i64 (i0 : Int) | 17 => x = .pointer (some ⟨b, i0 * 2, none⟩) | 18 => x = .pointer (some ⟨b, i0 * 2 + 1, none⟩) | 19 => x = .slice a3 dl c3v | 20 => RowB ww 1 eI 34 x bs | 21 => x = .tuple #[.agg #[.int .i64 tl, .int .i64 ts, .int .i64 td, .bool ti, .bool tb, .bool tw], .int .i64 0] | 22 => x = .tuple #[.agg #[.int .i64 tl, .int .i64 ts, .int .i64 td, .bool ti, .bool tb, .bool tw], .int .i64 0] | 23 => x = .agg #[.int .i64 tl, .int .i64 ts, .int .i64 td, .bool ti, .bool tb, .bool tw] | 24 => x = .int .i64 0 | 25 => True | 26 => True | 27 => x = .int .i64 0 | _ => True : Prop)) (Cl wr [(⟨25, 26, 15, .cells #[.int .i64 0, .int .i64 0, .int .i64 0, .bool false, .bool false, .bool false] 30 (0, 0), .cells #[.int .i64 tl, .int .i64 ts, .int .i64 td, .bool ti, .bool tb, .bool tw] 30 (0, 0)⟩ : AS)]) (by kernel_rfl) rfl (by rw [hsz0]; decide +kernel) rfl (Cl.start _ _ _ _) ?mono ?step hrest
 case mono =>
  intro i x ww ww' hB h
  match i, h with
  | 0, h => exact h
  | 1, h => exact h
  | 2, h => exact h
  | 3, h => exact h
  | 4, h => exact h
  | 5, h => exact h
  | 6, h => exact h
  | 7, h => exact h
  | 8, h => exact h
  | 9, h => exact h
  | 10, h => exact h
  | 11, h => exact h
  | 12, h => exact h
  | 13, h => exact (by obtain ⟨g, hx, hg⟩ := h; exact ⟨g, hx, hB.keep (by decide) hg⟩)
  | 14, h => exact h
  | 15, h => exact h
  | 16, h => exact h
  | 17, h => exact h
  | 18, h => exact h
  | 19, h => exact h
  | 20, h => exact (h.rt hB (by decide))
  | 21, h => exact h
  | 22, h => exact h
  | 23, h => exact h
  | 24, h => exact h
  | 25, h => exact h
  | 26, h => exact h
  | 27, h => exact h
  | n + 28, h => exact h
 case step =>
  intro i o_ listed ac W hA ho hL he hcl hli hsz
  have hk3 : ac.tmps.getD 3 undef = .pointer (some ⟨g7, 0, none⟩) := (hL.kept 3 (by decide +kernel)).trans hs3
  have hk14 : ac.tmps.getD 14 undef = .int .i64 (k : Int) := (hL.kept 14 (by decide +kernel)).trans hs14
  have hk11 : ac.tmps.getD 11 undef = .slice (some ⟨gI, 0, none⟩) n n := (hL.kept 11 (by decide +kernel)).trans hs11
  have hk10 : ac.tmps.getD 10 undef = .slice (some ⟨gL, 0, none⟩) n n := (hL.kept 10 (by decide +kernel)).trans hs10
  have hk4 : ac.tmps.getD 4 undef = .pointer (some ⟨g8, 0, none⟩) := (hL.kept 4 (by decide +kernel)).trans hs4
  have hk13 : ac.tmps.getD 13 undef = .int .i64 (i0 : Int) := (hL.kept 13 (by decide +kernel)).trans hs13
  have z0 := keepc hL.cls.1 k70
  have z1 := keepc hL.cls.1 q1
  have z2 := keepc hL.cls.1 q2
  have z3 := keepc hL.cls.1 q3
  have z4 := keepc hL.cls.1 i1
  have z5 := keepc hL.cls.1 l1
  have z6 := keepc hL.cls.1 k80
  have z7 := keepc hL.cls.1 v1
  match i, hA, ho with
  | 0, _, ho =>
   cases ho
   refine wpOp_plain rfl rfl ?_
   unfold Oper.wp
   go_simp
   first | exact ⟨_, rfl, RTy.refl _ _, Cl.other hL.cls rfl (Below.refl _ _), rfl⟩ | exact ⟨RTy.refl _ _, Cl.other hL.cls rfl (Below.refl _ _), rfl⟩ | exact ⟨RTy.refl _ _, Cl.other hL.cls rfl (Below.refl _ _)⟩
  | 1, _, ho =>
   cases ho
   have d0 : ac.tmps.getD 198 undef = .pointer (some ⟨g7, 0, none⟩) := hL.new 0 _ 198 rfl (he ⟨0, .data⟩ (by simp) rfl) rfl
   refine wpOp_plain rfl rfl ?_
   unfold Oper.wp
   go_simp
   first | exact ⟨_, rfl, RTy.refl _ _, Cl.other hL.cls rfl (Below.refl _ _), rfl⟩ | exact ⟨RTy.refl _ _, Cl.other hL.cls rfl (Below.refl _ _), rfl⟩ | exact ⟨RTy.refl _ _, Cl.other hL.cls rfl (Below.refl _ _)⟩
  | 2, _, ho =>
   cases ho
   refine wpOp_plain rfl rfl ?_
   unfold Oper.wp
   go_simp
   first | exact ⟨_, rfl, RTy.refl _ _, Cl.other hL.cls rfl (Below.refl _ _), rfl⟩ | exact ⟨RTy.refl _ _, Cl.other hL.cls rfl (Below.refl _ _), rfl⟩ | exact ⟨RTy.refl _ _, Cl.other hL.cls rfl (Below.refl _ _)⟩
  | 3, _, ho =>
   cases ho
   have d1 : ac.tmps.getD 199 undef = .slice (some ⟨cb, co, none⟩) n cc := hL.new 1 _ 199 rfl (he ⟨1, .data⟩ (by simp) rfl) rfl
   have d2 : ac.tmps.getD 200 undef = .int .i64 (k : Int) := hL.new 2 _ 200 rfl (he ⟨2, .data⟩ (by simp) rfl) rfl
   refine wpOp_plain rfl rfl ?_
   unfold Oper.wp
   go_simp
   first | exact ⟨_, rfl, RTy.refl _ _, Cl.other hL.cls rfl (Below.refl _ _), rfl⟩ | exact ⟨RTy.refl _ _, Cl.other hL.cls rfl (Below.refl _ _), rfl⟩ | exact ⟨RTy.refl _ _, Cl.other hL.cls rfl (Below.refl _ _)⟩
  | 4, _, ho =>
   cases ho
   have d3 : ac.tmps.getD 201 undef = .pointer (some ⟨cb, co + k * 3, none⟩) := hL.new 3 _ 201 rfl (he ⟨3, .data⟩ (by simp) rfl) rfl
   refine wpOp_plain rfl rfl ?_
   unfold Oper.wp
   go_simp
   first | exact ⟨_, rfl, RTy.refl _ _, Cl.other hL.cls rfl (Below.refl _ _), rfl⟩ | exact ⟨RTy.refl _ _, Cl.other hL.cls rfl (Below.refl _ _), rfl⟩ | exact ⟨RTy.refl _ _, Cl.other hL.cls rfl (Below.refl _ _)⟩
  | 5, _, ho =>
   cases ho
   refine wpOp_plain rfl rfl ?_
   unfold Oper.wp
   go_simp
   first | exact ⟨_, rfl, RTy.refl _ _, Cl.other hL.cls rfl (Below.refl _ _), rfl⟩ | exact ⟨RTy.refl _ _, Cl.other hL.cls rfl (Below.refl _ _), rfl⟩ | exact ⟨RTy.refl _ _, Cl.other hL.cls rfl (Below.refl _ _)⟩
  | 6, _, ho =>
   cases ho
   refine wpOp_plain rfl rfl ?_
   unfold Oper.wp
   go_simp
   first | exact ⟨_, rfl, RTy.refl _ _, Cl.other hL.cls rfl (Below.refl _ _), rfl⟩ | exact ⟨RTy.refl _ _, Cl.other hL.cls rfl (Below.refl _ _), rfl⟩ | exact ⟨RTy.refl _ _, Cl.other hL.cls rfl (Below.refl _ _)⟩
  | 7, _, ho =>
   cases ho
   have d5 : ac.tmps.getD 203 undef = .slice (some ⟨gI, 0, none⟩) n n := hL.new 5 _ 203 rfl (he ⟨5, .data⟩ (by simp) rfl) rfl
   have d6 : ac.tmps.getD 204 undef = .int .i64 (k : Int) := hL.new 6 _ 204 rfl (he ⟨6, .data⟩ (by simp) rfl) rfl
   refine wpOp_plain rfl rfl ?_
   unfold Oper.wp
   go_simp
   first | exact ⟨_, rfl, RTy.refl _ _, Cl.other hL.cls rfl (Below.refl _ _), rfl⟩ | exact ⟨RTy.refl _ _, Cl.other hL.cls rfl (Below.refl _ _), rfl⟩ | exact ⟨RTy.refl _ _, Cl.other hL.cls rfl (Below.refl _ _)⟩
  | 8, _, ho =>
   cases ho
   have d7 : ac.tmps.getD 205 undef = .pointer (some ⟨gI, k, none⟩) := hL.new 7 _ 205 rfl (he ⟨7, .data⟩ (by simp) rfl) rfl
   refine wpOp_plain rfl rfl ?_
   unfold Oper.wp
   go_simp
   first | exact ⟨_, rfl, RTy.refl _ _, Cl.other hL.cls rfl (Below.refl _ _), rfl⟩ | exact ⟨RTy.refl _ _, Cl.other hL.cls rfl (Below.refl _ _), rfl⟩ | exact ⟨RTy.refl _ _, Cl.other hL.cls rfl (Below.refl _ _)⟩
  | 9, _, ho =>
   cases ho
   refine wpOp_plain rfl rfl ?_
   unfold Oper.wp
   go_simp
   first | exact ⟨_, rfl, RTy.refl _ _, Cl.other hL.cls rfl (Below.refl _ _), rfl⟩ | exact ⟨RTy.refl _ _, Cl.other hL.cls rfl (Below.refl _ _), rfl⟩ | exact ⟨RTy.refl _ _, Cl.other hL.cls rfl (Below.refl _ _)⟩
  | 10, _, ho =>
   cases ho
   refine wpOp_plain rfl rfl ?_
   unfold Oper.wp
   go_simp
   first | exact ⟨_, rfl, RTy.refl _ _, Cl.other hL.cls rfl (Below.refl _ _), rfl⟩ | exact ⟨RTy.refl _ _, Cl.other hL.cls rfl (Below.refl _ _), rfl⟩ | exact ⟨RTy.refl _ _, Cl.other hL.cls rfl (Below.refl _ _)⟩
  | 11, _, ho =>
   cases ho
   have d9 : ac.tmps.getD 207 undef = .slice (some ⟨gL, 0, none⟩) n n := hL.new 9 _ 207 rfl (he ⟨9, .data⟩ (by simp) rfl) rfl
   have d10 : ac.tmps.getD 208 undef = .int .i64 (k : Int) := hL.new 10 _ 208 rfl (he ⟨10, .data⟩ (by simp) rfl) rfl
   refine wpOp_plain rfl rfl ?_
   unfold Oper.wp
   go_simp
   first | exact ⟨_, rfl, RTy.refl _ _, Cl.other hL.cls rfl (Below.refl _ _), rfl⟩ | exact ⟨RTy.refl _ _, Cl.other hL.cls rfl (Below.refl _ _), rfl⟩ | exact ⟨RTy.refl _ _, Cl.other hL.cls rfl (Below.refl _ _)⟩
  | 12, _, ho =>
   cases ho
   have d11 : ac.tmps.getD 209 undef = .pointer (some ⟨gL, k, none⟩) := hL.new 11 _ 209 rfl (he ⟨11, .data⟩ (by simp) rfl) rfl
   refine wpOp_plain rfl rfl ?_
   unfold Oper.wp
   go_simp
   first | exact ⟨_, rfl, RTy.refl _ _, Cl.other hL.cls rfl (Below.refl _ _), rfl⟩ | exact ⟨RTy.refl _ _, Cl.other hL.cls rfl (Below.refl _ _), rfl⟩ | exact ⟨RTy.refl _ _, Cl.other hL.cls rfl (Below.refl _ _)⟩
  | 13, _, ho =>
   cases ho
   refine wpOp_plain rfl rfl ?_
   unfold Oper.wp
   go_simp
   have hBn : Below W.heap.size W (W.alloc (.cells #[] 34)) := (Below.refl _ _).alloc (Nat.le_refl _) _
   exact ⟨_, rfl, RTy.of_below hBn, Cl.other (i := 13) (t := 211) hL.cls rfl hBn, _, rfl, World.alloc_heap_new _ _⟩
  | 14, _, ho =>
   cases ho
   refine wpOp_plain rfl rfl ?_
   unfold Oper.wp
   go_simp
   first | exact ⟨_, rfl, RTy.refl _ _, Cl.other hL.cls rfl (Below.refl _ _), rfl⟩ | exact ⟨RTy.refl _ _, Cl.other hL.cls rfl (Below.refl _ _), rfl⟩ | exact ⟨RTy.refl _ _, Cl.other hL.cls rfl (Below.refl _ _)⟩
  | 15, _, ho =>
   cases ho
   have d14 : ac.tmps.getD 212 undef = .pointer (some ⟨g8, 0, none⟩) := hL.new 14 _ 212 rfl (he ⟨14, .data⟩ (by simp) rfl) rfl
   refine wpOp_plain rfl rfl ?_
   unfold Oper.wp
   go_simp
   first | exact ⟨_, rfl, RTy.refl _ _, Cl.other hL.cls rfl (Below.refl _ _), rfl⟩ | exact ⟨RTy.refl _ _, Cl.other hL.cls rfl (Below.refl _ _), rfl⟩ | exact ⟨RTy.refl _ _, Cl.other hL.cls rfl (Below.refl _ _)⟩
  | 16, _, ho =>
   cases ho
   refine wpOp_plain rfl rfl ?_
   unfold Oper.wp
   go_simp
   first | exact ⟨_, rfl, RTy.refl _ _, Cl.other hL.cls rfl (Below.refl _ _), rfl⟩ | exact ⟨RTy.refl _ _, Cl.other hL.cls rfl (Below.refl _ _), rfl⟩ | exact ⟨RTy.refl _ _, Cl.other hL.cls rfl (Below.refl _ _)⟩
  | 17, _, ho =>
   cases ho
   have d15 : ac.tmps.getD 213 undef = .slice (some ⟨b, 0, none⟩) m c5 := hL.new 15 _ 213 rfl (he ⟨15, .data⟩ (by simp) rfl) rfl
   have d16 : ac.tmps.getD 214 undef = .int .i64 (i0 : Int) := hL.new 16 _ 214 rfl (he ⟨16, .data⟩ (by simp) rfl) rfl
   refine wpOp_plain rfl rfl ?_
   unfold Oper.wp
   go_simp
   first | exact ⟨_, rfl, RTy.refl _ _, Cl.other hL.cls rfl (Below.refl _ _), rfl⟩ | exact ⟨RTy.refl _ _, Cl.other hL.cls rfl (Below.refl _ _), rfl⟩ | exact ⟨RTy.refl _ _, Cl.other hL.cls rfl (Below.refl _ _)⟩
  | 18, _, ho =>
   cases ho
   have d17 : ac.tmps.getD 215 undef = .pointer (some ⟨b, i0 * 2, none⟩) := hL.new 17 _ 215 rfl (he ⟨17, .data⟩ (by simp) rfl) rfl
   refine wpOp_plain rfl rfl ?_
   unfold Oper.wp
   go_simp
   first | exact ⟨_, rfl, RTy.refl _ _, Cl.other hL.cls rfl (Below.refl _ _), rfl⟩ | exact ⟨RTy.refl _ _, Cl.other hL.cls rfl (Below.refl _ _), rfl⟩ | exact ⟨RTy.refl _ _, Cl.other hL.cls rfl (Below.refl _ _)⟩
  | 19, _, ho =>
   cases ho
   have d18 : ac.tmps.getD 216 undef = .pointer (some ⟨b, i0 * 2 + 1, none⟩) := hL.new 18 _ 216 rfl (he ⟨18, .data⟩ (by simp) rfl) rfl
   refine wpOp_plain rfl rfl ?_
   unfold Oper.wp
   go_simp
   first | exact ⟨_, rfl, RTy.refl _ _, Cl.other hL.cls rfl (Below.refl _ _), rfl⟩ | exact ⟨RTy.refl _ _, Cl.other hL.cls rfl (Below.refl _ _), rfl⟩ | exact ⟨RTy.refl _ _, Cl.other hL.cls rfl (Below.refl _ _)⟩
  | 20, _, ho =>
   cases ho
   obtain ⟨x13, hx13⟩ : ∃ x, ac.tmps.getD 211 undef = x := ⟨_, rfl⟩
   have d13 := hL.new 13 _ 211 rfl (he ⟨13, .data⟩ (by simp) rfl) rfl
   rw [hx13] at d13
   have d19 : ac.tmps.getD 217 undef = .slice a3 dl c3v := hL.new 19 _ 217 rfl (he ⟨19, .data⟩ (by simp) rfl) rfl
   obtain ⟨g, rfl, hg⟩ := d13
   refine wpOp_plain rfl rfl ?_
   refine wp_append_fresh W (.tmp 211) (.tmp 217) 27 rfl 34 j0 (.int .i64 0) 1 8 Try.underlying27 hj0 jz0 jz1 jz2 rfl (by decide) g hg (by rw [← hx13]; rfl) (vy := .slice a3 dl c3v) (ys := bs) (enc := eI) d19 (HXS.out.below hL.cls.1) (fun _ => rfl) (eI_all bs) (by have := HDL.out; unfold maxLen; omega) (by have := HDL.out; omega) ?_
   intro v' w' hsl hBn
   exact ⟨_, rfl, RTy.of_below hBn, Cl.other (i := 20) (t := 218) hL.cls rfl hBn, hsl⟩
  | 21, _, ho =>
   cases ho
   have d4 : ac.tmps.getD 202 undef = .agg #[.int .i64 c1, .int .i64 c2, .int .i64 c3] := hL.new 4 _ 202 rfl (he ⟨4, .data⟩ (by simp) rfl) rfl
   have d8 : ac.tmps.getD 206 undef = .bool bk := hL.new 8 _ 206 rfl (he ⟨8, .data⟩ (by simp) rfl) rfl
   have d12 : ac.tmps.getD 210 undef = .int .i64 lk := hL.new 12 _ 210 rfl (he ⟨12, .data⟩ (by simp) rfl) rfl
   obtain ⟨x20, hx20⟩ : ∃ x, ac.tmps.getD 218 undef = x := ⟨_, rfl⟩
   have d20 := hL.new 20 _ 218 rfl (he ⟨20, .data⟩ (by simp) rfl) rfl
   rw [hx20] at d20
   have hsl := d20.sl
   clear d20
   simp only [Array.getD_eq_getD_getElem?] at d4 d8 d12 hx20
   refine wpOp_plain rfl rfl ?_
   unfold Oper.wp
   go_simp
   refine (X3.out _ _ hsl).mono ?_
   rintro e w' ⟨rfl, hBn⟩
   exact ⟨_, rfl, RTy.of_below hBn, Cl.other hL.cls rfl hBn, rfl⟩
  | 22, _, ho =>
   cases ho
   have d21 : ac.tmps.getD 219 undef = .tuple #[.agg #[.int .i64 tl, .int .i64 ts, .int .i64 td, .bool ti, .bool tb, .bool tw], .int .i64 0] := hL.new 21 _ 219 rfl (he ⟨21, .data⟩ (by simp) rfl) rfl
   refine wpOp_plain rfl rfl ?_
   unfold Oper.wp
   go_simp
   first | exact ⟨_, rfl, RTy.refl _ _, Cl.other hL.cls rfl (Below.refl _ _), rfl⟩ | exact ⟨RTy.refl _ _, Cl.other hL.cls rfl (Below.refl _ _), rfl⟩ | exact ⟨RTy.refl _ _, Cl.other hL.cls rfl (Below.refl _ _)⟩
  | 23, _, ho =>
   cases ho
   have d22 : ac.tmps.getD 197 undef = .tuple #[.agg #[.int .i64 tl, .int .i64 ts, .int .i64 td, .bool ti, .bool tb, .bool tw], .int .i64 0] := hL.new 22 _ 197 rfl (he ⟨22, .data⟩ (by simp) rfl) rfl
   simp only [Array.getD_eq_getD_getElem?] at d22
   refine wpOp_plain rfl rfl ?_
   unfold Oper.wp
   go_simp
   first | exact ⟨_, rfl, RTy.refl _ _, Cl.other hL.cls rfl (Below.refl _ _), rfl⟩ | exact ⟨RTy.refl _ _, Cl.other hL.cls rfl (Below.refl _ _), rfl⟩ | exact ⟨RTy.refl _ _, Cl.other hL.cls rfl (Below.refl _ _)⟩
  | 24, _, ho =>
   cases ho
   have d22 : ac.tmps.getD 197 undef = .tuple #[.agg #[.int .i64 tl, .int .i64 ts, .int .i64 td, .bool ti, .bool tb, .bool tw], .int .i64 0] := hL.new 22 _ 197 rfl (he ⟨22, .data⟩ (by simp) rfl) rfl
   simp only [Array.getD_eq_getD_getElem?] at d22
   refine wpOp_plain rfl rfl ?_
   unfold Oper.wp
   go_simp
   first | exact ⟨_, rfl, RTy.refl _ _, Cl.other hL.cls rfl (Below.refl _ _), rfl⟩ | exact ⟨RTy.refl _ _, Cl.other hL.cls rfl (Below.refl _ _), rfl⟩ | exact ⟨RTy.refl _ _, Cl.other hL.cls rfl (Below.refl _ _)⟩
  | 25, _, ho =>
   cases ho
   have hq : listed.getD 26 false = false := by
    cases hx : listed.getD 26 false with
    | false => rfl
    | true =>
     have h8 := hcl 26 _ rfl hx ⟨25, .data⟩ (by simp) rfl
     simp only [Array.getD_eq_getD_getElem?] at h8 hli
     rw [Array.getElem?_eq_getElem (show 25 < listed.size by rw [hsz]; decide)] at h8 hli
     rw [Option.getD_some] at h8 hli
     rw [h8] at hli
     exact absurd hli (by simp)
   have hBn : Below W.heap.size W (W.alloc (.cells #[.int .i64 0, .int .i64 0, .int .i64 0, .bool false, .bool false, .bool false] 30)) := (Below.refl _ _).alloc (Nat.le_refl _) _
   refine wpOp_plain rfl rfl ?_
   unfold Oper.wp
   go_simp
   have hC := Cl.alloc (⟨25, 26, 15, .cells #[.int .i64 0, .int .i64 0, .int .i64 0, .bool false, .bool false, .bool false] 30 (0, 0), .cells #[.int .i64 tl, .int .i64 ts, .int .i64 td, .bool ti, .bool tb, .bool tw] 30 (0, 0)⟩ : AS) hL.cls (by simp) (by rw [hL.size, hsz0]; exact (by decide : (15 : Nat) < 405)) hq (by simp) (by intro e' he hne; simp at he; subst he; exact absurd rfl hne)
   first | exact ⟨_, rfl, RTy.of_below hBn, hC, trivial⟩ | exact ⟨_, rfl, RTy.of_below hBn, hC⟩ | exact ⟨RTy.of_below hBn, hC⟩
  | 26, _, ho =>
   cases ho
   have d23 : ac.tmps.getD 220 undef = .agg #[.int .i64 tl, .int .i64 ts, .int .i64 td, .bool ti, .bool tb, .bool tw] := hL.new 23 _ 220 rfl (he ⟨23, .data⟩ (by simp) rfl) rfl
   have hpp : listed.getD 25 false = true := he ⟨25, .data⟩ (by simp) rfl
   obtain ⟨g, g1, g2, g3, g4⟩ := hL.cls.2.1 (⟨25, 26, 15, .cells #[.int .i64 0, .int .i64 0, .int .i64 0, .bool false, .bool false, .bool false] 30 (0, 0), .cells #[.int .i64 tl, .int .i64 ts, .int .i64 td, .bool ti, .bool tb, .bool tw] 30 (0, 0)⟩ : AS) (by simp) hpp
   have hq : listed.getD 26 false = false := by
    simp only [Array.getD_eq_getD_getElem?] at hli ⊢
    rw [Array.getElem?_eq_getElem (show 26 < listed.size by rw [hsz]; decide)] at hli ⊢
    simpa using hli
   simp only [] at g1 g4
   rw [if_neg (by rw [hq]; simp)] at g4
   have HRT : Aside _ := RTy.put (put6 (x0 := .int .i64 tl) (x1 := .int .i64 ts) (x2 := .int .i64 td) (x3 := .bool ti) (x4 := .bool tb) (x5 := .bool tw) g4) g4
   have HPU : Aside _ := Cl.store (⟨25, 26, 15, .cells #[.int .i64 0, .int .i64 0, .int .i64 0, .bool false, .bool false, .bool false] 30 (0, 0), .cells #[.int .i64 tl, .int .i64 ts, .int .i64 td, .bool ti, .bool tb, .bool tw] 30 (0, 0)⟩ : AS) hL.cls (by simp) hpp (by rw [hsz]; exact (by decide : (26 : Nat) < 28)) g1 (put6 g4) (by simp) (by intro e' he hne; simp at he; subst he; exact absurd rfl hne)
   have zc0 : W.cell? ⟨g, 0, none⟩ = some (.int .i64 0) := blk_cell g4 rfl
   have zc1 : W.cell? ⟨g, 1, none⟩ = some (.int .i64 0) := blk_cell g4 rfl
   have zc2 : W.cell? ⟨g, 2, none⟩ = some (.int .i64 0) := blk_cell g4 rfl
   have zc3 : W.cell? ⟨g, 3, none⟩ = some (.bool false) := blk_cell g4 rfl
   have zc4 : W.cell? ⟨g, 4, none⟩ = some (.bool false) := blk_cell g4 rfl
   have zc5 : W.cell? ⟨g, 5, none⟩ = some (.bool false) := blk_cell g4 rfl
   have zf : ∀ i, W.frozen? ⟨g, i, none⟩ = false := fun i => blk_free g4 i
   clear g4
   simp only [Array.getD_eq_getD_getElem?] at g1 d23
   refine wpOp_plain rfl rfl ?_
   unfold Oper.wp
   go_simp
   first | exact ⟨HRT.out, HPU.out⟩ | exact ⟨HRT.out, HPU.out, trivial⟩
  | 27, _, ho =>
   cases ho
   have d24 : ac.tmps.getD 221 undef = .int .i64 0 := hL.new 24 _ 221 rfl (he ⟨24, .data⟩ (by simp) rfl) rfl
   refine wpOp_plain rfl rfl ?_
   unfold Oper.wp
   go_simp
   first | exact ⟨_, rfl, RTy.refl _ _, Cl.other hL.cls rfl (Below.refl _ _), rfl⟩ | exact ⟨RTy.refl _ _, Cl.other hL.cls rfl (Below.refl _ _), rfl⟩ | exact ⟨RTy.refl _ _, Cl.other hL.cls rfl (Below.refl _ _)⟩
  | n + 28, hA, _ => simp at hA
end
end
section
open Go.RowKit Go.Maps Go.Sort Go.Shelf Go.Deep
def twoR (eq : Bool) : LegR := ⟨[(101, 0, 1), (101, 0, 1)], 0, 0, eq⟩
def exP1 : List (Int × List Int) := [(0, [320, 101, 220]), (1, [320, 101, 220])]
theorem ex_visit1 : visitF (101, 0, 1) true 101 [320, 220] = (⟨101, 0, 2, true, true, false⟩, 0) := by decide +kernel
theorem ex_visit2 : visitF (101, 1, 0) false 101 [320, 210, 120] = (⟨61, 40, 3, true, false, false⟩, 0) := by decide +kernel
theorem least_sorted {ps : List (Int × Int)} {m : Int} {xs : List Int} (h : leastU (mn (ps.map (·.2))) ps = xs) (hs : xs.Pairwise (fun x y => decide (x ≤ y) = true)) : leastL ps = xs := by
 unfold leastL
 rw [h]
 exact List.mergeSort_of_pairwise hs
theorem ex_near1 : nearL [0, 1, 2] [(125, 0), (101, 300), (125, 0)] = [0, 2] := by
 unfold nearL
 exact least_sorted (m := 0) (by decide +kernel) (by decide)
theorem ex_near2 : nearL [0, 2] [(103, 250), (104, 240)] = [2] := by
 unfold nearL
 exact least_sorted (m := 0) (by decide +kernel) (by decide)
theorem ex_off : offF 3 [[(125, 0), (101, 300), (125, 0)], [(103, 250), (104, 240)]] = (2, 0) := by
 unfold offF
 rw [show evL (3 : Int).toNat = [0, 1, 2] from rfl]
 simp only [offL, ex_near1, ex_near2]
 decide +kernel
theorem ex_play1o : (judgeK (twoR true) exP1 2).1.over = true ∧ (judgeK (twoR true) exP1 2).1.round = 1 := by decide +kernel
theorem ex_play1w : (judgeK (twoR true) exP1 2).1.wins = leastL [(0, 3), (1, 3)] := by rfl
theorem ex_play1n : (judgeK (twoR true) exP1 2).1.wins.length = 2 := by
 rw [ex_play1w]
 unfold leastL
 rw [List.length_mergeSort]
 decide +kernel
def exJ : List (Int × List Int) := [(0, [101, 101, 101]), (0, [101, 101, 101]), (1, [120, 120]), (1, [120, 120, 120])]
def exP2 : List (Int × List Int) := [(0, [320, 101, 0]), (0, [0, 0, 0])]
theorem ex_play2 : playE (twoR false) exP2 = (1, 30) := by decide +kernel
theorem ex_play2g : playG (twoR false) exP2 = none := by decide +kernel
theorem ex_play1 : playE (twoR true) exP1 = (0, 0) := by decide +kernel
theorem ex_judge : judgeE (twoR false) exJ = 0 := by decide +kernel
theorem ex_judgeF : (judgeK (twoR false) exJ 4).2 = [(1, -1, 30), (2, -1, 31)] := by decide +kernel
theorem ex_judgeL : (judgeK (twoR false) exJ 4).1.left = [98, 41] ∧ (judgeK (twoR false) exJ 4).1.next = 0 := by decide +kernel
end
section
open Go.RowKit Go.Maps Go.Sort Go.Shelf Go.Deep
def TwoAt (W : World) (eq : Bool) (x : Value) : Prop := ∃ b, x = .agg #[.slice (some ⟨b, 0, none⟩) 2 2, .int .i64 0, .int .i64 0, .bool eq] ∧ W.heap[b]? = some (.cells #[.int .i64 101, .int .i64 0, .int .i64 1, .int .i64 101, .int .i64 0, .int .i64 1] 24 (0, 0))
set_option maxRecDepth 100000 in
set_option maxHeartbeats 1000000 in
theorem two_any (eq : Bool) (w : World) : Calls Try.prog 37 #[.bool eq] w (fun e w' => Below w.heap.size w w' ∧ ∃ x, e = .returned x ∧ TwoAt w' eq x) := by
 go_enter Try.func37, Try.ntmps37
 go_wp2
 refine bodyPost_ret (v := .agg #[.slice (some ⟨w.heap.size + 1 + 1, 0, none⟩) 2 2, .int .i64 0, .int .i64 0, .bool eq]) (by simp [results, Try.results37, go_sem]) rfl ⟨by (repeat' (first | exact Below.refl _ _ | assumption | (with_reducible refine Below.drew ?_) | (with_reducible refine Below.setCell ?_ (by (first | (simp; done) | (simp; omega))) _) | (with_reducible refine below_drewN' ?_ _) | (refine Below.alloc ?_ (by (try simp only [World.size_alloc, World.size_drew, World.size_setCell]); omega) _) | (refine Below.trans ?_ (Below.mono (by assumption) (by (try simp only [World.size_alloc, World.size_drew, World.size_setCell]); omega))))), _, rfl, w.heap.size + 1 + 1, rfl, World.alloc_heap_new' _ _ _ (by simp)⟩
theorem beds_any (a : Option Addr) (n c : Nat) (w : World) : Calls Try.prog 38 #[.slice a n c] w (Ret (.slice a n c) w) := by
 go_enter Try.func38, Try.ntmps38
 go_wp2
 go_ret
 exact ⟨rfl, by (repeat' (first | exact Below.refl _ _ | assumption | (with_reducible refine Below.drew ?_) | (with_reducible refine Below.setCell ?_ (by (first | (simp; done) | (simp; omega))) _) | (with_reducible refine below_drewN' ?_ _) | (refine Below.alloc ?_ (by (try simp only [World.size_alloc, World.size_drew, World.size_setCell]); omega) _) | (refine Below.trans ?_ (Below.mono (by assumption) (by (try simp only [World.size_alloc, World.size_drew, World.size_setCell]); omega)))))⟩
theorem sl_blk {α : Type} {W : World} {g k : Nat} {T : TypeId} {enc : α → List Value} {xs : List α} (hk : ∀ x, (enc x).length = k) (hl : xs.length ≤ 1000) (hb : W.heap[g]? = some (.cells ((xs.map enc).flatten).toArray T (0, 0))) (c : Nat) : Sl W k enc (.slice (some ⟨g, 0, none⟩) xs.length c) xs :=
 sl_lit hk hl (Array.getElem?_eq_some_iff.1 hb).1 (fun j u h => blk_cell hb (by simpa using h)) c
def RT (W W' : World) : Prop := W.heap.size ≤ W'.heap.size ∧ ∀ k, k < W.heap.size → (∀ cs, W.heap[k]? ≠ some (.cells cs 30 (0, 0))) → W'.heap[k]? = W.heap[k]?
theorem RT.refl (W : World) : RT W W := ⟨Nat.le_refl _, fun _ _ _ => rfl⟩
theorem RT.of_below {W W' : World} (h : Below W.heap.size W W') : RT W W' := ⟨h.size, fun k hk _ => h.block k hk⟩
theorem RT.put {W W' : World} {g : Nat} {F : Obj} {cs : Array Value} (h : Put g F W W') (hg : W.heap[g]? = some (.cells cs 30 (0, 0))) : RT W W' := ⟨by rw [h.size]; exact Nat.le_refl _, fun k _ hno => h.block k (fun e => by subst e; exact hno _ hg)⟩
theorem RT.keep {W W' : World} {k : Nat} {cs : Array Value} {T : TypeId} (h : RT W W') (hT : T ≠ 30) (hk : W.heap[k]? = some (.cells cs T (0, 0))) : W'.heap[k]? = some (.cells cs T (0, 0)) :=
 (h.2 k (Array.getElem?_eq_some_iff.1 hk).1 (fun c e => by rw [hk] at e; simp only [Option.some.injEq, Obj.cells.injEq] at e; exact hT e.2.1)).trans hk
end
section
open Go.RowKit Go.Maps Go.Sort Go.Shelf Go.Deep
theorem ex_matchA : matchF ⟨2, 2, 2, 2, 0⟩ [0, 0, 1, 1, 0, 1, 0, 0] = (⟨2, 1, 3, 1, 0⟩, -1, 0, 0) := by decide +kernel
theorem ex_play1g : playG (twoR true) exP1 = some (judgeK (twoR true) exP1 2).1 := by
 unfold playG
 rw [if_pos (by decide +kernel)]
 have : (judgeK (twoR true) exP1 exP1.length).2 = [] := by decide +kernel
 rw [this]
 rfl
theorem play1_ok {w w' : World} {e : Ending} (h : PlayOk (twoR true) exP1 w e w') : Below w.heap.size w w' ∧ ∃ al ad ai aw cl cd ci cw nl nd ni nx, e = .returned (.tuple #[.agg #[.slice al nl cl, .slice ad nd cd, .slice ai ni ci, .int .i64 nx, .int .i64 1, .bool true, .slice aw 2 cw], .int .i64 0, .int .i64 0]) := by
 obtain ⟨hB, vs, rfl, hm⟩ := h
 rw [ex_play1g] at hm
 obtain ⟨vl, vd, vi, vw, rfl, h1, h2, h3, h4, _⟩ := hm
 obtain ⟨al, cl, rfl, _⟩ := h1
 obtain ⟨ad, cd, rfl, _⟩ := h2
 obtain ⟨ai, ci, rfl, _⟩ := h3
 obtain ⟨aw, cw, rfl, _⟩ := h4
 exact ⟨hB, al, ad, ai, aw, cl, cd, ci, cw, _, _, _, _, by rw [ex_play1, ex_play1o.1, ex_play1o.2, ex_play1n]⟩
theorem play2_ok {w w' : World} {e : Ending} (h : PlayOk (twoR false) exP2 w e w') : Below w.heap.size w w' ∧ e = .returned (.tuple #[zeroSt, .int .i64 1, .int .i64 30]) := by
 obtain ⟨hB, vs, rfl, hm⟩ := h
 rw [ex_play2g] at hm
 rw [ex_play2, hm]
 exact ⟨hB, rfl⟩
theorem judge_ok {w w' : World} {e : Ending} (h : JudgeOk (twoR false) exJ w e w') : Below w.heap.size w w' ∧ ∃ al ad ai aw af cl cd ci cw cf nd ni nw rd ov, e = .returned (.tuple #[.agg #[.slice al 2 cl, .slice ad nd cd, .slice ai ni ci, .int .i64 0, .int .i64 rd, .bool ov, .slice aw nw cw], .slice af 2 cf, .int .i64 0]) ∧
  Sl w' 1 eI (.slice al 2 cl) [98, 41] ∧ Sl w' 3 encF (.slice af 2 cf) [(1, -1, 30), (2, -1, 31)] := by
 obtain ⟨hB, vs, vf, rfl, hm, _⟩ := h
 obtain ⟨hm, hf, _⟩ := hm ex_judge
 rw [show exJ.length = 4 from rfl, ex_judgeF] at hf
 rw [show exJ.length = 4 from rfl] at hm
 obtain ⟨vl, vd, vi, vw, rfl, h1, h2, h3, h4, _⟩ := hm
 rw [ex_judgeL.1] at h1
 obtain ⟨al, cl, rfl, h1⟩ := h1
 obtain ⟨ad, cd, rfl, _⟩ := h2
 obtain ⟨ai, ci, rfl, _⟩ := h3
 obtain ⟨aw, cw, rfl, _⟩ := h4
 obtain ⟨af, cf, rfl, hf⟩ := hf
 exact ⟨hB, al, ad, ai, aw, af, cl, cd, ci, cw, cf, _, _, _, _, _, by rw [ex_judge, ex_judgeL.2]; rfl, ⟨al, cl, rfl, h1⟩, ⟨af, cf, rfl, hf⟩⟩
theorem two_sl {W : World} {b : Nat} (eq : Bool) (h : W.heap[b]? = some (.cells #[.int .i64 101, .int .i64 0, .int .i64 1, .int .i64 101, .int .i64 0, .int .i64 1] 24 (0, 0))) : Sl W 3 encC (.slice (some ⟨b, 0, none⟩) 2 2) (twoR eq).counts :=
 sl_blk (enc := encC) (xs := [(101, 0, 1), (101, 0, 1)]) (fun _ => rfl) (by decide) h 2
theorem bedsB {xs : List Int} (h : xs.all (fun x => decide (-9223372036854775808 ≤ x) && decide (x ≤ 9223372036854775807)) = true) : ∀ b ∈ xs, -9223372036854775808 ≤ b ∧ b ≤ 9223372036854775807 := by
 intro b hb
 have := List.all_eq_true.1 h b hb
 simpa using this
theorem beds3 {W : World} {k : Nat} {x y z : Int} (h : W.heap[k]? = some (.cells #[.int .i64 x, .int .i64 y, .int .i64 z] 34 (0, 0))) : Sl W 1 eI (.slice (some ⟨k, 0, none⟩) 3 3) [x, y, z] := sl_blk (enc := eI) (xs := [x, y, z]) (fun _ => rfl) (by simp) h 3
theorem beds2 {W : World} {k : Nat} {x y : Int} (h : W.heap[k]? = some (.cells #[.int .i64 x, .int .i64 y] 34 (0, 0))) : Sl W 1 eI (.slice (some ⟨k, 0, none⟩) 2 2) [x, y] := sl_blk (enc := eI) (xs := [x, y]) (fun _ => rfl) (by simp) h 2
end
end Go.Proofs.Ytnhjoebdmmelaaa
