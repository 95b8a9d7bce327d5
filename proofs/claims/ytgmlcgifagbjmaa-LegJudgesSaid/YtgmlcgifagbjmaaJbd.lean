/- Leg: parts Hh, Ee, Hi, Hk, Bh. -/
import Derived.BigQuiet
import Derived.Deep.DeepCutAuto
import Derived.Test.YtgmlcgifagbjmaaRows
import Derived.WalkKit
import Derived.ProofKit
import Derived.OpenShut
import Derived.ShutString
import Derived.ChangeOld
import Derived.Below
import Derived.Lib.SmallJoins
import Derived.Deep.SlicePairs
import Derived.Test.YtgmlcgifagbjmaaJbc
import Derived.Test.YtgmlcgifagbjmaaJao
import Derived.Test.YtgmlcgifagbjmaaJba
import Derived.Test.YtgmlcgifagbjmaaJaa
set_option linter.unusedVariables false
set_option linter.unusedSimpArgs false
namespace Go.Proofs.Ytgmlcgifagbjmaa
section
open Go.RowKit Go.Maps Go.Sort Go.Shelf Go.Deep
theorem own_sl {w : World} {b k n : Nat} {e : TypeId} {v : Value} {xs : List Value} (h : w.ownsRow b e k v n xs) : ∃ a c, v = .slice a n c := by
 rcases h.2 with ⟨e1, h0⟩ | ⟨g, cap, cur, e1, _⟩
 ·exact ⟨none, 0, by rw [e1, h0]⟩
 ·exact ⟨_, _, e1⟩
theorem ownsRow_rty {w w' : World} {b k n : Nat} {T U : TypeId} {v : Value} {xs : List Value} (h : w.ownsRow b T k v n xs) (hR : RTy U w w') (hne : T ≠ U) : w'.ownsRow b T k v n xs := by
 obtain ⟨h1, h2⟩ := h
 refine ⟨h1, ?_⟩
 rcases h2 with h2 | ⟨g, cap, cur, h3, h4, h5, h6⟩
 ·exact .inl h2
 ·exact .inr ⟨g, cap, cur, h3, h4, (hR.2 g (Array.getElem?_eq_some_iff.1 h5).1 (fun cs e => by rw [h5] at e; simp only [Option.some.injEq, Obj.cells.injEq] at e; exact hne e.2.1)).trans h5, h6⟩
theorem rty_grown {w w' : World} {b k n : Nat} {T : TypeId} {v : Value} {xs : List Value} (h : w.ownsRow b T k v n xs) (hg : w.grownBy w' v.ownBlock) : RTy T w w' :=
 ⟨hg.size, fun j hj hne => hg.block j hj (fun e => by
  rcases h.2 with ⟨e1, _⟩ | ⟨g, cap, cur, e1, _, h5, _⟩
  ·rw [e1] at e; cases e
  ·rw [e1] at e
   simp only [Value.ownBlock, Option.some.injEq] at e
   subst e
   exact hne cur h5)⟩
theorem LegB.rty {r : LegR} {g : LegG} {q : Nat} {W W' : World} (h : LegB r g q W) (hR : RTy 61 W W') : LegB r g q W' := by
 obtain ⟨R', es', vl, vd, vi, vw, ve, h1, h2, h3⟩ := h
 refine ⟨R', es', vl, vd, vi, vw, ve, (hR.2 q (Array.getElem?_eq_some_iff.1 h1).1 (fun cs e => by rw [h1] at e; simp only [Option.some.injEq, Obj.cells.injEq] at e; exact absurd e.2.1 (by decide))).trans h1, h2, ?_⟩
 exact ⟨h3.1.rty hR (by decide), h3.2.1.rty hR (by decide), h3.2.2.1.rty hR (by decide), h3.2.2.2.1.rty hR (by decide), h3.2.2.2.2.rty hR (by decide)⟩
def judgeS (r : LegR) (l : List (Int × List Int)) : SameL := if judgeE r l = 0 then sameG (judgeK r l l.length).1 else sameZ
def judgeF (r : LegR) (l : List (Int × List Int)) : List (Int × Int × Int) := if judgeE r l = 0 then (judgeK r l l.length).2 else []
def RJudgeOk (r : LegR) (l : List (Int × List Int)) (w : World) (e : Ending) (w' : World) : Prop :=
 Below w.heap.size w w' ∧ ∃ vs vf, e = .returned (.tuple #[vs, vf, .int .i64 (judgeE r l)]) ∧ SameAt w' vs (judgeS r l) ∧ Sl w' 3 encF vf (judgeF r l)
theorem rjudge_bad {r : LegR} {l : List (Int × List Int)} {w w' : World} {er : Int} (hB : Below w.heap.size w w') (he : judgeE r l = er) (h0 : er ≠ 0) : RJudgeOk r l w (.returned (.tuple #[zeroSt, .slice none 0 0, .int .i64 er])) w' := by
 have h1 : judgeS r l = sameZ := by unfold judgeS; rw [he, if_neg h0]
 have h2 : judgeF r l = [] := by unfold judgeF; rw [he, if_neg h0]
 exact ⟨hB, _, _, by rw [he], by rw [h1]; exact sameZ_at _, by rw [h2]; exact ⟨none, 0, rfl, by simp, fun h => absurd rfl h⟩⟩
theorem rjudge_right {r : LegR} {l : List (Int × List Int)} {w w' : World} {vs vf : Value} (hB : Below w.heap.size w w') (he : judgeE r l = 0) (hs : SameAt w' vs (sameG (judgeK r l l.length).1)) (hf : Sl w' 3 encF vf (judgeK r l l.length).2) : RJudgeOk r l w (.returned (.tuple #[vs, vf, .int .i64 0])) w' := by
 have h1 : judgeS r l = sameG (judgeK r l l.length).1 := by unfold judgeS; rw [if_pos he]
 have h2 : judgeF r l = (judgeK r l l.length).2 := by unfold judgeF; rw [if_pos he]
 exact ⟨hB, _, _, by rw [he], by rw [h1]; exact hs, by rw [h2]; exact hf⟩
theorem encF_snoc (fs : List (Int × Int × Int)) (a b c : Int) : (((fs ++ [(a, b, c)]).map encF).flatten) = (fs.map encF).flatten ++ [.int .i64 a, .int .i64 b, .int .i64 c] := by simp [encF]
set_option maxRecDepth 100000 in
set_option maxHeartbeats 16000000 in
theorem rjudge_any (r : LegR) (vc : Value) (lv : List (Int × Value × List Int)) (v : Value) (w : World) (hc : Sl w 3 encC vc r.counts) (hv : Sl w 2 encV v lv)
  (hb : ∀ x ∈ lv, Sl w 1 eI x.2.1 x.2.2 ∧ ∀ b ∈ x.2.2, -9223372036854775808 ≤ b ∧ b ≤ 9223372036854775807) :
  Calls Try.prog 28 #[legRV r vc, v] w (RJudgeOk r (lv.map prV) w) := by
 have HC : Aside (Sl w 3 encC vc r.counts) := hc
 have HBV : Aside (∀ x ∈ lv, Sl w 1 eI x.2.1 x.2.2 ∧ ∀ b ∈ x.2.2, -9223372036854775808 ≤ b ∧ b ≤ 9223372036854775807) := hb
 have y1 : Aside (∀ W, Below w.heap.size w W → Calls Try.prog 24 #[.agg #[vc, .int .i64 r.first, .int .i64 r.rounds, .bool r.equal]] W (Ret (.bool (vleg r)) W)) := fun W hB => rrules_any r vc W (HC.out.below hB)
 have y2 : Aside (vleg r = true → ∀ W, Below w.heap.size w W → Calls Try.prog 49 #[.agg #[vc, .int .i64 r.first, .int .i64 r.rounds, .bool r.equal]] W (RBeginOk r W)) := fun hv W hB => rbegin_any r vc W (vleg_ok hv).1 (HC.out.below hB)
 have y3 : Aside (∀ (W : World) (g : LegG) (R : RG) (es : List Nat) (i : Nat) (vl vd vi vw ve : Value) (x : Int × Value × List Int), Below w.heap.size w W → vleg r = true → x ∈ lv → g.Ok r i → i ≤ 10000 → RfOk r g R es → RfSl W vl vd vi vw ve g es → ∀ tk, takeG r g x.1 x.2.2 = tk → Calls Try.prog 50 #[.agg #[vc, .int .i64 r.first, .int .i64 r.rounds, .bool r.equal], .agg (rgC R vl vd vi vw ve), .agg #[.int .i64 x.1, x.2.1]] W (fun e w' => Below W.heap.size W w' ∧ ∃ x, e = .returned x ∧ StepV r tk w' x)) := by
  intro W g R es i vl vd vi vw ve x hB hvl hx hg hi hf hs tk ht
  refine (rstep_any x.1 W vc vl vd vi vw ve x.2.1 x.2.2 hvl hg hi hf (HC.out.below hB) hs ((HBV.out x hx).1.below hB) (HBV.out x hx).2).mono ?_
  rintro e w' ⟨hB', R', es', a1, a2, a3, a4, a5, dt, rfl, h1, h2, h3⟩
  rw [ht] at h1 h2 h3 ⊢
  exact ⟨hB', _, rfl, R', es', a1, a2, a3, a4, a5, dt, rfl, h1, h2, h3⟩
 obtain ⟨m, hm⟩ : ∃ m, lv.length = m := ⟨_, rfl⟩
 obtain ⟨av, cv, rfl, hml, hvs⟩ := hv
 have HV : Aside (∀ q x, lv[q]? = some x → ∃ bv ov, av = some ⟨bv, ov, none⟩ ∧ w.cell? ⟨bv, ov + q * 2, none⟩ = some (.int .i64 x.1) ∧ w.cell? ⟨bv, ov + q * 2 + 1, none⟩ = some x.2.1) := by
  intro q x hx
  obtain ⟨bv, ov, h1, _, h2⟩ := hvs (fun e => by rw [e] at hx; simp at hx)
  have q0 := h2 q _ hx 0 (.int .i64 x.1) rfl
  have q1 := h2 q _ hx 1 x.2.1 rfl
  exact ⟨bv, ov, h1, by simpa using q0, by simpa using q1⟩
 have HM : Aside (lv.length = m ∧ (lv.map prV).length = m) := ⟨hm, by rw [List.length_map]; exact hm⟩
 rw [hm] at hml ⊢
 obtain ⟨l, hl⟩ : ∃ l, lv.map prV = l := ⟨_, rfl⟩
 have HL : Aside (lv.map prV = l) := hl
 rw [hl] at HM ⊢
 clear hc hb hvs hm hl
 unfold legRV
 go_enter Try.func28, Try.ntmps28
 go_upto_region 1 with (fail)
 obtain ⟨w0, hw0⟩ : ∃ u, u = ((w.alloc (.cells #[vc, .int .i64 r.first, .int .i64 r.rounds, .bool r.equal] 42)).alloc (.cells #[.slice none 0 0, .slice none 0 0, .slice none 0 0, .int .i64 0, .int .i64 0, .bool false, .slice none 0 0] 51)) := ⟨_, rfl⟩
 have H0 : Aside _ := lt2 hw0
 rw [← hw0]
 clear hw0
 have c0 := blk_cell H0.out.1 (i := 0) rfl
 have c1 := blk_cell H0.out.1 (i := 1) rfl
 have c2 := blk_cell H0.out.1 (i := 2) rfl
 have c3 := blk_cell H0.out.1 (i := 3) rfl
 go_wp2_with fail
 refine (y1.out _ H0.out.2.2.1).mono ?_
 rintro e w1 ⟨rfl, hb1⟩
 have H1 : Aside (w1.heap[w.heap.size]? = some (.cells #[vc, .int .i64 r.first, .int .i64 r.rounds, .bool r.equal] 42 (0, 0)) ∧ ZeroSt w1 (w.heap.size + 1) ∧ Below w.heap.size w w1 ∧ w.heap.size + 2 ≤ w1.heap.size) := ⟨(hb1.block _ (Array.getElem?_eq_some_iff.1 H0.out.1).1).trans H0.out.1, (hb1.block _ (Array.getElem?_eq_some_iff.1 H0.out.2.1).1).trans H0.out.2.1, H0.out.2.2.1.trans (hb1.mono H0.out.2.2.1.size), by have := hb1.size; have := H0.out.2.2.2; omega⟩
 clear hb1 c0 c1 c2 c3 H0 y1
 have z0 := blk_cell H1.out.2.1 (i := 0) rfl
 have z1 := blk_cell H1.out.2.1 (i := 1) rfl
 have z2 := blk_cell H1.out.2.1 (i := 2) rfl
 have z3 := blk_cell H1.out.2.1 (i := 3) rfl
 have z4 := blk_cell H1.out.2.1 (i := 4) rfl
 have z5 := blk_cell H1.out.2.1 (i := 5) rfl
 have z6 := blk_cell H1.out.2.1 (i := 6) rfl
 have zf := blk_free H1.out.2.1
 have zlt : w.heap.size + 1 < w1.heap.size := by have := H1.out.2.2.2; omega
 cases hvl : vleg r with
 | false =>
  have HE : Aside (judgeE r l = 2) := by show _ = _; unfold judgeE; rw [if_neg (by rw [hvl]; simp)]
  go_wp2_with fail
  refine ret7_judge (wz := set7 w1 (w.heap.size + 1) (.slice none 0 0) (.slice none 0 0) (.slice none 0 0) (.int .i64 0) (.int .i64 0) (.bool false) (.slice none 0 0)) rfl rfl rfl rfl (set7_blk (.slice none 0 0) (.slice none 0 0) (.slice none 0 0) (.int .i64 0) (.int .i64 0) (.bool false) (.slice none 0 0) H1.out.2.1) ?_
  exact rjudge_bad (set7_below H1.out.2.2.1 (by omega) (.slice none 0 0) (.slice none 0 0) (.slice none 0 0) (.int .i64 0) (.int .i64 0) (.bool false) (.slice none 0 0)) HE.out (by decide)
 | true =>
  have HVL : Aside (vleg r = true) := hvl
  clear hvl
  by_cases hlong : 2000 < m
  ·have hlz : (2000 : Int) < (m : Int) := by omega
   have HE : Aside (judgeE r l = 5) := by show _ = _; unfold judgeE; rw [if_pos HVL.out, HM.out.2, if_pos hlong]
   go_wp2_with fail
   refine ret7_judge (wz := set7 w1 (w.heap.size + 1) (.slice none 0 0) (.slice none 0 0) (.slice none 0 0) (.int .i64 0) (.int .i64 0) (.bool false) (.slice none 0 0)) rfl rfl rfl rfl (set7_blk (.slice none 0 0) (.slice none 0 0) (.slice none 0 0) (.int .i64 0) (.int .i64 0) (.bool false) (.slice none 0 0) H1.out.2.1) ?_
   exact rjudge_bad (set7_below H1.out.2.2.1 (by omega) (.slice none 0 0) (.slice none 0 0) (.slice none 0 0) (.int .i64 0) (.int .i64 0) (.bool false) (.slice none 0 0)) HE.out (by decide)
  ·have hlz : ¬ (2000 : Int) < (m : Int) := by omega
   have HE : Aside (judgeE r l = 0) := by show _ = _; unfold judgeE; rw [if_pos HVL.out, HM.out.2, if_neg hlong]
   have c0 := blk_cell H1.out.1 (i := 0) rfl
   have c1 := blk_cell H1.out.1 (i := 1) rfl
   have c2 := blk_cell H1.out.1 (i := 2) rfl
   have c3 := blk_cell H1.out.1 (i := 3) rfl
   go_wp2_with fail
   refine (y2.out HVL.out _ H1.out.2.2.1).mono ?_
   rintro e w2 ⟨vl, vd, vi, vw, ve, rfl, hsl, hb2⟩
   have H2 : Aside (w2.heap[w.heap.size]? = some (.cells #[vc, .int .i64 r.first, .int .i64 r.rounds, .bool r.equal] 42 (0, 0)) ∧ ZeroSt w2 (w.heap.size + 1) ∧ Below w.heap.size w w2 ∧ w.heap.size + 2 ≤ w2.heap.size) := ⟨(hb2.block _ (Array.getElem?_eq_some_iff.1 H1.out.1).1).trans H1.out.1, (hb2.block _ (Array.getElem?_eq_some_iff.1 H1.out.2.1).1).trans H1.out.2.1, H1.out.2.2.1.trans (hb2.mono H1.out.2.2.1.size), by have := hb2.size; have := H1.out.2.2.2; omega⟩
   clear hb2 c0 c1 c2 c3 H1 y2 z0 z1 z2 z3 z4 z5 z6 zf zlt
   have HS2 : Aside (RfSl w2 vl vd vi vw ve (beginG r) []) := hsl
   obtain ⟨h1, h2, h3, h4, h5⟩ := hsl
   obtain ⟨b1, f1, rfl, -, -⟩ := h1.1
   obtain ⟨b2, f2, rfl, -, -⟩ := h2.1
   obtain ⟨b3, f3, rfl, -, -⟩ := h3.1
   obtain ⟨b4, f4, rfl, -, -⟩ := h4.1
   obtain ⟨b5, f5, rfl, -, -⟩ := h5.1
   obtain ⟨n1, hn1⟩ : ∃ x, (beginG r).left.length = x := ⟨_, rfl⟩
   obtain ⟨n2, hn2⟩ : ∃ x, (beginG r).darts.length = x := ⟨_, rfl⟩
   obtain ⟨n3, hn3⟩ : ∃ x, (beginG r).inn.length = x := ⟨_, rfl⟩
   obtain ⟨n4, hn4⟩ : ∃ x, (beginG r).wins.length = x := ⟨_, rfl⟩
   obtain ⟨n5, hn5⟩ : ∃ x, (cI []).length = x := ⟨_, rfl⟩
   rw [hn1, hn2, hn3, hn4, hn5] at HS2 ⊢
   clear hn1 hn2 hn3 hn4 hn5 h1 h2 h3 h4 h5
   dsimp only
   apply_assumption
   refine wpList_plain rfl (fun KK hK => ?_)
   unfold Oper.wp
   go_simp
   refine hK _ _ ?_
   clear hK KK
   refine wpList_plain rfl (fun KK hK => ?_)
   unfold Oper.wp
   go_simp
   refine hK _ _ ?_
   clear hK KK
   obtain ⟨w2a, hw2a⟩ : ∃ u, u = w2.alloc (.cells #[] 61) := ⟨_, rfl⟩
   have hown0 : w2a.ownsRow w2.heap.size 61 3 (.slice (some ⟨w2.heap.size, 0, none⟩) 0 0) 0 [] := by rw [hw2a]; exact owns_empty _ _ _
   have hB2a : Below w2.heap.size w2 w2a := by rw [hw2a]; exact (Below.refl _ _).alloc (Nat.le_refl _) _
   have hsz2a : w2a.heap.size = w2.heap.size + 1 := by rw [hw2a]; simp
   try rw [← hw2a]
   clear hw2a
   have H2a : Aside (w2a.heap[w.heap.size]? = some (.cells #[vc, .int .i64 r.first, .int .i64 r.rounds, .bool r.equal] 42 (0, 0)) ∧ ZeroSt w2a (w.heap.size + 1) ∧ Below w.heap.size w w2a ∧ w.heap.size + 2 ≤ w2a.heap.size) := ⟨(hB2a.block _ (Array.getElem?_eq_some_iff.1 H2.out.1).1).trans H2.out.1, (hB2a.block _ (Array.getElem?_eq_some_iff.1 H2.out.2.1).1).trans H2.out.2.1, H2.out.2.2.1.trans (hB2a.mono H2.out.2.2.1.size), by have := hB2a.size; have := H2.out.2.2.2; omega⟩
   have HS2a : Aside (RfSl w2a (.slice b1 n1 f1) (.slice b2 n2 f2) (.slice b3 n3 f3) (.slice b4 n4 f4) (.slice b5 n5 f5) (beginG r) []) := HS2.out.below hB2a
   have HOW : Aside (w2a.ownsRow w2.heap.size 61 3 (.slice (some ⟨w2.heap.size, 0, none⟩) 0 0) 0 []) := hown0
   have HFB : Aside (w.heap.size + 2 ≤ w2.heap.size ∧ w2a.heap.size = w2.heap.size + 1) := ⟨H2.out.2.2.2, hsz2a⟩
   obtain ⟨wf, hwf⟩ : ∃ u, u = w2.heap.size := ⟨_, rfl⟩
   simp only [← hwf] at HOW HFB hsz2a ⊢
   try rw [hsz2a]
   clear hown0 hB2a H2 HS2 hwf
   have HZB : Aside (RgB (w2a.alloc (.cells zeroC 108)) w2a.heap.size zeroC) := World.alloc_heap_new _ _
   have HRB : Aside (w2a.heap.size = (wf + 1)) := hsz2a
   clear hsz2a
   rw [HRB.out] at HZB
   refine wpList_plain rfl (fun KK hK => ?_)
   refine wp_store17 (B := (wf + 1)) (by rfl) (by rfl) HZB.out ?_
   refine hK _ _ ?_
   clear hK KK
   (try simp only [Act.put, List.setIfInBounds_toArray, List.set_cons_zero, List.set_cons_succ])
   obtain ⟨w3, hw3⟩ : ∃ u, u = set17 (w2a.alloc (.cells zeroC 108)) (wf + 1) (.slice b1 n1 f1) (.slice b2 n2 f2) (.slice b3 n3 f3) (.int .i64 (rg0 r).next) (.int .i64 (rg0 r).round) (.bool (rg0 r).over) (.slice b4 n4 f4) (.slice b5 n5 f5) (.int .i64 ((rg0 r).last 0)) (.int .i64 ((rg0 r).last 1)) (.int .i64 ((rg0 r).last 2)) (.int .i64 ((rg0 r).last 3)) (.int .i64 ((rg0 r).last 4)) (.int .i64 ((rg0 r).last 5)) (.int .i64 ((rg0 r).last 6)) (.int .i64 ((rg0 r).last 7)) (.int .i64 (rg0 r).done) := ⟨_, rfl⟩
   have hO3 : Outs [(wf + 1)] (w2a.alloc (.cells zeroC 108)) w3 := by rw [hw3]; exact outs17 _ _ (.slice b1 n1 f1) (.slice b2 n2 f2) (.slice b3 n3 f3) (.int .i64 (rg0 r).next) (.int .i64 (rg0 r).round) (.bool (rg0 r).over) (.slice b4 n4 f4) (.slice b5 n5 f5) (.int .i64 ((rg0 r).last 0)) (.int .i64 ((rg0 r).last 1)) (.int .i64 ((rg0 r).last 2)) (.int .i64 ((rg0 r).last 3)) (.int .i64 ((rg0 r).last 4)) (.int .i64 ((rg0 r).last 5)) (.int .i64 ((rg0 r).last 6)) (.int .i64 ((rg0 r).last 7)) (.int .i64 (rg0 r).done)
   have hA3 : Below w2a.heap.size w2a (w2a.alloc (.cells zeroC 108)) := (Below.refl _ _).alloc (Nat.le_refl _) _
   have hB3 : Below w2a.heap.size w2a w3 := by rw [hw3]; exact below17 hA3 (Nat.le_of_eq HRB.out) (.slice b1 n1 f1) (.slice b2 n2 f2) (.slice b3 n3 f3) (.int .i64 (rg0 r).next) (.int .i64 (rg0 r).round) (.bool (rg0 r).over) (.slice b4 n4 f4) (.slice b5 n5 f5) (.int .i64 ((rg0 r).last 0)) (.int .i64 ((rg0 r).last 1)) (.int .i64 ((rg0 r).last 2)) (.int .i64 ((rg0 r).last 3)) (.int .i64 ((rg0 r).last 4)) (.int .i64 ((rg0 r).last 5)) (.int .i64 ((rg0 r).last 6)) (.int .i64 ((rg0 r).last 7)) (.int .i64 (rg0 r).done)
   have hR3 : RgB w3 (wf + 1) (rgC (rg0 r) (.slice b1 n1 f1) (.slice b2 n2 f2) (.slice b3 n3 f3) (.slice b4 n4 f4) (.slice b5 n5 f5)) := by rw [hw3]; exact rg17 (.slice b1 n1 f1) (.slice b2 n2 f2) (.slice b3 n3 f3) (.int .i64 (rg0 r).next) (.int .i64 (rg0 r).round) (.bool (rg0 r).over) (.slice b4 n4 f4) (.slice b5 n5 f5) (.int .i64 ((rg0 r).last 0)) (.int .i64 ((rg0 r).last 1)) (.int .i64 ((rg0 r).last 2)) (.int .i64 ((rg0 r).last 3)) (.int .i64 ((rg0 r).last 4)) (.int .i64 ((rg0 r).last 5)) (.int .i64 ((rg0 r).last 6)) (.int .i64 ((rg0 r).last 7)) (.int .i64 (rg0 r).done) HZB.out
   unfold zeroC at hw3
   rw [← hw3]
   clear hw3
   have HP3 : Aside (PInv r l vc w (wf + 1) 0 (beginG r) [] w3) := ⟨(hB3.block _ (Array.getElem?_eq_some_iff.1 H2a.out.1).1).trans H2a.out.1, (hB3.block _ (Array.getElem?_eq_some_iff.1 H2a.out.2.1).1).trans H2a.out.2.1, H2a.out.2.2.1.trans (hB3.mono H2a.out.2.2.1.size), ⟨rg0 r, [], _, _, _, _, _, hR3, rf_begin (vleg_ok HVL.out).1, HS2a.out.below hB3⟩, (beginG_ok (vleg_ok HVL.out).1), rfl, by have := HFB.out; omega⟩
   have HOW3 : Aside (w3.ownsRow wf 61 3 (.slice (some ⟨wf, 0, none⟩) 0 0) 0 []) := ownsRow_below HOW.out hB3
   have HF3 : Aside (w.heap.size + 2 ≤ wf) := HFB.out.1
   clear hO3 hA3 hB3 hR3 HZB HS2a H2a HRB HOW HFB
   go_wp2_with fail
   obtain ⟨i0, hi0, hz0, hz1, hz2⟩ := info_parts info_fault
   go_loopg [8, 9] m (fun gg vf i wr => ∃ (q : Nat) (g : LegG) (fs : List (Int × Int × Int)), q ≤ m ∧ m - q ≤ gg ∧ i = .int .i64 q ∧ fs.length ≤ q ∧ Aside (PInv r l vc w (wf + 1) q g fs wr) ∧ wr.ownsRow wf 61 3 vf fs.length ((fs.map encF).flatten))
   case atStart => exact ⟨0, _, _, Nat.zero_le _, by omega, rfl, Nat.le_refl _, HP3, HOW3.out⟩
   case round =>
    obtain ⟨q, g, fs, hq, hgq, rfl, hfl, HP, hown⟩ := hrel
    clear HP3 HOW3
    obtain ⟨va, vcx, rfl⟩ := own_sl hown
    have HOW : Aside (wr.ownsRow wf 61 3 (.slice va fs.length vcx) fs.length ((fs.map encF).flatten)) := hown
    clear hown
    by_cases hltq : q < m
    ·have hltz : (q : Int) < (m : Int) := by omega
     obtain ⟨x, hx⟩ : ∃ x, lv[q]? = some x := ⟨_, List.getElem?_eq_getElem (by rw [HM.out.1]; exact hltq)⟩
     obtain ⟨bv, ov, rfl, hv0, hv1⟩ := HV.out q x hx
     have HX : Aside (l[q]? = some (x.1, x.2.2) ∧ x ∈ lv) := ⟨by rw [← HL.out, List.getElem?_map, hx]; rfl, List.mem_of_getElem? hx⟩
     obtain ⟨R, es, vl, vd, vi, vw, ve, hleg, hf, hs⟩ := HP.out.leg
     obtain ⟨tk, htk⟩ : ∃ tk, takeG r g x.1 x.2.2 = tk := ⟨_, rfl⟩
     have HTK : Aside (takeG r g x.1 x.2.2 = tk) := htk
     have HSTEP : Aside _ := fun (W : World) (hB : Below wr.heap.size wr W) => y3.out W g R es (2 * q) vl vd vi vw ve x (HP.out.bel.trans (hB.mono HP.out.bel.size)) HVL.out HX.out.2 HP.out.ok (by omega) hf (hs.below hB) tk htk
     have hru := HP.out.rul
     replace hv0 := keepc HP.out.bel hv0
     replace hv1 := keepc HP.out.bel hv1
     clear hx hf hs htk
     go_wp2_with fail
     refine judge9 hru hleg hv0 hv1 HSTEP hltq hltz (by kernel_rfl) (by rfl) (by rfl) (by rfl) (by rfl) (by rfl) ?rest9
     case rest9 =>
      intro ac w5 hL
      have e31 : ac.tmps.getD 31 undef = .agg #[vc, .int .i64 r.first, .int .i64 r.rounds, .bool r.equal] := hL.new 0 _ 31 rfl rfl rfl
      have e32 : ac.tmps.getD 32 undef = .agg (rgC R vl vd vi vw ve) := hL.new 1 _ 32 rfl rfl rfl
      have e33 : ac.tmps.getD 33 undef = .slice (some ⟨bv, ov, none⟩) m cv := hL.new 2 _ 33 rfl rfl rfl
      have e34 : ac.tmps.getD 34 undef = .int .i64 (q : Int) := hL.new 3 _ 34 rfl rfl rfl
      have e35 : ac.tmps.getD 35 undef = .pointer (some ⟨bv, ov + q * 2, none⟩) := hL.new 4 _ 35 rfl rfl rfl
      have e36 : ac.tmps.getD 36 undef = .agg #[.int .i64 x.1, x.2.1] := hL.new 5 _ 36 rfl rfl rfl
      obtain ⟨y37, e37⟩ : ∃ x, ac.tmps.getD 37 undef = x := ⟨_, rfl⟩
      obtain ⟨y30, e30⟩ : ∃ x, ac.tmps.getD 30 undef = x := ⟨_, rfl⟩
      obtain ⟨y38, e38⟩ : ∃ x, ac.tmps.getD 38 undef = x := ⟨_, rfl⟩
      obtain ⟨y39, e39⟩ : ∃ x, ac.tmps.getD 39 undef = x := ⟨_, rfl⟩
      have e40 : ac.tmps.getD 40 undef = .int .i64 tk.2.2 := hL.new 10 _ 40 rfl rfl rfl
      obtain ⟨g9, e10, n9, -, HB9⟩ := hL.cls.al rfl
      have hn13 := hL.new 13 _ 11 rfl rfl rfl
      obtain ⟨dt9, e11, hd9⟩ := id hn13
      clear hn13
      have e12 : ac.tmps.getD 12 undef = .int .i64 tk.2.2 := hL.new 14 _ 12 rfl rfl rfl
      have HCL : Aside ((CP 10 r tk.1 wr) (#[true, true, true, true, true, true, true, true, true, true, true, true, true, true, true]) ac w5) := hL.cls
      have BN : Below wr.heap.size wr w5 := hL.cls.bel
      have es_ := hL.sets [31, 32, 33, 34, 35, 36, 37, 30, 38, 39, 40, 10, 11, 12] (by decide +kernel)
      rw [List.foldl_cons, List.foldl_cons, List.foldl_cons, List.foldl_cons, List.foldl_cons, List.foldl_cons, List.foldl_cons, List.foldl_cons, List.foldl_cons, List.foldl_cons, List.foldl_cons, List.foldl_cons, List.foldl_cons, List.foldl_cons, List.foldl_nil, e31, e32, e33, e34, e35, e36, e37, e30, e38, e39, e40, e10, e11, e12] at es_
      rw [es_]
      clear es_ hL e31 e32 e33 e34 e35 e36 e37 e30 e38 e39 e40 e10 e11 e12
      refine wpAny_done (by decide +kernel) ?_ _
      simp only [List.setIfInBounds_toArray, List.set_cons_zero, List.set_cons_succ]
      (try clear HCL)
      have HP5 : Aside (w5.heap[w.heap.size]? = some (.cells #[vc, .int .i64 r.first, .int .i64 r.rounds, .bool r.equal] 42 (0, 0)) ∧ ZeroSt w5 (w.heap.size + 1) ∧ Below w.heap.size w w5) := ⟨(BN.block _ (Array.getElem?_eq_some_iff.1 HP.out.rul).1).trans HP.out.rul, (BN.block _ (Array.getElem?_eq_some_iff.1 HP.out.zero).1).trans HP.out.zero, HP.out.bel.trans (BN.mono HP.out.bel.size)⟩
      have HLG : Aside (RgB w5 (wf + 1) (rgC R vl vd vi vw ve)) := (BN.block _ (Array.getElem?_eq_some_iff.1 hleg).1).trans hleg
      have HN9 : Aside (wr.heap.size ≤ g9) := n9
      have HB5 : Aside (Below wr.heap.size wr w5) := BN
      replace HB9 : Aside (LegB r tk.1 g9 w5) := HB9 rfl
      have HDT : Aside (tk.2.2 ≠ 0 → dt9 = tk.2.1) := hd9
      clear n9 BN hleg hru hv0 hv1 HSTEP hd9
      obtain ⟨er, her⟩ : ∃ er, tk.2.2 = er := ⟨_, rfl⟩
      have HER : Aside (tk.2.2 = er) := her
      rw [her]
      clear her
      have HOW5 : Aside (w5.ownsRow wf 61 3 (.slice va fs.length vcx) fs.length ((fs.map encF).flatten)) := ownsRow_below HOW.out HB5.out
      clear HOW
      by_cases he : er = 0
      ·subst he
       go_upto_region 12 with (fail)
       obtain ⟨R', es', vl', vd', vi', vw', ve', hg9, hf9, hs9⟩ := HB9.out
       obtain ⟨h1, h2, h3, h4, h5⟩ := id hs9
       obtain ⟨b1, f1, rfl, -, -⟩ := h1.1
       obtain ⟨b2, f2, rfl, -, -⟩ := h2.1
       obtain ⟨b3, f3, rfl, -, -⟩ := h3.1
       obtain ⟨b4, f4, rfl, -, -⟩ := h4.1
       obtain ⟨b5, f5, rfl, -, -⟩ := h5.1
       clear h1 h2 h3 h4 h5
       refine wp_region_lit ?_
       refine wpList_plain rfl fun KK hK => wp_load17 (by rfl) hg9 (hK _ _ ?_)
       clear hK KK
       refine wpList_plain rfl fun KK hK => wp_store17 (B := (wf + 1)) (by rfl) (by rfl) HLG.out (hK _ _ ?_)
       clear hK KK
       (try simp only [Act.put, List.setIfInBounds_toArray, List.set_cons_zero, List.set_cons_succ])
       obtain ⟨n1, hn1⟩ : ∃ x, tk.1.left.length = x := ⟨_, rfl⟩
       obtain ⟨n2, hn2⟩ : ∃ x, tk.1.darts.length = x := ⟨_, rfl⟩
       obtain ⟨n3, hn3⟩ : ∃ x, tk.1.inn.length = x := ⟨_, rfl⟩
       obtain ⟨n4, hn4⟩ : ∃ x, tk.1.wins.length = x := ⟨_, rfl⟩
       obtain ⟨n5, hn5⟩ : ∃ x, (cI es').length = x := ⟨_, rfl⟩
       rw [hn1, hn2, hn3, hn4, hn5] at hs9 ⊢
       clear hn1 hn2 hn3 hn4 hn5 hg9
       obtain ⟨w6, hw6⟩ : ∃ u, u = set17 w5 (wf + 1) (.slice b1 n1 f1) (.slice b2 n2 f2) (.slice b3 n3 f3) (.int .i64 R'.next) (.int .i64 R'.round) (.bool R'.over) (.slice b4 n4 f4) (.slice b5 n5 f5) (.int .i64 (R'.last 0)) (.int .i64 (R'.last 1)) (.int .i64 (R'.last 2)) (.int .i64 (R'.last 3)) (.int .i64 (R'.last 4)) (.int .i64 (R'.last 5)) (.int .i64 (R'.last 6)) (.int .i64 (R'.last 7)) (.int .i64 R'.done) := ⟨_, rfl⟩
       have hO6 : Outs [(wf + 1)] w5 w6 := by rw [hw6]; exact outs17 _ _ (.slice b1 n1 f1) (.slice b2 n2 f2) (.slice b3 n3 f3) (.int .i64 R'.next) (.int .i64 R'.round) (.bool R'.over) (.slice b4 n4 f4) (.slice b5 n5 f5) (.int .i64 (R'.last 0)) (.int .i64 (R'.last 1)) (.int .i64 (R'.last 2)) (.int .i64 (R'.last 3)) (.int .i64 (R'.last 4)) (.int .i64 (R'.last 5)) (.int .i64 (R'.last 6)) (.int .i64 (R'.last 7)) (.int .i64 R'.done)
       have hR6 : RgB w6 (wf + 1) (rgC R' (.slice b1 n1 f1) (.slice b2 n2 f2) (.slice b3 n3 f3) (.slice b4 n4 f4) (.slice b5 n5 f5)) := by rw [hw6]; exact rg17 (.slice b1 n1 f1) (.slice b2 n2 f2) (.slice b3 n3 f3) (.int .i64 R'.next) (.int .i64 R'.round) (.bool R'.over) (.slice b4 n4 f4) (.slice b5 n5 f5) (.int .i64 (R'.last 0)) (.int .i64 (R'.last 1)) (.int .i64 (R'.last 2)) (.int .i64 (R'.last 3)) (.int .i64 (R'.last 4)) (.int .i64 (R'.last 5)) (.int .i64 (R'.last 6)) (.int .i64 (R'.last 7)) (.int .i64 R'.done) HLG.out
       rw [← hw6]
       clear hw6
       have HLO : Aside (w.heap.size + 2 ≤ (wf + 1)) := HP.out.lo
       have HOK : Aside (judgeK r l q = (g, fs) ∧ tk.1.Ok r (2 * (q + 1))) := ⟨HP.out.jk, by have := takeG_ok (vleg_ok HVL.out).1 HP.out.ok x.1 x.2.2; rw [HTK.out] at this; exact this⟩
       have HP6 : Aside (PInv r l vc w (wf + 1) (q + 1) tk.1 fs w6) := by
        have hjk := jk_good (r := r) HX.out.1 (by rw [HOK.out.1]; show (takeG r g x.1 x.2.2).2.2 = 0; rw [HTK.out]; exact HER.out)
        rw [HOK.out.1] at hjk
        have hjk2 : judgeK r l (q + 1) = (tk.1, fs) := by rw [hjk]; show ((takeG r g x.1 x.2.2).1, _) = _; rw [HTK.out]
        have hlo := HLO.out
        exact ⟨(hO6.block _ (by simp only [List.mem_singleton]; omega) (Array.getElem?_eq_some_iff.1 HP5.out.1).1).trans HP5.out.1, (hO6.block _ (by simp only [List.mem_singleton]; omega) (Array.getElem?_eq_some_iff.1 HP5.out.2.1).1).trans HP5.out.2.1, HP5.out.2.2.trans (hO6.below (by simp only [List.mem_singleton, forall_eq]; omega) HP5.out.2.2.size), LegB.put HLG.out hO6 hR6 hf9 hs9, HOK.out.2, hjk2, hlo⟩
       have HOW6 : Aside (w6.ownsRow wf 61 3 (.slice va fs.length vcx) fs.length ((fs.map encF).flatten)) := ownsRow_rty HOW5.out (rty_outs hO6 HLG.out) (by decide)
       clear hs9 hf9 hR6 HLG hO6 HOK HB9 HTK
       have e1 : IntKind.i64.wrap ((q : Int) + 1) = (q : Int) + 1 := IntWalk.i64_in _ (by omega)
       go_wp2_with fail
       go_roundg (m - (q + 1))
       case measure => omega
       case rel => exact ⟨q + 1, tk.1, fs, by omega, by omega, by go_num, by omega, HP6, HOW6.out⟩
      ·have hne : (er != 0) = true := by simpa using he
       have hneq : (er == 0) = false := by simpa using he
       have HE0 : Aside (¬ er = 0) := he
       have HLO : Aside (w.heap.size + 2 ≤ (wf + 1) ∧ w.heap.size + 2 ≤ wf) := ⟨HP.out.lo, HF3.out⟩
       have HOK : Aside (judgeK r l q = (g, fs) ∧ g.Ok r (2 * (q + 1))) := ⟨HP.out.jk, HP.out.ok.mono (by omega)⟩
       have HLB : Aside (LegB r g (wf + 1) w5) := HP.out.leg.below HB5.out
       have HSZ5 : Aside (wf ≤ w5.heap.size) := by have h1 := HF3.out; have h2 := (Array.getElem?_eq_some_iff.1 HLG.out).1; show _ ≤ _; omega
       have hq2000 : fs.length ≤ 2000 := by omega
       clear he HLG
       go_upto_region 11 with (fail)
       go_wp2_with (at_builtin; refine wpList_append_own _ rfl _ _ 57 rfl wf 61 i0 (.agg #[.int .i64 0, .int .i64 0, .int .i64 0]) 3 24 Try.underlying57 hi0 hz0 hz1 hz2 rfl (by decide) _ _ _ rfl (HOW5.out.alloc _) ⟨w5.heap.size, 0, none⟩ 1 1 [.int .i64 (q : Int), .int .i64 dt9, .int .i64 er] rfl rfl (by intro j u h; match j, h with | 0, h => (simp at h; subst h; go_simp) | 1, h => (simp at h; subst h; go_simp) | 2, h => (simp at h; subst h; go_simp) | j + 3, h => simp at h) (by intro u hu; simp at hu; rcases hu with rfl | rfl | rfl <;> rfl) (by unfold maxLen; omega) (by omega) (by have := HSZ5.out; simp; omega) ?_; intro v' w6 hown6 hgrow6 hnil6)
       obtain ⟨wx, hwx⟩ : ∃ u, u = w5.alloc (.cells #[.int .i64 (q : Int), .int .i64 dt9, .int .i64 er] 61) := ⟨_, rfl⟩
       rw [← hwx] at hgrow6
       have hbx : Below w5.heap.size w5 wx := by rw [hwx]; exact (Below.refl _ _).alloc (Nat.le_refl _) _
       have hox : wx.ownsRow wf 61 3 (.slice va fs.length vcx) fs.length ((fs.map encF).flatten) := ownsRow_below HOW5.out hbx
       have hgx : wx.grownBy w6 (Value.slice va fs.length vcx).ownBlock := hgrow6
       have hrt : RTy 61 wx w6 := rty_grown hox hgx
       have HP6 : Aside (PInv r l vc w (wf + 1) (q + 1) g (fs ++ [((q : Int), tk.2.1, er)]) w6) := by
        have hjk := jk_bad (r := r) HX.out.1 (by rw [HOK.out.1]; show (takeG r g x.1 x.2.2).2.2 ≠ 0; rw [HTK.out, HER.out]; exact HE0.out)
        rw [HOK.out.1] at hjk
        have hjk2 : judgeK r l (q + 1) = (g, fs ++ [((q : Int), tk.2.1, er)]) := by rw [hjk]; show (g, fs ++ [((q : Int), (takeG r g x.1 x.2.2).2.1, (takeG r g x.1 x.2.2).2.2)]) = _; rw [HTK.out, HER.out]
        have hlo := HLO.out
        have hkp : ∀ j, j < w.heap.size + 2 → j < w5.heap.size → w6.heap[j]? = w5.heap[j]? := fun j hj hj5 => (hgx.block j (Nat.lt_of_lt_of_le hj5 hbx.size) (fun e => by have := (hox.lt j e.symm).1; omega)).trans (hbx.block j hj5)
        exact ⟨(hkp _ (by omega) (Array.getElem?_eq_some_iff.1 HP5.out.1).1).trans HP5.out.1, (hkp _ (by omega) (Array.getElem?_eq_some_iff.1 HP5.out.2.1).1).trans HP5.out.2.1, (HP5.out.2.2.trans (hbx.mono HP5.out.2.2.size)).grown hgx (Nat.le_trans HP5.out.2.2.size hbx.size) (fun b e => by have := (hox.lt b e).1; omega), (HLB.out.below hbx).rty hrt, HOK.out.2, hjk2, hlo.1⟩
       have HDE : Aside (dt9 = tk.2.1) := HDT.out (by rw [HER.out]; exact HE0.out)
       have HOW6 : Aside (w6.ownsRow wf 61 3 v' (fs ++ [((q : Int), tk.2.1, er)]).length ((((fs ++ [((q : Int), tk.2.1, er)]).map encF).flatten))) := by
        show World.ownsRow _ _ _ _ _ _ _
        rw [encF_snoc, ← HDE.out, List.length_append]; exact hown6
       clear hown6 hgrow6 hnil6 hwx hbx hox hgx hrt HOW5 HLB HB9 HTK
       have e1 : IntKind.i64.wrap ((q : Int) + 1) = (q : Int) + 1 := IntWalk.i64_in _ (by omega)
       go_wp2_with fail
       go_roundg (m - (q + 1))
       case measure => omega
       case rel => exact ⟨q + 1, g, fs ++ [((q : Int), tk.2.1, er)], by omega, by omega, by go_num, by simp; omega, HP6, HOW6.out⟩
    ·have hltz : ¬ (q : Int) < (m : Int) := by omega
     have hqe : q = m := by omega
     subst hqe
     obtain ⟨R, es, vl, vd, vi, vw, ve, hleg, hf, hs⟩ := HP.out.leg
     have HSA : Aside (SameAt wr (.agg #[vl, vd, vi, .int .i64 R.next, .int .i64 R.round, .bool R.over, vw]) (sameG g)) := LegB.same hf hs
     have HRS : Aside (RfSl wr vl vd vi vw ve g es) := hs
     obtain ⟨h1, h2, h3, h4, h5⟩ := hs
     obtain ⟨b1, f1, rfl, -, -⟩ := h1.1
     obtain ⟨b2, f2, rfl, -, -⟩ := h2.1
     obtain ⟨b3, f3, rfl, -, -⟩ := h3.1
     obtain ⟨b4, f4, rfl, -, -⟩ := h4.1
     obtain ⟨n1, hn1⟩ : ∃ x, g.left.length = x := ⟨_, rfl⟩
     obtain ⟨n2, hn2⟩ : ∃ x, g.darts.length = x := ⟨_, rfl⟩
     obtain ⟨n3, hn3⟩ : ∃ x, g.inn.length = x := ⟨_, rfl⟩
     obtain ⟨n4, hn4⟩ : ∃ x, g.wins.length = x := ⟨_, rfl⟩
     rw [hn1, hn2, hn3, hn4] at hleg HSA HRS
     clear hn1 hn2 hn3 hn4 h1 h2 h3 h4 h5 hf
     have g0 := blk_cell hleg (i := 0) rfl
     have g1 := blk_cell hleg (i := 1) rfl
     have g2 := blk_cell hleg (i := 2) rfl
     have g3 := blk_cell hleg (i := 3) rfl
     have g4 := blk_cell hleg (i := 4) rfl
     have g5 := blk_cell hleg (i := 5) rfl
     have g6 := blk_cell hleg (i := 6) rfl
     have z0 := blk_cell HP.out.zero (i := 0) rfl
     have z1 := blk_cell HP.out.zero (i := 1) rfl
     have z2 := blk_cell HP.out.zero (i := 2) rfl
     have z3 := blk_cell HP.out.zero (i := 3) rfl
     have z4 := blk_cell HP.out.zero (i := 4) rfl
     have z5 := blk_cell HP.out.zero (i := 5) rfl
     have z6 := blk_cell HP.out.zero (i := 6) rfl
     have zf := blk_free HP.out.zero
     have zlt : w.heap.size + 1 < wr.heap.size := (Array.getElem?_eq_some_iff.1 HP.out.zero).1
     clear hleg
     go_wp2_with fail
     refine ret7_judge (wz := set7 wr (w.heap.size + 1) (.slice b1 n1 f1) (.slice b2 n2 f2) (.slice b3 n3 f3) (.int .i64 R.next) (.int .i64 R.round) (.bool R.over) (.slice b4 n4 f4)) rfl rfl rfl rfl (set7_blk (.slice b1 n1 f1) (.slice b2 n2 f2) (.slice b3 n3 f3) (.int .i64 R.next) (.int .i64 R.round) (.bool R.over) (.slice b4 n4 f4) HP.out.zero) ?_
     have hj := HP.out.jk
     have hml : l.length = q := HM.out.2
     refine rjudge_right (set7_below HP.out.bel (by omega) (.slice b1 n1 f1) (.slice b2 n2 f2) (.slice b3 n3 f3) (.int .i64 R.next) (.int .i64 R.round) (.bool R.over) (.slice b4 n4 f4)) HE.out (by rw [hml, hj]; exact SameAt.outs7 (set7_outs wr (w.heap.size + 1) (.slice b1 n1 f1) (.slice b2 n2 f2) (.slice b3 n3 f3) (.int .i64 R.next) (.int .i64 R.round) (.bool R.over) (.slice b4 n4 f4)) HP.out.zero HRS.out HSA.out) ?_
     rw [hml, hj]
     exact sl_owns (base := wf) (e := 61) (fun _ => rfl) (by show fs.length ≤ _; omega) (ownsRow_outs (set7_outs wr (w.heap.size + 1) (.slice b1 n1 f1) (.slice b2 n2 f2) (.slice b3 n3 f3) (.int .i64 R.next) (.int .i64 R.round) (.bool R.over) (.slice b4 n4 f4)) HOW.out (by intro k hk; simp at hk; have := HF3.out; omega))
end
section
open Go.RowKit Go.Maps Go.Sort Go.Shelf Go.Deep
end
section
open Go.RowKit Go.Maps Go.Sort Go.Shelf Go.Deep
theorem SameAt.below {w w' : World} {v : Value} {g : SameL} (h : SameAt w v g) (hB : Below w.heap.size w w') : SameAt w' v g := by
 obtain ⟨vl, vd, vi, vw, e, h1, h2, h3, h4⟩ := h
 exact ⟨vl, vd, vi, vw, e, h1.below hB, h2.below hB, h3.below hB, h4.below hB⟩
end
section
open Go.RowKit Go.Maps Go.Sort Go.Shelf Go.Deep
theorem rjudge_of {r : LegR} {l : List (Int × List Int)} {w w' : World} {e : Ending} (h : JudgeOk r l w e w') : RJudgeOk r l w e w' := by
 obtain ⟨hB, vs, vf, he, h1, h2⟩ := h
 by_cases h0 : judgeE r l = 0
 ·obtain ⟨hst, hf, _⟩ := h1 h0
  obtain ⟨vl, vd, vi, vw, e, g1, g2, g3, g4, _⟩ := hst
  refine ⟨hB, vs, vf, he, ?_, ?_⟩
  ·unfold judgeS; rw [if_pos h0]; exact ⟨vl, vd, vi, vw, e, g1, g2, g3, g4⟩
  ·unfold judgeF; rw [if_pos h0]; exact hf
 ·obtain ⟨rfl, rfl⟩ := h2 h0
  refine ⟨hB, _, _, he, ?_, ?_⟩
  ·unfold judgeS; rw [if_neg h0]; exact sameZ_at _
  ·unfold judgeF; rw [if_neg h0]; exact ⟨none, 0, rfl, by simp, fun h => absurd rfl h⟩
set_option maxRecDepth 100000 in
set_option maxHeartbeats 16000000 in
theorem judges_law (r : LegR) (vc : Value) (lv : List (Int × Value × List Int)) (v : Value) (w : World) (hc : Sl w 3 encC vc r.counts) (hv : Sl w 2 encV v lv)
  (hb : ∀ x ∈ lv, Sl w 1 eI x.2.1 x.2.2 ∧ ∀ b ∈ x.2.2, -9223372036854775808 ≤ b ∧ b ≤ 9223372036854775807) :
  Calls Try.prog 5 #[legRV r vc, v] w (Ret (.bool true) w) := by
 have HK : Aside (∀ W, Calls Try.prog 13 #[] W (Ret (.bool true) W)) := fun W => known_any W
 have HV : Aside (Sl w 2 encV v lv) := hv
 have HC : Aside (Sl w 3 encC vc r.counts) := hc
 have HX : Aside (∀ x ∈ lv, Sl w 1 eI x.2.1 x.2.2) := fun x hx => (hb x hx).1
 have HXB : Aside (∀ x ∈ lv, ∀ b ∈ x.2.2, -9223372036854775808 ≤ b ∧ b ≤ 9223372036854775807) := fun x hx => (hb x hx).2
 have XL : Aside (∀ W, Below w.heap.size w W → Calls Try.prog 18 #[legRV r vc, v] W (Ret (.bool (longF r.counts.length (lv.map fun x => x.2.2.length))) W)) := fun W hB => long_any r vc lv v W (hc.below hB) (hv.below hB) (fun x hx => (hb x hx).1.below hB)
 have XR : Aside (r.counts.length ≤ 10 → ∀ W, Below w.heap.size w W → Calls Try.prog 19 #[legRV r vc] W (RulesOk r W)) := fun h W hB => rules_any r vc W (hc.below hB) h
 have XV : Aside (lv.length ≤ 2010 → (∀ x ∈ lv, x.2.2.length ≤ 6) → ∀ W, Below w.heap.size w W → Calls Try.prog 20 #[v] W (VisitsOk lv W)) := fun h1 h2 W hB => visits_any lv v W (hv.below hB) (fun x hx => (hb x hx).1.below hB) h1 h2
 have XP : Aside (∀ W, Below w.heap.size w W → Calls Try.prog 28 #[legRV r vc, v] W (RJudgeOk r (lv.map prV) W)) := fun W hB => rjudge_any r vc lv v W (hc.below hB) (hv.below hB) (fun x hx => ⟨(hb x hx).1.below hB, (hb x hx).2⟩)
 have HPB : Aside (∀ lv' : List (Int × Value × List Int), lv'.map prV = lv.map prV → ∀ x ∈ lv', ∀ b ∈ x.2.2, -9223372036854775808 ≤ b ∧ b ≤ 9223372036854775807) := by
  intro lv' h x hx b hbm
  have hm : prV x ∈ lv.map prV := by rw [← h]; exact List.mem_map.2 ⟨x, hx, rfl⟩
  obtain ⟨y, hy, e⟩ := List.mem_map.1 hm
  have e2 : y.2.2 = x.2.2 := by have e3 := congrArg Prod.snd e; exact e3
  exact (hb y hy).2 b (by rw [e2]; exact hbm)
 obtain ⟨a2, cp2, rfl, hl2, hs2⟩ := hv
 obtain ⟨m, hm⟩ : ∃ m, lv.length = m := ⟨_, rfl⟩
 have HN : Aside (lv.length = m) := hm
 have HL : Aside ((lv.map fun x => x.2.2.length).length = m) := by show _ = _; rw [List.length_map]; exact hm
 rw [hm] at HV XL XV XP hl2 ⊢
 obtain ⟨ac, cpc, rfl, hlc, hsc⟩ := hc
 obtain ⟨n, hn⟩ : ∃ n, r.counts.length = n := ⟨_, rfl⟩
 have HCN : Aside (r.counts.length = n) := hn
 rw [hn] at XL XR XP HC hlc ⊢
 clear hs2 hb hm hn hsc
 have hrv : ∀ x : Value, legRV r x = .agg #[x, .int .i64 r.first, .int .i64 r.rounds, .bool r.equal] := fun _ => rfl
 rw [hrv] at *
 obtain ⟨vc, hvc⟩ : ∃ x : Value, .slice ac n cpc = x := ⟨_, rfl⟩
 have HVC : Aside (.slice ac n cpc = vc) := hvc
 rw [hvc] at XL XR XP HC ⊢
 clear hvc
 go_enter Try.func5, Try.ntmps5
 go_wp2_with fail
 obtain ⟨wa, hwa⟩ : ∃ u, u = w.alloc (.cells #[vc, .int .i64 r.first, .int .i64 r.rounds, .bool r.equal] 42) := ⟨_, rfl⟩
 have BX : Aside (wa.heap[w.heap.size]? = some (.cells #[vc, .int .i64 r.first, .int .i64 r.rounds, .bool r.equal] 42 (0, 0))) := by rw [hwa]; exact World.alloc_heap_new _ _
 have BB : Aside (Below w.heap.size w wa ∧ w.heap.size ≤ wa.heap.size) := by rw [hwa]; exact ⟨(Below.refl _ _).alloc (Nat.le_refl _) _, by simp⟩
 rw [← hwa]
 clear hwa
 refine (XL.out _ BB.out.1).mono ?_
 rintro e w1 ⟨rfl, hb1⟩
 replace BX : Aside (w1.heap[w.heap.size]? = some (.cells #[vc, .int .i64 r.first, .int .i64 r.rounds, .bool r.equal] 42 (0, 0))) := (hb1.block _ (Array.getElem?_eq_some_iff.1 BX.out).1).trans BX.out
 replace BB : Aside (Below w.heap.size w w1 ∧ w.heap.size ≤ w1.heap.size) := ⟨BB.out.1.trans (hb1.mono BB.out.2), Nat.le_trans BB.out.2 hb1.size⟩
 clear hb1
 cases hlong : longF n (lv.map fun x => x.2.2.length) with
 | true =>
  clear hlong
  go_wp2_with fail
  refine (HK.out _).mono ?_
  rintro e w9 ⟨rfl, hb9⟩
  go_wp2
  go_ret
  exact ⟨rfl, BB.out.1.trans (hb9.mono BB.out.2)⟩
 | false =>
  have HLN : Aside ((∀ x ∈ lv, x.2.2.length ≤ 6) ∧ n ≤ 10 ∧ m ≤ 2010) := by
   obtain ⟨h1, h2, h3⟩ := long_no hlong
   exact ⟨fun x hx => h1 _ (List.mem_map.2 ⟨x, hx, rfl⟩), h2, by rw [HL.out] at h3; exact h3⟩
  clear hlong XL HL
  have XR2 : Aside (∀ W, Below w.heap.size w W → Calls Try.prog 19 #[.agg #[vc, .int .i64 r.first, .int .i64 r.rounds, .bool r.equal]] W (RulesOk r W)) := XR.out HLN.out.2.1
  have XV2 : Aside (∀ W, Below w.heap.size w W → Calls Try.prog 20 #[.slice a2 m cp2] W (VisitsOk lv W)) := XV.out HLN.out.2.2 HLN.out.1
  clear XR XV
  have q0 : w1.cell? ⟨w.heap.size, 0, none⟩ = some (vc) := blk_cell BX.out rfl
  have q1 : w1.cell? ⟨w.heap.size, 1, none⟩ = some (.int .i64 r.first) := blk_cell BX.out rfl
  have q2 : w1.cell? ⟨w.heap.size, 2, none⟩ = some (.int .i64 r.rounds) := blk_cell BX.out rfl
  have q3 : w1.cell? ⟨w.heap.size, 3, none⟩ = some (.bool r.equal) := blk_cell BX.out rfl
  have qlt : w.heap.size < w1.heap.size := (Array.getElem?_eq_some_iff.1 BX.out).1
  go_wp2_with fail
  refine (XR2.out _ BB.out.1).mono ?_
  rintro e w2 ⟨hbx, vc2, rfl, hsvc2⟩
  (try clear q0)
  (try clear q1)
  (try clear q2)
  (try clear q3)
  (try clear q4)
  (try clear q5)
  (try clear q6)
  replace BX : Aside (w2.heap[w.heap.size]? = some (.cells #[vc, .int .i64 r.first, .int .i64 r.rounds, .bool r.equal] 42 (0, 0))) := (hbx.block _ (Array.getElem?_eq_some_iff.1 BX.out).1).trans BX.out
  replace BB : Aside (Below w.heap.size w w2 ∧ w.heap.size ≤ w2.heap.size) := ⟨BB.out.1.trans (hbx.mono BB.out.2), Nat.le_trans BB.out.2 hbx.size⟩
  have Hvc2 : Aside (Sl w2 3 encC vc2 r.counts) := hsvc2
  clear hbx hsvc2 qlt XR2
  go_wp2_with fail
  refine (XV2.out _ BB.out.1).mono ?_
  rintro e w3 ⟨hbx, v3, lv3, rfl, hv3, hv3b, hv3m⟩
  replace BX : Aside (w3.heap[w.heap.size]? = some (.cells #[vc, .int .i64 r.first, .int .i64 r.rounds, .bool r.equal] 42 (0, 0))) := (hbx.block _ (Array.getElem?_eq_some_iff.1 BX.out).1).trans BX.out
  replace BB : Aside (Below w.heap.size w w3 ∧ w.heap.size ≤ w3.heap.size) := ⟨BB.out.1.trans (hbx.mono BB.out.2), Nat.le_trans BB.out.2 hbx.size⟩
  replace Hvc2 : Aside (Sl w3 3 encC vc2 r.counts) := Hvc2.out.below hbx
  have HV3 : Aside (Sl w3 2 encV v3 lv3 ∧ (∀ x ∈ lv3, Sl w3 1 eI x.2.1 x.2.2) ∧ lv3.map prV = lv.map prV) := ⟨hv3, hv3b, hv3m⟩
  clear hbx hv3 hv3b hv3m XV2
  go_wp2_with fail
  refine (Judge_any r vc2 lv3 v3 _ Hvc2.out HV3.out.1 (fun x hx => ⟨HV3.out.2.1 x hx, HPB.out lv3 HV3.out.2.2 x hx⟩)).mono ?_
  intro e w6 h6
  have e6 : lv3.map (fun x => (x.1, x.2.2)) = lv.map prV := HV3.out.2.2
  rw [e6] at h6
  obtain ⟨hb6, vs, vf, rfl, hs6, hf6⟩ := rjudge_of h6
  have HS6 : Aside (SameAt w6 vs (judgeS r (lv.map prV))) := hs6
  have HF6 : Aside (Sl w6 3 encF vf (judgeF r (lv.map prV))) := hf6
  clear h6 hs6 hf6 e6
  replace BX : Aside (w6.heap[w.heap.size]? = some (.cells #[vc, .int .i64 r.first, .int .i64 r.rounds, .bool r.equal] 42 (0, 0))) := (hb6.block _ (Array.getElem?_eq_some_iff.1 BX.out).1).trans BX.out
  replace BB : Aside (Below w.heap.size w w6 ∧ w.heap.size ≤ w6.heap.size) := ⟨BB.out.1.trans (hb6.mono BB.out.2), Nat.le_trans BB.out.2 hb6.size⟩
  clear hb6 Hvc2 HV3
  obtain ⟨er, her⟩ : ∃ x, judgeE r (lv.map prV) = x := ⟨_, rfl⟩
  have HER : Aside (judgeE r (lv.map prV) = er) := her
  rw [her]
  clear her
  obtain ⟨sg, hsg⟩ : ∃ x, judgeS r (lv.map prV) = x := ⟨_, rfl⟩
  have HSG : Aside (judgeS r (lv.map prV) = sg) := hsg
  rw [hsg] at HS6
  clear hsg
  obtain ⟨fs, hfs⟩ : ∃ x, judgeF r (lv.map prV) = x := ⟨_, rfl⟩
  have HFS : Aside (judgeF r (lv.map prV) = fs) := hfs
  rw [hfs] at HF6
  clear hfs
  obtain ⟨af, cf, rfl, hfl, -⟩ := id HF6.out
  obtain ⟨nf, hnf⟩ : ∃ x, fs.length = x := ⟨_, rfl⟩
  have HNF : Aside (fs.length = nf) := hnf
  rw [hnf] at HF6 hfl ⊢
  clear hnf
  have HS7 := HS6
  obtain ⟨vl, vd, vi, vw, rfl, hsl, hsd, hsi, hsw⟩ := HS6.out
  obtain ⟨A1, C1, rfl, -, -⟩ := hsl
  obtain ⟨A2, C2, rfl, -, -⟩ := hsd
  obtain ⟨A3, C3, rfl, -, -⟩ := hsi
  obtain ⟨A4, C4, rfl, -, -⟩ := hsw
  clear HS6
  obtain ⟨nl, hnl⟩ : ∃ n, sg.left.length = n := ⟨_, rfl⟩
  obtain ⟨nd, hnd⟩ : ∃ n, sg.darts.length = n := ⟨_, rfl⟩
  obtain ⟨ni, hni⟩ : ∃ n, sg.inn.length = n := ⟨_, rfl⟩
  obtain ⟨nw, hnw⟩ : ∃ n, sg.wins.length = n := ⟨_, rfl⟩
  obtain ⟨gn, hgn⟩ : ∃ x, sg.next = x := ⟨_, rfl⟩
  obtain ⟨gr, hgr⟩ : ∃ x, sg.round = x := ⟨_, rfl⟩
  obtain ⟨go, hgo⟩ : ∃ x, sg.over = x := ⟨_, rfl⟩
  rw [hnl, hnd, hni, hnw, hgn, hgr, hgo] at HS7 ⊢
  have HGG : Aside (sg.next = gn ∧ sg.round = gr ∧ sg.over = go) := ⟨hgn, hgr, hgo⟩
  clear hnl hnd hni hnw hgn hgr hgo
  go_upto_region 4 with (fail)
  obtain ⟨X8, hX8⟩ : ∃ X, X = w6.heap.size := ⟨_, rfl⟩
  obtain ⟨w7, hw7⟩ : ∃ u, u = w6.alloc (.cells #[.slice A1 nl C1, .slice A2 nd C2, .slice A3 ni C3, .int .i64 gn, .int .i64 gr, .bool go, .slice A4 nw C4] 51) := ⟨_, rfl⟩
  have hb7 : Below w6.heap.size w6 w7 := by rw [hw7]; exact (Below.refl _ _).alloc (Nat.le_refl _) _
  have B8 : Aside (w7.heap[X8]? = some (.cells #[.slice A1 nl C1, .slice A2 nd C2, .slice A3 ni C3, .int .i64 gn, .int .i64 gr, .bool go, .slice A4 nw C4] 51 (0, 0))) := by rw [hw7, hX8]; exact World.alloc_heap_new _ _
  rw [← hw7, ← hX8]
  clear hw7 hX8
  replace HS7 : Aside (SameAt w7 (.agg #[.slice A1 nl C1, .slice A2 nd C2, .slice A3 ni C3, .int .i64 gn, .int .i64 gr, .bool go, .slice A4 nw C4]) sg) := HS7.out.below hb7
  replace HF6 : Aside (Sl w7 3 encF (.slice af nf cf) fs) := HF6.out.below hb7
  replace BX : Aside (w7.heap[w.heap.size]? = some (.cells #[vc, .int .i64 r.first, .int .i64 r.rounds, .bool r.equal] 42 (0, 0))) := (hb7.block _ (Array.getElem?_eq_some_iff.1 BX.out).1).trans BX.out
  replace BB : Aside (Below w.heap.size w w7 ∧ w.heap.size ≤ w7.heap.size) := ⟨BB.out.1.trans (hb7.mono BB.out.2), Nat.le_trans BB.out.2 hb7.size⟩
  clear hb7
  have q0 : w7.cell? ⟨w.heap.size, 0, none⟩ = some (vc) := blk_cell BX.out rfl
  have q1 : w7.cell? ⟨w.heap.size, 1, none⟩ = some (.int .i64 r.first) := blk_cell BX.out rfl
  have q2 : w7.cell? ⟨w.heap.size, 2, none⟩ = some (.int .i64 r.rounds) := blk_cell BX.out rfl
  have q3 : w7.cell? ⟨w.heap.size, 3, none⟩ = some (.bool r.equal) := blk_cell BX.out rfl
  have qlt : w.heap.size < w7.heap.size := (Array.getElem?_eq_some_iff.1 BX.out).1
  go_wp2_with fail
  refine (XP.out _ BB.out.1).mono ?_
  rintro e wc ⟨hbc, vs2, vf2, rfl, hs2, hf2⟩
  rw [HER.out]
  have HS2 : Aside (SameAt wc vs2 sg) := by rw [HSG.out] at hs2; exact hs2
  have HG2 : Aside (Sl wc 3 encF vf2 fs) := by rw [HFS.out] at hf2; exact hf2
  clear hs2 hf2
  replace BX : Aside (wc.heap[w.heap.size]? = some (.cells #[vc, .int .i64 r.first, .int .i64 r.rounds, .bool r.equal] 42 (0, 0))) := (hbc.block _ (Array.getElem?_eq_some_iff.1 BX.out).1).trans BX.out
  replace BB : Aside (Below w.heap.size w wc ∧ w.heap.size ≤ wc.heap.size) := ⟨BB.out.1.trans (hbc.mono BB.out.2), Nat.le_trans BB.out.2 hbc.size⟩
  replace B8 : Aside (wc.heap[X8]? = some (.cells #[.slice A1 nl C1, .slice A2 nd C2, .slice A3 ni C3, .int .i64 gn, .int .i64 gr, .bool go, .slice A4 nw C4] 51 (0, 0))) := (hbc.block _ (Array.getElem?_eq_some_iff.1 B8.out).1).trans B8.out
  replace HS7 : Aside (SameAt wc (.agg #[.slice A1 nl C1, .slice A2 nd C2, .slice A3 ni C3, .int .i64 gn, .int .i64 gr, .bool go, .slice A4 nw C4]) sg) := HS7.out.below hbc
  replace HF6 : Aside (Sl wc 3 encF (.slice af nf cf) fs) := HF6.out.below hbc
  clear hbc qlt XP
  (try clear q0)
  (try clear q1)
  (try clear q2)
  (try clear q3)
  (try clear q4)
  (try clear q5)
  (try clear q6)
  obtain ⟨ag, cg, rfl, -, -⟩ := id HG2.out
  rw [HNF.out] at HG2 ⊢
  have HT2 := HS2
  obtain ⟨vl, vd, vi, vw, rfl, hsl, hsd, hsi, hsw⟩ := HS2.out
  obtain ⟨D1, E1, rfl, -, -⟩ := hsl
  obtain ⟨D2, E2, rfl, -, -⟩ := hsd
  obtain ⟨D3, E3, rfl, -, -⟩ := hsi
  obtain ⟨D4, E4, rfl, -, -⟩ := hsw
  clear HS2
  obtain ⟨ml, hml⟩ : ∃ n, sg.left.length = n := ⟨_, rfl⟩
  obtain ⟨md, hmd⟩ : ∃ n, sg.darts.length = n := ⟨_, rfl⟩
  obtain ⟨mi, hmi⟩ : ∃ n, sg.inn.length = n := ⟨_, rfl⟩
  obtain ⟨mw, hmw⟩ : ∃ n, sg.wins.length = n := ⟨_, rfl⟩
  rw [hml, hmd, hmi, hmw, HGG.out.1, HGG.out.2.1, HGG.out.2.2] at HT2 ⊢
  clear hml hmd hmi hmw
  have t0 : wc.cell? ⟨X8, 0, none⟩ = some (.slice A1 nl C1) := blk_cell B8.out rfl
  have t1 : wc.cell? ⟨X8, 1, none⟩ = some (.slice A2 nd C2) := blk_cell B8.out rfl
  have t2 : wc.cell? ⟨X8, 2, none⟩ = some (.slice A3 ni C3) := blk_cell B8.out rfl
  have t3 : wc.cell? ⟨X8, 3, none⟩ = some (.int .i64 gn) := blk_cell B8.out rfl
  have t4 : wc.cell? ⟨X8, 4, none⟩ = some (.int .i64 gr) := blk_cell B8.out rfl
  have t5 : wc.cell? ⟨X8, 5, none⟩ = some (.bool go) := blk_cell B8.out rfl
  have t6 : wc.cell? ⟨X8, 6, none⟩ = some (.slice A4 nw C4) := blk_cell B8.out rfl
  have tlt : X8 < wc.heap.size := (Array.getElem?_eq_some_iff.1 B8.out).1
  have HWX : Aside (∀ W, Below wc.heap.size wc W → Calls Try.prog 26 #[.agg #[.slice A1 nl C1, .slice A2 nd C2, .slice A3 ni C3, .int .i64 gn, .int .i64 gr, .bool go, .slice A4 nw C4], .agg #[.slice D1 ml E1, .slice D2 md E2, .slice D3 mi E3, .int .i64 gn, .int .i64 gr, .bool go, .slice D4 mw E4]] W (Ret (.bool true) W)) := fun W hB => by
   have := rsame_any sg sg (.agg #[.slice A1 nl C1, .slice A2 nd C2, .slice A3 ni C3, .int .i64 gn, .int .i64 gr, .bool go, .slice A4 nw C4]) (.agg #[.slice D1 ml E1, .slice D2 md E2, .slice D3 mi E3, .int .i64 gn, .int .i64 gr, .bool go, .slice D4 mw E4]) W (HS7.out.below hB) (HT2.out.below hB)
   rw [sameF_eq, decide_eq_true rfl] at this
   exact this
  go_upto_region 5 with (fail)
  obtain ⟨XC, hXC⟩ : ∃ X, X = wc.heap.size := ⟨_, rfl⟩
  obtain ⟨wd, hwd⟩ : ∃ u, u = wc.alloc (.cells #[.slice D1 ml E1, .slice D2 md E2, .slice D3 mi E3, .int .i64 gn, .int .i64 gr, .bool go, .slice D4 mw E4] 51) := ⟨_, rfl⟩
  have hbd : Below wc.heap.size wc wd := by rw [hwd]; exact (Below.refl _ _).alloc (Nat.le_refl _) _
  have BC : Aside (wd.heap[XC]? = some (.cells #[.slice D1 ml E1, .slice D2 md E2, .slice D3 mi E3, .int .i64 gn, .int .i64 gr, .bool go, .slice D4 mw E4] 51 (0, 0))) := by rw [hwd, hXC]; exact World.alloc_heap_new _ _
  rw [← hwd, ← hXC]
  clear hwd hXC
  replace t0 := keepc hbd t0
  replace t1 := keepc hbd t1
  replace t2 := keepc hbd t2
  replace t3 := keepc hbd t3
  replace t4 := keepc hbd t4
  replace t5 := keepc hbd t5
  replace t6 := keepc hbd t6
  have s0 : wd.cell? ⟨XC, 0, none⟩ = some (.slice D1 ml E1) := blk_cell BC.out rfl
  have s1 : wd.cell? ⟨XC, 1, none⟩ = some (.slice D2 md E2) := blk_cell BC.out rfl
  have s2 : wd.cell? ⟨XC, 2, none⟩ = some (.slice D3 mi E3) := blk_cell BC.out rfl
  have s3 : wd.cell? ⟨XC, 3, none⟩ = some (.int .i64 gn) := blk_cell BC.out rfl
  have s4 : wd.cell? ⟨XC, 4, none⟩ = some (.int .i64 gr) := blk_cell BC.out rfl
  have s5 : wd.cell? ⟨XC, 5, none⟩ = some (.bool go) := blk_cell BC.out rfl
  have s6 : wd.cell? ⟨XC, 6, none⟩ = some (.slice D4 mw E4) := blk_cell BC.out rfl
  replace tlt : X8 < wd.heap.size := Nat.lt_of_lt_of_le tlt hbd.size
  have slt : XC < wd.heap.size := (Array.getElem?_eq_some_iff.1 BC.out).1
  replace BB : Aside (Below w.heap.size w wd ∧ w.heap.size ≤ wd.heap.size) := ⟨BB.out.1.trans (hbd.mono BB.out.2), Nat.le_trans BB.out.2 hbd.size⟩
  replace HF6 : Aside (Sl wd 3 encF (.slice af nf cf) fs) := HF6.out.below hbd
  replace HG2 : Aside (Sl wd 3 encF (.slice ag nf cg) fs) := HG2.out.below hbd
  have HBD : Aside (Below wc.heap.size wc wd) := hbd
  clear hbd
  go_wp2_with fail
  refine (HWX.out _ HBD.out).mono ?_
  rintro e we ⟨rfl, hbe⟩
  replace BB : Aside (Below w.heap.size w we ∧ w.heap.size ≤ we.heap.size) := ⟨BB.out.1.trans (hbe.mono BB.out.2), Nat.le_trans BB.out.2 hbe.size⟩
  replace HF6 : Aside (Sl we 3 encF (.slice af nf cf) fs) := HF6.out.below hbe
  replace HG2 : Aside (Sl we 3 encF (.slice ag nf cg) fs) := HG2.out.below hbe
  clear hbe slt tlt HBD HWX HS7 HT2 B8 BC
  (try clear s0)
  (try clear s1)
  (try clear s2)
  (try clear s3)
  (try clear s4)
  (try clear s5)
  (try clear s6)
  (try clear t0)
  (try clear t1)
  (try clear t2)
  (try clear t3)
  (try clear t4)
  (try clear t5)
  (try clear t6)
  obtain ⟨x1, y1, e1, -, hx⟩ := HF6.out
  obtain ⟨x2, y2, e2, -, hy⟩ := HG2.out
  simp only [Value.slice.injEq] at e1 e2
  obtain ⟨rfl, -, -⟩ := e1
  obtain ⟨rfl, -, -⟩ := e2
  have HCF : Aside (∀ q x, fs[q]? = some x → ∃ b o b2 o2, af = some ⟨b, o, none⟩ ∧ ag = some ⟨b2, o2, none⟩ ∧ (we.cell? ⟨b, o + q * 3, none⟩ = some (.int .i64 x.1) ∧ we.cell? ⟨b, o + q * 3 + 1, none⟩ = some (.int .i64 x.2.1) ∧ we.cell? ⟨b, o + q * 3 + 2, none⟩ = some (.int .i64 x.2.2)) ∧ (we.cell? ⟨b2, o2 + q * 3, none⟩ = some (.int .i64 x.1) ∧ we.cell? ⟨b2, o2 + q * 3 + 1, none⟩ = some (.int .i64 x.2.1) ∧ we.cell? ⟨b2, o2 + q * 3 + 2, none⟩ = some (.int .i64 x.2.2))) := by
   intro q x hq
   have hne : fs ≠ [] := fun e => by rw [e] at hq; simp at hq
   obtain ⟨b, o, h1, _, h2⟩ := hx hne
   obtain ⟨b2, o2, h3, _, h4⟩ := hy hne
   refine ⟨b, o, b2, o2, h1, h3, ⟨?_, ?_, ?_⟩, ?_, ?_, ?_⟩
   ·have := h2 q _ hq 0 (.int .i64 x.1) rfl; simpa using this
   ·have := h2 q _ hq 1 (.int .i64 x.2.1) rfl; simpa using this
   ·have := h2 q _ hq 2 (.int .i64 x.2.2) rfl; simpa using this
   ·have := h4 q _ hq 0 (.int .i64 x.1) rfl; simpa using this
   ·have := h4 q _ hq 1 (.int .i64 x.2.1) rfl; simpa using this
   ·have := h4 q _ hq 2 (.int .i64 x.2.2) rfl; simpa using this
  clear hx hy HF6 HG2
  go_wp2_with fail
  go_loopg [11] nf (fun gg i wr => ∃ q : Nat, q ≤ nf ∧ nf - q ≤ gg ∧ i = .int .i64 q ∧ Aside (Below we.heap.size we wr))
  case atStart => exact ⟨0, Nat.zero_le _, by omega, rfl, Below.refl _ _⟩
  case round =>
   obtain ⟨q, hq, hgq, rfl, HB⟩ := hrel
   by_cases hltq : q < nf
   ·have hltz : (q : Int) < (nf : Int) := by omega
    obtain ⟨x, hqx⟩ : ∃ x, fs[q]? = some x := ⟨_, List.getElem?_eq_getElem (by rw [HNF.out]; exact hltq)⟩
    obtain ⟨cb, co, cb2, co2, rfl, rfl, ⟨c0, c1, c2⟩, d0, d1, d2⟩ := HCF.out q x hqx
    obtain ⟨u1, u2, u3⟩ := x
    simp only [] at c0 c1 c2 d0 d1 d2
    replace c0 := keepc HB.out c0
    replace c1 := keepc HB.out c1
    replace c2 := keepc HB.out c2
    replace d0 := keepc HB.out d0
    replace d1 := keepc HB.out d1
    replace d2 := keepc HB.out d2
    have MC : Aside (∀ w', Below wr.heap.size wr w' → (Below wr.heap.size wr w' ∧ w'.cell? ⟨cb, co + q * 3, none⟩ = some (.int .i64 u1) ∧ w'.cell? ⟨cb, co + q * 3 + 1, none⟩ = some (.int .i64 u2) ∧ w'.cell? ⟨cb, co + q * 3 + 2, none⟩ = some (.int .i64 u3) ∧ w'.cell? ⟨cb2, co2 + q * 3, none⟩ = some (.int .i64 u1) ∧ w'.cell? ⟨cb2, co2 + q * 3 + 1, none⟩ = some (.int .i64 u2) ∧ w'.cell? ⟨cb2, co2 + q * 3 + 2, none⟩ = some (.int .i64 u3))) := fun w' hB => ⟨hB, keepc hB c0, keepc hB c1, keepc hB c2, keepc hB d0, keepc hB d1, keepc hB d2⟩
    clear hqx
    go_wp2_with fail
    clear c0 c1 c2 d0 d1 d2
    refine region_class (fun w' => Below wr.heap.size wr w' ∧ w'.cell? ⟨cb, co + q * 3, none⟩ = some (.int .i64 u1) ∧ w'.cell? ⟨cb, co + q * 3 + 1, none⟩ = some (.int .i64 u2) ∧ w'.cell? ⟨cb, co + q * 3 + 2, none⟩ = some (.int .i64 u3) ∧ w'.cell? ⟨cb2, co2 + q * 3, none⟩ = some (.int .i64 u1) ∧ w'.cell? ⟨cb2, co2 + q * 3 + 1, none⟩ = some (.int .i64 u2) ∧ w'.cell? ⟨cb2, co2 + q * 3 + 2, none⟩ = some (.int .i64 u3)) (by kernel_rfl) (by kernel_rfl) (MC.out _ ((Below.refl _ _).drew)) ?_
    iterate 9 (first | go_big_quiet_skip | (go_big_quiet_want; unfold Oper.quiet; apply Exists.intro; refine ⟨fun W hW => ?_, ?_⟩; (go_split_ands; unfold Oper.quietAt; go_simp; first | rfl | exact ⟨rfl, rfl⟩ | fail); go_big_quiet_on; (try simp only [Act.put, List.setIfInBounds_toArray, List.set_cons_zero, List.set_cons_succ])))
    refine wpQuiet_nil ?_
    intro wb hwb
    have HBB : Aside (Below we.heap.size we wb) := HB.out.trans (hwb.1.mono HB.out.size)
    clear hwb MC HB
    have e1 : IntKind.i64.wrap ((q : Int) + 1) = (q : Int) + 1 := IntWalk.i64_in _ (by omega)
    go_wp2_with fail
    go_roundg (nf - (q + 1))
    case measure => omega
    case rel => exact ⟨q + 1, by omega, by omega, by go_num, HBB.out⟩
   ·have hltz : ¬ (q : Int) < (nf : Int) := by omega
    have hqe : q = nf := by omega
    subst hqe
    go_wp2_with fail
    refine (HK.out _).mono ?_
    rintro e wf ⟨rfl, hbf⟩
    go_wp2
    go_ret
    exact ⟨rfl, BB.out.1.trans ((HB.out.trans (hbf.mono HB.out.size)).mono BB.out.2)⟩
end
section
open Go.ChangeShapes Go.WideShapes Go.ChangeAt Go.RowKit Go.Joins
theorem fr_own : ownKnob Try.prog.godebug = none := by kernel_rfl
theorem fr_laid : laidOutB Try.prog = true := by kernel_rfl
theorem fs_get {α : Type} {xs : List α} {n i : Nat} (h : xs.length = n) (hi : i < n) : ∃ y, xs[i]? = some y := ⟨_, List.getElem?_eq_getElem (by omega)⟩
theorem fs_list2 {α : Type} {cs : List α} (h : cs.length = 2) : ∃ a b, cs = [a, b] := by
 match cs, h with
 | [a, b], _ => exact ⟨a, b, rfl⟩
theorem fs_list3 {α : Type} {cs : List α} (h : cs.length = 3) : ∃ a b c, cs = [a, b, c] := by
 match cs, h with
 | [a, b, c], _ => exact ⟨a, b, c, rfl⟩
/-- What an int can be. -/
def I64 (n : Int) : Prop := -9223372036854775808 ≤ n ∧ n ≤ 9223372036854775807
section
variable {H : Type} {enc : TypeId × Value → H} {w : World} {base : Nat} {spare : Nat → Bool} {held : Bool} {fuel : Nat} {cs : List Value} {y : DataW H × List MemPlace}
theorem b_open (h : DataW.trod enc Try.prog w base spare held fuel 4 cs = some y) : ∃ b, cs = [.bool b] := by
 obtain ⟨b, e0, _⟩ := DataW.trod_bool Try.underlying4 h
 exact ⟨b, e0⟩
theorem z_open (h : DataW.trod enc Try.prog w base spare held fuel 3 cs = some y) : ∃ a, cs = [.int .i64 a] ∧ I64 a := by
 obtain ⟨a, e0, _, wa⟩ := DataW.trod_int Try.underlying3 h
 exact ⟨a, e0, bounds_i64 wa⟩
theorem gate_open (h : DataW.trod enc Try.prog w base spare held fuel 22 cs = some y) : ∃ a, cs = [.int .i64 a] ∧ I64 a := by
 obtain ⟨a, e0, _, wa⟩ := DataW.trod_int Try.underlying22 h
 exact ⟨a, e0, bounds_i64 wa⟩
theorem beds_open (h : DataW.trod enc Try.prog w base spare held fuel 27 cs = some y) : ∃ v xs, cs = [v] ∧ Sl w 1 (fun x => [Value.int .i64 x]) v xs ∧ ∀ x ∈ xs, I64 x := by
 rcases open_ints Try.underlying27 Try.underlying34 (by kernel_rfl) h with ⟨hcs, _⟩ | ⟨a, len, cap, zs, hcs, _, hl, hm, hz, _, hcell, hwz⟩
 ·exact ⟨_, [], hcs, ⟨none, 0, rfl, by simp, fun h => absurd rfl h⟩, by simp⟩
 ·have hll : len ≤ zs.length := by rw [hz]; split <;> omega
  have hle : (zs.take len).length = len := by rw [List.length_take]; omega
  refine ⟨_, zs.take len, hcs, ⟨some a, cap, by rw [hle], ?_, ?_⟩, fun x hx => bounds_i64 (hwz x (List.mem_of_mem_take hx))⟩
  ·rw [hle]; unfold maxLen at hm; omega
  ·intro hne
   have hp : 0 < zs.length := by
    rcases Nat.eq_zero_or_pos zs.length with h0 | h0
    ·rw [List.eq_nil_of_length_eq_zero h0] at hne; simp at hne
    ·exact h0
   obtain ⟨b, off, rfl, hc⟩ := ints_at hcell hp
   refine ⟨b, off, rfl, World.block_lt_of_cell? w _ (hc 0 hp), ?_⟩
   intro j x hx i u hu
   match i, hu with
   | 0, hu =>
    simp at hu; subst hu
    have hj : j < zs.length := by
     have := (List.getElem?_eq_some_iff.1 hx).1
     rw [hle] at this; omega
    have hjl : j < len := by have := (List.getElem?_eq_some_iff.1 hx).1; rwa [hle] at this
    rw [Nat.mul_one, Nat.add_zero, hc j hj, List.getD_eq_getElem?_getD]
    rw [List.getElem?_take_of_lt hjl] at hx
    rw [hx]; rfl
   | i + 1, hu => simp at hu
/-- oche/api.Count -/
theorem count_open (h : DataW.trod enc Try.prog w base spare held fuel 24 cs = some y) : ∃ a b c, cs = [.int .i64 a, .int .i64 b, .int .i64 c] ∧ (I64 a) ∧ (I64 b) ∧ (I64 c) := by
 obtain ⟨xs, m, rfl, _, hl, hx, hf⟩ := DataW.trod_struct Try.underlying24 h
 obtain ⟨c0, c1, c2, rfl⟩ := fs_list3 (hl.trans (by kernel_rfl))
 have e0 : Try.prog.cellsOf 3 = 1 := by kernel_rfl
 have e1 : Try.prog.cellsOf 22 = 1 := by kernel_rfl
 have f0 := hf 0 _ rfl
 have f1 := hf 1 _ rfl
 have f2 := hf 2 _ rfl
 have hxm : xs.length = 3 := hx
 obtain ⟨y0, g0⟩ := fs_get hxm (show 0 < 3 by omega)
 rw [g0] at f0
 obtain ⟨y1, g1⟩ := fs_get hxm (show 1 < 3 by omega)
 rw [g1] at f1
 obtain ⟨y2, g2⟩ := fs_get hxm (show 2 < 3 by omega)
 rw [g2] at f2
 simp [e0, e1] at f0 f1 f2
 obtain ⟨a, h0, b0⟩ := z_open f0
 obtain ⟨b, h1, b1⟩ := gate_open f1
 obtain ⟨c, h2, b2⟩ := gate_open f2
 simp at h0
 subst h0
 simp at h1
 subst h1
 simp at h2
 subst h2
 exact ⟨_, _, _, rfl, b0, b1, b2⟩
end
end
end Go.Proofs.Ytgmlcgifagbjmaa
