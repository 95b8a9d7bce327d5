/- Leg: parts Ad, Dd, Ea. -/
import Derived.Test.YtgmlcgifagbjmaaPao
import Derived.Test.YtgmlcgifagbjmaaPak
set_option linter.unusedVariables false
set_option linter.unusedSimpArgs false
namespace Go.Proofs.Ytgmlcgifagbjmaa
section
open Go.RowKit Go.Maps Go.Sort Go.Shelf Go.Deep
def set7 (W : World) (R : Nat) (x0 x1 x2 x3 x4 x5 x6 : Value) : World := (((((((W.setCell ⟨R, 0, none⟩ x0).setCell ⟨R, 1, none⟩ x1).setCell ⟨R, 2, none⟩ x2).setCell ⟨R, 3, none⟩ x3).setCell ⟨R, 4, none⟩ x4).setCell ⟨R, 5, none⟩ x5).setCell ⟨R, 6, none⟩ x6)
theorem set7_blk {W : World} {R : Nat} {T : TypeId} {y0 y1 y2 y3 y4 y5 y6 : Value} (x0 x1 x2 x3 x4 x5 x6 : Value) (h : W.heap[R]? = some (.cells #[y0, y1, y2, y3, y4, y5, y6] T (0, 0))) : (set7 W R x0 x1 x2 x3 x4 x5 x6).heap[R]? = some (.cells #[x0, x1, x2, x3, x4, x5, x6] T (0, 0)) := by
 unfold set7
 have z0 : (W.setCell ⟨R, 0, none⟩ x0).heap[R]? = some (.cells #[x0, y1, y2, y3, y4, y5, y6] T (0, 0)) := Go.Joins.block_setCell (i := 0) h x0
 have z1 : ((W.setCell ⟨R, 0, none⟩ x0).setCell ⟨R, 1, none⟩ x1).heap[R]? = some (.cells #[x0, x1, y2, y3, y4, y5, y6] T (0, 0)) := Go.Joins.block_setCell (i := 1) z0 x1
 have z2 : (((W.setCell ⟨R, 0, none⟩ x0).setCell ⟨R, 1, none⟩ x1).setCell ⟨R, 2, none⟩ x2).heap[R]? = some (.cells #[x0, x1, x2, y3, y4, y5, y6] T (0, 0)) := Go.Joins.block_setCell (i := 2) z1 x2
 have z3 : ((((W.setCell ⟨R, 0, none⟩ x0).setCell ⟨R, 1, none⟩ x1).setCell ⟨R, 2, none⟩ x2).setCell ⟨R, 3, none⟩ x3).heap[R]? = some (.cells #[x0, x1, x2, x3, y4, y5, y6] T (0, 0)) := Go.Joins.block_setCell (i := 3) z2 x3
 have z4 : (((((W.setCell ⟨R, 0, none⟩ x0).setCell ⟨R, 1, none⟩ x1).setCell ⟨R, 2, none⟩ x2).setCell ⟨R, 3, none⟩ x3).setCell ⟨R, 4, none⟩ x4).heap[R]? = some (.cells #[x0, x1, x2, x3, x4, y5, y6] T (0, 0)) := Go.Joins.block_setCell (i := 4) z3 x4
 have z5 : ((((((W.setCell ⟨R, 0, none⟩ x0).setCell ⟨R, 1, none⟩ x1).setCell ⟨R, 2, none⟩ x2).setCell ⟨R, 3, none⟩ x3).setCell ⟨R, 4, none⟩ x4).setCell ⟨R, 5, none⟩ x5).heap[R]? = some (.cells #[x0, x1, x2, x3, x4, x5, y6] T (0, 0)) := Go.Joins.block_setCell (i := 5) z4 x5
 have z6 : (((((((W.setCell ⟨R, 0, none⟩ x0).setCell ⟨R, 1, none⟩ x1).setCell ⟨R, 2, none⟩ x2).setCell ⟨R, 3, none⟩ x3).setCell ⟨R, 4, none⟩ x4).setCell ⟨R, 5, none⟩ x5).setCell ⟨R, 6, none⟩ x6).heap[R]? = some (.cells #[x0, x1, x2, x3, x4, x5, x6] T (0, 0)) := Go.Joins.block_setCell (i := 6) z5 x6
 exact z6
theorem set7_below {B R : Nat} {w W : World} (h : Below B w W) (hR : B ≤ R) (x0 x1 x2 x3 x4 x5 x6 : Value) : Below B w (set7 W R x0 x1 x2 x3 x4 x5 x6) := below_set7 h hR x0 x1 x2 x3 x4 x5 x6
theorem set7_outs (W : World) (R : Nat) (x0 x1 x2 x3 x4 x5 x6 : Value) : Outs [R] W (set7 W R x0 x1 x2 x3 x4 x5 x6) := outs_set7 W x0 x1 x2 x3 x4 x5 x6
/-- Zeros are written where zeros stand. -/
def JC (B : World) (R : Nat) (_ : Array Bool) (_ : Act) (W : World) : Prop := Outs [R] B W ∧ ZeroSt W R
theorem JC.any {B W : World} {R : Nat} {l l' : Array Bool} {a a' : Act} (h : JC B R l a W) : JC B R l' a' W := h
theorem JC.start {B : World} {R : Nat} {l : Array Bool} {a : Act} (h : ZeroSt B R) : JC B R l a B.drew := ⟨Outs.of_below ((Below.refl _ _).drew), h⟩
theorem JC.store {B W : World} {R : Nat} {l l' : Array Bool} {a a' : Act} (h : JC B R l a W) : JC B R l' a' (((((((W.setCell ⟨R, 0, none⟩ (.slice none 0 0)).setCell ⟨R, 1, none⟩ (.slice none 0 0)).setCell ⟨R, 2, none⟩ (.slice none 0 0)).setCell ⟨R, 3, none⟩ (.int .i64 0)).setCell ⟨R, 4, none⟩ (.int .i64 0)).setCell ⟨R, 5, none⟩ (.bool false)).setCell ⟨R, 6, none⟩ (.slice none 0 0)) :=
 ⟨h.1.trans (outs_set7 _ _ _ _ _ _ _ _), set7_blk _ _ _ _ _ _ _ h.2⟩
theorem Outs.cell {S : List Nat} {w w' : World} (h : Outs S w w') {a : Addr} {x : Value} (hS : a.block ∉ S) (hx : w.cell? a = some x) : w'.cell? a = some x :=
 (World.cell?_of_block (w := w) (h.block a.block hS (World.block_lt_of_cell? w a hx))).trans hx
/-- The number of the first wrong visit, and its error. -/
def playE (r : LegR) (l : List (Int × List Int)) : Int × Int :=
 if judgeE r l = 0 then (match (judgeK r l l.length).2 with | [] => (0, 0) | f :: _ => (f.1, f.2.2)) else (0, judgeE r l)
def playG (r : LegR) (l : List (Int × List Int)) : Option LegG :=
 if judgeE r l = 0 then (match (judgeK r l l.length).2 with | [] => some (judgeK r l l.length).1 | _ :: _ => none) else none
def PlayOk (r : LegR) (l : List (Int × List Int)) (w : World) (e : Ending) (w' : World) : Prop :=
 Below w.heap.size w w' ∧ ∃ vs, e = .returned (.tuple #[vs, .int .i64 (playE r l).1, .int .i64 (playE r l).2]) ∧ (match playG r l with | some g => StAt w' vs g w.heap.size | none => vs = zeroSt)
set_option maxRecDepth 100000 in
set_option maxHeartbeats 8000000 in
theorem Play_any (r : LegR) (vc : Value) (lv : List (Int × Value × List Int)) (v : Value) (w : World) (hc : Sl w 3 encC vc r.counts) (hv : Sl w 2 encV v lv)
  (hb : ∀ x ∈ lv, Sl w 1 eI x.2.1 x.2.2 ∧ ∀ b ∈ x.2.2, -9223372036854775808 ≤ b ∧ b ≤ 9223372036854775807) :
  Calls Try.prog 22 #[legRV r vc, v] w (PlayOk r (lv.map (fun x => (x.1, x.2.2))) w) := by
 have x1 : ∀ W, Below w.heap.size w W → Calls Try.prog 27 #[legRV r vc, v] W (JudgeOk r (lv.map (fun x => (x.1, x.2.2))) W) := fun W hB => Judge_any r vc lv v W (hc.below hB) (hv.below hB) (fun x hx => ⟨(hb x hx).1.below hB, (hb x hx).2⟩)
 obtain ⟨l, hl⟩ : ∃ l, lv.map (fun x => (x.1, x.2.2)) = l := ⟨_, rfl⟩
 rw [hl] at x1 ⊢
 obtain ⟨ac, cpc, rfl, _, _⟩ := hc
 obtain ⟨a, cp, rfl, _, _⟩ := hv
 unfold legRV at *
 obtain ⟨f, hf⟩ : ∃ f, r.first = f := ⟨_, rfl⟩
 obtain ⟨rd, hrd⟩ : ∃ f, r.rounds = f := ⟨_, rfl⟩
 obtain ⟨eq, heq⟩ : ∃ f, r.equal = f := ⟨_, rfl⟩
 rw [hf, hrd, heq] at x1 ⊢
 have X1 : Aside _ := x1
 clear hl hb hf hrd heq x1
 go_enter Try.func22, Try.ntmps22
 go_wp2_with fail
 obtain ⟨wa, hwa⟩ : ∃ u, u = (w.alloc (.cells #[.slice ac r.counts.length cpc, .int .i64 f, .int .i64 rd, .bool eq] 42)).alloc (.cells #[.slice none 0 0, .slice none 0 0, .slice none 0 0, .int .i64 0, .int .i64 0, .bool false, .slice none 0 0] 51) := ⟨_, rfl⟩
 have BA : Aside (Below w.heap.size w wa) := by rw [hwa]; (repeat' (first | exact Below.refl _ _ | assumption | (with_reducible refine Below.drew ?_) | (with_reducible refine Below.setCell ?_ (by (first | (simp; done) | (simp; omega))) _) | (with_reducible refine below_drewN' ?_ _) | (refine Below.alloc ?_ (by (try simp only [World.size_alloc, World.size_drew, World.size_setCell]); omega) _) | (refine Below.trans ?_ (Below.mono (by assumption) (by (try simp only [World.size_alloc, World.size_drew, World.size_setCell]); omega)))))
 have SWA : Aside (wa.heap.size = w.heap.size + 2) := by show _ = _; rw [hwa, World.size_alloc, World.size_alloc]
 have za : Aside (ZeroSt wa (w.heap.size + 1)) := by rw [hwa]; exact World.alloc_heap_new' _ _ _ (by simp)
 rw [← hwa]
 clear hwa
 refine (X1.out _ BA.out).mono ?_
 rintro e w1 ⟨hb1, vs, vf, rfl, h0, h1⟩
 have B1 : Aside (Below w.heap.size w w1) := BA.out.trans (hb1.mono BA.out.size)
 have z1 : Aside (ZeroSt w1 (w.heap.size + 1)) := (hb1.block _ (Array.getElem?_eq_some_iff.1 za.out).1).trans za.out
 have r0 := blk_cell z1.out (i := 0) rfl
 have r1 := blk_cell z1.out (i := 1) rfl
 have r2 := blk_cell z1.out (i := 2) rfl
 have r3 := blk_cell z1.out (i := 3) rfl
 have r4 := blk_cell z1.out (i := 4) rfl
 have r5 := blk_cell z1.out (i := 5) rfl
 have r6 := blk_cell z1.out (i := 6) rfl
 have rf := blk_free z1.out
 have hsz : w.heap.size + 1 < w1.heap.size := (Array.getElem?_eq_some_iff.1 z1.out).1
 clear hb1 za BA X1
 obtain ⟨er, her⟩ : ∃ er, judgeE r l = er := ⟨_, rfl⟩
 have HE : Aside (judgeE r l = er) := her
 rw [her] at h0 h1 ⊢
 clear her
 have bel7 : ∀ {W : World} (h : Below w.heap.size w W) (R : Nat) (hR : w.heap.size ≤ R) (x0 x1 x2 x3 x4 x5 x6 : Value), Below w.heap.size w (((((((W.setCell ⟨R, 0, none⟩ x0).setCell ⟨R, 1, none⟩ x1).setCell ⟨R, 2, none⟩ x2).setCell ⟨R, 3, none⟩ x3).setCell ⟨R, 4, none⟩ x4).setCell ⟨R, 5, none⟩ x5).setCell ⟨R, 6, none⟩ x6) := fun h R hR => below_set7 h hR
 by_cases hz : er = 0
 ·subst hz
  obtain ⟨hst, hfs, hfb⟩ := h0 rfl
  obtain ⟨g, hg⟩ : ∃ g, (judgeK r l l.length).1 = g := ⟨_, rfl⟩
  obtain ⟨fs, hfe⟩ : ∃ g, (judgeK r l l.length).2 = g := ⟨_, rfl⟩
  have HG : Aside ((judgeK r l l.length).1 = g) := hg
  have HF : Aside ((judgeK r l l.length).2 = fs) := hfe
  rw [hg] at hst
  rw [hfe] at hfs hfb
  have hst' := hst
  obtain ⟨vl, vd, vi, vw, rfl, hvl, hvd, hvi, hvw, _⟩ := hst
  obtain ⟨al, cl, rfl, _, _⟩ := hvl
  obtain ⟨ad, cd, rfl, _, _⟩ := hvd
  obtain ⟨ai, ci, rfl, _, _⟩ := hvi
  obtain ⟨aw, cw, rfl, _, _⟩ := hvw
  have HSZ : Aside (∀ W, Outs [w.heap.size + 1] w1 W → StAt W (.agg #[.slice al g.left.length cl, .slice ad g.darts.length cd, .slice ai g.inn.length ci, .int .i64 g.next, .int .i64 g.round, .bool g.over, .slice aw g.wins.length cw]) g w.heap.size) := fun W hO => by
   have h2 := hst'.outs hO (fun k hk => by simp at hk; have := SWA.out; omega)
   obtain ⟨a1, a2, a3, a4, e1, e2, e3, e4, e5, e6⟩ := h2
   exact ⟨a1, a2, a3, a4, e1, e2, e3, e4, e5, fun b o n c e => Nat.le_trans (by have := SWA.out; omega) (e6 b o n c e)⟩
  clear hst'
  cases fs with
  | nil =>
   obtain ⟨af, cf, rfl, _, _⟩ := hfs
   have HP : Aside (playE r l = (0, 0)) := by show _ = _; unfold playE; rw [if_pos HE.out, HF.out]
   have HP2 : Aside (playG r l = some g) := by show _ = _; unfold playG; rw [if_pos HE.out, HF.out, HG.out]
   clear h0 h1 hg hfe HG HF HE
   go_wp2
   obtain ⟨wz, hwz⟩ : ∃ u, u = (set7 w1 (w.heap.size + 1) (.slice al g.left.length cl) (.slice ad g.darts.length cd) (.slice ai g.inn.length ci) (.int .i64 g.next) (.int .i64 g.round) (.bool g.over) (.slice aw g.wins.length cw)).alloc (.cells #[.slice al g.left.length cl, .slice ad g.darts.length cd, .slice ai g.inn.length ci, .int .i64 g.next, .int .i64 g.round, .bool g.over, .slice aw g.wins.length cw] 51) := ⟨_, rfl⟩
   have BZ : Aside (Below w.heap.size w wz) := by rw [hwz]; exact (((set7_below B1.out (by omega) _ _ _ _ _ _ _)).alloc (by have := B1.out.size; simp [set7, World.setCell]; omega) _)
   have zz : wz.heap[w.heap.size + 1]? = some (.cells #[.slice al g.left.length cl, .slice ad g.darts.length cd, .slice ai g.inn.length ci, .int .i64 g.next, .int .i64 g.round, .bool g.over, .slice aw g.wins.length cw] 51 (0, 0)) := by rw [hwz]; exact (Below.heap_alloc _ _ _ (by simp [set7, World.setCell]; omega)).trans (set7_blk _ _ _ _ _ _ _ z1.out)
   have OZ : Aside (Outs [w.heap.size + 1] w1 wz) := by rw [hwz]; exact (set7_outs _ _ _ _ _ _ _ _ _).trans (Outs.of_below ((Below.refl _ _).alloc (Nat.le_refl _) _))
   unfold set7 at hwz
   rw [← hwz]
   clear hwz r0 r1 r2 r3 r4 r5 r6
   have r0 := blk_cell zz (i := 0) rfl
   have r1 := blk_cell zz (i := 1) rfl
   have r2 := blk_cell zz (i := 2) rfl
   have r3 := blk_cell zz (i := 3) rfl
   have r4 := blk_cell zz (i := 4) rfl
   have r5 := blk_cell zz (i := 5) rfl
   have r6 := blk_cell zz (i := 6) rfl
   refine bodyPost_ret (v := .tuple #[.agg #[.slice al g.left.length cl, .slice ad g.darts.length cd, .slice ai g.inn.length ci, .int .i64 g.next, .int .i64 g.round, .bool g.over, .slice aw g.wins.length cw], .int .i64 0, .int .i64 0]) (by simp [results, Try.results22, go_sem, r0, r1, r2, r3, r4, r5, r6]) rfl ?_
   unfold PlayOk
   rw [HP.out, HP2.out]
   exact ⟨BZ.out, _, rfl, HSZ.out wz OZ.out⟩
  | cons f0 fs =>
   obtain ⟨fa, fb, fc⟩ := f0
   obtain ⟨af, cf, rfl, _, hsf⟩ := hfs
   obtain ⟨bf, of, rfl, hbl, hcl⟩ := hsf (by simp)
   have hbf := hfb (by simp) bf of _ _ rfl
   rw [SWA.out] at hbf
   have kf0 : w1.cell? ⟨bf, of, none⟩ = some (.int .i64 fa) := by have := hcl 0 _ rfl 0 (.int .i64 fa) rfl; simpa using this
   have kf2 : w1.cell? ⟨bf, of + 2, none⟩ = some (.int .i64 fc) := by have := hcl 0 _ rfl 2 (.int .i64 fc) rfl; simpa using this
   have hne : bf ≠ w.heap.size + 1 := by omega
   obtain ⟨m, hm⟩ : ∃ m, ((fa, fb, fc) :: fs).length = m := ⟨_, rfl⟩
   have hmz : (0 : Int) < (m : Int) := by rw [← hm]; simp; try omega
   have hm0 : 0 < m := by omega
   rw [hm]
   have HP : Aside (playE r l = (fa, fc)) := by show _ = _; unfold playE; rw [if_pos HE.out, HF.out]
   have HP2 : Aside (playG r l = none) := by show _ = _; unfold playG; rw [if_pos HE.out, HF.out]
   clear h0 h1 hg hfe HG HF HE hcl hsf hfb hbf hm HSZ
   go_wp2_with fail
   obtain ⟨wq, hwq⟩ : ∃ u, u = w1.alloc (.cells #[.slice al g.left.length cl, .slice ad g.darts.length cd, .slice ai g.inn.length ci, .int .i64 g.next, .int .i64 g.round, .bool g.over, .slice aw g.wins.length cw] 51) := ⟨_, rfl⟩
   have BQ : Below w1.heap.size w1 wq := by rw [hwq]; exact (Below.refl _ _).alloc (Nat.le_refl _) _
   have ZQ : Aside (ZeroSt wq (w.heap.size + 1)) := (BQ.block _ hsz).trans z1.out
   replace kf0 := keepc BQ kf0
   replace kf2 := keepc BQ kf2
   have BW : Aside (Below w.heap.size w wq) := B1.out.trans (BQ.mono B1.out.size)
   have hbq : bf < wq.heap.size := Nat.lt_of_lt_of_le hbl BQ.size
   rw [← hwq]
   clear hwq BQ r0 r1 r2 r3 r4 r5 r6 rf hsz hbl
   refine region_laidK (fun _ _ => True) (fl := 10) [true, true, true, true, true, true, true, true, true, true, true, true] 0 (fun (i : Nat) (x : Value) (ww : World) => (match i with | 0 => x = .agg #[.slice none 0 0, .slice none 0 0, .slice none 0 0, .int .i64 0, .int .i64 0, .bool false, .slice none 0 0] | 1 => x = .slice (some ⟨bf, of, none⟩) m cf | 2 => x = .pointer (some ⟨bf, of, none⟩) | 3 => x = .pointer (some ⟨bf, of, none⟩) | 4 => x = .int .i64 fa | 5 => x = .slice (some ⟨bf, of, none⟩) m cf | 6 => x = .pointer (some ⟨bf, of, none⟩) | 7 => x = .pointer (some ⟨bf, of + 2, none⟩) | 8 => x = .int .i64 fc | 9 => True | 10 => x = .int .i64 fa | 11 => x = .int .i64 fc | _ => True : Prop)) (JC wq (w.heap.size + 1)) (by kernel_rfl) rfl (by show layableK _ 34 _ 10 = true; decide +kernel) rfl (JC.start ZQ.out) ?mono5 ?step5 ?rest5
   case mono5 =>
    intro i x ww ww' hB h
    match i, h with
    | 0, h => exact h
    | 1, h => exact h
    | 2, h => exact h
    | 3, h => exact h
    | 4, h => exact h
    | 5, h => exact h
    | 6, h => exact h
    | 7, h => exact h
    | 8, h => exact h
    | 9, h => exact h
    | 10, h => exact h
    | 11, h => exact h
    | n + 12, h => exact h
   case step5 =>
    intro i o_ listed ac W hA ho hL he hcl hli hsz
    have hk4 : ac.tmps.getD 4 undef = .pointer (some ⟨w.heap.size + 1, 0, none⟩) := hL.kept 4 (by decide +kernel)
    have hk8 : ac.tmps.getD 8 undef = .slice (some ⟨bf, of, none⟩) m cf := hL.kept 8 (by decide +kernel)
    have k_kf0 := hL.cls.1.cell (by simp; omega) kf0
    have k_kf2 := hL.cls.1.cell (by simp; omega) kf2
    match i, hA, ho with
    | 0, _, ho =>
     cases ho
     refine wpOp_plain rfl rfl ?_
     unfold Oper.wp
     go_simp
     first | exact JC.any hL.cls | exact ⟨_, rfl, trivial, JC.any hL.cls, rfl⟩
    | 1, _, ho =>
     cases ho
     refine wpOp_plain rfl rfl ?_
     unfold Oper.wp
     go_simp
     first | exact JC.any hL.cls | exact ⟨_, rfl, trivial, JC.any hL.cls, rfl⟩
    | 2, _, ho =>
     cases ho
     have d1 : ac.tmps.getD 25 undef = .slice (some ⟨bf, of, none⟩) m cf := hL.new 1 _ 25 rfl (he ⟨1, .data⟩ (by simp) rfl) rfl
     refine wpOp_plain rfl rfl ?_
     unfold Oper.wp
     go_simp
     first | exact JC.any hL.cls | exact ⟨_, rfl, trivial, JC.any hL.cls, rfl⟩
    | 3, _, ho =>
     cases ho
     have d2 : ac.tmps.getD 26 undef = .pointer (some ⟨bf, of, none⟩) := hL.new 2 _ 26 rfl (he ⟨2, .data⟩ (by simp) rfl) rfl
     refine wpOp_plain rfl rfl ?_
     unfold Oper.wp
     go_simp
     first | exact JC.any hL.cls | exact ⟨_, rfl, trivial, JC.any hL.cls, rfl⟩
    | 4, _, ho =>
     cases ho
     have d3 : ac.tmps.getD 27 undef = .pointer (some ⟨bf, of, none⟩) := hL.new 3 _ 27 rfl (he ⟨3, .data⟩ (by simp) rfl) rfl
     refine wpOp_plain rfl rfl ?_
     unfold Oper.wp
     go_simp
     first | exact JC.any hL.cls | exact ⟨_, rfl, trivial, JC.any hL.cls, rfl⟩
    | 5, _, ho =>
     cases ho
     refine wpOp_plain rfl rfl ?_
     unfold Oper.wp
     go_simp
     first | exact JC.any hL.cls | exact ⟨_, rfl, trivial, JC.any hL.cls, rfl⟩
    | 6, _, ho =>
     cases ho
     have d5 : ac.tmps.getD 29 undef = .slice (some ⟨bf, of, none⟩) m cf := hL.new 5 _ 29 rfl (he ⟨5, .data⟩ (by simp) rfl) rfl
     refine wpOp_plain rfl rfl ?_
     unfold Oper.wp
     go_simp
     first | exact JC.any hL.cls | exact ⟨_, rfl, trivial, JC.any hL.cls, rfl⟩
    | 7, _, ho =>
     cases ho
     have d6 : ac.tmps.getD 30 undef = .pointer (some ⟨bf, of, none⟩) := hL.new 6 _ 30 rfl (he ⟨6, .data⟩ (by simp) rfl) rfl
     refine wpOp_plain rfl rfl ?_
     unfold Oper.wp
     go_simp
     first | exact JC.any hL.cls | exact ⟨_, rfl, trivial, JC.any hL.cls, rfl⟩
    | 8, _, ho =>
     cases ho
     have d7 : ac.tmps.getD 31 undef = .pointer (some ⟨bf, of + 2, none⟩) := hL.new 7 _ 31 rfl (he ⟨7, .data⟩ (by simp) rfl) rfl
     refine wpOp_plain rfl rfl ?_
     unfold Oper.wp
     go_simp
     first | exact JC.any hL.cls | exact ⟨_, rfl, trivial, JC.any hL.cls, rfl⟩
    | 9, _, ho =>
     cases ho
     have d0 : ac.tmps.getD 24 undef = .agg #[.slice none 0 0, .slice none 0 0, .slice none 0 0, .int .i64 0, .int .i64 0, .bool false, .slice none 0 0] := hL.new 0 _ 24 rfl (he ⟨0, .data⟩ (by simp) rfl) rfl
     have zc0 : W.cell? ⟨w.heap.size + 1, 0, none⟩ = some (.slice none 0 0) := blk_cell hL.cls.2 rfl
     have zc1 : W.cell? ⟨w.heap.size + 1, 1, none⟩ = some (.slice none 0 0) := blk_cell hL.cls.2 rfl
     have zc2 : W.cell? ⟨w.heap.size + 1, 2, none⟩ = some (.slice none 0 0) := blk_cell hL.cls.2 rfl
     have zc3 : W.cell? ⟨w.heap.size + 1, 3, none⟩ = some (.int .i64 0) := blk_cell hL.cls.2 rfl
     have zc4 : W.cell? ⟨w.heap.size + 1, 4, none⟩ = some (.int .i64 0) := blk_cell hL.cls.2 rfl
     have zc5 : W.cell? ⟨w.heap.size + 1, 5, none⟩ = some (.bool false) := blk_cell hL.cls.2 rfl
     have zc6 : W.cell? ⟨w.heap.size + 1, 6, none⟩ = some (.slice none 0 0) := blk_cell hL.cls.2 rfl
     have zf : ∀ i, W.frozen? ⟨w.heap.size + 1, i, none⟩ = false := fun i => blk_free hL.cls.2 i
     clear k_kf0 k_kf2
     refine wpOp_plain rfl rfl ?_
     unfold Oper.wp
     go_simp
     exact JC.store hL.cls
    | 10, _, ho =>
     cases ho
     have d4 : ac.tmps.getD 28 undef = .int .i64 fa := hL.new 4 _ 28 rfl (he ⟨4, .data⟩ (by simp) rfl) rfl
     refine wpOp_plain rfl rfl ?_
     unfold Oper.wp
     go_simp
     first | exact JC.any hL.cls | exact ⟨_, rfl, trivial, JC.any hL.cls, rfl⟩
    | 11, _, ho =>
     cases ho
     have d8 : ac.tmps.getD 32 undef = .int .i64 fc := hL.new 8 _ 32 rfl (he ⟨8, .data⟩ (by simp) rfl) rfl
     refine wpOp_plain rfl rfl ?_
     unfold Oper.wp
     go_simp
     first | exact JC.any hL.cls | exact ⟨_, rfl, trivial, JC.any hL.cls, rfl⟩
    | n + 12, hA, _ => simp at hA
   case rest5 =>
    intro ac wz hL
    have e24 : ac.tmps.getD 24 undef = .agg #[.slice none 0 0, .slice none 0 0, .slice none 0 0, .int .i64 0, .int .i64 0, .bool false, .slice none 0 0] := hL.new 0 _ 24 rfl rfl rfl
    have e25 : ac.tmps.getD 25 undef = .slice (some ⟨bf, of, none⟩) m cf := hL.new 1 _ 25 rfl rfl rfl
    have e26 : ac.tmps.getD 26 undef = .pointer (some ⟨bf, of, none⟩) := hL.new 2 _ 26 rfl rfl rfl
    have e27 : ac.tmps.getD 27 undef = .pointer (some ⟨bf, of, none⟩) := hL.new 3 _ 27 rfl rfl rfl
    have e28 : ac.tmps.getD 28 undef = .int .i64 fa := hL.new 4 _ 28 rfl rfl rfl
    have e29 : ac.tmps.getD 29 undef = .slice (some ⟨bf, of, none⟩) m cf := hL.new 5 _ 29 rfl rfl rfl
    have e30 : ac.tmps.getD 30 undef = .pointer (some ⟨bf, of, none⟩) := hL.new 6 _ 30 rfl rfl rfl
    have e31 : ac.tmps.getD 31 undef = .pointer (some ⟨bf, of + 2, none⟩) := hL.new 7 _ 31 rfl rfl rfl
    have e32 : ac.tmps.getD 32 undef = .int .i64 fc := hL.new 8 _ 32 rfl rfl rfl
    have e5 : ac.tmps.getD 5 undef = .int .i64 fa := hL.new 10 _ 5 rfl rfl rfl
    have e6 : ac.tmps.getD 6 undef = .int .i64 fc := hL.new 11 _ 6 rfl rfl rfl
    have HJ : Aside (JC wq (w.heap.size + 1) #[] ac wz) := JC.any hL.cls
    have es := hL.sets [24, 25, 26, 27, 28, 29, 30, 31, 32, 5, 6] (by decide +kernel)
    rw [List.foldl_cons, List.foldl_cons, List.foldl_cons, List.foldl_cons, List.foldl_cons, List.foldl_cons, List.foldl_cons, List.foldl_cons, List.foldl_cons, List.foldl_cons, List.foldl_cons, List.foldl_nil, e24, e25, e26, e27, e28, e29, e30, e31, e32, e5, e6] at es
    rw [es]
    clear es hL e24 e25 e26 e27 e28 e29 e30 e31 e32 e5 e6
    refine wpAny_done (by decide +kernel) ?_ _
    simp only [List.setIfInBounds_toArray, List.set_cons_zero, List.set_cons_succ]
    have BZ : Aside (Below w.heap.size w wz) := BW.out.trans (HJ.out.1.below (B := w.heap.size) (fun k hk => by simp at hk; omega) BW.out.size)
    have zz := HJ.out.2
    have r0 := blk_cell zz (i := 0) rfl
    have r1 := blk_cell zz (i := 1) rfl
    have r2 := blk_cell zz (i := 2) rfl
    have r3 := blk_cell zz (i := 3) rfl
    have r4 := blk_cell zz (i := 4) rfl
    have r5 := blk_cell zz (i := 5) rfl
    have r6 := blk_cell zz (i := 6) rfl
    clear zz HJ
    go_wp2_with fail
    refine bodyPost_ret (v := .tuple #[zeroSt, .int .i64 fa, .int .i64 fc]) (by simp [zeroSt, results, Try.results22, go_sem, r0, r1, r2, r3, r4, r5, r6]) rfl (by unfold PlayOk; rw [HP.out, HP2.out]; exact ⟨BZ.out, _, rfl, rfl⟩)
 ·-- @@c
  obtain ⟨rfl, rfl⟩ := h1 hz
  have HP : Aside (playE r l = (0, er)) := by show _ = _; unfold playE; rw [if_neg (by rw [HE.out]; exact hz), HE.out]
  have HP2 : Aside (playG r l = none) := by show _ = _; unfold playG; rw [if_neg (by rw [HE.out]; exact hz)]
  clear h0 h1 HE
  unfold zeroSt
  go_wp2
  obtain ⟨wz, hwz⟩ : ∃ u, u = (set7 w1 (w.heap.size + 1) (.slice none 0 0) (.slice none 0 0) (.slice none 0 0) (.int .i64 0) (.int .i64 0) (.bool false) (.slice none 0 0)).alloc (.cells #[.slice none 0 0, .slice none 0 0, .slice none 0 0, .int .i64 0, .int .i64 0, .bool false, .slice none 0 0] 51) := ⟨_, rfl⟩
  have BZ : Aside (Below w.heap.size w wz) := by rw [hwz]; exact (((set7_below B1.out (by omega) _ _ _ _ _ _ _)).alloc (by have := B1.out.size; simp [set7, World.setCell]; omega) _)
  have zz : wz.heap[w.heap.size + 1]? = some (.cells #[.slice none 0 0, .slice none 0 0, .slice none 0 0, .int .i64 0, .int .i64 0, .bool false, .slice none 0 0] 51 (0, 0)) := by rw [hwz]; exact (Below.heap_alloc _ _ _ (by simp [set7, World.setCell]; omega)).trans (set7_blk _ _ _ _ _ _ _ z1.out)
  have OZ : Aside (Outs [w.heap.size + 1] w1 wz) := by rw [hwz]; exact (set7_outs _ _ _ _ _ _ _ _ _).trans (Outs.of_below ((Below.refl _ _).alloc (Nat.le_refl _) _))
  unfold set7 at hwz
  rw [← hwz]
  clear hwz r0 r1 r2 r3 r4 r5 r6
  have r0 := blk_cell zz (i := 0) rfl
  have r1 := blk_cell zz (i := 1) rfl
  have r2 := blk_cell zz (i := 2) rfl
  have r3 := blk_cell zz (i := 3) rfl
  have r4 := blk_cell zz (i := 4) rfl
  have r5 := blk_cell zz (i := 5) rfl
  have r6 := blk_cell zz (i := 6) rfl
  refine bodyPost_ret (v := .tuple #[zeroSt, .int .i64 0, .int .i64 er]) (by simp [zeroSt, results, Try.results22, go_sem, r0, r1, r2, r3, r4, r5, r6]) rfl (by unfold PlayOk; rw [HP.out, HP2.out]; exact ⟨BZ.out, _, rfl, rfl⟩)
end
section
open Go.RowKit Go.Maps Go.Sort Go.Shelf Go.Deep
theorem info_count : (Try.prog.info? 24).map (fun i => (i.zero, i.size, i.bytes)) = some (some (.agg #[.int .i64 0, .int .i64 0, .int .i64 0]), 3, 24) := by kernel_rfl
theorem encC_one (cs : List Cnt) : ∀ y ∈ cs, ∀ u ∈ encC y, u.oneCell' = true := by
 intro y _ u hu
 simp [encC] at hu
 rcases hu with rfl | rfl | rfl <;> rfl
/-- What a copy of rules is. -/
def RulesOk (r : LegR) (w : World) (e : Ending) (w' : World) : Prop := Below w.heap.size w w' ∧ ∃ vc, e = .returned (legRV r vc) ∧ Sl w' 3 encC vc r.counts
set_option maxRecDepth 100000 in
set_option maxHeartbeats 4000000 in
theorem rules_any (r : LegR) (vc : Value) (w : World) (hc : Sl w 3 encC vc r.counts) (hn : r.counts.length ≤ 10) : Calls Try.prog 19 #[legRV r vc] w (RulesOk r w) := by
 obtain ⟨i0, hi, hz0, hz1, hz2⟩ := info_parts info_count
 have HC : Aside (Sl w 3 encC vc r.counts) := hc
 obtain ⟨a, cp, rfl, hl, _⟩ := hc
 have HN : Aside (r.counts.length ≤ 10) := hn
 unfold legRV
 generalize r.counts.length = n at hl HC ⊢
 go_enter Try.func19, Try.ntmps19
 go_wp2_with (at_builtin; refine wpList_append_fresh _ rfl _ _ 40 rfl 24 i0 (.agg #[.int .i64 0, .int .i64 0, .int .i64 0]) 3 24 Try.underlying40 hi hz0 hz1 hz2 rfl (by decide) (w.heap.size + 1 + 1) (World.alloc_heap_new' _ _ _ (by simp)) rfl (vy := .slice a n cp) (ys := r.counts) (enc := encC) rfl (HC.out.below (by (repeat' (first | exact Below.refl _ _ | assumption | (with_reducible refine Below.drew ?_) | (with_reducible refine Below.setCell ?_ (by (first | (simp; done) | (simp; omega))) _) | (with_reducible refine below_drewN' ?_ _) | (refine Below.alloc ?_ (by (try simp only [World.size_alloc, World.size_drew, World.size_setCell]); omega) _) | (refine Below.trans ?_ (Below.mono (by assumption) (by (try simp only [World.size_alloc, World.size_drew, World.size_setCell]); omega))))))) (fun _ => rfl) (encC_one r.counts) (by have := HN.out; unfold maxLen; omega) (by have := HN.out; omega) ?_; intro v2 w2 hrow hB; have HR : Aside (RowB w2 3 encC 24 v2 r.counts) := hrow; obtain ⟨g2, c2, cs2, rfl, hl2, hg2, hc2⟩ := hrow; have hbx : w2.heap[w.heap.size]? = some (.cells #[.slice a n cp, .int .i64 r.first, .int .i64 r.rounds, .bool r.equal] 42 (0, 0)) := (hB.block _ (by simp; omega)).trans ((Below.heap_alloc _ _ _ (by simp; omega)).trans ((Below.heap_alloc _ _ _ (by simp)).trans (World.alloc_heap_new _ _))); have hrs : w2.heap[w.heap.size + 1]? = some (.cells #[.slice none 0 0, .int .i64 0, .int .i64 0, .bool false] 42 (0, 0)) := (hB.block _ (by simp)).trans ((Below.heap_alloc _ _ _ (by simp)).trans (World.alloc_heap_new' _ _ _ (by simp))); have q0 := blk_cell hbx (i := 0) (x := .slice a n cp) rfl; have q1 := blk_cell hbx (i := 1) (x := .int .i64 r.first) rfl; have q2 := blk_cell hbx (i := 2) (x := .int .i64 r.rounds) rfl; have q3 := blk_cell hbx (i := 3) (x := .bool r.equal) rfl; have qf := blk_free hbx; have p0 := blk_cell hrs (i := 0) (x := .slice none 0 0) rfl; have p1 := blk_cell hrs (i := 1) (x := .int .i64 0) rfl; have p2 := blk_cell hrs (i := 2) (x := .int .i64 0) rfl; have p3 := blk_cell hrs (i := 3) (x := .bool false) rfl; have pf := blk_free hrs; have hlt : w.heap.size + 1 < w2.heap.size := (Array.getElem?_eq_some_iff.1 hrs).1; have HBB : Aside (Below w.heap.size w w2) := Below.trans (by (repeat' (first | exact Below.refl _ _ | assumption | (with_reducible refine Below.drew ?_) | (with_reducible refine Below.setCell ?_ (by (first | (simp; done) | (simp; omega))) _) | (with_reducible refine below_drewN' ?_ _) | (refine Below.alloc ?_ (by (try simp only [World.size_alloc, World.size_drew, World.size_setCell]); omega) _) | (refine Below.trans ?_ (Below.mono (by assumption) (by (try simp only [World.size_alloc, World.size_drew, World.size_setCell]); omega)))))) (hB.mono (by simp; omega)); have HGG : Aside ((g2 ≠ w.heap.size ∧ g2 ≠ w.heap.size + 1) ∧ w2.heap[g2]? = some (.cells cs2 24 (0, 0))) := ⟨⟨fun e => (by rw [e, hbx] at hg2; injection hg2 with hg2; injection hg2 with _ h9; exact absurd h9 (by decide)), fun e => (by rw [e, hrs] at hg2; injection hg2 with hg2; injection hg2 with _ h9; exact absurd h9 (by decide))⟩, hg2⟩; have HCC : Aside (∀ j y, r.counts[j]? = some y → ∀ i u, (encC y)[i]? = some u → cs2[j * 3 + i]? = some u) := hc2; clear hbx hrs hB hg2 hc2)
 refine bodyPost_ret (v := .agg #[.slice (some ⟨g2, 0, none⟩) r.counts.length c2, .int .i64 r.first, .int .i64 r.rounds, .bool r.equal]) (by simp [results, Try.results19, go_sem, p0, p1, p2, p3, hlt]) rfl ?_
 obtain ⟨⟨h1, h2⟩, h3⟩ := HGG.out
 refine ⟨?_, .slice (some ⟨g2, 0, none⟩) r.counts.length c2, rfl, ?_⟩
 ·have hb := HBB.out
  exact ((((hb.setCell (p := ⟨w.heap.size, 0, none⟩) (Nat.le_refl _) _).setCell (p := ⟨w.heap.size + 1, 0, none⟩) (Nat.le_succ _) _).setCell (p := ⟨w.heap.size + 1, 1, none⟩) (Nat.le_succ _) _).setCell (p := ⟨w.heap.size + 1, 2, none⟩) (Nat.le_succ _) _).setCell (p := ⟨w.heap.size + 1, 3, none⟩) (Nat.le_succ _) _
 ·have h5 : ∀ (W : World) (k i : Nat) (x : Value), g2 ≠ k → (W.setCell ⟨k, i, none⟩ x).heap[g2]? = W.heap[g2]? := fun W k i x h => Below.heap_setCell _ _ _ _ h
  exact RowB.sl (e := 24) ⟨g2, c2, cs2, rfl, hl2, by rw [h5 _ _ _ _ h2, h5 _ _ _ _ h2, h5 _ _ _ _ h2, h5 _ _ _ _ h2, h5 _ _ _ _ h1]; exact h3, HCC.out⟩
/-- Whether a leg is more than the statements look at. -/
def longF (nc : Nat) (lens : List Nat) : Bool := lens.any (fun n => decide (6 < n)) || (decide (10 < nc) || ((decide (200 < lens.length) && decide (lens.length ≤ 2000)) || decide (2010 < lens.length)))
set_option maxRecDepth 100000 in
set_option maxHeartbeats 4000000 in
theorem long_any (r : LegR) (vc : Value) (lv : List (Int × Value × List Int)) (v : Value) (w : World) (hc : Sl w 3 encC vc r.counts) (hv : Sl w 2 encV v lv) (hb : ∀ x ∈ lv, Sl w 1 eI x.2.1 x.2.2) :
  Calls Try.prog 18 #[legRV r vc, v] w (Ret (.bool (longF r.counts.length (lv.map fun x => x.2.2.length))) w) := by
 obtain ⟨a, cp, rfl, hl, _⟩ := hc
 obtain ⟨a2, cp2, rfl, hl2, hs2⟩ := hv
 obtain ⟨m, hm⟩ : ∃ m, lv.length = m := ⟨_, rfl⟩
 have HN : Aside (lv.length = m) := hm
 have HX : Aside (∀ x ∈ lv, Sl w 1 eI x.2.1 x.2.2) := hb
 have HS : Aside (lv ≠ [] → ∃ b off, a2 = some ⟨b, off, none⟩ ∧ b < w.heap.size ∧ ∀ j x, lv[j]? = some x → ∀ i y, (encV x)[i]? = some y → w.cell? ⟨b, off + j * 2 + i, none⟩ = some y) := hs2
 obtain ⟨res, hres⟩ : ∃ res, longF r.counts.length (lv.map fun x => x.2.2.length) = res := ⟨_, rfl⟩
 have HR : Aside (longF r.counts.length (lv.map fun x => x.2.2.length) = res) := hres
 rw [hm] at hl2 ⊢
 rw [hres]
 clear hs2 hb hm hres
 unfold legRV
 obtain ⟨nc, hnc⟩ : ∃ nc, r.counts.length = nc := ⟨_, rfl⟩
 rw [hnc] at HR hl ⊢
 clear hnc
 go_enter Try.func18, Try.ntmps18
 go_wp2_with fail
 obtain ⟨wa, hwa⟩ : ∃ u, u = w.alloc (.cells #[.slice a nc cp, .int .i64 r.first, .int .i64 r.rounds, .bool r.equal] 42) := ⟨_, rfl⟩
 have kb0 : wa.cell? ⟨w.heap.size, 0, none⟩ = some (.slice a nc cp) := by rw [hwa]; go_simp
 have BA : Aside (Below w.heap.size w wa) := by rw [hwa]; (repeat' (first | exact Below.refl _ _ | assumption | (with_reducible refine Below.drew ?_) | (with_reducible refine Below.setCell ?_ (by (first | (simp; done) | (simp; omega))) _) | (with_reducible refine below_drewN' ?_ _) | (refine Below.alloc ?_ (by (try simp only [World.size_alloc, World.size_drew, World.size_setCell]); omega) _) | (refine Below.trans ?_ (Below.mono (by assumption) (by (try simp only [World.size_alloc, World.size_drew, World.size_setCell]); omega)))))
 rw [← hwa]
 clear hwa
 go_loopg [5] m (fun gg i wr => ∃ k : Nat, k ≤ m ∧ m - k ≤ gg ∧ i = .int .i64 k ∧ wa = wr ∧ Aside (∀ j x, j < k → lv[j]? = some x → x.2.2.length ≤ 6))
 case atStart => exact ⟨0, Nat.zero_le _, by omega, rfl, rfl, fun j x h => absurd h (Nat.not_lt_zero j)⟩
 case round =>
  obtain ⟨k, hk, hg, rfl, rfl, HA⟩ := hrel
  by_cases hlt : k < m
  ·have hltz : (k : Int) < (m : Int) := by omega
   obtain ⟨x, hx⟩ : ∃ x, lv[k]? = some x := ⟨_, List.getElem?_eq_getElem (by rw [HN.out]; exact hlt)⟩
   obtain ⟨B, off, rfl, hBlt, hcl⟩ := HS.out (by intro e; rw [e] at hx; simp at hx)
   have kx : wa.cell? ⟨B, off + k * 2 + 1, none⟩ = some x.2.1 := keepc BA.out (hcl k x hx 1 x.2.1 rfl)
   obtain ⟨a3, c3, e3, hl3, _⟩ := HX.out x (List.mem_of_getElem? hx)
   rw [e3] at kx
   have HXK : Aside (lv[k]? = some x) := hx
   clear e3 hcl hx
   by_cases h6 : 6 < x.2.2.length
   ·have h6z : (6 : Int) < (x.2.2.length : Int) := by omega
    have HT : Aside (res = true) := by
     show _ = _
     rw [← HR.out]
     unfold longF
     have : (lv.map fun x => x.2.2.length).any (fun n => decide (6 < n)) = true := List.any_eq_true.2 ⟨_, List.mem_map.2 ⟨x, List.mem_of_getElem? HXK.out, rfl⟩, by simpa using h6⟩
     rw [this]; rfl
    generalize x.2.2.length = dl at *
    have h9 := HT.out
    clear h6 HR HT
    subst h9
    go_wp2
    go_ret
    exact ⟨rfl, BA.out⟩
   ·have h6z : ¬ (6 : Int) < (x.2.2.length : Int) := by omega
    have HA2 : Aside (∀ j x, j < k + 1 → lv[j]? = some x → x.2.2.length ≤ 6) := by
     intro j y hj hy
     by_cases hjk : j = k
     ·subst hjk; rw [HXK.out] at hy; cases hy; omega
     ·exact HA.out j y (by omega) hy
    generalize x.2.2.length = dl at *
    go_wp2_with fail
    go_roundg (m - (k + 1))
    case measure => omega
    case rel => exact ⟨k + 1, by omega, by omega, by go_num, rfl, HA2.out⟩
  ·have hltz : ¬ (k : Int) < (m : Int) := by omega
   have hke : k = m := by omega
   subst hke
   have HT : Aside (res = (decide (10 < nc) || ((decide (200 < k) && decide (k ≤ 2000)) || decide (2010 < k)))) := by
    show _ = _
    rw [← HR.out]
    unfold longF
    have : (lv.map fun x => x.2.2.length).any (fun n => decide (6 < n)) = false := by
     rw [List.any_eq_false]
     intro n hn
     obtain ⟨x, hx, rfl⟩ := List.mem_map.1 hn
     obtain ⟨j, hj⟩ := List.mem_iff_getElem?.1 hx
     have := HA.out j x (by have := (List.getElem?_eq_some_iff.1 hj).1; have := HN.out; omega) hj
     simp; omega
    rw [this, List.length_map, HN.out, Bool.false_or]
   clear HR HA
   by_cases h10 : 10 < nc
   ·have h10z : (10 : Int) < (nc : Int) := by omega
    have HT2 : Aside (res = true) := by show _ = _; rw [HT.out, decide_eq_true h10]; rfl
    have h9 := HT2.out
    clear HT HT2
    subst h9
    go_wp2
    go_ret
    exact ⟨rfl, BA.out⟩
   ·have h10z : ¬ (10 : Int) < (nc : Int) := by omega
    by_cases h2 : 200 < k
    ·have h2z : (200 : Int) < (k : Int) := by omega
     by_cases h20 : k ≤ 2000
     ·have h20z : (k : Int) ≤ 2000 := by omega
      have HT2 : Aside (res = true) := by show _ = _; rw [HT.out, decide_eq_true h2, decide_eq_true h20]; simp
      have h9 := HT2.out
      clear HT HT2
      subst h9
      go_wp2
      go_ret
      exact ⟨rfl, BA.out⟩
     ·have h20z : ¬ (k : Int) ≤ 2000 := by omega
      by_cases h21 : 2010 < k
      ·have h21z : (2010 : Int) < (k : Int) := by omega
       have HT2 : Aside (res = true) := by show _ = _; rw [HT.out, decide_eq_true h21]; simp
       have h9 := HT2.out
       clear HT HT2
       subst h9
       go_wp2
       go_ret
       exact ⟨rfl, BA.out⟩
      ·have h21z : ¬ (2010 : Int) < (k : Int) := by omega
       have HT2 : Aside (res = false) := by show _ = _; rw [HT.out, decide_eq_false h10, decide_eq_false h20, decide_eq_false h21]; simp
       have h9 := HT2.out
       clear HT HT2
       subst h9
       go_wp2
       go_ret
       exact ⟨rfl, BA.out⟩
    ·have h2z : ¬ (200 : Int) < (k : Int) := by omega
     have h21z : ¬ (2010 : Int) < (k : Int) := by omega
     have HT2 : Aside (res = false) := by show _ = _; rw [HT.out, decide_eq_false h10, decide_eq_false h2, decide_eq_false (show ¬ 2010 < k by omega)]; rfl
     have h9 := HT2.out
     clear HT HT2
     subst h9
     go_wp2
     go_ret
     exact ⟨rfl, BA.out⟩
end
section
open Go.RowKit Go.Maps Go.Sort Go.Shelf Go.Deep
set_option maxRecDepth 100000 in
set_option maxHeartbeats 4000000 in
theorem rhas_any (l : List Int) (v : Value) (n : Int) (w : World) (hv : Sl w 1 eI v l) :
  Calls Try.prog 87 #[v, .int .i64 n] w (Ret (.bool (decide (n ∈ l))) w) := by
 obtain ⟨a, cp, rfl, hl, hs⟩ := hv
 obtain ⟨m, hm⟩ : ∃ m, l.length = m := ⟨_, rfl⟩
 have HN : Aside (l.length = m) := hm
 have HS : Aside (l ≠ [] → ∃ b off, a = some ⟨b, off, none⟩ ∧ b < w.heap.size ∧ ∀ j x, l[j]? = some x → ∀ i y, (eI x)[i]? = some y → w.cell? ⟨b, off + j * 1 + i, none⟩ = some y) := hs
 obtain ⟨res, hres⟩ : ∃ res, decide (n ∈ l) = res := ⟨_, rfl⟩
 have HR : Aside (decide (n ∈ l) = res) := hres
 rw [hm] at hl ⊢
 rw [hres]
 clear hs hm hres
 go_enter Try.func87, Try.ntmps87
 go_wp2_with fail
 go_loopg [5] m (fun gg i wr => ∃ k : Nat, k ≤ m ∧ m - k ≤ gg ∧ i = .int .i64 k ∧ w = wr ∧ Aside (∀ j x, j < k → l[j]? = some x → x ≠ n))
 case atStart => exact ⟨0, Nat.zero_le _, by omega, rfl, rfl, fun j x h => absurd h (Nat.not_lt_zero j)⟩
 case round =>
  obtain ⟨k, hk, hg, rfl, rfl, HA⟩ := hrel
  by_cases hlt : k < m
  ·have hltz : (k : Int) < (m : Int) := by omega
   obtain ⟨x, hx⟩ : ∃ x, l[k]? = some x := ⟨_, List.getElem?_eq_getElem (by rw [HN.out]; exact hlt)⟩
   obtain ⟨B, off, rfl, hBlt, hcl⟩ := HS.out (by intro e; rw [e] at hx; simp at hx)
   have kx : w.cell? ⟨B, off + k, none⟩ = some (.int .i64 x) := by have := hcl k x hx 0 _ rfl; simpa using this
   have HXK : Aside (l[k]? = some x) := hx
   clear hcl hx
   by_cases h6 : x = n
   ·have HT : Aside (res = true) := by
     show _ = _
     rw [← HR.out, ← h6]
     exact decide_eq_true (List.mem_of_getElem? HXK.out)
    have h9 := HT.out
    clear HR HT
    subst h9
    subst h6
    go_wp2
    go_ret
    exact ⟨rfl, Below.refl _ _⟩
   ·have HA2 : Aside (∀ j x, j < k + 1 → l[j]? = some x → x ≠ n) := by
     intro j y hj hy
     by_cases hjk : j = k
     ·subst hjk; rw [HXK.out] at hy; cases hy; exact h6
     ·exact HA.out j y (by omega) hy
    go_wp2_with fail
    go_roundg (m - (k + 1))
    case measure => omega
    case rel => exact ⟨k + 1, by omega, by omega, by go_num, rfl, HA2.out⟩
  ·have hltz : ¬ (k : Int) < (m : Int) := by omega
   have hke : k = m := by omega
   subst hke
   have HT : Aside (res = false) := by
    show _ = _
    rw [← HR.out]
    refine decide_eq_false fun h => ?_
    obtain ⟨j, hj⟩ := List.mem_iff_getElem?.1 h
    exact HA.out j n (by have := (List.getElem?_eq_some_iff.1 hj).1; have := HN.out; omega) hj rfl
   have h9 := HT.out
   clear HR HT HA
   subst h9
   go_wp2
   go_ret
   exact ⟨rfl, Below.refl _ _⟩
set_option maxRecDepth 100000 in
set_option maxHeartbeats 4000000 in
theorem rints_any (l q : List Int) (v u : Value) (w : World) (hv : Sl w 1 eI v l) (hu : Sl w 1 eI u q) :
  Calls Try.prog 51 #[v, u] w (Ret (.bool (decide (l = q))) w) := by
 obtain ⟨a, cp, rfl, hl, hs⟩ := hv
 obtain ⟨a2, cp2, rfl, hl2, hs2⟩ := hu
 obtain ⟨m, hm⟩ : ∃ m, l.length = m := ⟨_, rfl⟩
 obtain ⟨m2, hm2⟩ : ∃ m, q.length = m := ⟨_, rfl⟩
 have HN : Aside (l.length = m) := hm
 have HN2 : Aside (q.length = m2) := hm2
 have HS : Aside (l ≠ [] → ∃ b off, a = some ⟨b, off, none⟩ ∧ b < w.heap.size ∧ ∀ j x, l[j]? = some x → ∀ i y, (eI x)[i]? = some y → w.cell? ⟨b, off + j * 1 + i, none⟩ = some y) := hs
 have HS2 : Aside (q ≠ [] → ∃ b off, a2 = some ⟨b, off, none⟩ ∧ b < w.heap.size ∧ ∀ j x, q[j]? = some x → ∀ i y, (eI x)[i]? = some y → w.cell? ⟨b, off + j * 1 + i, none⟩ = some y) := hs2
 obtain ⟨res, hres⟩ : ∃ res, decide (l = q) = res := ⟨_, rfl⟩
 have HR : Aside (decide (l = q) = res) := hres
 rw [hm] at hl ⊢
 rw [hm2] at hl2 ⊢
 rw [hres]
 clear hs hs2 hm hm2 hres
 by_cases hmm : m ≠ m2
 ·have hmz : ¬ (m : Int) = (m2 : Int) := by omega
  have HT : Aside (res = false) := by
   show _ = _
   rw [← HR.out]
   refine decide_eq_false fun h => ?_
   have h1 := HN.out; have h2 := HN2.out
   rw [h] at h1
   omega
  have h9 := HT.out
  clear HR HT
  subst h9
  go_enter Try.func51, Try.ntmps51
  go_wp2
  go_ret
  exact ⟨rfl, Below.refl _ _⟩
 obtain rfl : m = m2 := by omega
 clear hmm
 go_enter Try.func51, Try.ntmps51
 go_wp2_with fail
 go_loopg [5] m (fun gg i wr => ∃ k : Nat, k ≤ m ∧ m - k ≤ gg ∧ i = .int .i64 k ∧ Below w.heap.size w wr ∧ Aside (∀ j, j < k → l[j]? = q[j]?))
 case atStart => exact ⟨0, Nat.zero_le _, by omega, rfl, Below.refl _ _, fun j h => absurd h (Nat.not_lt_zero j)⟩
 case round =>
  obtain ⟨k, hk, hg, rfl, hbr, HA⟩ := hrel
  by_cases hlt : k < m
  ·have hltz : (k : Int) < (m : Int) := by omega
   obtain ⟨x, hx⟩ : ∃ x, l[k]? = some x := ⟨_, List.getElem?_eq_getElem (by rw [HN.out]; exact hlt)⟩
   obtain ⟨y, hy⟩ : ∃ x, q[k]? = some x := ⟨_, List.getElem?_eq_getElem (by rw [HN2.out]; exact hlt)⟩
   obtain ⟨B, off, rfl, hBlt, hcl⟩ := HS.out (by intro e; rw [e] at hx; simp at hx)
   obtain ⟨B2, off2, rfl, hBlt2, hcl2⟩ := HS2.out (by intro e; rw [e] at hy; simp at hy)
   have kx : wr.cell? ⟨B, off + k, none⟩ = some (.int .i64 x) := by have := hcl k x hx 0 _ rfl; exact keepc hbr (by simpa using this)
   have ky : wr.cell? ⟨B2, off2 + k, none⟩ = some (.int .i64 y) := by have := hcl2 k y hy 0 _ rfl; exact keepc hbr (by simpa using this)
   have HXK : Aside (l[k]? = some x) := hx
   have HYK : Aside (q[k]? = some y) := hy
   clear hcl hx hcl2 hy
   by_cases h6 : x = y
   ·have HA2 : Aside (∀ j, j < k + 1 → l[j]? = q[j]?) := by
     intro j hj
     by_cases hjk : j = k
     ·subst hjk; rw [HXK.out, HYK.out, h6]
     ·exact HA.out j (by omega)
    subst h6
    go_wp2_with fail
    go_region
    go_wp2_with fail
    go_roundg (m - (k + 1))
    case measure => omega
    case rel => exact ⟨k + 1, by omega, by omega, by go_num, by (repeat' (first | exact Below.refl _ _ | assumption | (with_reducible refine Below.drew ?_) | (with_reducible refine Below.setCell ?_ (by (first | (simp; done) | (simp; omega))) _) | (with_reducible refine below_drewN' ?_ _) | (refine Below.alloc ?_ (by (try simp only [World.size_alloc, World.size_drew, World.size_setCell]); omega) _) | (refine Below.trans ?_ (Below.mono (by assumption) (by (try simp only [World.size_alloc, World.size_drew, World.size_setCell]); omega))))), HA2.out⟩
   ·have HT : Aside (res = false) := by
     show _ = _
     rw [← HR.out]
     refine decide_eq_false fun h => h6 ?_
     have h1 := HXK.out
     rw [h, HYK.out] at h1
     exact (Option.some.inj h1).symm
    have h9 := HT.out
    clear HR HT
    subst h9
    go_wp2_with fail
    go_region
    go_wp2
    go_ret
    exact ⟨rfl, by (repeat' (first | exact Below.refl _ _ | assumption | (with_reducible refine Below.drew ?_) | (with_reducible refine Below.setCell ?_ (by (first | (simp; done) | (simp; omega))) _) | (with_reducible refine below_drewN' ?_ _) | (refine Below.alloc ?_ (by (try simp only [World.size_alloc, World.size_drew, World.size_setCell]); omega) _) | (refine Below.trans ?_ (Below.mono (by assumption) (by (try simp only [World.size_alloc, World.size_drew, World.size_setCell]); omega)))))⟩
  ·have hltz : ¬ (k : Int) < (m : Int) := by omega
   have hke : k = m := by omega
   subst hke
   have HT : Aside (res = true) := by
    show _ = _
    rw [← HR.out]
    refine decide_eq_true (List.ext_getElem? fun j => ?_)
    by_cases hj : j < k
    ·exact HA.out j hj
    ·rw [List.getElem?_eq_none (by have := HN.out; omega), List.getElem?_eq_none (by have := HN2.out; omega)]
   have h9 := HT.out
   clear HR HT HA
   subst h9
   go_wp2
   go_ret
   exact ⟨rfl, by (repeat' (first | exact Below.refl _ _ | assumption | (with_reducible refine Below.drew ?_) | (with_reducible refine Below.setCell ?_ (by (first | (simp; done) | (simp; omega))) _) | (with_reducible refine below_drewN' ?_ _) | (refine Below.alloc ?_ (by (try simp only [World.size_alloc, World.size_drew, World.size_setCell]); omega) _) | (refine Below.trans ?_ (Below.mono (by assumption) (by (try simp only [World.size_alloc, World.size_drew, World.size_setCell]); omega)))))⟩
end
end Go.Proofs.Ytgmlcgifagbjmaa
