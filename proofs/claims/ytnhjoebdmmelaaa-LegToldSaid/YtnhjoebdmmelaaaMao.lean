/- Leg: parts Ad, Dd, Ea, Eb, Ce, Ec, Ed, De, Ee, Ef. -/
import Derived.Maps.AppendAt
import Derived.Test.YtnhjoebdmmelaaaMan
import Derived.Test.YtnhjoebdmmelaaaMai
import Derived.Test.YtnhjoebdmmelaaaMag
import Derived.Test.YtnhjoebdmmelaaaMaf
set_option linter.unusedVariables false
set_option linter.unusedSimpArgs false
namespace Go.Proofs.Ytnhjoebdmmelaaa
section
open Go.RowKit Go.Maps Go.Sort Go.Shelf Go.Deep
def set7 (W : World) (R : Nat) (x0 x1 x2 x3 x4 x5 x6 : Value) : World := (((((((W.setCell ⟨R, 0, none⟩ x0).setCell ⟨R, 1, none⟩ x1).setCell ⟨R, 2, none⟩ x2).setCell ⟨R, 3, none⟩ x3).setCell ⟨R, 4, none⟩ x4).setCell ⟨R, 5, none⟩ x5).setCell ⟨R, 6, none⟩ x6)
theorem set7_blk {W : World} {R : Nat} {T : TypeId} {y0 y1 y2 y3 y4 y5 y6 : Value} (x0 x1 x2 x3 x4 x5 x6 : Value) (h : W.heap[R]? = some (.cells #[y0, y1, y2, y3, y4, y5, y6] T (0, 0))) : (set7 W R x0 x1 x2 x3 x4 x5 x6).heap[R]? = some (.cells #[x0, x1, x2, x3, x4, x5, x6] T (0, 0)) := by
 unfold set7
 have z0 : (W.setCell ⟨R, 0, none⟩ x0).heap[R]? = some (.cells #[x0, y1, y2, y3, y4, y5, y6] T (0, 0)) := Go.Joins.block_setCell (i := 0) h x0
 have z1 : ((W.setCell ⟨R, 0, none⟩ x0).setCell ⟨R, 1, none⟩ x1).heap[R]? = some (.cells #[x0, x1, y2, y3, y4, y5, y6] T (0, 0)) := Go.Joins.block_setCell (i := 1) z0 x1
 have z2 : (((W.setCell ⟨R, 0, none⟩ x0).setCell ⟨R, 1, none⟩ x1).setCell ⟨R, 2, none⟩ x2).heap[R]? = some (.cells #[x0, x1, x2, y3, y4, y5, y6] T (0, 0)) := Go.Joins.block_setCell (i := 2) z1 x2
 have z3 : ((((W.setCell ⟨R, 0, none⟩ x0).setCell ⟨R, 1, none⟩ x1).setCell ⟨R, 2, none⟩ x2).setCell ⟨R, 3, none⟩ x3).heap[R]? = some (.cells #[x0, x1, x2, x3, y4, y5, y6] T (0, 0)) := Go.Joins.block_setCell (i := 3) z2 x3
 have z4 : (((((W.setCell ⟨R, 0, none⟩ x0).setCell ⟨R, 1, none⟩ x1).setCell ⟨R, 2, none⟩ x2).setCell ⟨R, 3, none⟩ x3).setCell ⟨R, 4, none⟩ x4).heap[R]? = some (.cells #[x0, x1, x2, x3, x4, y5, y6] T (0, 0)) := Go.Joins.block_setCell (i := 4) z3 x4
 have z5 : ((((((W.setCell ⟨R, 0, none⟩ x0).setCell ⟨R, 1, none⟩ x1).setCell ⟨R, 2, none⟩ x2).setCell ⟨R, 3, none⟩ x3).setCell ⟨R, 4, none⟩ x4).setCell ⟨R, 5, none⟩ x5).heap[R]? = some (.cells #[x0, x1, x2, x3, x4, x5, y6] T (0, 0)) := Go.Joins.block_setCell (i := 5) z4 x5
 have z6 : (((((((W.setCell ⟨R, 0, none⟩ x0).setCell ⟨R, 1, none⟩ x1).setCell ⟨R, 2, none⟩ x2).setCell ⟨R, 3, none⟩ x3).setCell ⟨R, 4, none⟩ x4).setCell ⟨R, 5, none⟩ x5).setCell ⟨R, 6, none⟩ x6).heap[R]? = some (.cells #[x0, x1, x2, x3, x4, x5, x6] T (0, 0)) := Go.Joins.block_setCell (i := 6) z5 x6
 exact z6
theorem set7_below {B R : Nat} {w W : World} (h : Below B w W) (hR : B ≤ R) (x0 x1 x2 x3 x4 x5 x6 : Value) : Below B w (set7 W R x0 x1 x2 x3 x4 x5 x6) := below_set7 h hR x0 x1 x2 x3 x4 x5 x6
theorem set7_outs (W : World) (R : Nat) (x0 x1 x2 x3 x4 x5 x6 : Value) : Outs [R] W (set7 W R x0 x1 x2 x3 x4 x5 x6) := outs_set7 W x0 x1 x2 x3 x4 x5 x6
def JC (B : World) (R : Nat) (_ : Array Bool) (_ : Act) (W : World) : Prop := Outs [R] B W ∧ ZeroSt W R
theorem JC.any {B W : World} {R : Nat} {l l' : Array Bool} {a a' : Act} (h : JC B R l a W) : JC B R l' a' W := h
theorem JC.start {B : World} {R : Nat} {l : Array Bool} {a : Act} (h : ZeroSt B R) : JC B R l a B.drew := ⟨Outs.of_below ((Below.refl _ _).drew), h⟩
theorem JC.store {B W : World} {R : Nat} {l l' : Array Bool} {a a' : Act} (h : JC B R l a W) : JC B R l' a' (((((((W.setCell ⟨R, 0, none⟩ (.slice none 0 0)).setCell ⟨R, 1, none⟩ (.slice none 0 0)).setCell ⟨R, 2, none⟩ (.slice none 0 0)).setCell ⟨R, 3, none⟩ (.int .i64 0)).setCell ⟨R, 4, none⟩ (.int .i64 0)).setCell ⟨R, 5, none⟩ (.bool false)).setCell ⟨R, 6, none⟩ (.slice none 0 0)) :=
 ⟨h.1.trans (outs_set7 _ _ _ _ _ _ _ _), set7_blk _ _ _ _ _ _ _ h.2⟩
theorem Outs.cell {S : List Nat} {w w' : World} (h : Outs S w w') {a : Addr} {x : Value} (hS : a.block ∉ S) (hx : w.cell? a = some x) : w'.cell? a = some x :=
 (World.cell?_of_block (w := w) (h.block a.block hS (World.block_lt_of_cell? w a hx))).trans hx
def playE (r : LegR) (l : List (Int × List Int)) : Int × Int :=
 if judgeE r l = 0 then (match (judgeK r l l.length).2 with | [] => (0, 0) | f :: _ => (f.1, f.2.2)) else (0, judgeE r l)
def playG (r : LegR) (l : List (Int × List Int)) : Option LegG :=
 if judgeE r l = 0 then (match (judgeK r l l.length).2 with | [] => some (judgeK r l l.length).1 | _ :: _ => none) else none
def PlayOk (r : LegR) (l : List (Int × List Int)) (w : World) (e : Ending) (w' : World) : Prop :=
 Below w.heap.size w w' ∧ ∃ vs, e = .returned (.tuple #[vs, .int .i64 (playE r l).1, .int .i64 (playE r l).2]) ∧ (match playG r l with | some g => StAt w' vs g w.heap.size | none => vs = zeroSt)
set_option maxRecDepth 100000 in
set_option maxHeartbeats 8000000 in
theorem Play_any (r : LegR) (vc : Value) (lv : List (Int × Value × List Int)) (v : Value) (w : World) (hc : Sl w 3 encC vc r.counts) (hv : Sl w 2 encV v lv)
  (hb : ∀ x ∈ lv, Sl w 1 eI x.2.1 x.2.2 ∧ ∀ b ∈ x.2.2, -9223372036854775808 ≤ b ∧ b ≤ 9223372036854775807) :
  Calls Try.prog 22 #[legRV r vc, v] w (PlayOk r (lv.map (fun x => (x.1, x.2.2))) w) := by
 have x1 : ∀ W, Below w.heap.size w W → Calls Try.prog 27 #[legRV r vc, v] W (JudgeOk r (lv.map (fun x => (x.1, x.2.2))) W) := fun W hB => Judge_any r vc lv v W (hc.below hB) (hv.below hB) (fun x hx => ⟨(hb x hx).1.below hB, (hb x hx).2⟩)
 obtain ⟨l, hl⟩ : ∃ l, lv.map (fun x => (x.1, x.2.2)) = l := ⟨_, rfl⟩
 rw [hl] at x1 ⊢
 obtain ⟨ac, cpc, rfl, _, _⟩ := hc
 obtain ⟨a, cp, rfl, _, _⟩ := hv
 unfold legRV at *
 obtain ⟨f, hf⟩ : ∃ f, r.first = f := ⟨_, rfl⟩
 obtain ⟨rd, hrd⟩ : ∃ f, r.rounds = f := ⟨_, rfl⟩
 obtain ⟨eq, heq⟩ : ∃ f, r.equal = f := ⟨_, rfl⟩
 rw [hf, hrd, heq] at x1 ⊢
 have X1 : Aside _ := x1
 clear hl hb hf hrd heq x1
 go_enter Try.func22, Try.ntmps22
 go_wp2_with fail
 obtain ⟨wa, hwa⟩ : ∃ u, u = (w.alloc (.cells #[.slice ac r.counts.length cpc, .int .i64 f, .int .i64 rd, .bool eq] 42)).alloc (.cells #[.slice none 0 0, .slice none 0 0, .slice none 0 0, .int .i64 0, .int .i64 0, .bool false, .slice none 0 0] 51) := ⟨_, rfl⟩
 have BA : Aside (Below w.heap.size w wa) := by rw [hwa]; (repeat' (first | exact Below.refl _ _ | assumption | (with_reducible refine Below.drew ?_) | (with_reducible refine Below.setCell ?_ (by (first | (simp; done) | (simp; omega))) _) | (with_reducible refine below_drewN' ?_ _) | (refine Below.alloc ?_ (by (try simp only [World.size_alloc, World.size_drew, World.size_setCell]); omega) _) | (refine Below.trans ?_ (Below.mono (by assumption) (by (try simp only [World.size_alloc, World.size_drew, World.size_setCell]); omega)))))
 have SWA : Aside (wa.heap.size = w.heap.size + 2) := by show _ = _; rw [hwa, World.size_alloc, World.size_alloc]
 have za : Aside (ZeroSt wa (w.heap.size + 1)) := by rw [hwa]; exact World.alloc_heap_new' _ _ _ (by simp)
 rw [← hwa]
 clear hwa
 refine (X1.out _ BA.out).mono ?_
 rintro e w1 ⟨hb1, vs, vf, rfl, h0, h1⟩
 have B1 : Aside (Below w.heap.size w w1) := BA.out.trans (hb1.mono BA.out.size)
 have z1 : Aside (ZeroSt w1 (w.heap.size + 1)) := (hb1.block _ (Array.getElem?_eq_some_iff.1 za.out).1).trans za.out
 have r0 := blk_cell z1.out (i := 0) rfl
 have r1 := blk_cell z1.out (i := 1) rfl
 have r2 := blk_cell z1.out (i := 2) rfl
 have r3 := blk_cell z1.out (i := 3) rfl
 have r4 := blk_cell z1.out (i := 4) rfl
 have r5 := blk_cell z1.out (i := 5) rfl
 have r6 := blk_cell z1.out (i := 6) rfl
 have rf := blk_free z1.out
 have hsz : w.heap.size + 1 < w1.heap.size := (Array.getElem?_eq_some_iff.1 z1.out).1
 clear hb1 za BA X1
 obtain ⟨er, her⟩ : ∃ er, judgeE r l = er := ⟨_, rfl⟩
 have HE : Aside (judgeE r l = er) := her
 rw [her] at h0 h1 ⊢
 clear her
 have bel7 : ∀ {W : World} (h : Below w.heap.size w W) (R : Nat) (hR : w.heap.size ≤ R) (x0 x1 x2 x3 x4 x5 x6 : Value), Below w.heap.size w (((((((W.setCell ⟨R, 0, none⟩ x0).setCell ⟨R, 1, none⟩ x1).setCell ⟨R, 2, none⟩ x2).setCell ⟨R, 3, none⟩ x3).setCell ⟨R, 4, none⟩ x4).setCell ⟨R, 5, none⟩ x5).setCell ⟨R, 6, none⟩ x6) := fun h R hR => below_set7 h hR
 by_cases hz : er = 0
 ·subst hz
  obtain ⟨hst, hfs, hfb⟩ := h0 rfl
  obtain ⟨g, hg⟩ : ∃ g, (judgeK r l l.length).1 = g := ⟨_, rfl⟩
  obtain ⟨fs, hfe⟩ : ∃ g, (judgeK r l l.length).2 = g := ⟨_, rfl⟩
  have HG : Aside ((judgeK r l l.length).1 = g) := hg
  have HF : Aside ((judgeK r l l.length).2 = fs) := hfe
  rw [hg] at hst
  rw [hfe] at hfs hfb
  have hst' := hst
  obtain ⟨vl, vd, vi, vw, rfl, hvl, hvd, hvi, hvw, _⟩ := hst
  obtain ⟨al, cl, rfl, _, _⟩ := hvl
  obtain ⟨ad, cd, rfl, _, _⟩ := hvd
  obtain ⟨ai, ci, rfl, _, _⟩ := hvi
  obtain ⟨aw, cw, rfl, _, _⟩ := hvw
  have HSZ : Aside (∀ W, Outs [w.heap.size + 1] w1 W → StAt W (.agg #[.slice al g.left.length cl, .slice ad g.darts.length cd, .slice ai g.inn.length ci, .int .i64 g.next, .int .i64 g.round, .bool g.over, .slice aw g.wins.length cw]) g w.heap.size) := fun W hO => by
   have h2 := hst'.outs hO (fun k hk => by simp at hk; have := SWA.out; omega)
   obtain ⟨a1, a2, a3, a4, e1, e2, e3, e4, e5, e6⟩ := h2
   exact ⟨a1, a2, a3, a4, e1, e2, e3, e4, e5, fun b o n c e => Nat.le_trans (by have := SWA.out; omega) (e6 b o n c e)⟩
  clear hst'
  cases fs with
  | nil =>
   obtain ⟨af, cf, rfl, _, _⟩ := hfs
   have HP : Aside (playE r l = (0, 0)) := by show _ = _; unfold playE; rw [if_pos HE.out, HF.out]
   have HP2 : Aside (playG r l = some g) := by show _ = _; unfold playG; rw [if_pos HE.out, HF.out, HG.out]
   clear h0 h1 hg hfe HG HF HE
   go_wp2
   obtain ⟨wz, hwz⟩ : ∃ u, u = (set7 w1 (w.heap.size + 1) (.slice al g.left.length cl) (.slice ad g.darts.length cd) (.slice ai g.inn.length ci) (.int .i64 g.next) (.int .i64 g.round) (.bool g.over) (.slice aw g.wins.length cw)).alloc (.cells #[.slice al g.left.length cl, .slice ad g.darts.length cd, .slice ai g.inn.length ci, .int .i64 g.next, .int .i64 g.round, .bool g.over, .slice aw g.wins.length cw] 51) := ⟨_, rfl⟩
   have BZ : Aside (Below w.heap.size w wz) := by rw [hwz]; exact (((set7_below B1.out (by omega) _ _ _ _ _ _ _)).alloc (by have := B1.out.size; simp [set7, World.setCell]; omega) _)
   have zz : wz.heap[w.heap.size + 1]? = some (.cells #[.slice al g.left.length cl, .slice ad g.darts.length cd, .slice ai g.inn.length ci, .int .i64 g.next, .int .i64 g.round, .bool g.over, .slice aw g.wins.length cw] 51 (0, 0)) := by rw [hwz]; exact (Below.heap_alloc _ _ _ (by simp [set7, World.setCell]; omega)).trans (set7_blk _ _ _ _ _ _ _ z1.out)
   have OZ : Aside (Outs [w.heap.size + 1] w1 wz) := by rw [hwz]; exact (set7_outs _ _ _ _ _ _ _ _ _).trans (Outs.of_below ((Below.refl _ _).alloc (Nat.le_refl _) _))
   unfold set7 at hwz
   rw [← hwz]
   clear hwz r0 r1 r2 r3 r4 r5 r6
   have r0 := blk_cell zz (i := 0) rfl
   have r1 := blk_cell zz (i := 1) rfl
   have r2 := blk_cell zz (i := 2) rfl
   have r3 := blk_cell zz (i := 3) rfl
   have r4 := blk_cell zz (i := 4) rfl
   have r5 := blk_cell zz (i := 5) rfl
   have r6 := blk_cell zz (i := 6) rfl
   refine bodyPost_ret (v := .tuple #[.agg #[.slice al g.left.length cl, .slice ad g.darts.length cd, .slice ai g.inn.length ci, .int .i64 g.next, .int .i64 g.round, .bool g.over, .slice aw g.wins.length cw], .int .i64 0, .int .i64 0]) (by simp [results, Try.results22, go_sem, r0, r1, r2, r3, r4, r5, r6]) rfl ?_
   unfold PlayOk
   rw [HP.out, HP2.out]
   exact ⟨BZ.out, _, rfl, HSZ.out wz OZ.out⟩
  | cons f0 fs =>
   obtain ⟨fa, fb, fc⟩ := f0
   obtain ⟨af, cf, rfl, _, hsf⟩ := hfs
   obtain ⟨bf, of, rfl, hbl, hcl⟩ := hsf (by simp)
   have hbf := hfb (by simp) bf of _ _ rfl
   rw [SWA.out] at hbf
   have kf0 : w1.cell? ⟨bf, of, none⟩ = some (.int .i64 fa) := by have := hcl 0 _ rfl 0 (.int .i64 fa) rfl; simpa using this
   have kf2 : w1.cell? ⟨bf, of + 2, none⟩ = some (.int .i64 fc) := by have := hcl 0 _ rfl 2 (.int .i64 fc) rfl; simpa using this
   have hne : bf ≠ w.heap.size + 1 := by omega
   obtain ⟨m, hm⟩ : ∃ m, ((fa, fb, fc) :: fs).length = m := ⟨_, rfl⟩
   have hmz : (0 : Int) < (m : Int) := by rw [← hm]; simp; try omega
   have hm0 : 0 < m := by omega
   rw [hm]
   have HP : Aside (playE r l = (fa, fc)) := by show _ = _; unfold playE; rw [if_pos HE.out, HF.out]
   have HP2 : Aside (playG r l = none) := by show _ = _; unfold playG; rw [if_pos HE.out, HF.out]
   clear h0 h1 hg hfe HG HF HE hcl hsf hfb hbf hm HSZ
   go_wp2_with fail
   obtain ⟨wq, hwq⟩ : ∃ u, u = w1.alloc (.cells #[.slice al g.left.length cl, .slice ad g.darts.length cd, .slice ai g.inn.length ci, .int .i64 g.next, .int .i64 g.round, .bool g.over, .slice aw g.wins.length cw] 51) := ⟨_, rfl⟩
   have BQ : Below w1.heap.size w1 wq := by rw [hwq]; exact (Below.refl _ _).alloc (Nat.le_refl _) _
   have ZQ : Aside (ZeroSt wq (w.heap.size + 1)) := (BQ.block _ hsz).trans z1.out
   replace kf0 := keepc BQ kf0
   replace kf2 := keepc BQ kf2
   have BW : Aside (Below w.heap.size w wq) := B1.out.trans (BQ.mono B1.out.size)
   have hbq : bf < wq.heap.size := Nat.lt_of_lt_of_le hbl BQ.size
   rw [← hwq]
   clear hwq BQ r0 r1 r2 r3 r4 r5 r6 rf hsz hbl
   refine region_laidK (fun _ _ => True) (fl := 10) [true, true, true, true, true, true, true, true, true, true, true, true] 0 (fun (i : Nat) (x : Value) (ww : World) => (match i with | 0 => x = .agg #[.slice none 0 0, .slice none 0 0, .slice none 0 0, .int .i64 0, .int .i64 0, .bool false, .slice none 0 0] | 1 => x = .slice (some ⟨bf, of, none⟩) m cf | 2 => x = .pointer (some ⟨bf, of, none⟩) | 3 => x = .pointer (some ⟨bf, of, none⟩) | 4 => x = .int .i64 fa | 5 => x = .slice (some ⟨bf, of, none⟩) m cf | 6 => x = .pointer (some ⟨bf, of, none⟩) | 7 => x = .pointer (some ⟨bf, of + 2, none⟩) | 8 => x = .int .i64 fc | 9 => True | 10 => x = .int .i64 fa | 11 => x = .int .i64 fc | _ => True : Prop)) (JC wq (w.heap.size + 1)) (by kernel_rfl) rfl (by show layableK _ 34 _ 10 = true; decide +kernel) rfl (JC.start ZQ.out) ?mono5 ?step5 ?rest5
   case mono5 =>
    intro i x ww ww' hB h
    match i, h with
    | 0, h => exact h
    | 1, h => exact h
    | 2, h => exact h
    | 3, h => exact h
    | 4, h => exact h
    | 5, h => exact h
    | 6, h => exact h
    | 7, h => exact h
    | 8, h => exact h
    | 9, h => exact h
    | 10, h => exact h
    | 11, h => exact h
    | n + 12, h => exact h
   case step5 =>
    intro i o_ listed ac W hA ho hL he hcl hli hsz
    have hk4 : ac.tmps.getD 4 undef = .pointer (some ⟨w.heap.size + 1, 0, none⟩) := hL.kept 4 (by decide +kernel)
    have hk8 : ac.tmps.getD 8 undef = .slice (some ⟨bf, of, none⟩) m cf := hL.kept 8 (by decide +kernel)
    have k_kf0 := hL.cls.1.cell (by simp; omega) kf0
    have k_kf2 := hL.cls.1.cell (by simp; omega) kf2
    match i, hA, ho with
    | 0, _, ho =>
     cases ho
     refine wpOp_plain rfl rfl ?_
     unfold Oper.wp
     go_simp
     first | exact JC.any hL.cls | exact ⟨_, rfl, trivial, JC.any hL.cls, rfl⟩
    | 1, _, ho =>
     cases ho
     refine wpOp_plain rfl rfl ?_
     unfold Oper.wp
     go_simp
     first | exact JC.any hL.cls | exact ⟨_, rfl, trivial, JC.any hL.cls, rfl⟩
    | 2, _, ho =>
     cases ho
     have d1 : ac.tmps.getD 25 undef = .slice (some ⟨bf, of, none⟩) m cf := hL.new 1 _ 25 rfl (he ⟨1, .data⟩ (by simp) rfl) rfl
     refine wpOp_plain rfl rfl ?_
     unfold Oper.wp
     go_simp
     first | exact JC.any hL.cls | exact ⟨_, rfl, trivial, JC.any hL.cls, rfl⟩
    | 3, _, ho =>
     cases ho
     have d2 : ac.tmps.getD 26 undef = .pointer (some ⟨bf, of, none⟩) := hL.new 2 _ 26 rfl (he ⟨2, .data⟩ (by simp) rfl) rfl
     refine wpOp_plain rfl rfl ?_
     unfold Oper.wp
     go_simp
     first | exact JC.any hL.cls | exact ⟨_, rfl, trivial, JC.any hL.cls, rfl⟩
    | 4, _, ho =>
     cases ho
     have d3 : ac.tmps.getD 27 undef = .pointer (some ⟨bf, of, none⟩) := hL.new 3 _ 27 rfl (he ⟨3, .data⟩ (by simp) rfl) rfl
     refine wpOp_plain rfl rfl ?_
     unfold Oper.wp
     go_simp
     first | exact JC.any hL.cls | exact ⟨_, rfl, trivial, JC.any hL.cls, rfl⟩
    | 5, _, ho =>
     cases ho
     refine wpOp_plain rfl rfl ?_
     unfold Oper.wp
     go_simp
     first | exact JC.any hL.cls | exact ⟨_, rfl, trivial, JC.any hL.cls, rfl⟩
    | 6, _, ho =>
     cases ho
     have d5 : ac.tmps.getD 29 undef = .slice (some ⟨bf, of, none⟩) m cf := hL.new 5 _ 29 rfl (he ⟨5, .data⟩ (by simp) rfl) rfl
     refine wpOp_plain rfl rfl ?_
     unfold Oper.wp
     go_simp
     first | exact JC.any hL.cls | exact ⟨_, rfl, trivial, JC.any hL.cls, rfl⟩
    | 7, _, ho =>
     cases ho
     have d6 : ac.tmps.getD 30 undef = .pointer (some ⟨bf, of, none⟩) := hL.new 6 _ 30 rfl (he ⟨6, .data⟩ (by simp) rfl) rfl
     refine wpOp_plain rfl rfl ?_
     unfold Oper.wp
     go_simp
     first | exact JC.any hL.cls | exact ⟨_, rfl, trivial, JC.any hL.cls, rfl⟩
    | 8, _, ho =>
     cases ho
     have d7 : ac.tmps.getD 31 undef = .pointer (some ⟨bf, of + 2, none⟩) := hL.new 7 _ 31 rfl (he ⟨7, .data⟩ (by simp) rfl) rfl
     refine wpOp_plain rfl rfl ?_
     unfold Oper.wp
     go_simp
     first | exact JC.any hL.cls | exact ⟨_, rfl, trivial, JC.any hL.cls, rfl⟩
    | 9, _, ho =>
     cases ho
     have d0 : ac.tmps.getD 24 undef = .agg #[.slice none 0 0, .slice none 0 0, .slice none 0 0, .int .i64 0, .int .i64 0, .bool false, .slice none 0 0] := hL.new 0 _ 24 rfl (he ⟨0, .data⟩ (by simp) rfl) rfl
     have zc0 : W.cell? ⟨w.heap.size + 1, 0, none⟩ = some (.slice none 0 0) := blk_cell hL.cls.2 rfl
     have zc1 : W.cell? ⟨w.heap.size + 1, 1, none⟩ = some (.slice none 0 0) := blk_cell hL.cls.2 rfl
     have zc2 : W.cell? ⟨w.heap.size + 1, 2, none⟩ = some (.slice none 0 0) := blk_cell hL.cls.2 rfl
     have zc3 : W.cell? ⟨w.heap.size + 1, 3, none⟩ = some (.int .i64 0) := blk_cell hL.cls.2 rfl
     have zc4 : W.cell? ⟨w.heap.size + 1, 4, none⟩ = some (.int .i64 0) := blk_cell hL.cls.2 rfl
     have zc5 : W.cell? ⟨w.heap.size + 1, 5, none⟩ = some (.bool false) := blk_cell hL.cls.2 rfl
     have zc6 : W.cell? ⟨w.heap.size + 1, 6, none⟩ = some (.slice none 0 0) := blk_cell hL.cls.2 rfl
     have zf : ∀ i, W.frozen? ⟨w.heap.size + 1, i, none⟩ = false := fun i => blk_free hL.cls.2 i
     clear k_kf0 k_kf2
     refine wpOp_plain rfl rfl ?_
     unfold Oper.wp
     go_simp
     exact JC.store hL.cls
    | 10, _, ho =>
     cases ho
     have d4 : ac.tmps.getD 28 undef = .int .i64 fa := hL.new 4 _ 28 rfl (he ⟨4, .data⟩ (by simp) rfl) rfl
     refine wpOp_plain rfl rfl ?_
     unfold Oper.wp
     go_simp
     first | exact JC.any hL.cls | exact ⟨_, rfl, trivial, JC.any hL.cls, rfl⟩
    | 11, _, ho =>
     cases ho
     have d8 : ac.tmps.getD 32 undef = .int .i64 fc := hL.new 8 _ 32 rfl (he ⟨8, .data⟩ (by simp) rfl) rfl
     refine wpOp_plain rfl rfl ?_
     unfold Oper.wp
     go_simp
     first | exact JC.any hL.cls | exact ⟨_, rfl, trivial, JC.any hL.cls, rfl⟩
    | n + 12, hA, _ => simp at hA
   case rest5 =>
    intro ac wz hL
    have e24 : ac.tmps.getD 24 undef = .agg #[.slice none 0 0, .slice none 0 0, .slice none 0 0, .int .i64 0, .int .i64 0, .bool false, .slice none 0 0] := hL.new 0 _ 24 rfl rfl rfl
    have e25 : ac.tmps.getD 25 undef = .slice (some ⟨bf, of, none⟩) m cf := hL.new 1 _ 25 rfl rfl rfl
    have e26 : ac.tmps.getD 26 undef = .pointer (some ⟨bf, of, none⟩) := hL.new 2 _ 26 rfl rfl rfl
    have e27 : ac.tmps.getD 27 undef = .pointer (some ⟨bf, of, none⟩) := hL.new 3 _ 27 rfl rfl rfl
    have e28 : ac.tmps.getD 28 undef = .int .i64 fa := hL.new 4 _ 28 rfl rfl rfl
    have e29 : ac.tmps.getD 29 undef = .slice (some ⟨bf, of, none⟩) m cf := hL.new 5 _ 29 rfl rfl rfl
    have e30 : ac.tmps.getD 30 undef = .pointer (some ⟨bf, of, none⟩) := hL.new 6 _ 30 rfl rfl rfl
    have e31 : ac.tmps.getD 31 undef = .pointer (some ⟨bf, of + 2, none⟩) := hL.new 7 _ 31 rfl rfl rfl
    have e32 : ac.tmps.getD 32 undef = .int .i64 fc := hL.new 8 _ 32 rfl rfl rfl
    have e5 : ac.tmps.getD 5 undef = .int .i64 fa := hL.new 10 _ 5 rfl rfl rfl
    have e6 : ac.tmps.getD 6 undef = .int .i64 fc := hL.new 11 _ 6 rfl rfl rfl
    have HJ : Aside (JC wq (w.heap.size + 1) #[] ac wz) := JC.any hL.cls
    have es := hL.sets [24, 25, 26, 27, 28, 29, 30, 31, 32, 5, 6] (by decide +kernel)
    rw [List.foldl_cons, List.foldl_cons, List.foldl_cons, List.foldl_cons, List.foldl_cons, List.foldl_cons, List.foldl_cons, List.foldl_cons, List.foldl_cons, List.foldl_cons, List.foldl_cons, List.foldl_nil, e24, e25, e26, e27, e28, e29, e30, e31, e32, e5, e6] at es
    rw [es]
    clear es hL e24 e25 e26 e27 e28 e29 e30 e31 e32 e5 e6
    refine wpAny_done (by decide +kernel) ?_ _
    simp only [List.setIfInBounds_toArray, List.set_cons_zero, List.set_cons_succ]
    have BZ : Aside (Below w.heap.size w wz) := BW.out.trans (HJ.out.1.below (B := w.heap.size) (fun k hk => by simp at hk; omega) BW.out.size)
    have zz := HJ.out.2
    have r0 := blk_cell zz (i := 0) rfl
    have r1 := blk_cell zz (i := 1) rfl
    have r2 := blk_cell zz (i := 2) rfl
    have r3 := blk_cell zz (i := 3) rfl
    have r4 := blk_cell zz (i := 4) rfl
    have r5 := blk_cell zz (i := 5) rfl
    have r6 := blk_cell zz (i := 6) rfl
    clear zz HJ
    go_wp2_with fail
    refine bodyPost_ret (v := .tuple #[zeroSt, .int .i64 fa, .int .i64 fc]) (by simp [zeroSt, results, Try.results22, go_sem, r0, r1, r2, r3, r4, r5, r6]) rfl (by unfold PlayOk; rw [HP.out, HP2.out]; exact ⟨BZ.out, _, rfl, rfl⟩)
 ·-- @@c
  obtain ⟨rfl, rfl⟩ := h1 hz
  have HP : Aside (playE r l = (0, er)) := by show _ = _; unfold playE; rw [if_neg (by rw [HE.out]; exact hz), HE.out]
  have HP2 : Aside (playG r l = none) := by show _ = _; unfold playG; rw [if_neg (by rw [HE.out]; exact hz)]
  clear h0 h1 HE
  unfold zeroSt
  go_wp2
  obtain ⟨wz, hwz⟩ : ∃ u, u = (set7 w1 (w.heap.size + 1) (.slice none 0 0) (.slice none 0 0) (.slice none 0 0) (.int .i64 0) (.int .i64 0) (.bool false) (.slice none 0 0)).alloc (.cells #[.slice none 0 0, .slice none 0 0, .slice none 0 0, .int .i64 0, .int .i64 0, .bool false, .slice none 0 0] 51) := ⟨_, rfl⟩
  have BZ : Aside (Below w.heap.size w wz) := by rw [hwz]; exact (((set7_below B1.out (by omega) _ _ _ _ _ _ _)).alloc (by have := B1.out.size; simp [set7, World.setCell]; omega) _)
  have zz : wz.heap[w.heap.size + 1]? = some (.cells #[.slice none 0 0, .slice none 0 0, .slice none 0 0, .int .i64 0, .int .i64 0, .bool false, .slice none 0 0] 51 (0, 0)) := by rw [hwz]; exact (Below.heap_alloc _ _ _ (by simp [set7, World.setCell]; omega)).trans (set7_blk _ _ _ _ _ _ _ z1.out)
  have OZ : Aside (Outs [w.heap.size + 1] w1 wz) := by rw [hwz]; exact (set7_outs _ _ _ _ _ _ _ _ _).trans (Outs.of_below ((Below.refl _ _).alloc (Nat.le_refl _) _))
  unfold set7 at hwz
  rw [← hwz]
  clear hwz r0 r1 r2 r3 r4 r5 r6
  have r0 := blk_cell zz (i := 0) rfl
  have r1 := blk_cell zz (i := 1) rfl
  have r2 := blk_cell zz (i := 2) rfl
  have r3 := blk_cell zz (i := 3) rfl
  have r4 := blk_cell zz (i := 4) rfl
  have r5 := blk_cell zz (i := 5) rfl
  have r6 := blk_cell zz (i := 6) rfl
  refine bodyPost_ret (v := .tuple #[zeroSt, .int .i64 0, .int .i64 er]) (by simp [zeroSt, results, Try.results22, go_sem, r0, r1, r2, r3, r4, r5, r6]) rfl (by unfold PlayOk; rw [HP.out, HP2.out]; exact ⟨BZ.out, _, rfl, rfl⟩)
end
section
open Go.RowKit Go.Maps Go.Sort Go.Shelf Go.Deep
theorem info_count : (Try.prog.info? 24).map (fun i => (i.zero, i.size, i.bytes)) = some (some (.agg #[.int .i64 0, .int .i64 0, .int .i64 0]), 3, 24) := by kernel_rfl
theorem encC_one (cs : List Cnt) : ∀ y ∈ cs, ∀ u ∈ encC y, u.oneCell' = true := by
 intro y _ u hu
 simp [encC] at hu
 rcases hu with rfl | rfl | rfl <;> rfl
def RulesOk (r : LegR) (w : World) (e : Ending) (w' : World) : Prop := Below w.heap.size w w' ∧ ∃ vc, e = .returned (legRV r vc) ∧ Sl w' 3 encC vc r.counts
set_option maxRecDepth 100000 in
set_option maxHeartbeats 4000000 in
theorem rules_any (r : LegR) (vc : Value) (w : World) (hc : Sl w 3 encC vc r.counts) (hn : r.counts.length ≤ 10) : Calls Try.prog 19 #[legRV r vc] w (RulesOk r w) := by
 obtain ⟨i0, hi, hz0, hz1, hz2⟩ := info_parts info_count
 have HC : Aside (Sl w 3 encC vc r.counts) := hc
 obtain ⟨a, cp, rfl, hl, _⟩ := hc
 have HN : Aside (r.counts.length ≤ 10) := hn
 unfold legRV
 generalize r.counts.length = n at hl HC ⊢
 go_enter Try.func19, Try.ntmps19
 go_wp2_with (at_builtin; refine wpList_append_fresh _ rfl _ _ 40 rfl 24 i0 (.agg #[.int .i64 0, .int .i64 0, .int .i64 0]) 3 24 Try.underlying40 hi hz0 hz1 hz2 rfl (by decide) (w.heap.size + 1 + 1) (World.alloc_heap_new' _ _ _ (by simp)) rfl (vy := .slice a n cp) (ys := r.counts) (enc := encC) rfl (HC.out.below (by (repeat' (first | exact Below.refl _ _ | assumption | (with_reducible refine Below.drew ?_) | (with_reducible refine Below.setCell ?_ (by (first | (simp; done) | (simp; omega))) _) | (with_reducible refine below_drewN' ?_ _) | (refine Below.alloc ?_ (by (try simp only [World.size_alloc, World.size_drew, World.size_setCell]); omega) _) | (refine Below.trans ?_ (Below.mono (by assumption) (by (try simp only [World.size_alloc, World.size_drew, World.size_setCell]); omega))))))) (fun _ => rfl) (encC_one r.counts) (by have := HN.out; unfold maxLen; omega) (by have := HN.out; omega) ?_; intro v2 w2 hrow hB; have HR : Aside (RowB w2 3 encC 24 v2 r.counts) := hrow; obtain ⟨g2, c2, cs2, rfl, hl2, hg2, hc2⟩ := hrow; have hbx : w2.heap[w.heap.size]? = some (.cells #[.slice a n cp, .int .i64 r.first, .int .i64 r.rounds, .bool r.equal] 42 (0, 0)) := (hB.block _ (by simp; omega)).trans ((Below.heap_alloc _ _ _ (by simp; omega)).trans ((Below.heap_alloc _ _ _ (by simp)).trans (World.alloc_heap_new _ _))); have hrs : w2.heap[w.heap.size + 1]? = some (.cells #[.slice none 0 0, .int .i64 0, .int .i64 0, .bool false] 42 (0, 0)) := (hB.block _ (by simp)).trans ((Below.heap_alloc _ _ _ (by simp)).trans (World.alloc_heap_new' _ _ _ (by simp))); have q0 := blk_cell hbx (i := 0) (x := .slice a n cp) rfl; have q1 := blk_cell hbx (i := 1) (x := .int .i64 r.first) rfl; have q2 := blk_cell hbx (i := 2) (x := .int .i64 r.rounds) rfl; have q3 := blk_cell hbx (i := 3) (x := .bool r.equal) rfl; have qf := blk_free hbx; have p0 := blk_cell hrs (i := 0) (x := .slice none 0 0) rfl; have p1 := blk_cell hrs (i := 1) (x := .int .i64 0) rfl; have p2 := blk_cell hrs (i := 2) (x := .int .i64 0) rfl; have p3 := blk_cell hrs (i := 3) (x := .bool false) rfl; have pf := blk_free hrs; have hlt : w.heap.size + 1 < w2.heap.size := (Array.getElem?_eq_some_iff.1 hrs).1; have HBB : Aside (Below w.heap.size w w2) := Below.trans (by (repeat' (first | exact Below.refl _ _ | assumption | (with_reducible refine Below.drew ?_) | (with_reducible refine Below.setCell ?_ (by (first | (simp; done) | (simp; omega))) _) | (with_reducible refine below_drewN' ?_ _) | (refine Below.alloc ?_ (by (try simp only [World.size_alloc, World.size_drew, World.size_setCell]); omega) _) | (refine Below.trans ?_ (Below.mono (by assumption) (by (try simp only [World.size_alloc, World.size_drew, World.size_setCell]); omega)))))) (hB.mono (by simp; omega)); have HGG : Aside ((g2 ≠ w.heap.size ∧ g2 ≠ w.heap.size + 1) ∧ w2.heap[g2]? = some (.cells cs2 24 (0, 0))) := ⟨⟨fun e => (by rw [e, hbx] at hg2; injection hg2 with hg2; injection hg2 with _ h9; exact absurd h9 (by decide)), fun e => (by rw [e, hrs] at hg2; injection hg2 with hg2; injection hg2 with _ h9; exact absurd h9 (by decide))⟩, hg2⟩; have HCC : Aside (∀ j y, r.counts[j]? = some y → ∀ i u, (encC y)[i]? = some u → cs2[j * 3 + i]? = some u) := hc2; clear hbx hrs hB hg2 hc2)
 refine bodyPost_ret (v := .agg #[.slice (some ⟨g2, 0, none⟩) r.counts.length c2, .int .i64 r.first, .int .i64 r.rounds, .bool r.equal]) (by simp [results, Try.results19, go_sem, p0, p1, p2, p3, hlt]) rfl ?_
 obtain ⟨⟨h1, h2⟩, h3⟩ := HGG.out
 refine ⟨?_, .slice (some ⟨g2, 0, none⟩) r.counts.length c2, rfl, ?_⟩
 ·have hb := HBB.out
  exact ((((hb.setCell (p := ⟨w.heap.size, 0, none⟩) (Nat.le_refl _) _).setCell (p := ⟨w.heap.size + 1, 0, none⟩) (Nat.le_succ _) _).setCell (p := ⟨w.heap.size + 1, 1, none⟩) (Nat.le_succ _) _).setCell (p := ⟨w.heap.size + 1, 2, none⟩) (Nat.le_succ _) _).setCell (p := ⟨w.heap.size + 1, 3, none⟩) (Nat.le_succ _) _
 ·have h5 : ∀ (W : World) (k i : Nat) (x : Value), g2 ≠ k → (W.setCell ⟨k, i, none⟩ x).heap[g2]? = W.heap[g2]? := fun W k i x h => Below.heap_setCell _ _ _ _ h
  exact RowB.sl (e := 24) ⟨g2, c2, cs2, rfl, hl2, by rw [h5 _ _ _ _ h2, h5 _ _ _ _ h2, h5 _ _ _ _ h2, h5 _ _ _ _ h2, h5 _ _ _ _ h1]; exact h3, HCC.out⟩
end
section
open Go.RowKit Go.Maps Go.Sort Go.Shelf Go.Deep
end
section
open Go.RowKit Go.Maps Go.Sort Go.Shelf Go.Deep
structure SameL where
 left : List Int
 darts : List Int
 inn : List Bool
 next : Int
 round : Int
 over : Bool
 wins : List Int
deriving DecidableEq
end
section
open Go.RowKit Go.Maps Go.Sort Go.Shelf Go.Deep
theorem mn_fold {d : Int} {l : List Int} (h : l[0]? = some d) : l.foldl min d = mn l := by
 cases l with
 | nil => simp at h
 | cons x xs => simp at h; subst h; simp [mn]
end
section
open Go.RowKit Go.Maps Go.Sort Go.Shelf Go.Deep
structure RG where
 next : Int
 round : Int
 over : Bool
 last : Nat → Int
 done : Int
abbrev rgC (g : RG) (vl vd vi vw ve : Value) : Array Value := #[vl, vd, vi, .int .i64 g.next, .int .i64 g.round, .bool g.over, vw, ve, .int .i64 (g.last 0), .int .i64 (g.last 1), .int .i64 (g.last 2), .int .i64 (g.last 3), .int .i64 (g.last 4), .int .i64 (g.last 5), .int .i64 (g.last 6), .int .i64 (g.last 7), .int .i64 g.done]
def zeroC : Array Value := #[.slice none 0 0, .slice none 0 0, .slice none 0 0, .int .i64 0, .int .i64 0, .bool false, .slice none 0 0, .slice none 0 0, .int .i64 0, .int .i64 0, .int .i64 0, .int .i64 0, .int .i64 0, .int .i64 0, .int .i64 0, .int .i64 0, .int .i64 0]
def RgB (w : World) (B : Nat) (cs : Array Value) : Prop := w.heap[B]? = some (.cells cs 108 (0, 0))
def cI (ps : List Nat) : List Int := ps.map fun (i : Nat) => (i : Int)
theorem mem_cI {ps : List Nat} {k : Nat} : (k : Int) ∈ cI ps ↔ k ∈ ps := by
 unfold cI
 rw [List.mem_map]
 constructor
 ·rintro ⟨a, h, e⟩; have h2 : a = k := by omega
  rw [← h2]; exact h
 ·exact fun h => ⟨k, h, rfl⟩
def loW (ps : List Nat) (ns : List Int) (k : Nat) : Int := ((ps.take k).map fun p => ns.getD p 0).foldl min (ns.getD (ps.headD 0) 0)
def ovK (ps : List Nat) (ns : List Int) (L : Int) (k : Nat) : List Nat := (List.range k).filter fun p => decide (p ∈ ps) && decide (ns.getD p 0 = L)
def overW (ps : List Nat) (ns : List Int) : List Nat := ovK ps ns (loW ps ns ps.length) ns.length
theorem cI_len (l : List Nat) : (cI l).length = l.length := List.length_map _
theorem owns_sl {w : World} {b : Nat} {e : TypeId} {v : Value} {n : Nat} {xs : List Value} (h : w.ownsRow b e 1 v n xs) : ∃ a c, v = .slice a n c := by
 rcases h.2 with ⟨h0, h1⟩ | ⟨g, cap, cur, e, _⟩
 ·exact ⟨_, _, by rw [h0, h1]⟩
 ·exact ⟨_, _, e⟩
end
section
open Go.RowKit Go.Maps Go.Sort Go.Shelf Go.Deep
end
section
open Go.RowKit Go.Maps Go.Sort Go.Shelf Go.Deep
theorem info_bedD : (Try.prog.info? 34).map (fun i => (i.zero, i.size, i.bytes)) = some (some (.int .i64 0), 1, 8) := by kernel_rfl
theorem info_visD : (Try.prog.info? 84).map (fun i => (i.zero, i.size, i.bytes)) = some (some (.agg #[.int .i64 0, .slice none 0 0]), 2, 32) := by kernel_rfl
theorem eI_all (bs : List Int) : ∀ y ∈ bs, ∀ u ∈ eI y, u.oneCell' = true := by
 intro y _ u hu
 simp [eI] at hu; subst hu; rfl
theorem add_plain1 (g : Nat) : (⟨g, 0, none⟩ : Addr).add 1 = ⟨g, 1, none⟩ := by unfold Addr.add; simp
theorem RowB.grw {α : Type} {w w' : World} {size : Nat} {enc : α → List Value} {e e' : TypeId} {v vr : Value} {ys : List α} {b sz n : Nat} {xs : List Value} (h : RowB w size enc e v ys) (hown : w.ownsRow b e' sz vr n xs) (hg : w.grownBy w' vr.ownBlock) (hne : e ≠ e') : RowB w' size enc e v ys := by
 obtain ⟨g, c, cs, h1, hl, hb, hc⟩ := h
 refine ⟨g, c, cs, h1, hl, (hg.block g (Array.getElem?_eq_some_iff.1 hb).1 (fun h => ?_)).trans hb, hc⟩
 rcases ownsRow_ne_a hown hb (fun cur e => by injection e with _ e2; exact hne e2) with h2 | h2
 ·rw [h2] at h; cases h
 ·exact h2 h.symm
def prV (x : Int × Value × List Int) : Int × List Int := (x.1, x.2.2)
structure CvInv (lv : List (Int × Value × List Int)) (w : World) (k : Nat) (ys : List (Int × Value × List Int)) (wr : World) : Prop where
 same : ys.map prV = (lv.take k).map prV
 rows : ∀ y ∈ ys, RowB wr 1 eI 34 y.2.1 y.2.2
 bel : Below w.heap.size w wr
 siz : w.heap.size ≤ wr.heap.size
def NilB (ww : World) (x : Value) : Prop := ∃ g, x = .slice (some ⟨g, 0, none⟩) 0 0 ∧ ww.heap[g]? = some (.cells #[] 34 (0, 0))
def AggV (ww : World) (p : Int) (bs : List Int) (x : Value) : Prop := ∃ u, x = .agg #[.int .i64 p, u] ∧ RowB ww 1 eI 34 u bs
def OneV (ww : World) (p : Int) (bs : List Int) (x : Value) : Prop := ∃ g u, x = .slice (some ⟨g, 0, none⟩) 1 1 ∧ ww.heap[g]? = some (.cells #[.int .i64 p, u] 84 (0, 0)) ∧ RowB ww 1 eI 34 u bs
def VisitsOw (lv : List (Int × Value × List Int)) (w : World) (e : Ending) (w' : World) : Prop :=
 Below w.heap.size w w' ∧ ∃ (v' : Value) (lv' : List (Int × Value × List Int)), e = .returned v' ∧ w'.ownsRow w.heap.size 84 2 v' lv'.length ((lv'.map encV).flatten) ∧ (∀ x ∈ lv', RowB w' 1 eI 34 x.2.1 x.2.2) ∧ lv'.map prV = lv.map prV
def VisitsOk (lv : List (Int × Value × List Int)) (w : World) (e : Ending) (w' : World) : Prop :=
 Below w.heap.size w w' ∧ ∃ v' lv', e = .returned v' ∧ Sl w' 2 encV v' lv' ∧ (∀ x ∈ lv', Sl w' 1 eI x.2.1 x.2.2) ∧ lv'.map prV = lv.map prV
set_option maxRecDepth 100000 in
set_option maxHeartbeats 8000000 in
theorem visits_own (lv : List (Int × Value × List Int)) (v : Value) (w : World) (hv : Sl w 2 encV v lv) (hb : ∀ x ∈ lv, Sl w 1 eI x.2.1 x.2.2) (hm200 : lv.length ≤ 2010) (h6 : ∀ x ∈ lv, x.2.2.length ≤ 6) :
  Calls Try.prog 20 #[v] w (VisitsOw lv w) := by
 obtain ⟨i0, hi0, hz0, hz1, hz2⟩ := info_parts info_visD
 obtain ⟨j0, hj0, jz0, jz1, jz2⟩ := info_parts info_bedD
 obtain ⟨a2, cp2, rfl, hl2, hs2⟩ := hv
 obtain ⟨m, hm⟩ : ∃ m, lv.length = m := ⟨_, rfl⟩
 have HN : Aside (lv.length = m) := hm
 have HX : Aside ((∀ x ∈ lv, Sl w 1 eI x.2.1 x.2.2) ∧ ∀ x ∈ lv, x.2.2.length ≤ 6) := ⟨hb, h6⟩
 have HS : Aside (lv ≠ [] → ∃ b off, a2 = some ⟨b, off, none⟩ ∧ b < w.heap.size ∧ ∀ j x, lv[j]? = some x → ∀ i y, (encV x)[i]? = some y → w.cell? ⟨b, off + j * 2 + i, none⟩ = some y) := hs2
 rw [hm] at hl2 hm200 ⊢
 clear hs2 hb hm h6
 go_enter Try.func20, Try.ntmps20
 go_wp2_with fail
 obtain ⟨wa, hwa⟩ : ∃ u, u = w.alloc (.cells #[] 84) := ⟨_, rfl⟩
 have HO : Aside (wa.ownsRow w.heap.size 84 2 (.slice (some ⟨w.heap.size, 0, none⟩) 0 0) 0 []) := by rw [hwa]; exact owns_empty w _ 2
 have HI : Aside (CvInv lv w 0 [] wa) := ⟨by simp, (fun y hy => by cases hy), by rw [hwa]; exact (Below.refl _ _).alloc (Nat.le_refl _) _, by rw [hwa]; simp⟩
 rw [← hwa]
 clear hwa
 go_loopg [3, 4] m (fun gg v i wr => ∃ (k : Nat) (ys : List (Int × Value × List Int)), k ≤ m ∧ m - k ≤ gg ∧ i = .int .i64 k ∧ wr.ownsRow w.heap.size 84 2 v k ((ys.map encV).flatten) ∧ Aside (CvInv lv w k ys wr))
 case atStart => exact ⟨0, [], Nat.zero_le _, by omega, rfl, HO.out, HI.out⟩
 case round =>
  clear HO HI
  obtain ⟨k, ys, hk, hg, rfl, hown, HI⟩ := hrel
  by_cases hlt : k < m
  ·have hltz : (k : Int) < (m : Int) := by omega
   obtain ⟨x, hx⟩ : ∃ x, lv[k]? = some x := ⟨_, List.getElem?_eq_getElem (by rw [HN.out]; exact hlt)⟩
   obtain ⟨B, off, rfl, hBlt, hcl⟩ := HS.out (by intro e; rw [e] at hx; simp at hx)
   have kx0 : wr.cell? ⟨B, off + k * 2, none⟩ = some (.int .i64 x.1) := keepc HI.out.bel (hcl k x hx 0 (.int .i64 x.1) rfl)
   have kx1 : wr.cell? ⟨B, off + k * 2 + 1, none⟩ = some x.2.1 := keepc HI.out.bel (hcl k x hx 1 x.2.1 rfl)
   have HXS : Aside (Sl wr 1 eI x.2.1 x.2.2) := (HX.out.1 x (List.mem_of_getElem? hx)).below HI.out.bel
   have HXL : Aside (x.2.2.length ≤ 6) := HX.out.2 x (List.mem_of_getElem? hx)
   have HTK : Aside (lv.take (k + 1) = lv.take k ++ [x]) := take_snoc' hx
   obtain ⟨p, vb, bs⟩ := x
   simp only [] at kx0 kx1 HXS HXL
   obtain ⟨a3, c3, rfl, hl3, _⟩ := HXS.out
   obtain ⟨dl, hdl⟩ : ∃ dl, bs.length = dl := ⟨_, rfl⟩
   have HDL : Aside (bs.length = dl) := hdl
   rw [hdl] at kx1 hl3 HXL HXS
   have hd6 : dl ≤ 6 := HXL.out
   clear hcl hx hdl
   go_wp2_with fail
   refine region_laidC (fl := 17) [true, true, true, true, true, true, true, true, true, true, true, true, true, true, true, false, false] 2 (fun (i : Nat) (x : Value) (ww : World) => (match i with | 0 => x = u3 | 1 => x = .slice (some ⟨B, off, none⟩) m cp2 | 2 => x = .int .i64 (k : Int) | 3 => x = .pointer (some ⟨B, off + k * 2, none⟩) | 4 => x = .pointer (some ⟨B, off + k * 2, none⟩) | 5 => x = .int .i64 p | 6 => NilB ww x | 7 => x = .slice (some ⟨B, off, none⟩) m cp2 | 8 => x = .int .i64 (k : Int) | 9 => x = .pointer (some ⟨B, off + k * 2, none⟩) | 10 => x = .pointer (some ⟨B, off + k * 2 + 1, none⟩) | 11 => x = .slice a3 dl c3 | 12 => RowB ww 1 eI 34 x bs | 13 => AggV ww p bs x | 14 => OneV ww p bs x | _ => True : Prop)) (fun w' => Below wr.heap.size wr w') (by kernel_rfl) rfl (by show layableC _ 29 _ 17 = true; decide +kernel) rfl ((Below.refl _ _).drew) ?mono5 ?step5 ?rest5
   case mono5 =>
    intro i x ww ww' hB h
    match i, h with
    | 0, h => exact h
    | 1, h => exact h
    | 2, h => exact h
    | 3, h => exact h
    | 4, h => exact h
    | 5, h => exact h
    | 6, h => exact (by obtain ⟨g, hx, hg⟩ := h; exact ⟨g, hx, (hB.block _ (Array.getElem?_eq_some_iff.1 hg).1).trans hg⟩)
    | 7, h => exact h
    | 8, h => exact h
    | 9, h => exact h
    | 10, h => exact h
    | 11, h => exact h
    | 12, h => exact (h.below hB)
    | 13, h => exact (by obtain ⟨u, hx, hu⟩ := h; exact ⟨u, hx, hu.below hB⟩)
    | 14, h => exact (by obtain ⟨g, u, hx, hg, hu⟩ := h; exact ⟨g, u, hx, (hB.block _ (Array.getElem?_eq_some_iff.1 hg).1).trans hg, hu.below hB⟩)
    | n + 15, h => exact h
   case step5 =>
    intro i o_ listed ac W hA ho hL he hcl hli hsz
    have hk0 : ac.tmps.getD 0 undef = .slice (some ⟨B, off, none⟩) m cp2 := hL.kept 0 (by decide +kernel)
    have hk4 : ac.tmps.getD 4 undef = .int .i64 (k : Int) := hL.kept 4 (by decide +kernel)
    have CL : ∀ W', Below W.heap.size W W' → Below wr.heap.size wr W' := fun W' h => hL.cls.trans (h.mono hL.cls.size)
    have k_kx0 := keepc hL.cls kx0
    have k_kx1 := keepc hL.cls kx1
    match i, hA, ho with
    | 0, _, ho =>
     cases ho
     have hk3 : ac.tmps.getD 3 undef = u3 := hL.kept3 hcl hsz 3 0 16 17 hli (by decide +kernel) (by decide +kernel)
     refine wpOp_plain rfl rfl ?_
     unfold Oper.wp
     go_simp
     exact ⟨_, rfl, Below.refl _ _, CL _ (Below.refl _ _), rfl⟩
    | 1, _, ho =>
     cases ho
     refine wpOp_plain rfl rfl ?_
     unfold Oper.wp
     go_simp
     exact ⟨_, rfl, Below.refl _ _, CL _ (Below.refl _ _), rfl⟩
    | 2, _, ho =>
     cases ho
     refine wpOp_plain rfl rfl ?_
     unfold Oper.wp
     go_simp
     exact ⟨_, rfl, Below.refl _ _, CL _ (Below.refl _ _), rfl⟩
    | 3, _, ho =>
     cases ho
     have d1 : ac.tmps.getD 13 undef = .slice (some ⟨B, off, none⟩) m cp2 := hL.new 1 _ 13 rfl (he ⟨1, .data⟩ (by simp) rfl) rfl
     have d2 : ac.tmps.getD 14 undef = .int .i64 (k : Int) := hL.new 2 _ 14 rfl (he ⟨2, .data⟩ (by simp) rfl) rfl
     refine wpOp_plain rfl rfl ?_
     unfold Oper.wp
     go_simp
     exact ⟨_, rfl, Below.refl _ _, CL _ (Below.refl _ _), rfl⟩
    | 4, _, ho =>
     cases ho
     have d3 : ac.tmps.getD 15 undef = .pointer (some ⟨B, off + k * 2, none⟩) := hL.new 3 _ 15 rfl (he ⟨3, .data⟩ (by simp) rfl) rfl
     refine wpOp_plain rfl rfl ?_
     unfold Oper.wp
     go_simp
     exact ⟨_, rfl, Below.refl _ _, CL _ (Below.refl _ _), rfl⟩
    | 5, _, ho =>
     cases ho
     have d4 : ac.tmps.getD 16 undef = .pointer (some ⟨B, off + k * 2, none⟩) := hL.new 4 _ 16 rfl (he ⟨4, .data⟩ (by simp) rfl) rfl
     refine wpOp_plain rfl rfl ?_
     unfold Oper.wp
     go_simp
     exact ⟨_, rfl, Below.refl _ _, CL _ (Below.refl _ _), rfl⟩
    | 6, _, ho =>
     cases ho
     have hBn : Below W.heap.size W (W.alloc (.cells #[] 34)) := (Below.refl _ _).alloc (Nat.le_refl _) _
     refine wpOp_plain rfl rfl ?_
     unfold Oper.wp
     go_simp
     first | exact ⟨_, rfl, _, rfl, World.alloc_heap_new _ _⟩ | exact ⟨_, rfl, hBn, CL _ hBn, _, rfl, World.alloc_heap_new _ _⟩
    | 7, _, ho =>
     cases ho
     refine wpOp_plain rfl rfl ?_
     unfold Oper.wp
     go_simp
     exact ⟨_, rfl, Below.refl _ _, CL _ (Below.refl _ _), rfl⟩
    | 8, _, ho =>
     cases ho
     refine wpOp_plain rfl rfl ?_
     unfold Oper.wp
     go_simp
     exact ⟨_, rfl, Below.refl _ _, CL _ (Below.refl _ _), rfl⟩
    | 9, _, ho =>
     cases ho
     have d7 : ac.tmps.getD 19 undef = .slice (some ⟨B, off, none⟩) m cp2 := hL.new 7 _ 19 rfl (he ⟨7, .data⟩ (by simp) rfl) rfl
     have d8 : ac.tmps.getD 20 undef = .int .i64 (k : Int) := hL.new 8 _ 20 rfl (he ⟨8, .data⟩ (by simp) rfl) rfl
     refine wpOp_plain rfl rfl ?_
     unfold Oper.wp
     go_simp
     exact ⟨_, rfl, Below.refl _ _, CL _ (Below.refl _ _), rfl⟩
    | 10, _, ho =>
     cases ho
     have d9 : ac.tmps.getD 21 undef = .pointer (some ⟨B, off + k * 2, none⟩) := hL.new 9 _ 21 rfl (he ⟨9, .data⟩ (by simp) rfl) rfl
     refine wpOp_plain rfl rfl ?_
     unfold Oper.wp
     go_simp
     exact ⟨_, rfl, Below.refl _ _, CL _ (Below.refl _ _), rfl⟩
    | 11, _, ho =>
     cases ho
     have d10 : ac.tmps.getD 22 undef = .pointer (some ⟨B, off + k * 2 + 1, none⟩) := hL.new 10 _ 22 rfl (he ⟨10, .data⟩ (by simp) rfl) rfl
     refine wpOp_plain rfl rfl ?_
     unfold Oper.wp
     go_simp
     exact ⟨_, rfl, Below.refl _ _, CL _ (Below.refl _ _), rfl⟩
    | 12, _, ho =>
     cases ho
     obtain ⟨x6, hx6⟩ : ∃ x, ac.tmps.getD 18 undef = x := ⟨_, rfl⟩
     have d6 := hL.new 6 _ 18 rfl (he ⟨6, .data⟩ (by simp) rfl) rfl
     rw [hx6] at d6
     have d11 : ac.tmps.getD 23 undef = .slice a3 dl c3 := hL.new 11 _ 23 rfl (he ⟨11, .data⟩ (by simp) rfl) rfl
     obtain ⟨g, rfl, hg⟩ := d6
     refine wpOp_plain rfl rfl ?_
     refine wp_append_fresh W (.tmp 18) (.tmp 23) 27 rfl 34 j0 (.int .i64 0) 1 8 Try.underlying27 hj0 jz0 jz1 jz2 rfl (by decide) g hg (by rw [← hx6]; rfl) (vy := .slice a3 dl c3) (ys := bs) (enc := eI) d11 (HXS.out.below hL.cls) (fun _ => rfl) (eI_all bs) (by rw [HDL.out]; unfold maxLen; omega) (by rw [HDL.out]; omega) ?_
     intro v' w' hrow hBn
     exact ⟨_, rfl, hBn, CL _ hBn, hrow⟩
    | 13, _, ho =>
     cases ho
     have d5 : ac.tmps.getD 17 undef = .int .i64 p := hL.new 5 _ 17 rfl (he ⟨5, .data⟩ (by simp) rfl) rfl
     obtain ⟨x12, hx12⟩ : ∃ x, ac.tmps.getD 24 undef = x := ⟨_, rfl⟩
     have d12 := hL.new 12 _ 24 rfl (he ⟨12, .data⟩ (by simp) rfl) rfl
     rw [hx12] at d12
     obtain ⟨g5, c5, cs5, rfl, hl5, hg5, hc5⟩ := d12
     have dq1 : ac.tmps[17]?.getD undef = .int .i64 p := by rw [← Array.getD_eq_getD_getElem?]; exact d5
     have dq2 : ac.tmps[24]?.getD undef = .slice (some ⟨g5, 0, none⟩) bs.length c5 := by rw [← Array.getD_eq_getD_getElem?]; exact hx12
     refine wpOp_plain rfl rfl ?_
     unfold Oper.wp
     go_simp
     exact ⟨_, rfl, Below.refl _ _, CL _ (Below.refl _ _), _, rfl, g5, c5, cs5, rfl, hl5, hg5, hc5⟩
    | 14, _, ho =>
     cases ho
     obtain ⟨x13, hx13⟩ : ∃ x, ac.tmps.getD 25 undef = x := ⟨_, rfl⟩
     have d13 := hL.new 13 _ 25 rfl (he ⟨13, .data⟩ (by simp) rfl) rfl
     rw [hx13] at d13
     obtain ⟨u, rfl, g5, c5, cs5, rfl, hl5, hg5, hc5⟩ := d13
     have dq1 : ac.tmps[25]?.getD undef = .agg #[.int .i64 p, .slice (some ⟨g5, 0, none⟩) bs.length c5] := by rw [← Array.getD_eq_getD_getElem?]; exact hx13
     have hBn : Below W.heap.size W (W.alloc (.cells #[.int .i64 p, .slice (some ⟨g5, 0, none⟩) bs.length c5] 84)) := (Below.refl _ _).alloc (Nat.le_refl _) _
     refine wpOp_plain rfl rfl ?_
     unfold Oper.wp
     go_simp
     first | exact ⟨_, rfl, _, _, rfl, World.alloc_heap_new _ _, RowB.below ⟨g5, c5, cs5, rfl, hl5, hg5, hc5⟩ hBn⟩ | exact ⟨_, rfl, hBn, CL _ hBn, _, _, rfl, World.alloc_heap_new _ _, RowB.below ⟨g5, c5, cs5, rfl, hl5, hg5, hc5⟩ hBn⟩
    | 15, hA, _ => cases hA
    | 16, hA, _ => cases hA
    | n + 17, hA, _ => simp at hA
   case rest5 =>
    intro ac wz hL
    have e12 : ac.tmps.getD 12 undef = u3 := hL.new 0 _ 12 rfl rfl rfl
    have e13 : ac.tmps.getD 13 undef = .slice (some ⟨B, off, none⟩) m cp2 := hL.new 1 _ 13 rfl rfl rfl
    have e14 : ac.tmps.getD 14 undef = .int .i64 (k : Int) := hL.new 2 _ 14 rfl rfl rfl
    have e15 : ac.tmps.getD 15 undef = .pointer (some ⟨B, off + k * 2, none⟩) := hL.new 3 _ 15 rfl rfl rfl
    have e16 : ac.tmps.getD 16 undef = .pointer (some ⟨B, off + k * 2, none⟩) := hL.new 4 _ 16 rfl rfl rfl
    have e17 : ac.tmps.getD 17 undef = .int .i64 p := hL.new 5 _ 17 rfl rfl rfl
    obtain ⟨y18, e18⟩ : ∃ x, ac.tmps.getD 18 undef = x := ⟨_, rfl⟩
    have e19 : ac.tmps.getD 19 undef = .slice (some ⟨B, off, none⟩) m cp2 := hL.new 7 _ 19 rfl rfl rfl
    have e20 : ac.tmps.getD 20 undef = .int .i64 (k : Int) := hL.new 8 _ 20 rfl rfl rfl
    have e21 : ac.tmps.getD 21 undef = .pointer (some ⟨B, off + k * 2, none⟩) := hL.new 9 _ 21 rfl rfl rfl
    have e22 : ac.tmps.getD 22 undef = .pointer (some ⟨B, off + k * 2 + 1, none⟩) := hL.new 10 _ 22 rfl rfl rfl
    have e23 : ac.tmps.getD 23 undef = .slice a3 dl c3 := hL.new 11 _ 23 rfl rfl rfl
    obtain ⟨y24, e24⟩ : ∃ x, ac.tmps.getD 24 undef = x := ⟨_, rfl⟩
    obtain ⟨y25, e25⟩ : ∃ x, ac.tmps.getD 25 undef = x := ⟨_, rfl⟩
    have hn26 := hL.new 14 _ 26 rfl rfl rfl
    obtain ⟨y26, e26⟩ : ∃ x, ac.tmps.getD 26 undef = x := ⟨_, rfl⟩
    rw [e26] at hn26
    have Hy26 : Aside (OneV wz p bs y26) := hn26
    clear hn26
    have es := hL.sets [12, 13, 14, 15, 16, 17, 18, 19, 20, 21, 22, 23, 24, 25, 26] (by decide +kernel)
    rw [List.foldl_cons, List.foldl_cons, List.foldl_cons, List.foldl_cons, List.foldl_cons, List.foldl_cons, List.foldl_cons, List.foldl_cons, List.foldl_cons, List.foldl_cons, List.foldl_cons, List.foldl_cons, List.foldl_cons, List.foldl_cons, List.foldl_cons, List.foldl_nil, e12, e13, e14, e15, e16, e17, e18, e19, e20, e21, e22, e23, e24, e25, e26] at es
    have BN : Below wr.heap.size wr wz := hL.cls
    rw [es]
    clear es hL e12 e13 e14 e15 e16 e17 e18 e19 e20 e21 e22 e23 e24 e25 e26
    simp only [List.setIfInBounds_toArray, List.set_cons_zero, List.set_cons_succ]
    have HOZ : Aside (wz.ownsRow w.heap.size 84 2 u3 k ((ys.map encV).flatten)) := ownsRow_below hown BN
    have HIZ : Aside (CvInv lv w k ys wz) := ⟨HI.out.same, fun y hy => (HI.out.rows y hy).below BN, HI.out.bel.trans (BN.mono HI.out.siz), Nat.le_trans HI.out.siz BN.size⟩
    obtain ⟨g6, u6, rfl, hg6, hu6⟩ := Hy26.out
    obtain ⟨g5, c5, cs5, rfl, hl5, hg5, hc5⟩ := hu6
    have HU : Aside (RowB wz 1 eI 34 (.slice (some ⟨g5, 0, none⟩) bs.length c5) bs) := ⟨g5, c5, cs5, rfl, hl5, hg5, hc5⟩
    clear hg5 hc5 hl5 Hy26 BN hown HI HXS HXL
    refine wpAny_one (i := 15) (by decide +kernel) rfl rfl ?_
    refine wp_append_own wz (.tmp 12) (.tmp 26) 43 rfl w.heap.size 84 i0 (.agg #[.int .i64 0, .slice none 0 0]) 2 32 Try.underlying43 hi0 hz0 hz1 hz2 rfl (by decide) u3 k ((ys.map encV).flatten) rfl HOZ.out ⟨g6, 0, none⟩ 1 1 [.int .i64 p, .slice (some ⟨g5, 0, none⟩) bs.length c5] rfl rfl (by intro j u h; match j, h with | 0, h => (simp at h; subst h; exact blk_cell hg6 rfl) | 1, h => (simp at h; subst h; rw [add_plain1]; exact blk_cell hg6 rfl) | j + 2, h => simp at h) (by intro u hu; simp at hu; rcases hu with rfl | rfl <;> rfl) (by unfold maxLen; omega) (by omega) HIZ.out.siz ?_
    intro v3 w3 hown3 hgrow3 hnil3
    refine wpAny_one (i := 16) (by decide +kernel) rfl rfl ?_
    unfold Oper.wp
    go_simp
    refine wpAny_done (by decide +kernel) ?_ _
    have HF : Aside (w3.ownsRow w.heap.size 84 2 v3 (k + 1) (((ys ++ [(p, Value.slice (some ⟨g5, 0, none⟩) bs.length c5, bs)]).map encV).flatten) ∧ CvInv lv w (k + 1) (ys ++ [(p, Value.slice (some ⟨g5, 0, none⟩) bs.length c5, bs)]) w3) := by
     refine ⟨by rw [List.map_append, List.flatten_append]; exact hown3, by rw [HTK.out, List.map_append, List.map_append, HIZ.out.same]; rfl, fun y hy => ?_, HIZ.out.bel.grown hgrow3 HIZ.out.siz (fun j hj => (HOZ.out.lt j hj).1), by have := hgrow3.size; have := HIZ.out.siz; omega⟩
     rcases List.mem_append.1 hy with hy | hy
     ·exact (HIZ.out.rows y hy).grw HOZ.out hgrow3 (by decide)
     ·simp at hy; subst hy; exact HU.out.grw HOZ.out hgrow3 (by decide)
    clear hown3 hgrow3 hnil3 HOZ HIZ HU hg6
    go_wp2_with fail
    go_roundg (m - (k + 1))
    case measure => omega
    case rel => exact ⟨k + 1, _, by omega, by omega, by go_num, HF.out.1, HF.out.2⟩
  ·have hltz : ¬ (k : Int) < (m : Int) := by omega
   have hke : k = m := by omega
   subst hke
   go_wp2
   go_ret
   have hsame := HI.out.same
   rw [List.take_of_length_le (by rw [HN.out]; exact Nat.le_refl _)] at hsame
   have hyl : ys.length = k := by have := congrArg List.length hsame; rw [List.length_map, List.length_map, HN.out] at this; exact this
   exact ⟨HI.out.bel, _, ys, rfl, by rw [hyl]; exact hown, fun x hx => HI.out.rows x hx, hsame⟩
theorem visits_any (lv : List (Int × Value × List Int)) (v : Value) (w : World) (hv : Sl w 2 encV v lv) (hb : ∀ x ∈ lv, Sl w 1 eI x.2.1 x.2.2) (hm200 : lv.length ≤ 2010) (h6 : ∀ x ∈ lv, x.2.2.length ≤ 6) :
  Calls Try.prog 20 #[v] w (VisitsOk lv w) := by
 refine (visits_own lv v w hv hb hm200 h6).mono ?_
 rintro e w' ⟨h1, v', lv', rfl, h2, h3, h4⟩
 have hl : lv'.length = lv.length := by have := congrArg List.length h4; rw [List.length_map, List.length_map] at this; exact this
 exact ⟨h1, v', lv', rfl, sl_owns (fun _ => rfl) (by omega) h2, fun x hx => (h3 x hx).sl, h4⟩
end
section
open Go.RowKit Go.Maps Go.Sort Go.Shelf Go.Deep
end
section
open Go.RowKit Go.Shelf
set_option maxRecDepth 100000 in
set_option maxHeartbeats 1000000 in
theorem hworth_any (b : Int) (w : World) (h0 : 0 ≤ b) (h1 : b ≤ 420) : Calls Try.prog 65 #[.int .i64 b] w (Ret (.int .i64 (sc b)) w) := by
 obtain ⟨s0, s1⟩ := sc_bd h0 h1
 have d1 : Int.tdiv b 100 = b / 100 := Int.tdiv_eq_ediv_of_nonneg h0
 have d2 : Int.tmod b 100 = b % 100 := Int.tmod_eq_emod_of_nonneg h0
 unfold sc at *
 have e1 : IntKind.i64.wrap (b / 100) = b / 100 := IntWalk.i64_in _ (by omega)
 have e2 : IntKind.i64.wrap (b / 100 * (b % 100)) = b / 100 * (b % 100) := IntWalk.i64_in _ (by omega)
 generalize b / 100 = f at *
 generalize b % 100 = g at *
 go_enter Try.func65, Try.ntmps65
 go_wp2
 go_ret
 exact ⟨rfl, by (repeat' (first | exact Below.refl _ _ | assumption | (with_reducible refine Below.drew ?_) | (with_reducible refine Below.setCell ?_ (by (first | (simp; done) | (simp; omega))) _) | (with_reducible refine below_drewN' ?_ _) | (refine Below.alloc ?_ (by (try simp only [World.size_alloc, World.size_drew, World.size_setCell]); omega) _) | (refine Below.trans ?_ (Below.mono (by assumption) (by (try simp only [World.size_alloc, World.size_drew, World.size_setCell]); omega)))))⟩
set_option maxRecDepth 100000 in
set_option maxHeartbeats 1000000 in
theorem hopens_any (g b : Int) (w : World) (hb : vbed b = true) (hg : inb 0 2 g = true) : Calls Try.prog 64 #[.int .i64 g, .int .i64 b] w (Ret (.bool (opn g b)) w) := by
 have hz := vbed_zero hb
 obtain ⟨h0, h1⟩ := vbed_bd hb
 have d1 : Int.tdiv b 100 = b / 100 := Int.tdiv_eq_ediv_of_nonneg h0
 have e1 : IntKind.i64.wrap (b / 100) = b / 100 := IntWalk.i64_in _ (by omega)
 unfold inb at hg
 simp only [decide_eq_true_eq] at hg
 unfold opn
 by_cases hb0 : b = 0
 ·subst hb0
  have hr : (if g = 1 then decide ((0 : Int) / 100 = 2) else if g = 2 then decide (2 ≤ (0 : Int) / 100) else decide ((0 : Int) ≠ 0)) = false := by
   by_cases c1 : g = 1
   ·rw [if_pos c1]; rfl
   ·rw [if_neg c1]
    by_cases c2 : g = 2
    ·rw [if_pos c2]; rfl
    ·rw [if_neg c2]; rfl
  rw [hr]
  clear hr hz hb hg d1 e1
  go_enter Try.func64, Try.ntmps64
  go_wp2
  go_ret
  exact ⟨rfl, by (repeat' (first | exact Below.refl _ _ | assumption | (with_reducible refine Below.drew ?_) | (with_reducible refine Below.setCell ?_ (by (first | (simp; done) | (simp; omega))) _) | (with_reducible refine below_drewN' ?_ _) | (refine Below.alloc ?_ (by (try simp only [World.size_alloc, World.size_drew, World.size_setCell]); omega) _) | (refine Below.trans ?_ (Below.mono (by assumption) (by (try simp only [World.size_alloc, World.size_drew, World.size_setCell]); omega)))))⟩
 have hb1 : (b == 0) = false := by simpa using hb0
 have hb2 : (b != 0) = true := by simpa using hb0
 have hf1 : 1 ≤ b / 100 := by
  have : decide (b ≠ 0) = true := by simpa using hb0
  rw [hz] at this
  simpa using this
 have hd0 : decide (b ≠ 0) = true := by simpa using hb0
 rw [hd0]
 clear hz hb hd0
 generalize b / 100 = f at *
 have h3 : g = 0 ∨ g = 1 ∨ g = 2 := by omega
 rcases h3 with rfl | rfl | rfl
 ·rw [if_neg (by decide), if_neg (by decide)]
  go_enter Try.func64, Try.ntmps64
  go_wp2
  go_ret
  exact ⟨rfl, by (repeat' (first | exact Below.refl _ _ | assumption | (with_reducible refine Below.drew ?_) | (with_reducible refine Below.setCell ?_ (by (first | (simp; done) | (simp; omega))) _) | (with_reducible refine below_drewN' ?_ _) | (refine Below.alloc ?_ (by (try simp only [World.size_alloc, World.size_drew, World.size_setCell]); omega) _) | (refine Below.trans ?_ (Below.mono (by assumption) (by (try simp only [World.size_alloc, World.size_drew, World.size_setCell]); omega)))))⟩
 ·rw [if_pos rfl]
  by_cases hf : f = 2
  ·rw [show decide (f = 2) = true by simp [hf]]
   subst hf
   go_enter Try.func64, Try.ntmps64
   go_wp2
   go_ret
   exact ⟨rfl, by (repeat' (first | exact Below.refl _ _ | assumption | (with_reducible refine Below.drew ?_) | (with_reducible refine Below.setCell ?_ (by (first | (simp; done) | (simp; omega))) _) | (with_reducible refine below_drewN' ?_ _) | (refine Below.alloc ?_ (by (try simp only [World.size_alloc, World.size_drew, World.size_setCell]); omega) _) | (refine Below.trans ?_ (Below.mono (by assumption) (by (try simp only [World.size_alloc, World.size_drew, World.size_setCell]); omega)))))⟩
  ·rw [show decide (f = 2) = false by simp [hf]]
   have hf2 : (f == 2) = false := by simpa using hf
   go_enter Try.func64, Try.ntmps64
   go_wp2
   go_ret
   exact ⟨rfl, by (repeat' (first | exact Below.refl _ _ | assumption | (with_reducible refine Below.drew ?_) | (with_reducible refine Below.setCell ?_ (by (first | (simp; done) | (simp; omega))) _) | (with_reducible refine below_drewN' ?_ _) | (refine Below.alloc ?_ (by (try simp only [World.size_alloc, World.size_drew, World.size_setCell]); omega) _) | (refine Below.trans ?_ (Below.mono (by assumption) (by (try simp only [World.size_alloc, World.size_drew, World.size_setCell]); omega)))))⟩
 ·rw [if_neg (by decide), if_pos rfl]
  by_cases hf : f = 2
  ·subst hf
   rw [show decide (2 ≤ (2 : Int)) = true by simp]
   go_enter Try.func64, Try.ntmps64
   go_wp2
   go_ret
   exact ⟨rfl, by (repeat' (first | exact Below.refl _ _ | assumption | (with_reducible refine Below.drew ?_) | (with_reducible refine Below.setCell ?_ (by (first | (simp; done) | (simp; omega))) _) | (with_reducible refine below_drewN' ?_ _) | (refine Below.alloc ?_ (by (try simp only [World.size_alloc, World.size_drew, World.size_setCell]); omega) _) | (refine Below.trans ?_ (Below.mono (by assumption) (by (try simp only [World.size_alloc, World.size_drew, World.size_setCell]); omega)))))⟩
  ·have hf2 : (f == 2) = false := by simpa using hf
   by_cases hf3 : 2 < f
   ·rw [show decide (2 ≤ f) = true by simp; omega]
    go_enter Try.func64, Try.ntmps64
    go_wp2
    go_ret
    exact ⟨rfl, by (repeat' (first | exact Below.refl _ _ | assumption | (with_reducible refine Below.drew ?_) | (with_reducible refine Below.setCell ?_ (by (first | (simp; done) | (simp; omega))) _) | (with_reducible refine below_drewN' ?_ _) | (refine Below.alloc ?_ (by (try simp only [World.size_alloc, World.size_drew, World.size_setCell]); omega) _) | (refine Below.trans ?_ (Below.mono (by assumption) (by (try simp only [World.size_alloc, World.size_drew, World.size_setCell]); omega)))))⟩
   ·rw [show decide (2 ≤ f) = false by simp; omega]
    go_enter Try.func64, Try.ntmps64
    go_wp2
    go_ret
    exact ⟨rfl, by (repeat' (first | exact Below.refl _ _ | assumption | (with_reducible refine Below.drew ?_) | (with_reducible refine Below.setCell ?_ (by (first | (simp; done) | (simp; omega))) _) | (with_reducible refine below_drewN' ?_ _) | (refine Below.alloc ?_ (by (try simp only [World.size_alloc, World.size_drew, World.size_setCell]); omega) _) | (refine Below.trans ?_ (Below.mono (by assumption) (by (try simp only [World.size_alloc, World.size_drew, World.size_setCell]); omega)))))⟩
end
end Go.Proofs.Ytnhjoebdmmelaaa
