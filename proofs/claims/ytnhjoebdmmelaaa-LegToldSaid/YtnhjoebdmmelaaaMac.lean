/- Leg: parts Fa, Fb. -/
import Derived.Test.YtnhjoebdmmelaaaMab
set_option linter.unusedVariables false
set_option linter.unusedSimpArgs false
namespace Go.Proofs.Ytnhjoebdmmelaaa
section
open Go.RowKit Go.Shelf
def standV (l : Int) (i : Bool) : Value := .agg #[.int .i64 l, .bool i]
theorem below_set2 {B R : Nat} {w w1 : World} (h : Below B w w1) (hR : B ≤ R) (x0 x1 : Value) : Below B w ((w1.setCell ⟨R, 0, none⟩ x0).setCell ⟨R, 1, none⟩ x1) :=
 (h.setCell (p := ⟨R, 0, none⟩) hR x0).setCell (p := ⟨R, 1, none⟩) hR x1
theorem World.alloc_heap_new' (w : World) (o : Obj) (k : Nat) (h : k = w.heap.size) : (w.alloc o).heap[k]? = some o := by subst h; exact World.alloc_heap_new w o
set_option maxHeartbeats 400000 in
theorem lowest_any (o : Int) (w : World) : Calls Try.prog 67 #[.int .i64 o] w (Ret (.int .i64 (if o = 0 then 1 else 2)) w) := by
 by_cases h : o = 0
 ·rw [if_pos h]; subst h
  go_enter Try.func67, Try.ntmps67
  go_wp2
  go_ret
  exact ⟨rfl, by (repeat' (first | exact Below.refl _ _ | assumption | (with_reducible refine Below.drew ?_) | (with_reducible refine Below.setCell ?_ (by (first | (simp; done) | (simp; omega))) _) | (with_reducible refine below_drewN' ?_ _) | (refine Below.alloc ?_ (by (try simp only [World.size_alloc, World.size_drew, World.size_setCell]); omega) _) | (refine Below.trans ?_ (Below.mono (by assumption) (by (try simp only [World.size_alloc, World.size_drew, World.size_setCell]); omega)))))⟩
 ·rw [if_neg h]
  have h1 : (o == 0) = false := by simpa using h
  go_enter Try.func67, Try.ntmps67
  go_wp2
  go_ret
  exact ⟨rfl, by (repeat' (first | exact Below.refl _ _ | assumption | (with_reducible refine Below.drew ?_) | (with_reducible refine Below.setCell ?_ (by (first | (simp; done) | (simp; omega))) _) | (with_reducible refine below_drewN' ?_ _) | (refine Below.alloc ?_ (by (try simp only [World.size_alloc, World.size_drew, World.size_setCell]); omega) _) | (refine Below.trans ?_ (Below.mono (by assumption) (by (try simp only [World.size_alloc, World.size_drew, World.size_setCell]); omega)))))⟩
set_option maxHeartbeats 1000000 in
theorem begin1_any (c : Cnt) (w : World) : Calls Try.prog 75 #[cntV c] w (Ret (standV c.1 (c.2.1 == 0)) w) := by
 obtain ⟨s, i, o⟩ := c
 unfold cntV standV
 simp only []
 go_enter Try.func75, Try.ntmps75
 go_wp2
 refine bodyPost_ret (v := .agg #[.int .i64 s, .bool (i == 0)]) (by simp [results, Try.results75, go_sem]) rfl ⟨rfl, ?_⟩
 (repeat' (first | exact Below.refl _ _ | assumption | (with_reducible refine Below.drew ?_) | (with_reducible refine Below.setCell ?_ (by (first | (simp; done) | (simp; omega))) _) | (with_reducible refine below_drewN' ?_ _) | (refine Below.alloc ?_ (by (try simp only [World.size_alloc, World.size_drew, World.size_setCell]); omega) _) | (refine Below.trans ?_ (Below.mono (by assumption) (by (try simp only [World.size_alloc, World.size_drew, World.size_setCell]); omega)))))
end
section
open Go.RowKit Go.Shelf
theorem sl_blk1 {W : World} {g : Nat} {x : Int} {T : TypeId} (hb : W.heap[g]? = some (.cells #[.int .i64 x] T (0, 0))) : Sl W 1 eI (.slice (some ⟨g, 0, none⟩) 1 1) [x] := by
 refine ⟨_, 1, rfl, by simp, fun _ => ⟨_, _, rfl, (Array.getElem?_eq_some_iff.1 hb).1, ?_⟩⟩
 intro j z hz i v hv
 match i, hv with
 | 0, hv =>
  simp [eI] at hv; subst hv
  match j, hz with
  | 0, hz => simp at hz; subst hz; exact blk_cell hb (i := 0) rfl
 | i + 1, hv => simp [eI] at hv
theorem yielded_bool {ops : Array Oper} {tmps : Array Value} {j t : Nat} {b : Bool} (hj : (ops[j]?).bind (·.dst) = some t) (h : tmps.getD t undef = .bool b) : yielded ops tmps j = some b := by
 unfold yielded
 rw [hj]
 simp only [Option.bind_some]
 rw [Array.getD_eq_getD_getElem?] at h
 cases hx : tmps[t]? with
 | none => rw [hx] at h; cases h
 | some v => rw [hx] at h; simp only [Option.getD_some] at h; subst h; rfl
theorem yielded_undef {ops : Array Oper} {tmps : Array Value} {j t : Nat} (hj : (ops[j]?).bind (·.dst) = some t) (h : tmps.getD t undef = undef) : yielded ops tmps j = none := by
 unfold yielded
 rw [hj]
 simp only [Option.bind_some]
 rw [Array.getD_eq_getD_getElem?] at h
 cases hx : tmps[t]? with
 | none => rfl
 | some v => rw [hx] at h; simp only [Option.getD_some] at h; subst h; rfl
theorem wpOp_want {P : Program} {ops : Array Oper} {Q : Exit → Act → World → Prop} {i j : Nat} {b : Bool} {o : Oper} {K : Act → World → Prop} {a : Act} {w : World} (ho : ops[i]? = some o) (hg : o.guard = some (j, b)) (hy : yielded ops a.tmps j = some b) (h : o.wp P a w K Q) : wpOp P ops Q i K a w := by
 unfold wpOp
 simp only [ho]
 rw [if_pos (by simp [Region.wanted, hg, hy])]
 exact .inl h
theorem wpOp_skip {P : Program} {ops : Array Oper} {Q : Exit → Act → World → Prop} {i j : Nat} {b : Bool} {y : Option Bool} {o : Oper} {K : Act → World → Prop} {a : Act} {w : World} (ho : ops[i]? = some o) (hg : o.guard = some (j, b)) (hy : yielded ops a.tmps j = y) (hn : (y == some b) = false) (h : K (a.put o.dst undef) w) : wpOp P ops Q i K a w := by
 unfold wpOp
 simp only [ho]
 rw [if_neg (by simp [Region.wanted, hg, hy, hn])]
 exact h
set_option maxRecDepth 100000 in
set_option maxHeartbeats 4000000 in
theorem vs_no (s i o lo left : Int) (w : World) (in0 : Bool) (y1 : ∀ (W : World) (k : Nat), W.heap[k]? = some (.cells #[.int .i64 left] 3 (0, 0)) → Calls Try.prog 47 #[.int .i64 lo, .int .i64 s, .slice (some ⟨k, 0, none⟩) 1 1] W (Ret (.bool false) W))
  (y2 : ∀ W, Calls Try.prog 67 #[.int .i64 o] W (Ret (.int .i64 lo) W)) :
  Calls Try.prog 40 #[.agg #[.int .i64 s, .int .i64 i, .int .i64 o], .agg #[.int .i64 left, .bool in0]] w (Ret (.bool false) w) := by
 go_enter Try.func40, Try.ntmps40
 go_wp2_with fail
 obtain ⟨wa, hwa⟩ : ∃ u, u = (w.alloc (.cells #[.int .i64 s, .int .i64 i, .int .i64 o] 24)).alloc (.cells #[.int .i64 left, .bool in0] 99) := ⟨_, rfl⟩
 have c0 : wa.cell? ⟨w.heap.size, 0, none⟩ = some (.int .i64 s) := by rw [hwa]; go_simp
 have c2 : wa.cell? ⟨w.heap.size, 2, none⟩ = some (.int .i64 o) := by rw [hwa]; go_simp
 have d0 : wa.cell? ⟨w.heap.size + 1, 0, none⟩ = some (.int .i64 left) := by rw [hwa]; go_simp
 have d1 : wa.cell? ⟨w.heap.size + 1, 1, none⟩ = some (.bool in0) := by rw [hwa]; go_simp
 have BA : Aside (Below w.heap.size w wa) := by rw [hwa]; (repeat' (first | exact Below.refl _ _ | assumption | (with_reducible refine Below.drew ?_) | (with_reducible refine Below.setCell ?_ (by (first | (simp; done) | (simp; omega))) _) | (with_reducible refine below_drewN' ?_ _) | (refine Below.alloc ?_ (by (try simp only [World.size_alloc, World.size_drew, World.size_setCell]); omega) _) | (refine Below.trans ?_ (Below.mono (by assumption) (by (try simp only [World.size_alloc, World.size_drew, World.size_setCell]); omega)))))
 rw [← hwa]
 clear hwa
 refine region_laid (fl := 21) [true, true, true, true, true, true, true, true, true, true, true, true, true, true, true, true, true, true, true, true, true] 0 (fun (i : Nat) (x : Value) (ww : World) => (match i with | 0 => x = .pointer (some ⟨w.heap.size, 2, none⟩) | 1 => x = .int .i64 o | 2 => x = .int .i64 lo | 3 => x = .pointer (some ⟨w.heap.size, 0, none⟩) | 4 => x = .int .i64 s | 5 => x = .pointer (some ⟨w.heap.size + 1, 0, none⟩) | 6 => x = .int .i64 left | 7 => ∃ b, x = .slice (some ⟨b, 0, none⟩) 1 1 ∧ ww.heap[b]? = some (.cells #[.int .i64 left] 3 (0, 0)) | 8 => x = .bool false | 9 => x = .bool false | 10 => x = undef | 11 => x = undef | 12 => x = undef | 13 => x = undef | 14 => x = undef | 15 => x = undef | 16 => x = undef | 17 => x = undef | 18 => x = undef | 19 => x = .bool false | 20 => x = .bool false | _ => True : Prop)) (fun w' => Below wa.heap.size wa w') (by kernel_rfl) rfl (by show layable _ 25 _ 21 = true; decide +kernel) rfl ((Below.refl _ _).drew) ?mono1 ?step1 ?rest1
 case mono1 =>
  intro i x ww ww' hB h
  match i, h with
  | 0, h => exact h
  | 1, h => exact h
  | 2, h => exact h
  | 3, h => exact h
  | 4, h => exact h
  | 5, h => exact h
  | 6, h => exact h
  | 7, h => exact (by obtain ⟨b, hx, hb⟩ := h; exact ⟨b, hx, (hB.block _ (Array.getElem?_eq_some_iff.1 hb).1).trans hb⟩)
  | 8, h => exact h
  | 9, h => exact h
  | 10, h => exact h
  | 11, h => exact h
  | 12, h => exact h
  | 13, h => exact h
  | 14, h => exact h
  | 15, h => exact h
  | 16, h => exact h
  | 17, h => exact h
  | 18, h => exact h
  | 19, h => exact h
  | 20, h => exact h
  | n + 21, h => exact h
 case step1 =>
  intro i o_ listed ac W hA ho hL he
  have hk2 : ac.tmps.getD 2 undef = .pointer (some ⟨w.heap.size, 0, none⟩) := hL.kept 2 (by decide +kernel)
  have hk3 : ac.tmps.getD 3 undef = .pointer (some ⟨w.heap.size + 1, 0, none⟩) := hL.kept 3 (by decide +kernel)
  have CL : ∀ W', Below W.heap.size W W' → Below wa.heap.size wa W' := fun W' h => hL.cls.trans (h.mono hL.cls.size)
  have k_c0 := keepc hL.cls c0
  have k_c2 := keepc hL.cls c2
  have k_d0 := keepc hL.cls d0
  have k_d1 := keepc hL.cls d1
  match i, hA, ho with
  | 0, _, ho =>
   cases ho
   refine wpOp_plain rfl rfl ?_
   unfold Oper.wp
   go_simp
   exact ⟨_, rfl, Below.refl _ _, CL _ (Below.refl _ _), rfl⟩
  | 1, _, ho =>
   cases ho
   have d0 : ac.tmps.getD 5 undef = .pointer (some ⟨w.heap.size, 2, none⟩) := hL.new 0 _ 5 rfl (he ⟨0, .data⟩ (by simp) rfl) rfl
   refine wpOp_plain rfl rfl ?_
   unfold Oper.wp
   go_simp
   exact ⟨_, rfl, Below.refl _ _, CL _ (Below.refl _ _), rfl⟩
  | 2, _, ho =>
   cases ho
   have d1 : ac.tmps.getD 6 undef = .int .i64 o := hL.new 1 _ 6 rfl (he ⟨1, .data⟩ (by simp) rfl) rfl
   refine wpOp_plain rfl rfl ?_
   unfold Oper.wp
   go_simp
   refine (y2 _).mono ?_
   rintro e w' ⟨rfl, hBn⟩
   exact ⟨_, rfl, hBn, CL _ hBn, rfl⟩
  | 3, _, ho =>
   cases ho
   refine wpOp_plain rfl rfl ?_
   unfold Oper.wp
   go_simp
   exact ⟨_, rfl, Below.refl _ _, CL _ (Below.refl _ _), rfl⟩
  | 4, _, ho =>
   cases ho
   have d3 : ac.tmps.getD 8 undef = .pointer (some ⟨w.heap.size, 0, none⟩) := hL.new 3 _ 8 rfl (he ⟨3, .data⟩ (by simp) rfl) rfl
   refine wpOp_plain rfl rfl ?_
   unfold Oper.wp
   go_simp
   exact ⟨_, rfl, Below.refl _ _, CL _ (Below.refl _ _), rfl⟩
  | 5, _, ho =>
   cases ho
   refine wpOp_plain rfl rfl ?_
   unfold Oper.wp
   go_simp
   exact ⟨_, rfl, Below.refl _ _, CL _ (Below.refl _ _), rfl⟩
  | 6, _, ho =>
   cases ho
   have d5 : ac.tmps.getD 10 undef = .pointer (some ⟨w.heap.size + 1, 0, none⟩) := hL.new 5 _ 10 rfl (he ⟨5, .data⟩ (by simp) rfl) rfl
   refine wpOp_plain rfl rfl ?_
   unfold Oper.wp
   go_simp
   exact ⟨_, rfl, Below.refl _ _, CL _ (Below.refl _ _), rfl⟩
  | 7, _, ho =>
   cases ho
   have d6 : ac.tmps.getD 11 undef = .int .i64 left := hL.new 6 _ 11 rfl (he ⟨6, .data⟩ (by simp) rfl) rfl
   have dq : ac.tmps[11]?.getD undef = .int .i64 left := by rw [← Array.getD_eq_getD_getElem?]; exact d6
   refine wpOp_plain rfl rfl ?_
   unfold Oper.wp
   go_simp
   exact ⟨_, rfl, (Below.refl _ _).alloc (Nat.le_refl _) _, CL _ ((Below.refl _ _).alloc (Nat.le_refl _) _), _, rfl, World.alloc_heap_new _ _⟩
  | 8, _, ho =>
   cases ho
   have d2 : ac.tmps.getD 7 undef = .int .i64 lo := hL.new 2 _ 7 rfl (he ⟨2, .data⟩ (by simp) rfl) rfl
   have d4 : ac.tmps.getD 9 undef = .int .i64 s := hL.new 4 _ 9 rfl (he ⟨4, .data⟩ (by simp) rfl) rfl
   obtain ⟨x7, hx7⟩ : ∃ x, ac.tmps.getD 12 undef = x := ⟨_, rfl⟩
   have d7 := hL.new 7 _ 12 rfl (he ⟨7, .data⟩ (by simp) rfl) rfl
   rw [hx7] at d7
   obtain ⟨bb, rfl, hbb⟩ := d7
   refine wpOp_plain rfl rfl ?_
   unfold Oper.wp
   go_simp
   refine (y1 W bb hbb).mono ?_
   rintro e w' ⟨rfl, hBn⟩
   exact ⟨_, rfl, hBn, CL _ hBn, rfl⟩
  | 9, _, ho =>
   cases ho
   have d8 : ac.tmps.getD 13 undef = .bool false := hL.new 8 _ 13 rfl (he ⟨8, .data⟩ (by simp) rfl) rfl
   refine wpOp_plain rfl rfl ?_
   unfold Oper.wp
   go_simp
   exact ⟨_, rfl, Below.refl _ _, CL _ (Below.refl _ _), rfl⟩
  | 10, _, ho =>
   cases ho
   have d9g : ac.tmps.getD 14 undef = .bool false := hL.new 9 _ 14 rfl (he ⟨9, .guard⟩ (by simp) rfl) rfl
   exact wpOp_skip rfl rfl (yielded_bool (t := 14) rfl d9g) (by rfl) ⟨_, rfl, Below.refl _ _, CL _ (Below.refl _ _), rfl⟩
  | 11, _, ho =>
   cases ho
   have d9g : ac.tmps.getD 14 undef = .bool false := hL.new 9 _ 14 rfl (he ⟨9, .guard⟩ (by simp) rfl) rfl
   exact wpOp_skip rfl rfl (yielded_bool (t := 14) rfl d9g) (by rfl) ⟨_, rfl, Below.refl _ _, CL _ (Below.refl _ _), rfl⟩
  | 12, _, ho =>
   cases ho
   have d9g : ac.tmps.getD 14 undef = .bool false := hL.new 9 _ 14 rfl (he ⟨9, .guard⟩ (by simp) rfl) rfl
   exact wpOp_skip rfl rfl (yielded_bool (t := 14) rfl d9g) (by rfl) ⟨_, rfl, Below.refl _ _, CL _ (Below.refl _ _), rfl⟩
  | 13, _, ho =>
   cases ho
   have d12g : ac.tmps.getD 17 undef = undef := hL.new 12 _ 17 rfl (he ⟨12, .guard⟩ (by simp) rfl) rfl
   exact wpOp_skip rfl rfl (yielded_undef (t := 17) rfl d12g) (by rfl) ⟨_, rfl, Below.refl _ _, CL _ (Below.refl _ _), rfl⟩
  | 14, _, ho =>
   cases ho
   have d12g : ac.tmps.getD 17 undef = undef := hL.new 12 _ 17 rfl (he ⟨12, .guard⟩ (by simp) rfl) rfl
   exact wpOp_skip rfl rfl (yielded_undef (t := 17) rfl d12g) (by rfl) ⟨_, rfl, Below.refl _ _, CL _ (Below.refl _ _), rfl⟩
  | 15, _, ho =>
   cases ho
   have d12g : ac.tmps.getD 17 undef = undef := hL.new 12 _ 17 rfl (he ⟨12, .guard⟩ (by simp) rfl) rfl
   exact wpOp_skip rfl rfl (yielded_undef (t := 17) rfl d12g) (by rfl) ⟨_, rfl, Below.refl _ _, CL _ (Below.refl _ _), rfl⟩
  | 16, _, ho =>
   cases ho
   have d12g : ac.tmps.getD 17 undef = undef := hL.new 12 _ 17 rfl (he ⟨12, .guard⟩ (by simp) rfl) rfl
   exact wpOp_skip rfl rfl (yielded_undef (t := 17) rfl d12g) (by rfl) ⟨_, rfl, Below.refl _ _, CL _ (Below.refl _ _), rfl⟩
  | 17, _, ho =>
   cases ho
   have d12g : ac.tmps.getD 17 undef = undef := hL.new 12 _ 17 rfl (he ⟨12, .guard⟩ (by simp) rfl) rfl
   exact wpOp_skip rfl rfl (yielded_undef (t := 17) rfl d12g) (by rfl) ⟨_, rfl, Below.refl _ _, CL _ (Below.refl _ _), rfl⟩
  | 18, _, ho =>
   cases ho
   have d9g : ac.tmps.getD 14 undef = .bool false := hL.new 9 _ 14 rfl (he ⟨9, .guard⟩ (by simp) rfl) rfl
   exact wpOp_skip rfl rfl (yielded_bool (t := 14) rfl d9g) (by rfl) ⟨_, rfl, Below.refl _ _, CL _ (Below.refl _ _), rfl⟩
  | 19, _, ho =>
   cases ho
   have d9 : ac.tmps.getD 14 undef = .bool false := hL.new 9 _ 14 rfl (he ⟨9, .data⟩ (by simp) rfl) rfl
   refine wpOp_plain rfl rfl ?_
   unfold Oper.wp
   go_simp
   exact ⟨_, rfl, Below.refl _ _, CL _ (Below.refl _ _), rfl⟩
  | 20, _, ho =>
   cases ho
   have d19 : ac.tmps.getD 24 undef = .bool false := hL.new 19 _ 24 rfl (he ⟨19, .data⟩ (by simp) rfl) rfl
   refine wpOp_plain rfl rfl ?_
   unfold Oper.wp
   go_simp
   exact ⟨_, rfl, Below.refl _ _, CL _ (Below.refl _ _), rfl⟩
  | n + 21, hA, _ => simp at hA
 case rest1 =>
  intro ac wn hL
  have e5 : ac.tmps.getD 5 undef = .pointer (some ⟨w.heap.size, 2, none⟩) := hL.new 0 _ 5 rfl rfl rfl
  have e6 : ac.tmps.getD 6 undef = .int .i64 o := hL.new 1 _ 6 rfl rfl rfl
  have e7 : ac.tmps.getD 7 undef = .int .i64 lo := hL.new 2 _ 7 rfl rfl rfl
  have e8 : ac.tmps.getD 8 undef = .pointer (some ⟨w.heap.size, 0, none⟩) := hL.new 3 _ 8 rfl rfl rfl
  have e9 : ac.tmps.getD 9 undef = .int .i64 s := hL.new 4 _ 9 rfl rfl rfl
  have e10 : ac.tmps.getD 10 undef = .pointer (some ⟨w.heap.size + 1, 0, none⟩) := hL.new 5 _ 10 rfl rfl rfl
  have e11 : ac.tmps.getD 11 undef = .int .i64 left := hL.new 6 _ 11 rfl rfl rfl
  obtain ⟨y12, e12⟩ : ∃ x, ac.tmps.getD 12 undef = x := ⟨_, rfl⟩
  have e13 : ac.tmps.getD 13 undef = .bool false := hL.new 8 _ 13 rfl rfl rfl
  have e14 : ac.tmps.getD 14 undef = .bool false := hL.new 9 _ 14 rfl rfl rfl
  have e15 : ac.tmps.getD 15 undef = undef := hL.new 10 _ 15 rfl rfl rfl
  have e16 : ac.tmps.getD 16 undef = undef := hL.new 11 _ 16 rfl rfl rfl
  have e17 : ac.tmps.getD 17 undef = undef := hL.new 12 _ 17 rfl rfl rfl
  have e18 : ac.tmps.getD 18 undef = undef := hL.new 13 _ 18 rfl rfl rfl
  have e19 : ac.tmps.getD 19 undef = undef := hL.new 14 _ 19 rfl rfl rfl
  have e20 : ac.tmps.getD 20 undef = undef := hL.new 15 _ 20 rfl rfl rfl
  have e21 : ac.tmps.getD 21 undef = undef := hL.new 16 _ 21 rfl rfl rfl
  have e22 : ac.tmps.getD 22 undef = undef := hL.new 17 _ 22 rfl rfl rfl
  have e23 : ac.tmps.getD 23 undef = undef := hL.new 18 _ 23 rfl rfl rfl
  have e24 : ac.tmps.getD 24 undef = .bool false := hL.new 19 _ 24 rfl rfl rfl
  have e4 : ac.tmps.getD 4 undef = .bool false := hL.new 20 _ 4 rfl rfl rfl
  have es := hL.sets [5, 6, 7, 8, 9, 10, 11, 12, 13, 14, 15, 16, 17, 18, 19, 20, 21, 22, 23, 24, 4] (by decide +kernel)
  rw [List.foldl_cons, List.foldl_cons, List.foldl_cons, List.foldl_cons, List.foldl_cons, List.foldl_cons, List.foldl_cons, List.foldl_cons, List.foldl_cons, List.foldl_cons, List.foldl_cons, List.foldl_cons, List.foldl_cons, List.foldl_cons, List.foldl_cons, List.foldl_cons, List.foldl_cons, List.foldl_cons, List.foldl_cons, List.foldl_cons, List.foldl_cons, List.foldl_nil, e5, e6, e7, e8, e9, e10, e11, e12, e13, e14, e15, e16, e17, e18, e19, e20, e21, e22, e23, e24, e4] at es
  have BN : Below wa.heap.size wa wn := hL.cls
  rw [es]
  clear es hL e5 e6 e7 e8 e9 e10 e11 e12 e13 e14 e15 e16 e17 e18 e19 e20 e21 e22 e23 e24 e4
  refine wpAny_done (by decide +kernel) ?_ _
  simp only [List.setIfInBounds_toArray, List.set_cons_zero, List.set_cons_succ]
  go_wp2
  go_ret
  exact ⟨rfl, BA.out.trans (BN.mono BA.out.size)⟩
set_option maxRecDepth 100000 in
set_option maxHeartbeats 4000000 in
theorem vs_in (s i o lo left : Int) (w : World) (y1 : ∀ (W : World) (k : Nat), W.heap[k]? = some (.cells #[.int .i64 left] 3 (0, 0)) → Calls Try.prog 47 #[.int .i64 lo, .int .i64 s, .slice (some ⟨k, 0, none⟩) 1 1] W (Ret (.bool true) W))
  (y2 : ∀ W, Calls Try.prog 67 #[.int .i64 o] W (Ret (.int .i64 lo) W)) :
  Calls Try.prog 40 #[.agg #[.int .i64 s, .int .i64 i, .int .i64 o], .agg #[.int .i64 left, .bool true]] w (Ret (.bool true) w) := by
 go_enter Try.func40, Try.ntmps40
 go_wp2_with fail
 obtain ⟨wa, hwa⟩ : ∃ u, u = (w.alloc (.cells #[.int .i64 s, .int .i64 i, .int .i64 o] 24)).alloc (.cells #[.int .i64 left, .bool true] 99) := ⟨_, rfl⟩
 have c0 : wa.cell? ⟨w.heap.size, 0, none⟩ = some (.int .i64 s) := by rw [hwa]; go_simp
 have c2 : wa.cell? ⟨w.heap.size, 2, none⟩ = some (.int .i64 o) := by rw [hwa]; go_simp
 have d0 : wa.cell? ⟨w.heap.size + 1, 0, none⟩ = some (.int .i64 left) := by rw [hwa]; go_simp
 have d1 : wa.cell? ⟨w.heap.size + 1, 1, none⟩ = some (.bool true) := by rw [hwa]; go_simp
 have BA : Aside (Below w.heap.size w wa) := by rw [hwa]; (repeat' (first | exact Below.refl _ _ | assumption | (with_reducible refine Below.drew ?_) | (with_reducible refine Below.setCell ?_ (by (first | (simp; done) | (simp; omega))) _) | (with_reducible refine below_drewN' ?_ _) | (refine Below.alloc ?_ (by (try simp only [World.size_alloc, World.size_drew, World.size_setCell]); omega) _) | (refine Below.trans ?_ (Below.mono (by assumption) (by (try simp only [World.size_alloc, World.size_drew, World.size_setCell]); omega)))))
 rw [← hwa]
 clear hwa
 refine region_laid (fl := 21) [true, true, true, true, true, true, true, true, true, true, true, true, true, true, true, true, true, true, true, true, true] 0 (fun (i : Nat) (x : Value) (ww : World) => (match i with | 0 => x = .pointer (some ⟨w.heap.size, 2, none⟩) | 1 => x = .int .i64 o | 2 => x = .int .i64 lo | 3 => x = .pointer (some ⟨w.heap.size, 0, none⟩) | 4 => x = .int .i64 s | 5 => x = .pointer (some ⟨w.heap.size + 1, 0, none⟩) | 6 => x = .int .i64 left | 7 => ∃ b, x = .slice (some ⟨b, 0, none⟩) 1 1 ∧ ww.heap[b]? = some (.cells #[.int .i64 left] 3 (0, 0)) | 8 => x = .bool true | 9 => x = .bool true | 10 => x = .pointer (some ⟨w.heap.size + 1, 1, none⟩) | 11 => x = .bool true | 12 => x = .bool true | 13 => x = undef | 14 => x = undef | 15 => x = undef | 16 => x = undef | 17 => x = undef | 18 => x = .bool true | 19 => x = .bool true | 20 => x = .bool true | _ => True : Prop)) (fun w' => Below wa.heap.size wa w') (by kernel_rfl) rfl (by show layable _ 25 _ 21 = true; decide +kernel) rfl ((Below.refl _ _).drew) ?mono1 ?step1 ?rest1
 case mono1 =>
  intro i x ww ww' hB h
  match i, h with
  | 0, h => exact h
  | 1, h => exact h
  | 2, h => exact h
  | 3, h => exact h
  | 4, h => exact h
  | 5, h => exact h
  | 6, h => exact h
  | 7, h => exact (by obtain ⟨b, hx, hb⟩ := h; exact ⟨b, hx, (hB.block _ (Array.getElem?_eq_some_iff.1 hb).1).trans hb⟩)
  | 8, h => exact h
  | 9, h => exact h
  | 10, h => exact h
  | 11, h => exact h
  | 12, h => exact h
  | 13, h => exact h
  | 14, h => exact h
  | 15, h => exact h
  | 16, h => exact h
  | 17, h => exact h
  | 18, h => exact h
  | 19, h => exact h
  | 20, h => exact h
  | n + 21, h => exact h
 case step1 =>
  intro i o_ listed ac W hA ho hL he
  have hk2 : ac.tmps.getD 2 undef = .pointer (some ⟨w.heap.size, 0, none⟩) := hL.kept 2 (by decide +kernel)
  have hk3 : ac.tmps.getD 3 undef = .pointer (some ⟨w.heap.size + 1, 0, none⟩) := hL.kept 3 (by decide +kernel)
  have CL : ∀ W', Below W.heap.size W W' → Below wa.heap.size wa W' := fun W' h => hL.cls.trans (h.mono hL.cls.size)
  have k_c0 := keepc hL.cls c0
  have k_c2 := keepc hL.cls c2
  have k_d0 := keepc hL.cls d0
  have k_d1 := keepc hL.cls d1
  match i, hA, ho with
  | 0, _, ho =>
   cases ho
   refine wpOp_plain rfl rfl ?_
   unfold Oper.wp
   go_simp
   exact ⟨_, rfl, Below.refl _ _, CL _ (Below.refl _ _), rfl⟩
  | 1, _, ho =>
   cases ho
   have d0 : ac.tmps.getD 5 undef = .pointer (some ⟨w.heap.size, 2, none⟩) := hL.new 0 _ 5 rfl (he ⟨0, .data⟩ (by simp) rfl) rfl
   refine wpOp_plain rfl rfl ?_
   unfold Oper.wp
   go_simp
   exact ⟨_, rfl, Below.refl _ _, CL _ (Below.refl _ _), rfl⟩
  | 2, _, ho =>
   cases ho
   have d1 : ac.tmps.getD 6 undef = .int .i64 o := hL.new 1 _ 6 rfl (he ⟨1, .data⟩ (by simp) rfl) rfl
   refine wpOp_plain rfl rfl ?_
   unfold Oper.wp
   go_simp
   refine (y2 _).mono ?_
   rintro e w' ⟨rfl, hBn⟩
   exact ⟨_, rfl, hBn, CL _ hBn, rfl⟩
  | 3, _, ho =>
   cases ho
   refine wpOp_plain rfl rfl ?_
   unfold Oper.wp
   go_simp
   exact ⟨_, rfl, Below.refl _ _, CL _ (Below.refl _ _), rfl⟩
  | 4, _, ho =>
   cases ho
   have d3 : ac.tmps.getD 8 undef = .pointer (some ⟨w.heap.size, 0, none⟩) := hL.new 3 _ 8 rfl (he ⟨3, .data⟩ (by simp) rfl) rfl
   refine wpOp_plain rfl rfl ?_
   unfold Oper.wp
   go_simp
   exact ⟨_, rfl, Below.refl _ _, CL _ (Below.refl _ _), rfl⟩
  | 5, _, ho =>
   cases ho
   refine wpOp_plain rfl rfl ?_
   unfold Oper.wp
   go_simp
   exact ⟨_, rfl, Below.refl _ _, CL _ (Below.refl _ _), rfl⟩
  | 6, _, ho =>
   cases ho
   have d5 : ac.tmps.getD 10 undef = .pointer (some ⟨w.heap.size + 1, 0, none⟩) := hL.new 5 _ 10 rfl (he ⟨5, .data⟩ (by simp) rfl) rfl
   refine wpOp_plain rfl rfl ?_
   unfold Oper.wp
   go_simp
   exact ⟨_, rfl, Below.refl _ _, CL _ (Below.refl _ _), rfl⟩
  | 7, _, ho =>
   cases ho
   have d6 : ac.tmps.getD 11 undef = .int .i64 left := hL.new 6 _ 11 rfl (he ⟨6, .data⟩ (by simp) rfl) rfl
   have dq : ac.tmps[11]?.getD undef = .int .i64 left := by rw [← Array.getD_eq_getD_getElem?]; exact d6
   refine wpOp_plain rfl rfl ?_
   unfold Oper.wp
   go_simp
   exact ⟨_, rfl, (Below.refl _ _).alloc (Nat.le_refl _) _, CL _ ((Below.refl _ _).alloc (Nat.le_refl _) _), _, rfl, World.alloc_heap_new _ _⟩
  | 8, _, ho =>
   cases ho
   have d2 : ac.tmps.getD 7 undef = .int .i64 lo := hL.new 2 _ 7 rfl (he ⟨2, .data⟩ (by simp) rfl) rfl
   have d4 : ac.tmps.getD 9 undef = .int .i64 s := hL.new 4 _ 9 rfl (he ⟨4, .data⟩ (by simp) rfl) rfl
   obtain ⟨x7, hx7⟩ : ∃ x, ac.tmps.getD 12 undef = x := ⟨_, rfl⟩
   have d7 := hL.new 7 _ 12 rfl (he ⟨7, .data⟩ (by simp) rfl) rfl
   rw [hx7] at d7
   obtain ⟨bb, rfl, hbb⟩ := d7
   refine wpOp_plain rfl rfl ?_
   unfold Oper.wp
   go_simp
   refine (y1 W bb hbb).mono ?_
   rintro e w' ⟨rfl, hBn⟩
   exact ⟨_, rfl, hBn, CL _ hBn, rfl⟩
  | 9, _, ho =>
   cases ho
   have d8 : ac.tmps.getD 13 undef = .bool true := hL.new 8 _ 13 rfl (he ⟨8, .data⟩ (by simp) rfl) rfl
   refine wpOp_plain rfl rfl ?_
   unfold Oper.wp
   go_simp
   exact ⟨_, rfl, Below.refl _ _, CL _ (Below.refl _ _), rfl⟩
  | 10, _, ho =>
   cases ho
   have d9g : ac.tmps.getD 14 undef = .bool true := hL.new 9 _ 14 rfl (he ⟨9, .guard⟩ (by simp) rfl) rfl
   refine wpOp_want rfl rfl (yielded_bool (t := 14) rfl d9g) ?_
   unfold Oper.wp
   go_simp
   exact ⟨_, rfl, Below.refl _ _, CL _ (Below.refl _ _), rfl⟩
  | 11, _, ho =>
   cases ho
   have d10 : ac.tmps.getD 15 undef = .pointer (some ⟨w.heap.size + 1, 1, none⟩) := hL.new 10 _ 15 rfl (he ⟨10, .data⟩ (by simp) rfl) rfl
   have d9g : ac.tmps.getD 14 undef = .bool true := hL.new 9 _ 14 rfl (he ⟨9, .guard⟩ (by simp) rfl) rfl
   refine wpOp_want rfl rfl (yielded_bool (t := 14) rfl d9g) ?_
   unfold Oper.wp
   go_simp
   exact ⟨_, rfl, Below.refl _ _, CL _ (Below.refl _ _), rfl⟩
  | 12, _, ho =>
   cases ho
   have d11 : ac.tmps.getD 16 undef = .bool true := hL.new 11 _ 16 rfl (he ⟨11, .data⟩ (by simp) rfl) rfl
   have d9g : ac.tmps.getD 14 undef = .bool true := hL.new 9 _ 14 rfl (he ⟨9, .guard⟩ (by simp) rfl) rfl
   refine wpOp_want rfl rfl (yielded_bool (t := 14) rfl d9g) ?_
   unfold Oper.wp
   go_simp
   exact ⟨_, rfl, Below.refl _ _, CL _ (Below.refl _ _), rfl⟩
  | 13, _, ho =>
   cases ho
   have d12g : ac.tmps.getD 17 undef = .bool true := hL.new 12 _ 17 rfl (he ⟨12, .guard⟩ (by simp) rfl) rfl
   exact wpOp_skip rfl rfl (yielded_bool (t := 17) rfl d12g) (by rfl) ⟨_, rfl, Below.refl _ _, CL _ (Below.refl _ _), rfl⟩
  | 14, _, ho =>
   cases ho
   have d12g : ac.tmps.getD 17 undef = .bool true := hL.new 12 _ 17 rfl (he ⟨12, .guard⟩ (by simp) rfl) rfl
   exact wpOp_skip rfl rfl (yielded_bool (t := 17) rfl d12g) (by rfl) ⟨_, rfl, Below.refl _ _, CL _ (Below.refl _ _), rfl⟩
  | 15, _, ho =>
   cases ho
   have d12g : ac.tmps.getD 17 undef = .bool true := hL.new 12 _ 17 rfl (he ⟨12, .guard⟩ (by simp) rfl) rfl
   exact wpOp_skip rfl rfl (yielded_bool (t := 17) rfl d12g) (by rfl) ⟨_, rfl, Below.refl _ _, CL _ (Below.refl _ _), rfl⟩
  | 16, _, ho =>
   cases ho
   have d12g : ac.tmps.getD 17 undef = .bool true := hL.new 12 _ 17 rfl (he ⟨12, .guard⟩ (by simp) rfl) rfl
   exact wpOp_skip rfl rfl (yielded_bool (t := 17) rfl d12g) (by rfl) ⟨_, rfl, Below.refl _ _, CL _ (Below.refl _ _), rfl⟩
  | 17, _, ho =>
   cases ho
   have d12g : ac.tmps.getD 17 undef = .bool true := hL.new 12 _ 17 rfl (he ⟨12, .guard⟩ (by simp) rfl) rfl
   exact wpOp_skip rfl rfl (yielded_bool (t := 17) rfl d12g) (by rfl) ⟨_, rfl, Below.refl _ _, CL _ (Below.refl _ _), rfl⟩
  | 18, _, ho =>
   cases ho
   have d12 : ac.tmps.getD 17 undef = .bool true := hL.new 12 _ 17 rfl (he ⟨12, .data⟩ (by simp) rfl) rfl
   have d9g : ac.tmps.getD 14 undef = .bool true := hL.new 9 _ 14 rfl (he ⟨9, .guard⟩ (by simp) rfl) rfl
   refine wpOp_want rfl rfl (yielded_bool (t := 14) rfl d9g) ?_
   unfold Oper.wp
   go_simp
   exact ⟨_, rfl, Below.refl _ _, CL _ (Below.refl _ _), rfl⟩
  | 19, _, ho =>
   cases ho
   have d9 : ac.tmps.getD 14 undef = .bool true := hL.new 9 _ 14 rfl (he ⟨9, .data⟩ (by simp) rfl) rfl
   have d18 : ac.tmps.getD 23 undef = .bool true := hL.new 18 _ 23 rfl (he ⟨18, .data⟩ (by simp) rfl) rfl
   refine wpOp_plain rfl rfl ?_
   unfold Oper.wp
   go_simp
   exact ⟨_, rfl, Below.refl _ _, CL _ (Below.refl _ _), rfl⟩
  | 20, _, ho =>
   cases ho
   have d19 : ac.tmps.getD 24 undef = .bool true := hL.new 19 _ 24 rfl (he ⟨19, .data⟩ (by simp) rfl) rfl
   refine wpOp_plain rfl rfl ?_
   unfold Oper.wp
   go_simp
   exact ⟨_, rfl, Below.refl _ _, CL _ (Below.refl _ _), rfl⟩
  | n + 21, hA, _ => simp at hA
 case rest1 =>
  intro ac wn hL
  have e5 : ac.tmps.getD 5 undef = .pointer (some ⟨w.heap.size, 2, none⟩) := hL.new 0 _ 5 rfl rfl rfl
  have e6 : ac.tmps.getD 6 undef = .int .i64 o := hL.new 1 _ 6 rfl rfl rfl
  have e7 : ac.tmps.getD 7 undef = .int .i64 lo := hL.new 2 _ 7 rfl rfl rfl
  have e8 : ac.tmps.getD 8 undef = .pointer (some ⟨w.heap.size, 0, none⟩) := hL.new 3 _ 8 rfl rfl rfl
  have e9 : ac.tmps.getD 9 undef = .int .i64 s := hL.new 4 _ 9 rfl rfl rfl
  have e10 : ac.tmps.getD 10 undef = .pointer (some ⟨w.heap.size + 1, 0, none⟩) := hL.new 5 _ 10 rfl rfl rfl
  have e11 : ac.tmps.getD 11 undef = .int .i64 left := hL.new 6 _ 11 rfl rfl rfl
  obtain ⟨y12, e12⟩ : ∃ x, ac.tmps.getD 12 undef = x := ⟨_, rfl⟩
  have e13 : ac.tmps.getD 13 undef = .bool true := hL.new 8 _ 13 rfl rfl rfl
  have e14 : ac.tmps.getD 14 undef = .bool true := hL.new 9 _ 14 rfl rfl rfl
  have e15 : ac.tmps.getD 15 undef = .pointer (some ⟨w.heap.size + 1, 1, none⟩) := hL.new 10 _ 15 rfl rfl rfl
  have e16 : ac.tmps.getD 16 undef = .bool true := hL.new 11 _ 16 rfl rfl rfl
  have e17 : ac.tmps.getD 17 undef = .bool true := hL.new 12 _ 17 rfl rfl rfl
  have e18 : ac.tmps.getD 18 undef = undef := hL.new 13 _ 18 rfl rfl rfl
  have e19 : ac.tmps.getD 19 undef = undef := hL.new 14 _ 19 rfl rfl rfl
  have e20 : ac.tmps.getD 20 undef = undef := hL.new 15 _ 20 rfl rfl rfl
  have e21 : ac.tmps.getD 21 undef = undef := hL.new 16 _ 21 rfl rfl rfl
  have e22 : ac.tmps.getD 22 undef = undef := hL.new 17 _ 22 rfl rfl rfl
  have e23 : ac.tmps.getD 23 undef = .bool true := hL.new 18 _ 23 rfl rfl rfl
  have e24 : ac.tmps.getD 24 undef = .bool true := hL.new 19 _ 24 rfl rfl rfl
  have e4 : ac.tmps.getD 4 undef = .bool true := hL.new 20 _ 4 rfl rfl rfl
  have es := hL.sets [5, 6, 7, 8, 9, 10, 11, 12, 13, 14, 15, 16, 17, 18, 19, 20, 21, 22, 23, 24, 4] (by decide +kernel)
  rw [List.foldl_cons, List.foldl_cons, List.foldl_cons, List.foldl_cons, List.foldl_cons, List.foldl_cons, List.foldl_cons, List.foldl_cons, List.foldl_cons, List.foldl_cons, List.foldl_cons, List.foldl_cons, List.foldl_cons, List.foldl_cons, List.foldl_cons, List.foldl_cons, List.foldl_cons, List.foldl_cons, List.foldl_cons, List.foldl_cons, List.foldl_cons, List.foldl_nil, e5, e6, e7, e8, e9, e10, e11, e12, e13, e14, e15, e16, e17, e18, e19, e20, e21, e22, e23, e24, e4] at es
  have BN : Below wa.heap.size wa wn := hL.cls
  rw [es]
  clear es hL e5 e6 e7 e8 e9 e10 e11 e12 e13 e14 e15 e16 e17 e18 e19 e20 e21 e22 e23 e24 e4
  refine wpAny_done (by decide +kernel) ?_ _
  simp only [List.setIfInBounds_toArray, List.set_cons_zero, List.set_cons_succ]
  go_wp2
  go_ret
  exact ⟨rfl, BA.out.trans (BN.mono BA.out.size)⟩
set_option maxRecDepth 100000 in
set_option maxHeartbeats 4000000 in
theorem vs_start (s i o lo left : Int) (w : World) (y1 : ∀ (W : World) (k : Nat), W.heap[k]? = some (.cells #[.int .i64 left] 3 (0, 0)) → Calls Try.prog 47 #[.int .i64 lo, .int .i64 s, .slice (some ⟨k, 0, none⟩) 1 1] W (Ret (.bool true) W))
  (y2 : ∀ W, Calls Try.prog 67 #[.int .i64 o] W (Ret (.int .i64 lo) W)) :
  Calls Try.prog 40 #[.agg #[.int .i64 s, .int .i64 i, .int .i64 o], .agg #[.int .i64 left, .bool false]] w (Ret (.bool (left == s)) w) := by
 go_enter Try.func40, Try.ntmps40
 go_wp2_with fail
 obtain ⟨wa, hwa⟩ : ∃ u, u = (w.alloc (.cells #[.int .i64 s, .int .i64 i, .int .i64 o] 24)).alloc (.cells #[.int .i64 left, .bool false] 99) := ⟨_, rfl⟩
 have c0 : wa.cell? ⟨w.heap.size, 0, none⟩ = some (.int .i64 s) := by rw [hwa]; go_simp
 have c2 : wa.cell? ⟨w.heap.size, 2, none⟩ = some (.int .i64 o) := by rw [hwa]; go_simp
 have d0 : wa.cell? ⟨w.heap.size + 1, 0, none⟩ = some (.int .i64 left) := by rw [hwa]; go_simp
 have d1 : wa.cell? ⟨w.heap.size + 1, 1, none⟩ = some (.bool false) := by rw [hwa]; go_simp
 have BA : Aside (Below w.heap.size w wa) := by rw [hwa]; (repeat' (first | exact Below.refl _ _ | assumption | (with_reducible refine Below.drew ?_) | (with_reducible refine Below.setCell ?_ (by (first | (simp; done) | (simp; omega))) _) | (with_reducible refine below_drewN' ?_ _) | (refine Below.alloc ?_ (by (try simp only [World.size_alloc, World.size_drew, World.size_setCell]); omega) _) | (refine Below.trans ?_ (Below.mono (by assumption) (by (try simp only [World.size_alloc, World.size_drew, World.size_setCell]); omega)))))
 rw [← hwa]
 clear hwa
 refine region_laid (fl := 21) [true, true, true, true, true, true, true, true, true, true, true, true, true, true, true, true, true, true, true, true, true] 0 (fun (i : Nat) (x : Value) (ww : World) => (match i with | 0 => x = .pointer (some ⟨w.heap.size, 2, none⟩) | 1 => x = .int .i64 o | 2 => x = .int .i64 lo | 3 => x = .pointer (some ⟨w.heap.size, 0, none⟩) | 4 => x = .int .i64 s | 5 => x = .pointer (some ⟨w.heap.size + 1, 0, none⟩) | 6 => x = .int .i64 left | 7 => ∃ b, x = .slice (some ⟨b, 0, none⟩) 1 1 ∧ ww.heap[b]? = some (.cells #[.int .i64 left] 3 (0, 0)) | 8 => x = .bool true | 9 => x = .bool true | 10 => x = .pointer (some ⟨w.heap.size + 1, 1, none⟩) | 11 => x = .bool false | 12 => x = .bool false | 13 => x = .pointer (some ⟨w.heap.size + 1, 0, none⟩) | 14 => x = .int .i64 left | 15 => x = .pointer (some ⟨w.heap.size, 0, none⟩) | 16 => x = .int .i64 s | 17 => x = .bool (left == s) | 18 => x = .bool (left == s) | 19 => x = .bool (left == s) | 20 => x = .bool (left == s) | _ => True : Prop)) (fun w' => Below wa.heap.size wa w') (by kernel_rfl) rfl (by show layable _ 25 _ 21 = true; decide +kernel) rfl ((Below.refl _ _).drew) ?mono1 ?step1 ?rest1
 case mono1 =>
  intro i x ww ww' hB h
  match i, h with
  | 0, h => exact h
  | 1, h => exact h
  | 2, h => exact h
  | 3, h => exact h
  | 4, h => exact h
  | 5, h => exact h
  | 6, h => exact h
  | 7, h => exact (by obtain ⟨b, hx, hb⟩ := h; exact ⟨b, hx, (hB.block _ (Array.getElem?_eq_some_iff.1 hb).1).trans hb⟩)
  | 8, h => exact h
  | 9, h => exact h
  | 10, h => exact h
  | 11, h => exact h
  | 12, h => exact h
  | 13, h => exact h
  | 14, h => exact h
  | 15, h => exact h
  | 16, h => exact h
  | 17, h => exact h
  | 18, h => exact h
  | 19, h => exact h
  | 20, h => exact h
  | n + 21, h => exact h
 case step1 =>
  intro i o_ listed ac W hA ho hL he
  have hk2 : ac.tmps.getD 2 undef = .pointer (some ⟨w.heap.size, 0, none⟩) := hL.kept 2 (by decide +kernel)
  have hk3 : ac.tmps.getD 3 undef = .pointer (some ⟨w.heap.size + 1, 0, none⟩) := hL.kept 3 (by decide +kernel)
  have CL : ∀ W', Below W.heap.size W W' → Below wa.heap.size wa W' := fun W' h => hL.cls.trans (h.mono hL.cls.size)
  have k_c0 := keepc hL.cls c0
  have k_c2 := keepc hL.cls c2
  have k_d0 := keepc hL.cls d0
  have k_d1 := keepc hL.cls d1
  match i, hA, ho with
  | 0, _, ho =>
   cases ho
   refine wpOp_plain rfl rfl ?_
   unfold Oper.wp
   go_simp
   exact ⟨_, rfl, Below.refl _ _, CL _ (Below.refl _ _), rfl⟩
  | 1, _, ho =>
   cases ho
   have d0 : ac.tmps.getD 5 undef = .pointer (some ⟨w.heap.size, 2, none⟩) := hL.new 0 _ 5 rfl (he ⟨0, .data⟩ (by simp) rfl) rfl
   refine wpOp_plain rfl rfl ?_
   unfold Oper.wp
   go_simp
   exact ⟨_, rfl, Below.refl _ _, CL _ (Below.refl _ _), rfl⟩
  | 2, _, ho =>
   cases ho
   have d1 : ac.tmps.getD 6 undef = .int .i64 o := hL.new 1 _ 6 rfl (he ⟨1, .data⟩ (by simp) rfl) rfl
   refine wpOp_plain rfl rfl ?_
   unfold Oper.wp
   go_simp
   refine (y2 _).mono ?_
   rintro e w' ⟨rfl, hBn⟩
   exact ⟨_, rfl, hBn, CL _ hBn, rfl⟩
  | 3, _, ho =>
   cases ho
   refine wpOp_plain rfl rfl ?_
   unfold Oper.wp
   go_simp
   exact ⟨_, rfl, Below.refl _ _, CL _ (Below.refl _ _), rfl⟩
  | 4, _, ho =>
   cases ho
   have d3 : ac.tmps.getD 8 undef = .pointer (some ⟨w.heap.size, 0, none⟩) := hL.new 3 _ 8 rfl (he ⟨3, .data⟩ (by simp) rfl) rfl
   refine wpOp_plain rfl rfl ?_
   unfold Oper.wp
   go_simp
   exact ⟨_, rfl, Below.refl _ _, CL _ (Below.refl _ _), rfl⟩
  | 5, _, ho =>
   cases ho
   refine wpOp_plain rfl rfl ?_
   unfold Oper.wp
   go_simp
   exact ⟨_, rfl, Below.refl _ _, CL _ (Below.refl _ _), rfl⟩
  | 6, _, ho =>
   cases ho
   have d5 : ac.tmps.getD 10 undef = .pointer (some ⟨w.heap.size + 1, 0, none⟩) := hL.new 5 _ 10 rfl (he ⟨5, .data⟩ (by simp) rfl) rfl
   refine wpOp_plain rfl rfl ?_
   unfold Oper.wp
   go_simp
   exact ⟨_, rfl, Below.refl _ _, CL _ (Below.refl _ _), rfl⟩
  | 7, _, ho =>
   cases ho
   have d6 : ac.tmps.getD 11 undef = .int .i64 left := hL.new 6 _ 11 rfl (he ⟨6, .data⟩ (by simp) rfl) rfl
   have dq : ac.tmps[11]?.getD undef = .int .i64 left := by rw [← Array.getD_eq_getD_getElem?]; exact d6
   refine wpOp_plain rfl rfl ?_
   unfold Oper.wp
   go_simp
   exact ⟨_, rfl, (Below.refl _ _).alloc (Nat.le_refl _) _, CL _ ((Below.refl _ _).alloc (Nat.le_refl _) _), _, rfl, World.alloc_heap_new _ _⟩
  | 8, _, ho =>
   cases ho
   have d2 : ac.tmps.getD 7 undef = .int .i64 lo := hL.new 2 _ 7 rfl (he ⟨2, .data⟩ (by simp) rfl) rfl
   have d4 : ac.tmps.getD 9 undef = .int .i64 s := hL.new 4 _ 9 rfl (he ⟨4, .data⟩ (by simp) rfl) rfl
   obtain ⟨x7, hx7⟩ : ∃ x, ac.tmps.getD 12 undef = x := ⟨_, rfl⟩
   have d7 := hL.new 7 _ 12 rfl (he ⟨7, .data⟩ (by simp) rfl) rfl
   rw [hx7] at d7
   obtain ⟨bb, rfl, hbb⟩ := d7
   refine wpOp_plain rfl rfl ?_
   unfold Oper.wp
   go_simp
   refine (y1 W bb hbb).mono ?_
   rintro e w' ⟨rfl, hBn⟩
   exact ⟨_, rfl, hBn, CL _ hBn, rfl⟩
  | 9, _, ho =>
   cases ho
   have d8 : ac.tmps.getD 13 undef = .bool true := hL.new 8 _ 13 rfl (he ⟨8, .data⟩ (by simp) rfl) rfl
   refine wpOp_plain rfl rfl ?_
   unfold Oper.wp
   go_simp
   exact ⟨_, rfl, Below.refl _ _, CL _ (Below.refl _ _), rfl⟩
  | 10, _, ho =>
   cases ho
   have d9g : ac.tmps.getD 14 undef = .bool true := hL.new 9 _ 14 rfl (he ⟨9, .guard⟩ (by simp) rfl) rfl
   refine wpOp_want rfl rfl (yielded_bool (t := 14) rfl d9g) ?_
   unfold Oper.wp
   go_simp
   exact ⟨_, rfl, Below.refl _ _, CL _ (Below.refl _ _), rfl⟩
  | 11, _, ho =>
   cases ho
   have d10 : ac.tmps.getD 15 undef = .pointer (some ⟨w.heap.size + 1, 1, none⟩) := hL.new 10 _ 15 rfl (he ⟨10, .data⟩ (by simp) rfl) rfl
   have d9g : ac.tmps.getD 14 undef = .bool true := hL.new 9 _ 14 rfl (he ⟨9, .guard⟩ (by simp) rfl) rfl
   refine wpOp_want rfl rfl (yielded_bool (t := 14) rfl d9g) ?_
   unfold Oper.wp
   go_simp
   exact ⟨_, rfl, Below.refl _ _, CL _ (Below.refl _ _), rfl⟩
  | 12, _, ho =>
   cases ho
   have d11 : ac.tmps.getD 16 undef = .bool false := hL.new 11 _ 16 rfl (he ⟨11, .data⟩ (by simp) rfl) rfl
   have d9g : ac.tmps.getD 14 undef = .bool true := hL.new 9 _ 14 rfl (he ⟨9, .guard⟩ (by simp) rfl) rfl
   refine wpOp_want rfl rfl (yielded_bool (t := 14) rfl d9g) ?_
   unfold Oper.wp
   go_simp
   exact ⟨_, rfl, Below.refl _ _, CL _ (Below.refl _ _), rfl⟩
  | 13, _, ho =>
   cases ho
   have d12g : ac.tmps.getD 17 undef = .bool false := hL.new 12 _ 17 rfl (he ⟨12, .guard⟩ (by simp) rfl) rfl
   refine wpOp_want rfl rfl (yielded_bool (t := 17) rfl d12g) ?_
   unfold Oper.wp
   go_simp
   exact ⟨_, rfl, Below.refl _ _, CL _ (Below.refl _ _), rfl⟩
  | 14, _, ho =>
   cases ho
   have d13 : ac.tmps.getD 18 undef = .pointer (some ⟨w.heap.size + 1, 0, none⟩) := hL.new 13 _ 18 rfl (he ⟨13, .data⟩ (by simp) rfl) rfl
   have d12g : ac.tmps.getD 17 undef = .bool false := hL.new 12 _ 17 rfl (he ⟨12, .guard⟩ (by simp) rfl) rfl
   refine wpOp_want rfl rfl (yielded_bool (t := 17) rfl d12g) ?_
   unfold Oper.wp
   go_simp
   exact ⟨_, rfl, Below.refl _ _, CL _ (Below.refl _ _), rfl⟩
  | 15, _, ho =>
   cases ho
   have d12g : ac.tmps.getD 17 undef = .bool false := hL.new 12 _ 17 rfl (he ⟨12, .guard⟩ (by simp) rfl) rfl
   refine wpOp_want rfl rfl (yielded_bool (t := 17) rfl d12g) ?_
   unfold Oper.wp
   go_simp
   exact ⟨_, rfl, Below.refl _ _, CL _ (Below.refl _ _), rfl⟩
  | 16, _, ho =>
   cases ho
   have d15 : ac.tmps.getD 20 undef = .pointer (some ⟨w.heap.size, 0, none⟩) := hL.new 15 _ 20 rfl (he ⟨15, .data⟩ (by simp) rfl) rfl
   have d12g : ac.tmps.getD 17 undef = .bool false := hL.new 12 _ 17 rfl (he ⟨12, .guard⟩ (by simp) rfl) rfl
   refine wpOp_want rfl rfl (yielded_bool (t := 17) rfl d12g) ?_
   unfold Oper.wp
   go_simp
   exact ⟨_, rfl, Below.refl _ _, CL _ (Below.refl _ _), rfl⟩
  | 17, _, ho =>
   cases ho
   have d14 : ac.tmps.getD 19 undef = .int .i64 left := hL.new 14 _ 19 rfl (he ⟨14, .data⟩ (by simp) rfl) rfl
   have d16 : ac.tmps.getD 21 undef = .int .i64 s := hL.new 16 _ 21 rfl (he ⟨16, .data⟩ (by simp) rfl) rfl
   have d12g : ac.tmps.getD 17 undef = .bool false := hL.new 12 _ 17 rfl (he ⟨12, .guard⟩ (by simp) rfl) rfl
   refine wpOp_want rfl rfl (yielded_bool (t := 17) rfl d12g) ?_
   unfold Oper.wp
   go_simp
   exact ⟨_, rfl, Below.refl _ _, CL _ (Below.refl _ _), rfl⟩
  | 18, _, ho =>
   cases ho
   have d12 : ac.tmps.getD 17 undef = .bool false := hL.new 12 _ 17 rfl (he ⟨12, .data⟩ (by simp) rfl) rfl
   have d17 : ac.tmps.getD 22 undef = .bool (left == s) := hL.new 17 _ 22 rfl (he ⟨17, .data⟩ (by simp) rfl) rfl
   have d9g : ac.tmps.getD 14 undef = .bool true := hL.new 9 _ 14 rfl (he ⟨9, .guard⟩ (by simp) rfl) rfl
   refine wpOp_want rfl rfl (yielded_bool (t := 14) rfl d9g) ?_
   unfold Oper.wp
   go_simp
   exact ⟨_, rfl, Below.refl _ _, CL _ (Below.refl _ _), rfl⟩
  | 19, _, ho =>
   cases ho
   have d9 : ac.tmps.getD 14 undef = .bool true := hL.new 9 _ 14 rfl (he ⟨9, .data⟩ (by simp) rfl) rfl
   have d18 : ac.tmps.getD 23 undef = .bool (left == s) := hL.new 18 _ 23 rfl (he ⟨18, .data⟩ (by simp) rfl) rfl
   refine wpOp_plain rfl rfl ?_
   unfold Oper.wp
   go_simp
   exact ⟨_, rfl, Below.refl _ _, CL _ (Below.refl _ _), rfl⟩
  | 20, _, ho =>
   cases ho
   have d19 : ac.tmps.getD 24 undef = .bool (left == s) := hL.new 19 _ 24 rfl (he ⟨19, .data⟩ (by simp) rfl) rfl
   refine wpOp_plain rfl rfl ?_
   unfold Oper.wp
   go_simp
   exact ⟨_, rfl, Below.refl _ _, CL _ (Below.refl _ _), rfl⟩
  | n + 21, hA, _ => simp at hA
 case rest1 =>
  intro ac wn hL
  have e5 : ac.tmps.getD 5 undef = .pointer (some ⟨w.heap.size, 2, none⟩) := hL.new 0 _ 5 rfl rfl rfl
  have e6 : ac.tmps.getD 6 undef = .int .i64 o := hL.new 1 _ 6 rfl rfl rfl
  have e7 : ac.tmps.getD 7 undef = .int .i64 lo := hL.new 2 _ 7 rfl rfl rfl
  have e8 : ac.tmps.getD 8 undef = .pointer (some ⟨w.heap.size, 0, none⟩) := hL.new 3 _ 8 rfl rfl rfl
  have e9 : ac.tmps.getD 9 undef = .int .i64 s := hL.new 4 _ 9 rfl rfl rfl
  have e10 : ac.tmps.getD 10 undef = .pointer (some ⟨w.heap.size + 1, 0, none⟩) := hL.new 5 _ 10 rfl rfl rfl
  have e11 : ac.tmps.getD 11 undef = .int .i64 left := hL.new 6 _ 11 rfl rfl rfl
  obtain ⟨y12, e12⟩ : ∃ x, ac.tmps.getD 12 undef = x := ⟨_, rfl⟩
  have e13 : ac.tmps.getD 13 undef = .bool true := hL.new 8 _ 13 rfl rfl rfl
  have e14 : ac.tmps.getD 14 undef = .bool true := hL.new 9 _ 14 rfl rfl rfl
  have e15 : ac.tmps.getD 15 undef = .pointer (some ⟨w.heap.size + 1, 1, none⟩) := hL.new 10 _ 15 rfl rfl rfl
  have e16 : ac.tmps.getD 16 undef = .bool false := hL.new 11 _ 16 rfl rfl rfl
  have e17 : ac.tmps.getD 17 undef = .bool false := hL.new 12 _ 17 rfl rfl rfl
  have e18 : ac.tmps.getD 18 undef = .pointer (some ⟨w.heap.size + 1, 0, none⟩) := hL.new 13 _ 18 rfl rfl rfl
  have e19 : ac.tmps.getD 19 undef = .int .i64 left := hL.new 14 _ 19 rfl rfl rfl
  have e20 : ac.tmps.getD 20 undef = .pointer (some ⟨w.heap.size, 0, none⟩) := hL.new 15 _ 20 rfl rfl rfl
  have e21 : ac.tmps.getD 21 undef = .int .i64 s := hL.new 16 _ 21 rfl rfl rfl
  have e22 : ac.tmps.getD 22 undef = .bool (left == s) := hL.new 17 _ 22 rfl rfl rfl
  have e23 : ac.tmps.getD 23 undef = .bool (left == s) := hL.new 18 _ 23 rfl rfl rfl
  have e24 : ac.tmps.getD 24 undef = .bool (left == s) := hL.new 19 _ 24 rfl rfl rfl
  have e4 : ac.tmps.getD 4 undef = .bool (left == s) := hL.new 20 _ 4 rfl rfl rfl
  have es := hL.sets [5, 6, 7, 8, 9, 10, 11, 12, 13, 14, 15, 16, 17, 18, 19, 20, 21, 22, 23, 24, 4] (by decide +kernel)
  rw [List.foldl_cons, List.foldl_cons, List.foldl_cons, List.foldl_cons, List.foldl_cons, List.foldl_cons, List.foldl_cons, List.foldl_cons, List.foldl_cons, List.foldl_cons, List.foldl_cons, List.foldl_cons, List.foldl_cons, List.foldl_cons, List.foldl_cons, List.foldl_cons, List.foldl_cons, List.foldl_cons, List.foldl_cons, List.foldl_cons, List.foldl_cons, List.foldl_nil, e5, e6, e7, e8, e9, e10, e11, e12, e13, e14, e15, e16, e17, e18, e19, e20, e21, e22, e23, e24, e4] at es
  have BN : Below wa.heap.size wa wn := hL.cls
  rw [es]
  clear es hL e5 e6 e7 e8 e9 e10 e11 e12 e13 e14 e15 e16 e17 e18 e19 e20 e21 e22 e23 e24 e4
  refine wpAny_done (by decide +kernel) ?_ _
  simp only [List.setIfInBounds_toArray, List.set_cons_zero, List.set_cons_succ]
  go_wp2
  go_ret
  exact ⟨rfl, BA.out.trans (BN.mono BA.out.size)⟩
theorem validStand_any (c : Cnt) (in0 : Bool) (left : Int) (w : World) :
  Calls Try.prog 40 #[cntV c, standV left in0] w (Ret (.bool (vstand c in0 left)) w) := by
 obtain ⟨s, i, o⟩ := c
 have y1 := fun (W : World) (k : Nat) (hk : W.heap[k]? = some (.cells #[.int .i64 left] 3 (0, 0))) => within_any (if o = 0 then 1 else 2) s _ [left] _ (sl_blk1 hk)
 simp only [List.all_cons, List.all_nil, Bool.and_true] at y1
 have y2 := fun W => lowest_any o W
 unfold vstand cntV standV
 simp only []
 generalize (if o = 0 then (1 : Int) else 2) = lo at *
 have e : decide (left = s) = (left == s) := by rw [Bool.eq_iff_iff]; simp
 rw [e]
 clear e
 generalize inb lo s left = r1 at *
 cases r1 with
 | false => rw [Bool.false_and]; exact vs_no s i o lo left w in0 y1 y2
 | true =>
  rw [Bool.true_and]
  cases in0 with
  | true => rw [Bool.true_or]; exact vs_in s i o lo left w y1 y2
  | false => rw [Bool.false_or]; exact vs_start s i o lo left w y1 y2
end
end Go.Proofs.Ytnhjoebdmmelaaa
