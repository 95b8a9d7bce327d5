/- Leg, part Fc: the stand after a dart. -/
import Derived.Test.YthcgbceapabikaaFb
set_option linter.unusedVariables false
set_option linter.unusedSimpArgs false
namespace Go.Proofs.Ythcgbceapabikaa
open Go.RowKit Go.Shelf

def stR (l : Int) (i b : Bool) : Value := .tuple #[.agg #[.int .i64 l, .bool i], .bool b]
set_option maxRecDepth 100000 in
set_option maxHeartbeats 4000000 in
theorem from_in_bust (l c1 c2 c3 b sb : Int) (w : World) (l0 : 0 ≤ l) (l1 : l ≤ 1001) (s0 : 0 ≤ sb) (s1 : sb ≤ 400)
    (xB : ∀ W, Calls Try.prog 96 #[.agg #[.int .i64 b], .int .i64 l, .int .i64 c3] W (Ret (.bool true) W)) :
    Calls Try.prog 85 #[.agg #[.int .i64 b], .agg #[.int .i64 l, .bool true], .agg #[.int .i64 c1, .int .i64 c2, .int .i64 c3]] w (Ret (stR l true true) w) := by
  unfold stR
  go_enter Try.func85, Try.ntmps85
  go_wp2_with fail
  obtain ⟨wa, hwa⟩ : ∃ u, u = (((w.alloc (.cells #[.int .i64 b] 134)).alloc (.cells #[.int .i64 l, .bool true] 99)).alloc (.cells #[.int .i64 c1, .int .i64 c2, .int .i64 c3] 24)).alloc (.cells #[.int .i64 0, .bool false] 99) := ⟨_, rfl⟩
  have kh : wa.cell? ⟨w.heap.size, 0, none⟩ = some (.int .i64 b) := by rw [hwa]; go_simp
  have k0 : wa.cell? ⟨w.heap.size + 1, 0, none⟩ = some (.int .i64 l) := by rw [hwa]; go_simp
  have k1 : wa.cell? ⟨w.heap.size + 1, 1, none⟩ = some (.bool true) := by rw [hwa]; go_simp
  have k3 : wa.cell? ⟨w.heap.size + 1 + 1, 2, none⟩ = some (.int .i64 c3) := by rw [hwa]; go_simp
  have ZA : wa.heap[w.heap.size + 1 + 1 + 1]? = some (.cells #[.int .i64 0, .bool false] 99 (0, 0)) := by rw [hwa]; exact World.alloc_heap_new' _ _ _ (by simp)
  have BA : Aside (Below w.heap.size w wa) := by rw [hwa]; (repeat' (first | exact Below.refl _ _ | assumption | (with_reducible refine Below.drew ?_) | (with_reducible refine Below.setCell ?_ (by (first | (simp; done) | (simp; omega))) _) | (with_reducible refine below_drewN' ?_ _) | (refine Below.alloc ?_ (by (try simp only [World.size_alloc, World.size_drew, World.size_setCell]); omega) _) | (refine Below.trans ?_ (Below.mono (by assumption) (by (try simp only [World.size_alloc, World.size_drew, World.size_setCell]); omega)))))
  rw [← hwa]
  clear hwa
  refine (xB _).mono ?_
  rintro e w2 ⟨rfl, hb⟩
  replace kh := keepc hb kh
  replace k0 := keepc hb k0
  replace k1 := keepc hb k1
  clear k3
  replace ZA := (hb.block _ (Array.getElem?_eq_some_iff.1 ZA).1).trans ZA
  replace BA : Aside (Below w.heap.size w w2) := BA.out.trans (hb.mono BA.out.size)
  clear hb xB
  have zf := blk_free ZA
  have zs : w.heap.size + 1 + 1 + 1 < _ := (Array.getElem?_eq_some_iff.1 ZA).1
  have z0 := blk_cell ZA (i := 0) (x := .int .i64 0) rfl
  have z1 := blk_cell ZA (i := 1) (x := .bool false) rfl
  clear ZA
  go_wp2
  refine bodyPost_ret (v := .tuple #[.agg #[.int .i64 l, .bool true], .bool true]) (by simp [results, Try.results85, go_sem, zs, z0, z1]) rfl ⟨rfl, ?_⟩
  exact below_set2 BA.out (by omega) _ _

set_option maxRecDepth 100000 in
set_option maxHeartbeats 4000000 in
theorem from_in_go (l c1 c2 c3 b sb : Int) (w : World) (l0 : 0 ≤ l) (l1 : l ≤ 1001) (s0 : 0 ≤ sb) (s1 : sb ≤ 400)
    (xB : ∀ W, Calls Try.prog 96 #[.agg #[.int .i64 b], .int .i64 l, .int .i64 c3] W (Ret (.bool false) W)) (xS : ∀ W, Calls Try.prog 97 #[.agg #[.int .i64 b]] W (Ret (.int .i64 sb) W)) :
    Calls Try.prog 85 #[.agg #[.int .i64 b], .agg #[.int .i64 l, .bool true], .agg #[.int .i64 c1, .int .i64 c2, .int .i64 c3]] w (Ret (stR (l - sb) true false) w) := by
  unfold stR
  go_enter Try.func85, Try.ntmps85
  go_wp2_with fail
  obtain ⟨wa, hwa⟩ : ∃ u, u = (((w.alloc (.cells #[.int .i64 b] 134)).alloc (.cells #[.int .i64 l, .bool true] 99)).alloc (.cells #[.int .i64 c1, .int .i64 c2, .int .i64 c3] 24)).alloc (.cells #[.int .i64 0, .bool false] 99) := ⟨_, rfl⟩
  have kh : wa.cell? ⟨w.heap.size, 0, none⟩ = some (.int .i64 b) := by rw [hwa]; go_simp
  have k0 : wa.cell? ⟨w.heap.size + 1, 0, none⟩ = some (.int .i64 l) := by rw [hwa]; go_simp
  have k1 : wa.cell? ⟨w.heap.size + 1, 1, none⟩ = some (.bool true) := by rw [hwa]; go_simp
  have k3 : wa.cell? ⟨w.heap.size + 1 + 1, 2, none⟩ = some (.int .i64 c3) := by rw [hwa]; go_simp
  have ZA : wa.heap[w.heap.size + 1 + 1 + 1]? = some (.cells #[.int .i64 0, .bool false] 99 (0, 0)) := by rw [hwa]; exact World.alloc_heap_new' _ _ _ (by simp)
  have BA : Aside (Below w.heap.size w wa) := by rw [hwa]; (repeat' (first | exact Below.refl _ _ | assumption | (with_reducible refine Below.drew ?_) | (with_reducible refine Below.setCell ?_ (by (first | (simp; done) | (simp; omega))) _) | (with_reducible refine below_drewN' ?_ _) | (refine Below.alloc ?_ (by (try simp only [World.size_alloc, World.size_drew, World.size_setCell]); omega) _) | (refine Below.trans ?_ (Below.mono (by assumption) (by (try simp only [World.size_alloc, World.size_drew, World.size_setCell]); omega)))))
  rw [← hwa]
  clear hwa
  refine (xB _).mono ?_
  rintro e w2 ⟨rfl, hb⟩
  replace kh := keepc hb kh
  replace k0 := keepc hb k0
  replace k1 := keepc hb k1
  clear k3
  replace ZA := (hb.block _ (Array.getElem?_eq_some_iff.1 ZA).1).trans ZA
  replace BA : Aside (Below w.heap.size w w2) := BA.out.trans (hb.mono BA.out.size)
  clear hb xB
  go_wp2_with fail
  have MC : Aside (∀ w', Below w2.heap.size w2 w' → (Below w2.heap.size w2 w' ∧ w'.cell? ⟨w.heap.size, 0, none⟩ = some (.int .i64 b) ∧ w'.cell? ⟨w.heap.size + 1, 0, none⟩ = some (.int .i64 l))) := fun w' hB => ⟨hB, keepc hB kh, keepc hB k0⟩
  have ew : IntKind.i64.wrap (l - sb) = l - sb := IntWalk.i64_in _ (by omega)
  refine region_tail 6 (fun w' => Below w2.heap.size w2 w' ∧ w'.cell? ⟨w.heap.size, 0, none⟩ = some (.int .i64 b) ∧ w'.cell? ⟨w.heap.size + 1, 0, none⟩ = some (.int .i64 l)) 8 (by kernel_rfl) (by decide +kernel) (MC.out _ ((Below.refl _ _).drew)) ?_
  simp only [List.take_succ_cons, List.take_zero]
  iterate 6 (first | go_big_quiet_skip | (go_big_quiet_want; unfold Oper.quiet; apply Exists.intro; refine ⟨fun W hW => ?_, ?_⟩; (go_split_ands; unfold Oper.quietAt; go_simp; first | rfl | exact ⟨rfl, rfl⟩ | ((with_reducible refine (xS _).mono ?_); rintro e w3 ⟨rfl, hb3⟩; exact ⟨rfl, MC.out _ (Below.trans (by assumption) (Below.mono (by assumption) (Below.size (by assumption))))⟩)); go_big_quiet_on; (try simp only [Act.put, List.setIfInBounds_toArray, List.set_cons_zero, List.set_cons_succ])))
  refine wpQuiet_nil ?_
  intro wb hwb
  have hb : Below w2.heap.size w2 wb := hwb.1
  clear hwb MC xS kh k0 k1
  replace ZA := (hb.block _ (Array.getElem?_eq_some_iff.1 ZA).1).trans ZA
  replace BA : Aside (Below w.heap.size w wb) := BA.out.trans (hb.mono BA.out.size)
  clear hb
  have zf := blk_free ZA
  have zs : w.heap.size + 1 + 1 + 1 < _ := (Array.getElem?_eq_some_iff.1 ZA).1
  have z0 := blk_cell ZA (i := 0) (x := .int .i64 0) rfl
  have z1 := blk_cell ZA (i := 1) (x := .bool false) rfl
  clear ZA
  refine wpAny_one (i := 6) (by decide +kernel) rfl rfl ?_
  unfold Oper.wp
  go_simp
  refine wpAny_one (i := 7) (by decide +kernel) rfl rfl ?_
  unfold Oper.wp
  go_simp
  refine wpAny_done (by decide +kernel) ?_ _
  go_wp2
  refine bodyPost_ret (v := .tuple #[.agg #[.int .i64 (l - sb), .bool true], .bool false]) (by simp [results, Try.results85, go_sem, zs, z0, z1]) rfl ⟨rfl, ?_⟩
  exact below_set2 BA.out (by omega) _ _

set_option maxRecDepth 100000 in
set_option maxHeartbeats 4000000 in
theorem from_open_bust (l c1 c2 c3 b sb : Int) (w : World) (l0 : 0 ≤ l) (l1 : l ≤ 1001) (s0 : 0 ≤ sb) (s1 : sb ≤ 400)
    (xO : ∀ W, Calls Try.prog 95 #[.agg #[.int .i64 b], .int .i64 c2] W (Ret (.bool true) W)) (xB : ∀ W, Calls Try.prog 96 #[.agg #[.int .i64 b], .int .i64 l, .int .i64 c3] W (Ret (.bool true) W)) :
    Calls Try.prog 85 #[.agg #[.int .i64 b], .agg #[.int .i64 l, .bool false], .agg #[.int .i64 c1, .int .i64 c2, .int .i64 c3]] w (Ret (stR l false true) w) := by
  unfold stR
  go_enter Try.func85, Try.ntmps85
  go_wp2_with fail
  obtain ⟨wa, hwa⟩ : ∃ u, u = (((w.alloc (.cells #[.int .i64 b] 134)).alloc (.cells #[.int .i64 l, .bool false] 99)).alloc (.cells #[.int .i64 c1, .int .i64 c2, .int .i64 c3] 24)).alloc (.cells #[.int .i64 0, .bool false] 99) := ⟨_, rfl⟩
  have kh : wa.cell? ⟨w.heap.size, 0, none⟩ = some (.int .i64 b) := by rw [hwa]; go_simp
  have k0 : wa.cell? ⟨w.heap.size + 1, 0, none⟩ = some (.int .i64 l) := by rw [hwa]; go_simp
  have k1 : wa.cell? ⟨w.heap.size + 1, 1, none⟩ = some (.bool false) := by rw [hwa]; go_simp
  have k3 : wa.cell? ⟨w.heap.size + 1 + 1, 2, none⟩ = some (.int .i64 c3) := by rw [hwa]; go_simp
  have ZA : wa.heap[w.heap.size + 1 + 1 + 1]? = some (.cells #[.int .i64 0, .bool false] 99 (0, 0)) := by rw [hwa]; exact World.alloc_heap_new' _ _ _ (by simp)
  have BA : Aside (Below w.heap.size w wa) := by rw [hwa]; (repeat' (first | exact Below.refl _ _ | assumption | (with_reducible refine Below.drew ?_) | (with_reducible refine Below.setCell ?_ (by (first | (simp; done) | (simp; omega))) _) | (with_reducible refine below_drewN' ?_ _) | (refine Below.alloc ?_ (by (try simp only [World.size_alloc, World.size_drew, World.size_setCell]); omega) _) | (refine Below.trans ?_ (Below.mono (by assumption) (by (try simp only [World.size_alloc, World.size_drew, World.size_setCell]); omega)))))
  rw [← hwa]
  clear hwa
  refine (xO _).mono ?_
  rintro e w1 ⟨rfl, hb⟩
  replace kh := keepc hb kh
  replace k0 := keepc hb k0
  replace k1 := keepc hb k1
  replace k3 := keepc hb k3
  replace ZA := (hb.block _ (Array.getElem?_eq_some_iff.1 ZA).1).trans ZA
  replace BA : Aside (Below w.heap.size w w1) := BA.out.trans (hb.mono BA.out.size)
  clear hb xO
  go_wp2_with fail
  refine (xB _).mono ?_
  rintro e w2 ⟨rfl, hb⟩
  replace kh := keepc hb kh
  replace k0 := keepc hb k0
  replace k1 := keepc hb k1
  clear k3
  replace ZA := (hb.block _ (Array.getElem?_eq_some_iff.1 ZA).1).trans ZA
  replace BA : Aside (Below w.heap.size w w2) := BA.out.trans (hb.mono BA.out.size)
  clear hb xB
  have zf := blk_free ZA
  have zs : w.heap.size + 1 + 1 + 1 < _ := (Array.getElem?_eq_some_iff.1 ZA).1
  have z0 := blk_cell ZA (i := 0) (x := .int .i64 0) rfl
  have z1 := blk_cell ZA (i := 1) (x := .bool false) rfl
  clear ZA
  go_wp2
  refine bodyPost_ret (v := .tuple #[.agg #[.int .i64 l, .bool false], .bool true]) (by simp [results, Try.results85, go_sem, zs, z0, z1]) rfl ⟨rfl, ?_⟩
  exact below_set2 BA.out (by omega) _ _

set_option maxRecDepth 100000 in
set_option maxHeartbeats 4000000 in
theorem from_open_go (l c1 c2 c3 b sb : Int) (w : World) (l0 : 0 ≤ l) (l1 : l ≤ 1001) (s0 : 0 ≤ sb) (s1 : sb ≤ 400)
    (xO : ∀ W, Calls Try.prog 95 #[.agg #[.int .i64 b], .int .i64 c2] W (Ret (.bool true) W)) (xB : ∀ W, Calls Try.prog 96 #[.agg #[.int .i64 b], .int .i64 l, .int .i64 c3] W (Ret (.bool false) W)) (xS : ∀ W, Calls Try.prog 97 #[.agg #[.int .i64 b]] W (Ret (.int .i64 sb) W)) :
    Calls Try.prog 85 #[.agg #[.int .i64 b], .agg #[.int .i64 l, .bool false], .agg #[.int .i64 c1, .int .i64 c2, .int .i64 c3]] w (Ret (stR (l - sb) true false) w) := by
  unfold stR
  go_enter Try.func85, Try.ntmps85
  go_wp2_with fail
  obtain ⟨wa, hwa⟩ : ∃ u, u = (((w.alloc (.cells #[.int .i64 b] 134)).alloc (.cells #[.int .i64 l, .bool false] 99)).alloc (.cells #[.int .i64 c1, .int .i64 c2, .int .i64 c3] 24)).alloc (.cells #[.int .i64 0, .bool false] 99) := ⟨_, rfl⟩
  have kh : wa.cell? ⟨w.heap.size, 0, none⟩ = some (.int .i64 b) := by rw [hwa]; go_simp
  have k0 : wa.cell? ⟨w.heap.size + 1, 0, none⟩ = some (.int .i64 l) := by rw [hwa]; go_simp
  have k1 : wa.cell? ⟨w.heap.size + 1, 1, none⟩ = some (.bool false) := by rw [hwa]; go_simp
  have k3 : wa.cell? ⟨w.heap.size + 1 + 1, 2, none⟩ = some (.int .i64 c3) := by rw [hwa]; go_simp
  have ZA : wa.heap[w.heap.size + 1 + 1 + 1]? = some (.cells #[.int .i64 0, .bool false] 99 (0, 0)) := by rw [hwa]; exact World.alloc_heap_new' _ _ _ (by simp)
  have BA : Aside (Below w.heap.size w wa) := by rw [hwa]; (repeat' (first | exact Below.refl _ _ | assumption | (with_reducible refine Below.drew ?_) | (with_reducible refine Below.setCell ?_ (by (first | (simp; done) | (simp; omega))) _) | (with_reducible refine below_drewN' ?_ _) | (refine Below.alloc ?_ (by (try simp only [World.size_alloc, World.size_drew, World.size_setCell]); omega) _) | (refine Below.trans ?_ (Below.mono (by assumption) (by (try simp only [World.size_alloc, World.size_drew, World.size_setCell]); omega)))))
  rw [← hwa]
  clear hwa
  refine (xO _).mono ?_
  rintro e w1 ⟨rfl, hb⟩
  replace kh := keepc hb kh
  replace k0 := keepc hb k0
  replace k1 := keepc hb k1
  replace k3 := keepc hb k3
  replace ZA := (hb.block _ (Array.getElem?_eq_some_iff.1 ZA).1).trans ZA
  replace BA : Aside (Below w.heap.size w w1) := BA.out.trans (hb.mono BA.out.size)
  clear hb xO
  go_wp2_with fail
  refine (xB _).mono ?_
  rintro e w2 ⟨rfl, hb⟩
  replace kh := keepc hb kh
  replace k0 := keepc hb k0
  replace k1 := keepc hb k1
  clear k3
  replace ZA := (hb.block _ (Array.getElem?_eq_some_iff.1 ZA).1).trans ZA
  replace BA : Aside (Below w.heap.size w w2) := BA.out.trans (hb.mono BA.out.size)
  clear hb xB
  go_wp2_with fail
  have MC : Aside (∀ w', Below w2.heap.size w2 w' → (Below w2.heap.size w2 w' ∧ w'.cell? ⟨w.heap.size, 0, none⟩ = some (.int .i64 b) ∧ w'.cell? ⟨w.heap.size + 1, 0, none⟩ = some (.int .i64 l))) := fun w' hB => ⟨hB, keepc hB kh, keepc hB k0⟩
  have ew : IntKind.i64.wrap (l - sb) = l - sb := IntWalk.i64_in _ (by omega)
  refine region_tail 6 (fun w' => Below w2.heap.size w2 w' ∧ w'.cell? ⟨w.heap.size, 0, none⟩ = some (.int .i64 b) ∧ w'.cell? ⟨w.heap.size + 1, 0, none⟩ = some (.int .i64 l)) 8 (by kernel_rfl) (by decide +kernel) (MC.out _ ((Below.refl _ _).drew)) ?_
  simp only [List.take_succ_cons, List.take_zero]
  iterate 6 (first | go_big_quiet_skip | (go_big_quiet_want; unfold Oper.quiet; apply Exists.intro; refine ⟨fun W hW => ?_, ?_⟩; (go_split_ands; unfold Oper.quietAt; go_simp; first | rfl | exact ⟨rfl, rfl⟩ | ((with_reducible refine (xS _).mono ?_); rintro e w3 ⟨rfl, hb3⟩; exact ⟨rfl, MC.out _ (Below.trans (by assumption) (Below.mono (by assumption) (Below.size (by assumption))))⟩)); go_big_quiet_on; (try simp only [Act.put, List.setIfInBounds_toArray, List.set_cons_zero, List.set_cons_succ])))
  refine wpQuiet_nil ?_
  intro wb hwb
  have hb : Below w2.heap.size w2 wb := hwb.1
  clear hwb MC xS kh k0 k1
  replace ZA := (hb.block _ (Array.getElem?_eq_some_iff.1 ZA).1).trans ZA
  replace BA : Aside (Below w.heap.size w wb) := BA.out.trans (hb.mono BA.out.size)
  clear hb
  have zf := blk_free ZA
  have zs : w.heap.size + 1 + 1 + 1 < _ := (Array.getElem?_eq_some_iff.1 ZA).1
  have z0 := blk_cell ZA (i := 0) (x := .int .i64 0) rfl
  have z1 := blk_cell ZA (i := 1) (x := .bool false) rfl
  clear ZA
  refine wpAny_one (i := 6) (by decide +kernel) rfl rfl ?_
  unfold Oper.wp
  go_simp
  refine wpAny_one (i := 7) (by decide +kernel) rfl rfl ?_
  unfold Oper.wp
  go_simp
  refine wpAny_done (by decide +kernel) ?_ _
  go_wp2
  refine bodyPost_ret (v := .tuple #[.agg #[.int .i64 (l - sb), .bool true], .bool false]) (by simp [results, Try.results85, go_sem, zs, z0, z1]) rfl ⟨rfl, ?_⟩
  exact below_set2 BA.out (by omega) _ _

set_option maxRecDepth 100000 in
set_option maxHeartbeats 4000000 in
theorem from_out (l c1 c2 c3 b sb : Int) (w : World) (l0 : 0 ≤ l) (l1 : l ≤ 1001) (s0 : 0 ≤ sb) (s1 : sb ≤ 400)
    (xO : ∀ W, Calls Try.prog 95 #[.agg #[.int .i64 b], .int .i64 c2] W (Ret (.bool false) W)) :
    Calls Try.prog 85 #[.agg #[.int .i64 b], .agg #[.int .i64 l, .bool false], .agg #[.int .i64 c1, .int .i64 c2, .int .i64 c3]] w (Ret (stR l false false) w) := by
  unfold stR
  go_enter Try.func85, Try.ntmps85
  go_wp2_with fail
  obtain ⟨wa, hwa⟩ : ∃ u, u = (((w.alloc (.cells #[.int .i64 b] 134)).alloc (.cells #[.int .i64 l, .bool false] 99)).alloc (.cells #[.int .i64 c1, .int .i64 c2, .int .i64 c3] 24)).alloc (.cells #[.int .i64 0, .bool false] 99) := ⟨_, rfl⟩
  have kh : wa.cell? ⟨w.heap.size, 0, none⟩ = some (.int .i64 b) := by rw [hwa]; go_simp
  have k0 : wa.cell? ⟨w.heap.size + 1, 0, none⟩ = some (.int .i64 l) := by rw [hwa]; go_simp
  have k1 : wa.cell? ⟨w.heap.size + 1, 1, none⟩ = some (.bool false) := by rw [hwa]; go_simp
  have k3 : wa.cell? ⟨w.heap.size + 1 + 1, 2, none⟩ = some (.int .i64 c3) := by rw [hwa]; go_simp
  have ZA : wa.heap[w.heap.size + 1 + 1 + 1]? = some (.cells #[.int .i64 0, .bool false] 99 (0, 0)) := by rw [hwa]; exact World.alloc_heap_new' _ _ _ (by simp)
  have BA : Aside (Below w.heap.size w wa) := by rw [hwa]; (repeat' (first | exact Below.refl _ _ | assumption | (with_reducible refine Below.drew ?_) | (with_reducible refine Below.setCell ?_ (by (first | (simp; done) | (simp; omega))) _) | (with_reducible refine below_drewN' ?_ _) | (refine Below.alloc ?_ (by (try simp only [World.size_alloc, World.size_drew, World.size_setCell]); omega) _) | (refine Below.trans ?_ (Below.mono (by assumption) (by (try simp only [World.size_alloc, World.size_drew, World.size_setCell]); omega)))))
  rw [← hwa]
  clear hwa
  refine (xO _).mono ?_
  rintro e w1 ⟨rfl, hb⟩
  replace kh := keepc hb kh
  replace k0 := keepc hb k0
  replace k1 := keepc hb k1
  replace k3 := keepc hb k3
  replace ZA := (hb.block _ (Array.getElem?_eq_some_iff.1 ZA).1).trans ZA
  replace BA : Aside (Below w.heap.size w w1) := BA.out.trans (hb.mono BA.out.size)
  clear hb xO
  have zf := blk_free ZA
  have zs : w.heap.size + 1 + 1 + 1 < _ := (Array.getElem?_eq_some_iff.1 ZA).1
  have z0 := blk_cell ZA (i := 0) (x := .int .i64 0) rfl
  have z1 := blk_cell ZA (i := 1) (x := .bool false) rfl
  clear ZA
  go_wp2
  refine bodyPost_ret (v := .tuple #[.agg #[.int .i64 l, .bool false], .bool false]) (by simp [results, Try.results85, go_sem, zs, z0, z1]) rfl ⟨rfl, ?_⟩
  exact below_set2 BA.out (by omega) _ _

/-- What is left after a dart, whether the player is in, whether it is bust. -/
def frm (c : Cnt) (l : Int) (i : Bool) (b : Int) : Int × Bool × Bool :=
  if (i || opn c.2.1 b) = true then (if bst l c.2.2 b = true then (l, i, true) else (l - sc b, true, false)) else (l, false, false)
theorem from_any (c : Cnt) (l : Int) (i : Bool) (b : Int) (w : World) (hb : vbed b = true) (hc : vcnt c = true) (l0 : 0 ≤ l) (l1 : l ≤ 1001) :
    Calls Try.prog 85 #[hitV b, standV l i, cntV c] w (Ret (stR (frm c l i b).1 (frm c l i b).2.1 (frm c l i b).2.2) w) := by
  obtain ⟨b0, b1⟩ := vbed_bd hb
  obtain ⟨s0, s1⟩ := sc_bd b0 b1
  unfold vcnt at hc
  simp only [Bool.and_eq_true] at hc
  have xO := fun W => opens_any c.2.1 b W b0 b1 hc.2.1
  have xB := fun W => bust_any l c.2.2 b W b0 b1 hc.2.2 l0 l1
  have xS := fun W => score_any b W b0 b1
  unfold hitV standV cntV at *
  obtain ⟨c1, c2, c3⟩ := c
  unfold frm
  simp only [] at *
  cases i with
  | true =>
    rw [Bool.true_or, if_pos rfl]
    cases hq : bst l c3 b with
    | true => rw [hq] at xB; rw [if_pos rfl]; exact from_in_bust l c1 c2 c3 b (sc b) w l0 l1 s0 s1 xB
    | false => rw [hq] at xB; rw [if_neg (by simp)]; exact from_in_go l c1 c2 c3 b (sc b) w l0 l1 s0 s1 xB xS
  | false =>
    rw [Bool.false_or]
    cases hr : opn c2 b with
    | true =>
      rw [hr] at xO
      rw [if_pos rfl]
      cases hq : bst l c3 b with
      | true => rw [hq] at xB; rw [if_pos rfl]; exact from_open_bust l c1 c2 c3 b (sc b) w l0 l1 s0 s1 xO xB
      | false => rw [hq] at xB; rw [if_neg (by simp)]; exact from_open_go l c1 c2 c3 b (sc b) w l0 l1 s0 s1 xO xB xS
    | false =>
      rw [hr] at xO
      rw [if_neg (by simp)]
      exact from_out l c1 c2 c3 b (sc b) w l0 l1 s0 s1 xO
end Go.Proofs.Ythcgbceapabikaa
