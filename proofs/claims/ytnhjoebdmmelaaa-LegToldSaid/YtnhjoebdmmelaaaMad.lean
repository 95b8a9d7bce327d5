/- Leg: parts Fc, Ri, Rj, Rk. -/
import Derived.Test.YtnhjoebdmmelaaaMac
import Derived.Test.YtnhjoebdmmelaaaMab
set_option linter.unusedVariables false
set_option linter.unusedSimpArgs false
namespace Go.Proofs.Ytnhjoebdmmelaaa
section
open Go.RowKit Go.Shelf
def stR (l : Int) (i b : Bool) : Value := .tuple #[.agg #[.int .i64 l, .bool i], .bool b]
set_option maxRecDepth 100000 in
set_option maxHeartbeats 4000000 in
theorem from_in_bust (l c1 c2 c3 b sb : Int) (w : World) (l0 : 0 ≤ l) (l1 : l ≤ 1001) (s0 : 0 ≤ sb) (s1 : sb ≤ 400)
  (xB : ∀ W, Calls Try.prog 96 #[.agg #[.int .i64 b], .int .i64 l, .int .i64 c3] W (Ret (.bool true) W)) :
  Calls Try.prog 85 #[.agg #[.int .i64 b], .agg #[.int .i64 l, .bool true], .agg #[.int .i64 c1, .int .i64 c2, .int .i64 c3]] w (Ret (stR l true true) w) := by
 unfold stR
 go_enter Try.func85, Try.ntmps85
 go_wp2_with fail
 obtain ⟨wa, hwa⟩ : ∃ u, u = (((w.alloc (.cells #[.int .i64 b] 134)).alloc (.cells #[.int .i64 l, .bool true] 99)).alloc (.cells #[.int .i64 c1, .int .i64 c2, .int .i64 c3] 24)).alloc (.cells #[.int .i64 0, .bool false] 99) := ⟨_, rfl⟩
 have kh : wa.cell? ⟨w.heap.size, 0, none⟩ = some (.int .i64 b) := by rw [hwa]; go_simp
 have k0 : wa.cell? ⟨w.heap.size + 1, 0, none⟩ = some (.int .i64 l) := by rw [hwa]; go_simp
 have k1 : wa.cell? ⟨w.heap.size + 1, 1, none⟩ = some (.bool true) := by rw [hwa]; go_simp
 have k3 : wa.cell? ⟨w.heap.size + 1 + 1, 2, none⟩ = some (.int .i64 c3) := by rw [hwa]; go_simp
 have ZA : wa.heap[w.heap.size + 1 + 1 + 1]? = some (.cells #[.int .i64 0, .bool false] 99 (0, 0)) := by rw [hwa]; exact World.alloc_heap_new' _ _ _ (by simp)
 have BA : Aside (Below w.heap.size w wa) := by rw [hwa]; (repeat' (first | exact Below.refl _ _ | assumption | (with_reducible refine Below.drew ?_) | (with_reducible refine Below.setCell ?_ (by (first | (simp; done) | (simp; omega))) _) | (with_reducible refine below_drewN' ?_ _) | (refine Below.alloc ?_ (by (try simp only [World.size_alloc, World.size_drew, World.size_setCell]); omega) _) | (refine Below.trans ?_ (Below.mono (by assumption) (by (try simp only [World.size_alloc, World.size_drew, World.size_setCell]); omega)))))
 rw [← hwa]
 clear hwa
 refine (xB _).mono ?_
 rintro e w2 ⟨rfl, hb⟩
 replace kh := keepc hb kh
 replace k0 := keepc hb k0
 replace k1 := keepc hb k1
 clear k3
 replace ZA := (hb.block _ (Array.getElem?_eq_some_iff.1 ZA).1).trans ZA
 replace BA : Aside (Below w.heap.size w w2) := BA.out.trans (hb.mono BA.out.size)
 clear hb xB
 have zf := blk_free ZA
 have zs : w.heap.size + 1 + 1 + 1 < _ := (Array.getElem?_eq_some_iff.1 ZA).1
 have z0 := blk_cell ZA (i := 0) (x := .int .i64 0) rfl
 have z1 := blk_cell ZA (i := 1) (x := .bool false) rfl
 clear ZA
 go_wp2
 refine bodyPost_ret (v := .tuple #[.agg #[.int .i64 l, .bool true], .bool true]) (by simp [results, Try.results85, go_sem, zs, z0, z1]) rfl ⟨rfl, ?_⟩
 exact below_set2 BA.out (by omega) _ _
set_option maxRecDepth 100000 in
set_option maxHeartbeats 4000000 in
theorem from_in_go (l c1 c2 c3 b sb : Int) (w : World) (l0 : 0 ≤ l) (l1 : l ≤ 1001) (s0 : 0 ≤ sb) (s1 : sb ≤ 400)
  (xB : ∀ W, Calls Try.prog 96 #[.agg #[.int .i64 b], .int .i64 l, .int .i64 c3] W (Ret (.bool false) W)) (xS : ∀ W, Calls Try.prog 97 #[.agg #[.int .i64 b]] W (Ret (.int .i64 sb) W)) :
  Calls Try.prog 85 #[.agg #[.int .i64 b], .agg #[.int .i64 l, .bool true], .agg #[.int .i64 c1, .int .i64 c2, .int .i64 c3]] w (Ret (stR (l - sb) true false) w) := by
 unfold stR
 go_enter Try.func85, Try.ntmps85
 go_wp2_with fail
 obtain ⟨wa, hwa⟩ : ∃ u, u = (((w.alloc (.cells #[.int .i64 b] 134)).alloc (.cells #[.int .i64 l, .bool true] 99)).alloc (.cells #[.int .i64 c1, .int .i64 c2, .int .i64 c3] 24)).alloc (.cells #[.int .i64 0, .bool false] 99) := ⟨_, rfl⟩
 have kh : wa.cell? ⟨w.heap.size, 0, none⟩ = some (.int .i64 b) := by rw [hwa]; go_simp
 have k0 : wa.cell? ⟨w.heap.size + 1, 0, none⟩ = some (.int .i64 l) := by rw [hwa]; go_simp
 have k1 : wa.cell? ⟨w.heap.size + 1, 1, none⟩ = some (.bool true) := by rw [hwa]; go_simp
 have k3 : wa.cell? ⟨w.heap.size + 1 + 1, 2, none⟩ = some (.int .i64 c3) := by rw [hwa]; go_simp
 have ZA : wa.heap[w.heap.size + 1 + 1 + 1]? = some (.cells #[.int .i64 0, .bool false] 99 (0, 0)) := by rw [hwa]; exact World.alloc_heap_new' _ _ _ (by simp)
 have BA : Aside (Below w.heap.size w wa) := by rw [hwa]; (repeat' (first | exact Below.refl _ _ | assumption | (with_reducible refine Below.drew ?_) | (with_reducible refine Below.setCell ?_ (by (first | (simp; done) | (simp; omega))) _) | (with_reducible refine below_drewN' ?_ _) | (refine Below.alloc ?_ (by (try simp only [World.size_alloc, World.size_drew, World.size_setCell]); omega) _) | (refine Below.trans ?_ (Below.mono (by assumption) (by (try simp only [World.size_alloc, World.size_drew, World.size_setCell]); omega)))))
 rw [← hwa]
 clear hwa
 refine (xB _).mono ?_
 rintro e w2 ⟨rfl, hb⟩
 replace kh := keepc hb kh
 replace k0 := keepc hb k0
 replace k1 := keepc hb k1
 clear k3
 replace ZA := (hb.block _ (Array.getElem?_eq_some_iff.1 ZA).1).trans ZA
 replace BA : Aside (Below w.heap.size w w2) := BA.out.trans (hb.mono BA.out.size)
 clear hb xB
 go_wp2_with fail
 have MC : Aside (∀ w', Below w2.heap.size w2 w' → (Below w2.heap.size w2 w' ∧ w'.cell? ⟨w.heap.size, 0, none⟩ = some (.int .i64 b) ∧ w'.cell? ⟨w.heap.size + 1, 0, none⟩ = some (.int .i64 l))) := fun w' hB => ⟨hB, keepc hB kh, keepc hB k0⟩
 have ew : IntKind.i64.wrap (l - sb) = l - sb := IntWalk.i64_in _ (by omega)
 refine region_tail 6 (fun w' => Below w2.heap.size w2 w' ∧ w'.cell? ⟨w.heap.size, 0, none⟩ = some (.int .i64 b) ∧ w'.cell? ⟨w.heap.size + 1, 0, none⟩ = some (.int .i64 l)) 8 (by kernel_rfl) (by decide +kernel) (MC.out _ ((Below.refl _ _).drew)) ?_
 simp only [List.take_succ_cons, List.take_zero]
 iterate 6 (first | go_big_quiet_skip | (go_big_quiet_want; unfold Oper.quiet; apply Exists.intro; refine ⟨fun W hW => ?_, ?_⟩; (go_split_ands; unfold Oper.quietAt; go_simp; first | rfl | exact ⟨rfl, rfl⟩ | ((with_reducible refine (xS _).mono ?_); rintro e w3 ⟨rfl, hb3⟩; exact ⟨rfl, MC.out _ (Below.trans (by assumption) (Below.mono (by assumption) (Below.size (by assumption))))⟩)); go_big_quiet_on; (try simp only [Act.put, List.setIfInBounds_toArray, List.set_cons_zero, List.set_cons_succ])))
 refine wpQuiet_nil ?_
 intro wb hwb
 have hb : Below w2.heap.size w2 wb := hwb.1
 clear hwb MC xS kh k0 k1
 replace ZA := (hb.block _ (Array.getElem?_eq_some_iff.1 ZA).1).trans ZA
 replace BA : Aside (Below w.heap.size w wb) := BA.out.trans (hb.mono BA.out.size)
 clear hb
 have zf := blk_free ZA
 have zs : w.heap.size + 1 + 1 + 1 < _ := (Array.getElem?_eq_some_iff.1 ZA).1
 have z0 := blk_cell ZA (i := 0) (x := .int .i64 0) rfl
 have z1 := blk_cell ZA (i := 1) (x := .bool false) rfl
 clear ZA
 refine wpAny_one (i := 6) (by decide +kernel) rfl rfl ?_
 unfold Oper.wp
 go_simp
 refine wpAny_one (i := 7) (by decide +kernel) rfl rfl ?_
 unfold Oper.wp
 go_simp
 refine wpAny_done (by decide +kernel) ?_ _
 go_wp2
 refine bodyPost_ret (v := .tuple #[.agg #[.int .i64 (l - sb), .bool true], .bool false]) (by simp [results, Try.results85, go_sem, zs, z0, z1]) rfl ⟨rfl, ?_⟩
 exact below_set2 BA.out (by omega) _ _
set_option maxRecDepth 100000 in
set_option maxHeartbeats 4000000 in
theorem from_open_bust (l c1 c2 c3 b sb : Int) (w : World) (l0 : 0 ≤ l) (l1 : l ≤ 1001) (s0 : 0 ≤ sb) (s1 : sb ≤ 400)
  (xO : ∀ W, Calls Try.prog 95 #[.agg #[.int .i64 b], .int .i64 c2] W (Ret (.bool true) W)) (xB : ∀ W, Calls Try.prog 96 #[.agg #[.int .i64 b], .int .i64 l, .int .i64 c3] W (Ret (.bool true) W)) :
  Calls Try.prog 85 #[.agg #[.int .i64 b], .agg #[.int .i64 l, .bool false], .agg #[.int .i64 c1, .int .i64 c2, .int .i64 c3]] w (Ret (stR l false true) w) := by
 unfold stR
 go_enter Try.func85, Try.ntmps85
 go_wp2_with fail
 obtain ⟨wa, hwa⟩ : ∃ u, u = (((w.alloc (.cells #[.int .i64 b] 134)).alloc (.cells #[.int .i64 l, .bool false] 99)).alloc (.cells #[.int .i64 c1, .int .i64 c2, .int .i64 c3] 24)).alloc (.cells #[.int .i64 0, .bool false] 99) := ⟨_, rfl⟩
 have kh : wa.cell? ⟨w.heap.size, 0, none⟩ = some (.int .i64 b) := by rw [hwa]; go_simp
 have k0 : wa.cell? ⟨w.heap.size + 1, 0, none⟩ = some (.int .i64 l) := by rw [hwa]; go_simp
 have k1 : wa.cell? ⟨w.heap.size + 1, 1, none⟩ = some (.bool false) := by rw [hwa]; go_simp
 have k3 : wa.cell? ⟨w.heap.size + 1 + 1, 2, none⟩ = some (.int .i64 c3) := by rw [hwa]; go_simp
 have ZA : wa.heap[w.heap.size + 1 + 1 + 1]? = some (.cells #[.int .i64 0, .bool false] 99 (0, 0)) := by rw [hwa]; exact World.alloc_heap_new' _ _ _ (by simp)
 have BA : Aside (Below w.heap.size w wa) := by rw [hwa]; (repeat' (first | exact Below.refl _ _ | assumption | (with_reducible refine Below.drew ?_) | (with_reducible refine Below.setCell ?_ (by (first | (simp; done) | (simp; omega))) _) | (with_reducible refine below_drewN' ?_ _) | (refine Below.alloc ?_ (by (try simp only [World.size_alloc, World.size_drew, World.size_setCell]); omega) _) | (refine Below.trans ?_ (Below.mono (by assumption) (by (try simp only [World.size_alloc, World.size_drew, World.size_setCell]); omega)))))
 rw [← hwa]
 clear hwa
 refine (xO _).mono ?_
 rintro e w1 ⟨rfl, hb⟩
 replace kh := keepc hb kh
 replace k0 := keepc hb k0
 replace k1 := keepc hb k1
 replace k3 := keepc hb k3
 replace ZA := (hb.block _ (Array.getElem?_eq_some_iff.1 ZA).1).trans ZA
 replace BA : Aside (Below w.heap.size w w1) := BA.out.trans (hb.mono BA.out.size)
 clear hb xO
 go_wp2_with fail
 refine (xB _).mono ?_
 rintro e w2 ⟨rfl, hb⟩
 replace kh := keepc hb kh
 replace k0 := keepc hb k0
 replace k1 := keepc hb k1
 clear k3
 replace ZA := (hb.block _ (Array.getElem?_eq_some_iff.1 ZA).1).trans ZA
 replace BA : Aside (Below w.heap.size w w2) := BA.out.trans (hb.mono BA.out.size)
 clear hb xB
 have zf := blk_free ZA
 have zs : w.heap.size + 1 + 1 + 1 < _ := (Array.getElem?_eq_some_iff.1 ZA).1
 have z0 := blk_cell ZA (i := 0) (x := .int .i64 0) rfl
 have z1 := blk_cell ZA (i := 1) (x := .bool false) rfl
 clear ZA
 go_wp2
 refine bodyPost_ret (v := .tuple #[.agg #[.int .i64 l, .bool false], .bool true]) (by simp [results, Try.results85, go_sem, zs, z0, z1]) rfl ⟨rfl, ?_⟩
 exact below_set2 BA.out (by omega) _ _
set_option maxRecDepth 100000 in
set_option maxHeartbeats 4000000 in
theorem from_open_go (l c1 c2 c3 b sb : Int) (w : World) (l0 : 0 ≤ l) (l1 : l ≤ 1001) (s0 : 0 ≤ sb) (s1 : sb ≤ 400)
  (xO : ∀ W, Calls Try.prog 95 #[.agg #[.int .i64 b], .int .i64 c2] W (Ret (.bool true) W)) (xB : ∀ W, Calls Try.prog 96 #[.agg #[.int .i64 b], .int .i64 l, .int .i64 c3] W (Ret (.bool false) W)) (xS : ∀ W, Calls Try.prog 97 #[.agg #[.int .i64 b]] W (Ret (.int .i64 sb) W)) :
  Calls Try.prog 85 #[.agg #[.int .i64 b], .agg #[.int .i64 l, .bool false], .agg #[.int .i64 c1, .int .i64 c2, .int .i64 c3]] w (Ret (stR (l - sb) true false) w) := by
 unfold stR
 go_enter Try.func85, Try.ntmps85
 go_wp2_with fail
 obtain ⟨wa, hwa⟩ : ∃ u, u = (((w.alloc (.cells #[.int .i64 b] 134)).alloc (.cells #[.int .i64 l, .bool false] 99)).alloc (.cells #[.int .i64 c1, .int .i64 c2, .int .i64 c3] 24)).alloc (.cells #[.int .i64 0, .bool false] 99) := ⟨_, rfl⟩
 have kh : wa.cell? ⟨w.heap.size, 0, none⟩ = some (.int .i64 b) := by rw [hwa]; go_simp
 have k0 : wa.cell? ⟨w.heap.size + 1, 0, none⟩ = some (.int .i64 l) := by rw [hwa]; go_simp
 have k1 : wa.cell? ⟨w.heap.size + 1, 1, none⟩ = some (.bool false) := by rw [hwa]; go_simp
 have k3 : wa.cell? ⟨w.heap.size + 1 + 1, 2, none⟩ = some (.int .i64 c3) := by rw [hwa]; go_simp
 have ZA : wa.heap[w.heap.size + 1 + 1 + 1]? = some (.cells #[.int .i64 0, .bool false] 99 (0, 0)) := by rw [hwa]; exact World.alloc_heap_new' _ _ _ (by simp)
 have BA : Aside (Below w.heap.size w wa) := by rw [hwa]; (repeat' (first | exact Below.refl _ _ | assumption | (with_reducible refine Below.drew ?_) | (with_reducible refine Below.setCell ?_ (by (first | (simp; done) | (simp; omega))) _) | (with_reducible refine below_drewN' ?_ _) | (refine Below.alloc ?_ (by (try simp only [World.size_alloc, World.size_drew, World.size_setCell]); omega) _) | (refine Below.trans ?_ (Below.mono (by assumption) (by (try simp only [World.size_alloc, World.size_drew, World.size_setCell]); omega)))))
 rw [← hwa]
 clear hwa
 refine (xO _).mono ?_
 rintro e w1 ⟨rfl, hb⟩
 replace kh := keepc hb kh
 replace k0 := keepc hb k0
 replace k1 := keepc hb k1
 replace k3 := keepc hb k3
 replace ZA := (hb.block _ (Array.getElem?_eq_some_iff.1 ZA).1).trans ZA
 replace BA : Aside (Below w.heap.size w w1) := BA.out.trans (hb.mono BA.out.size)
 clear hb xO
 go_wp2_with fail
 refine (xB _).mono ?_
 rintro e w2 ⟨rfl, hb⟩
 replace kh := keepc hb kh
 replace k0 := keepc hb k0
 replace k1 := keepc hb k1
 clear k3
 replace ZA := (hb.block _ (Array.getElem?_eq_some_iff.1 ZA).1).trans ZA
 replace BA : Aside (Below w.heap.size w w2) := BA.out.trans (hb.mono BA.out.size)
 clear hb xB
 go_wp2_with fail
 have MC : Aside (∀ w', Below w2.heap.size w2 w' → (Below w2.heap.size w2 w' ∧ w'.cell? ⟨w.heap.size, 0, none⟩ = some (.int .i64 b) ∧ w'.cell? ⟨w.heap.size + 1, 0, none⟩ = some (.int .i64 l))) := fun w' hB => ⟨hB, keepc hB kh, keepc hB k0⟩
 have ew : IntKind.i64.wrap (l - sb) = l - sb := IntWalk.i64_in _ (by omega)
 refine region_tail 6 (fun w' => Below w2.heap.size w2 w' ∧ w'.cell? ⟨w.heap.size, 0, none⟩ = some (.int .i64 b) ∧ w'.cell? ⟨w.heap.size + 1, 0, none⟩ = some (.int .i64 l)) 8 (by kernel_rfl) (by decide +kernel) (MC.out _ ((Below.refl _ _).drew)) ?_
 simp only [List.take_succ_cons, List.take_zero]
 iterate 6 (first | go_big_quiet_skip | (go_big_quiet_want; unfold Oper.quiet; apply Exists.intro; refine ⟨fun W hW => ?_, ?_⟩; (go_split_ands; unfold Oper.quietAt; go_simp; first | rfl | exact ⟨rfl, rfl⟩ | ((with_reducible refine (xS _).mono ?_); rintro e w3 ⟨rfl, hb3⟩; exact ⟨rfl, MC.out _ (Below.trans (by assumption) (Below.mono (by assumption) (Below.size (by assumption))))⟩)); go_big_quiet_on; (try simp only [Act.put, List.setIfInBounds_toArray, List.set_cons_zero, List.set_cons_succ])))
 refine wpQuiet_nil ?_
 intro wb hwb
 have hb : Below w2.heap.size w2 wb := hwb.1
 clear hwb MC xS kh k0 k1
 replace ZA := (hb.block _ (Array.getElem?_eq_some_iff.1 ZA).1).trans ZA
 replace BA : Aside (Below w.heap.size w wb) := BA.out.trans (hb.mono BA.out.size)
 clear hb
 have zf := blk_free ZA
 have zs : w.heap.size + 1 + 1 + 1 < _ := (Array.getElem?_eq_some_iff.1 ZA).1
 have z0 := blk_cell ZA (i := 0) (x := .int .i64 0) rfl
 have z1 := blk_cell ZA (i := 1) (x := .bool false) rfl
 clear ZA
 refine wpAny_one (i := 6) (by decide +kernel) rfl rfl ?_
 unfold Oper.wp
 go_simp
 refine wpAny_one (i := 7) (by decide +kernel) rfl rfl ?_
 unfold Oper.wp
 go_simp
 refine wpAny_done (by decide +kernel) ?_ _
 go_wp2
 refine bodyPost_ret (v := .tuple #[.agg #[.int .i64 (l - sb), .bool true], .bool false]) (by simp [results, Try.results85, go_sem, zs, z0, z1]) rfl ⟨rfl, ?_⟩
 exact below_set2 BA.out (by omega) _ _
set_option maxRecDepth 100000 in
set_option maxHeartbeats 4000000 in
theorem from_out (l c1 c2 c3 b sb : Int) (w : World) (l0 : 0 ≤ l) (l1 : l ≤ 1001) (s0 : 0 ≤ sb) (s1 : sb ≤ 400)
  (xO : ∀ W, Calls Try.prog 95 #[.agg #[.int .i64 b], .int .i64 c2] W (Ret (.bool false) W)) :
  Calls Try.prog 85 #[.agg #[.int .i64 b], .agg #[.int .i64 l, .bool false], .agg #[.int .i64 c1, .int .i64 c2, .int .i64 c3]] w (Ret (stR l false false) w) := by
 unfold stR
 go_enter Try.func85, Try.ntmps85
 go_wp2_with fail
 obtain ⟨wa, hwa⟩ : ∃ u, u = (((w.alloc (.cells #[.int .i64 b] 134)).alloc (.cells #[.int .i64 l, .bool false] 99)).alloc (.cells #[.int .i64 c1, .int .i64 c2, .int .i64 c3] 24)).alloc (.cells #[.int .i64 0, .bool false] 99) := ⟨_, rfl⟩
 have kh : wa.cell? ⟨w.heap.size, 0, none⟩ = some (.int .i64 b) := by rw [hwa]; go_simp
 have k0 : wa.cell? ⟨w.heap.size + 1, 0, none⟩ = some (.int .i64 l) := by rw [hwa]; go_simp
 have k1 : wa.cell? ⟨w.heap.size + 1, 1, none⟩ = some (.bool false) := by rw [hwa]; go_simp
 have k3 : wa.cell? ⟨w.heap.size + 1 + 1, 2, none⟩ = some (.int .i64 c3) := by rw [hwa]; go_simp
 have ZA : wa.heap[w.heap.size + 1 + 1 + 1]? = some (.cells #[.int .i64 0, .bool false] 99 (0, 0)) := by rw [hwa]; exact World.alloc_heap_new' _ _ _ (by simp)
 have BA : Aside (Below w.heap.size w wa) := by rw [hwa]; (repeat' (first | exact Below.refl _ _ | assumption | (with_reducible refine Below.drew ?_) | (with_reducible refine Below.setCell ?_ (by (first | (simp; done) | (simp; omega))) _) | (with_reducible refine below_drewN' ?_ _) | (refine Below.alloc ?_ (by (try simp only [World.size_alloc, World.size_drew, World.size_setCell]); omega) _) | (refine Below.trans ?_ (Below.mono (by assumption) (by (try simp only [World.size_alloc, World.size_drew, World.size_setCell]); omega)))))
 rw [← hwa]
 clear hwa
 refine (xO _).mono ?_
 rintro e w1 ⟨rfl, hb⟩
 replace kh := keepc hb kh
 replace k0 := keepc hb k0
 replace k1 := keepc hb k1
 replace k3 := keepc hb k3
 replace ZA := (hb.block _ (Array.getElem?_eq_some_iff.1 ZA).1).trans ZA
 replace BA : Aside (Below w.heap.size w w1) := BA.out.trans (hb.mono BA.out.size)
 clear hb xO
 have zf := blk_free ZA
 have zs : w.heap.size + 1 + 1 + 1 < _ := (Array.getElem?_eq_some_iff.1 ZA).1
 have z0 := blk_cell ZA (i := 0) (x := .int .i64 0) rfl
 have z1 := blk_cell ZA (i := 1) (x := .bool false) rfl
 clear ZA
 go_wp2
 refine bodyPost_ret (v := .tuple #[.agg #[.int .i64 l, .bool false], .bool false]) (by simp [results, Try.results85, go_sem, zs, z0, z1]) rfl ⟨rfl, ?_⟩
 exact below_set2 BA.out (by omega) _ _
def frm (c : Cnt) (l : Int) (i : Bool) (b : Int) : Int × Bool × Bool :=
 if (i || opn c.2.1 b) = true then (if bst l c.2.2 b = true then (l, i, true) else (l - sc b, true, false)) else (l, false, false)
theorem from_any (c : Cnt) (l : Int) (i : Bool) (b : Int) (w : World) (hb : vbed b = true) (hc : vcnt c = true) (l0 : 0 ≤ l) (l1 : l ≤ 1001) :
  Calls Try.prog 85 #[hitV b, standV l i, cntV c] w (Ret (stR (frm c l i b).1 (frm c l i b).2.1 (frm c l i b).2.2) w) := by
 obtain ⟨b0, b1⟩ := vbed_bd hb
 obtain ⟨s0, s1⟩ := sc_bd b0 b1
 unfold vcnt at hc
 simp only [Bool.and_eq_true] at hc
 have xO := fun W => opens_any c.2.1 b W b0 b1 hc.2.1
 have xB := fun W => bust_any l c.2.2 b W b0 b1 hc.2.2 l0 l1
 have xS := fun W => score_any b W b0 b1
 unfold hitV standV cntV at *
 obtain ⟨c1, c2, c3⟩ := c
 unfold frm
 simp only [] at *
 cases i with
 | true =>
  rw [Bool.true_or, if_pos rfl]
  cases hq : bst l c3 b with
  | true => rw [hq] at xB; rw [if_pos rfl]; exact from_in_bust l c1 c2 c3 b (sc b) w l0 l1 s0 s1 xB
  | false => rw [hq] at xB; rw [if_neg (by simp)]; exact from_in_go l c1 c2 c3 b (sc b) w l0 l1 s0 s1 xB xS
 | false =>
  rw [Bool.false_or]
  cases hr : opn c2 b with
  | true =>
   rw [hr] at xO
   rw [if_pos rfl]
   cases hq : bst l c3 b with
   | true => rw [hq] at xB; rw [if_pos rfl]; exact from_open_bust l c1 c2 c3 b (sc b) w l0 l1 s0 s1 xO xB
   | false => rw [hq] at xB; rw [if_neg (by simp)]; exact from_open_go l c1 c2 c3 b (sc b) w l0 l1 s0 s1 xO xB xS
  | false =>
   rw [hr] at xO
   rw [if_neg (by simp)]
   exact from_out l c1 c2 c3 b (sc b) w l0 l1 s0 s1 xO
end
section
open Go.RowKit Go.Shelf
def layableC (A : Nat → Bool) (n : Nat) (ops : Array Oper) (fl : Nat := 3) : Bool :=
 (List.range ops.size).all fun i => match ops[i]? with
  | none => false
  | some o =>
   if A i then (o.after.all fun e => !Region.binds .any e || (A e.on && decide (e.on < i))) && (match o.dst with
    | none => false
    | some t => decide (t < n) && (List.range ops.size).all fun j => decide (j = i) || (match ops[j]? with | none => true | some o' => !decide (o'.dst = some t)))
   else (List.range ops.size).all fun j => !A j || reach ops fl i j
theorem wpAny_laidC {P : Program} {ops : Array Oper} {Q : Exit → Act → World → Prop} (A : Nat → Bool) (a0 : Act) (D : Nat → Value → World → Prop) (C : World → Prop) {fl : Nat} (hok : layableC A a0.tmps.size ops fl = true) (nB : Nat)
  (hD : ∀ i x w w', Below w.heap.size w w' → D i x w → D i x w')
  (hstep : ∀ i o listed a w, A i = true → ops[i]? = some o → Laid ops a0 D C listed a w → (∀ e ∈ o.after.toList, Region.binds .any e = true → listed.getD e.on false = true) → (∀ k o, ops[k]? = some o → listed.getD k false = true → ∀ e ∈ o.after.toList, Region.binds .any e = true → listed.getD e.on false = true) → listed.getD i true = false → listed.size = ops.size →
   wpOp P ops Q i (fun a' w' => ∃ x, a' = a.put o.dst x ∧ Below w.heap.size w w' ∧ C w' ∧ D i x w') a w)
  (hrest : ∀ listed a w, listed.size = ops.size → (∀ i, i < ops.size → listed.getD i false = A i) → Laid ops a0 D C listed a w → wpAny P .any ops Q nB listed a w) :
  ∀ (k : Nat) (l : List Nat) (listed : Array Bool) (a : Act) (w : World), l.length = k → l.Nodup → (∀ i, i ∈ l ↔ i < ops.size ∧ A i = true ∧ listed.getD i true = false) → listed.size = ops.size → (∀ i, listed.getD i false = true → A i = true) → (∀ k o, ops[k]? = some o → listed.getD k false = true → ∀ e ∈ o.after.toList, Region.binds .any e = true → listed.getD e.on false = true) →
   Laid ops a0 D C listed a w → wpAny P .any ops Q (k + nB) listed a w := by
 intro k
 induction k with
 | zero =>
  intro l listed a w hk _ hl hsz hA hcl hL
  rw [Nat.zero_add]
  refine hrest listed a w hsz (fun i hi => ?_) hL
  have hnl : l = [] := List.eq_nil_of_length_eq_zero hk
  cases h : A i with
  | true =>
   cases h2 : listed.getD i true with
   | true => simp only [Array.getD_eq_getD_getElem?] at h2 ⊢; rw [Array.getElem?_eq_getElem (by omega)] at h2 ⊢; simpa using h2
   | false => have := (hl i).2 ⟨hi, h, h2⟩; rw [hnl] at this; cases this
  | false =>
   cases h2 : listed.getD i false with
   | true => rw [hA i h2] at h; cases h
   | false => rfl
 | succ k ih =>
  intro l listed a w hk hnd hl hsz hA hcl hL
  rw [Nat.add_right_comm]
  have key : ∀ i o, ops[i]? = some o → (if A i then (o.after.all fun e => !Region.binds .any e || (A e.on && decide (e.on < i))) && (match o.dst with
    | none => false
    | some t => decide (t < a0.tmps.size) && (List.range ops.size).all fun j => decide (j = i) || (match ops[j]? with | none => true | some o' => !decide (o'.dst = some t)))
   else (List.range ops.size).all fun j => !A j || reach ops fl i j) = true := by
   intro i o ho
   unfold layableC at hok
   rw [List.all_eq_true] at hok
   have := hok i (List.mem_range.2 (Array.getElem?_eq_some_iff.1 ho).1)
   simpa only [ho] using this
  have hne : l ≠ [] := by intro e; rw [e] at hk; cases hk
  have hready : Region.ready .any ops listed ≠ [] := by
   obtain ⟨m, hm, hmin⟩ : ∃ m, m ∈ l ∧ ∀ j ∈ l, m ≤ j := by
    have : ∀ (q : List Nat), q ≠ [] → ∃ m, m ∈ q ∧ ∀ j ∈ q, m ≤ j := by
     intro q
     induction q with
     | nil => intro h; exact absurd rfl h
     | cons x xs ihx =>
      intro _
      by_cases hx : xs = []
      ·subst hx; exact ⟨x, by simp, by simp⟩
      ·obtain ⟨m, hm, hmm⟩ := ihx hx
       by_cases hc : x ≤ m
       ·exact ⟨x, by simp, fun j hj => by
         rcases List.mem_cons.1 hj with rfl | hj
         ·exact Nat.le_refl _
         ·exact Nat.le_trans hc (hmm j hj)⟩
       ·exact ⟨m, List.mem_cons_of_mem _ hm, fun j hj => by
         rcases List.mem_cons.1 hj with rfl | hj
         ·omega
         ·exact hmm j hj⟩
    exact this l hne
   obtain ⟨h1, h2, h3⟩ := (hl m).1 hm
   obtain ⟨o, ho⟩ : ∃ o, ops[m]? = some o := ⟨_, Array.getElem?_eq_getElem h1⟩
   have hk2 := key m o ho
   rw [if_pos h2, Bool.and_eq_true, Array.all_eq_true'] at hk2
   intro e
   have hin : m ∈ Region.ready .any ops listed := by
    unfold Region.ready
    rw [List.mem_filter, List.mem_range]
    refine ⟨h1, ?_⟩
    rw [h3, ho]
    simp only [Bool.not_false, Bool.true_and, Option.map_some, Option.getD_some, Array.all_eq_true']
    intro x hx
    have h4 := hk2.1 x hx
    cases hb : Region.binds .any x with
    | false => simp
    | true =>
     rw [hb] at h4
     simp only [Bool.not_true, Bool.false_or, Bool.and_eq_true, decide_eq_true_eq] at h4 ⊢
     have hxl : x.on ∉ l := fun hx' => by have := hmin _ hx'; omega
     cases h5 : listed.getD x.on true with
     | true => simp only [Array.getD_eq_getD_getElem?] at h5 ⊢; rw [Array.getElem?_eq_getElem (by omega)] at h5 ⊢; simpa using h5
     | false => exact absurd ((hl x.on).2 ⟨by omega, h4.1, h5⟩) hxl
   rw [e] at hin; cases hin
  refine ⟨fun h => absurd h hready, fun i hi => ?_⟩
  unfold Region.ready at hi
  rw [List.mem_filter, List.mem_range, Bool.and_eq_true] at hi
  obtain ⟨h1, h2, h3⟩ := hi
  obtain ⟨o, ho⟩ : ∃ o, ops[i]? = some o := ⟨_, Array.getElem?_eq_getElem h1⟩
  rw [ho] at h3
  simp only [Option.map_some, Option.getD_some, Array.all_eq_true'] at h3
  have hedge : ∀ e ∈ o.after.toList, Region.binds .any e = true → listed.getD e.on false = true := by
   intro e he hb
   have := h3 e (by simpa using he)
   rw [hb] at this; simpa using this
  have hk2 := key i o ho
  by_cases hAi : A i = true
  ·rw [if_pos hAi, Bool.and_eq_true] at hk2
   obtain ⟨t, ht⟩ : ∃ t, o.dst = some t := by
    cases hd : o.dst with
    | none => rw [hd] at hk2; exact absurd hk2.2 (by simp)
    | some t => exact ⟨t, rfl⟩
   have hk3 := hk2.2
   rw [ht] at hk3
   simp only [Bool.and_eq_true, decide_eq_true_eq, List.all_eq_true, List.mem_range] at hk3
   have huniq : ∀ j o', ops[j]? = some o' → j ≠ i → o'.dst ≠ some t := by
    intro j o' hj hji
    have := hk3.2 j (Array.getElem?_eq_some_iff.1 hj).1
    rw [hj] at this
    simpa [hji] using this
   refine wpOp_mono ?_ (hstep i o listed a w hAi ho hL hedge hcl (by simpa using h2) hsz)
   rintro a' w' ⟨x, rfl, hB, hC, hDx⟩
   have hli : listed.getD i true = false := by simpa using h2
   have hput : a.put o.dst x = { a with tmps := a.tmps.setIfInBounds t x } := by rw [ht]; rfl
   have hil : i ∈ l := (hl i).2 ⟨h1, hAi, hli⟩
   refine ih (l.erase i) (listed.setIfInBounds i true) _ w' (by rw [List.length_erase_of_mem hil, hk]; rfl) (hnd.erase i) (fun j => ?_) (by simpa using hsz) (fun j hj => ?_) (fun j o' hj hlj e he hb => ?_) ⟨hC, ?_, ?_, ?_, ?_⟩
   ·rw [hnd.mem_erase_iff, hl]
    by_cases hj : j = i
    ·subst hj; simp [getD_set_self _ _ _ (show j < listed.size by omega)]
    ·simp [hj, getD_set_ne _ _ _ _ hj]
   ·by_cases hj2 : j = i
    ·subst hj2; exact hAi
    ·rw [getD_set_ne _ _ _ _ hj2] at hj; exact hA j hj
   ·have mono : ∀ q, listed.getD q false = true → (listed.setIfInBounds i true).getD q false = true := by
     intro q hq
     by_cases hqi : q = i
     ·subst hqi; exact getD_set_self _ _ _ (by omega)
     ·rw [getD_set_ne _ _ _ _ hqi]; exact hq
    by_cases hj2 : j = i
    ·subst hj2
     rw [ho] at hj; cases hj
     exact mono _ (hedge e he hb)
    ·rw [getD_set_ne _ _ _ _ hj2] at hlj
     exact mono _ (hcl j o' hj hlj e he hb)
   ·rw [hput]; exact hL.defers
   ·rw [hput]; simpa using hL.size
   ·intro t' h'
    have hne' : t' ≠ t := by
     intro e; subst e
     have := h' i o ho ht
     rw [getD_set_self _ _ _ (by omega)] at this; cases this
    rw [hput, getDV_set_ne _ _ _ _ _ hne']
    refine hL.old t' fun j o' hj hd => ?_
    have h5 := h' j o' hj hd
    by_cases hj2 : j = i
    ·subst hj2; exact hli
    ·rwa [getD_set_ne _ _ _ _ hj2] at h5
   ·intro j o' t' hj hlj hd
    rw [hput]
    by_cases hj2 : j = i
    ·subst hj2
     rw [ho] at hj; cases hj
     rw [ht] at hd; cases hd
     rw [getDV_set_self _ _ _ _ (by rw [hL.size]; exact hk3.1)]; exact hDx
    ·have hne' : t' ≠ t := fun e => huniq j o' hj hj2 (by rw [hd, e])
     rw [getDV_set_ne _ _ _ _ _ hne']
     rw [getD_set_ne _ _ _ _ hj2] at hlj
     exact hD _ _ _ _ hB (hL.new j o' t' hj hlj hd)
  ·exfalso
   rw [if_neg hAi, List.all_eq_true] at hk2
   obtain ⟨m, hm⟩ : ∃ m, m ∈ l := List.exists_mem_of_ne_nil l hne
   obtain ⟨g1, g2, g3⟩ := (hl m).1 hm
   have h4 := hk2 m (List.mem_range.2 g1)
   rw [g2] at h4
   simp only [Bool.not_true, Bool.false_or] at h4
   have h5 := reach_listed hcl fl i m o ho hedge h4
   simp only [Array.getD_eq_getD_getElem?] at h5 g3
   rw [Array.getElem?_eq_getElem (show m < listed.size by omega)] at h5 g3
   rw [Option.getD_some] at h5 g3
   rw [h5] at g3; cases g3
theorem region_laidC {P : Program} {id : Nat} {Q : Exit → Act → World → Prop} {a0 : Act} {w : World} {l : List Oper} (LA : List Bool) (nB : Nat) (D : Nat → Value → World → Prop) (C : World → Prop) (hm : P.follows .mixedOrders = true)
  (hlen : LA.length = l.length) {fl : Nat} (hok : layableC (fun i => LA.getD i false) a0.tmps.size l.toArray fl = true) (hnB : (LA.filter _root_.id).length + nB = l.length) (hC : C w.drew)
  (hD : ∀ i x w w', Below w.heap.size w w' → D i x w → D i x w')
  (hstep : ∀ i o listed a w, LA.getD i false = true → l[i]? = some o → Laid l.toArray a0 D C listed a w → (∀ e ∈ o.after.toList, Region.binds .any e = true → listed.getD e.on false = true) → (∀ k o, l[k]? = some o → listed.getD k false = true → ∀ e ∈ o.after.toList, Region.binds .any e = true → listed.getD e.on false = true) → listed.getD i true = false → listed.size = l.length →
   wpOp P l.toArray Q i (fun a' w' => ∃ x, a' = a.put o.dst x ∧ Below w.heap.size w w' ∧ C w' ∧ D i x w') a w)
  (hrest : ∀ a w, Laid l.toArray a0 D C LA.toArray a w → wpAny P .any l.toArray Q nB LA.toArray a w) : (Code.region id l.toArray true).wp P Q a0 w := by
 refine wp_region_any hm ?_
 have hk : ((List.range l.length).filter fun i => LA.getD i false).length = (LA.filter _root_.id).length := by
  rw [← hlen]
  clear hok hnB hstep hrest hlen
  induction LA with
  | nil => rfl
  | cons b bs ih =>
   rw [List.length_cons, List.range_succ_eq_map, List.filter_cons, List.filter_map, List.filter_cons]
   simp only [List.getD_cons_zero, Function.comp_def, List.getD_cons_succ, List.length_map, _root_.id]
   simp only [List.getD_eq_getElem?_getD] at ih
   cases b <;> simp [ih]
 have h := wpAny_laidC (P := P) (ops := l.toArray) (Q := Q) (fun i => LA.getD i false) a0 D C hok nB hD (fun i o listed a w hA ho hL he hc h1 h2 => hstep i o listed a w hA (by simpa using ho) hL he (fun k o hk => hc k o (by simpa using hk)) h1 (by simpa using h2)) (fun listed a w hsz hl hL => by
   have : listed = LA.toArray := by
    apply Array.ext
    ·simpa [hlen] using hsz
    ·intro i h1 h2
     have := hl i (by omega)
     simp only [Array.getD_eq_getD_getElem?, Array.getElem?_eq_getElem h1, Option.getD_some, List.getD_eq_getElem?_getD] at this
     rw [this]
     have h3 : i < LA.length := by simpa using h2
     simp [List.getElem?_eq_getElem h3]
   subst this
   exact hrest a w hL) ((LA.filter _root_.id).length) ((List.range l.length).filter fun i => LA.getD i false) (Array.replicate l.toArray.size false) a0 { w with drawn := w.drawn + 1 } hk
   (List.nodup_range.filter _) (fun i => by
    simp only [List.mem_filter, List.mem_range, Array.getD_eq_getD_getElem?]
    constructor
    ·rintro ⟨h1, h2⟩
     exact ⟨by simpa using h1, h2, by simp [h1]⟩
    ·rintro ⟨h1, h2, _⟩
     exact ⟨by simpa using h1, h2⟩) (by simp) (fun i h => by
    simp only [Array.getD_eq_getD_getElem?, Array.getElem?_replicate] at h
    split at h <;> simp at h) (fun k o _ h => by
    simp only [Array.getD_eq_getD_getElem?, Array.getElem?_replicate] at h
    split at h <;> simp at h)
   ⟨hC, rfl, rfl, fun _ _ => rfl, fun i o t _ h _ => by
    simp only [Array.getD_eq_getD_getElem?, Array.getElem?_replicate] at h
    split at h <;> simp at h⟩
 have hnB' : (LA.filter _root_.id).length + nB = l.toArray.size := by simpa using hnB
 rw [hnB'] at h
 exact h
theorem Laid.kept3 {l : List Oper} {a0 : Act} {D : Nat → Value → World → Prop} {C : World → Prop} {listed : Array Bool} {a : Act} {w : World} (h : Laid l.toArray a0 D C listed a w)
  (hcl : ∀ k o, l[k]? = some o → listed.getD k false = true → ∀ e ∈ o.after.toList, Region.binds .any e = true → listed.getD e.on false = true) (hsz : listed.size = l.length) (t i j f : Nat) (hli : listed.getD i true = false)
  (hc : (l.zipIdx.all fun p => !decide (p.1.dst = some t) || decide (p.2 = j)) = true) (hr : reach l.toArray f j i = true) : a.tmps.getD t undef = a0.tmps.getD t undef := by
 refine h.old t fun q o ho hd => ?_
 rw [List.all_eq_true] at hc
 have hq : l[q]? = some o := by simpa using ho
 have := hc (o, q) (List.mem_zipIdx_iff_getElem?.2 hq)
 have hqj : q = j := by simpa [hd] using this
 subst hqj
 cases hx : listed.getD q true with
 | false => rfl
 | true =>
  have hsi : i < listed.size := by
   rcases Nat.lt_or_ge i listed.size with h1 | h1
   ·exact h1
   ·rw [Array.getD_eq_getD_getElem?, Array.getElem?_eq_none h1] at hli; cases hli
  by_cases hqs : q < listed.size
  ·have hx2 : listed.getD q false = true := by
    rw [Array.getD_eq_getD_getElem?, Array.getElem?_eq_getElem hqs] at hx ⊢; exact hx
   have h3 := reach_listed (ops := l.toArray) (listed := listed) (fun k o hk => hcl k o (by simpa using hk)) f q i o ho (hcl q o hq hx2) hr
   rw [Array.getD_eq_getD_getElem?, Array.getElem?_eq_getElem hsi] at h3 hli
   simp at h3 hli
   rw [h3] at hli; cases hli
  ·exact absurd (by rw [hsz]; exact (List.getElem?_eq_some_iff.1 hq).1) hqs
end
section
open Go.RowKit Go.Shelf
structure LaidG (ops : Array Oper) (a0 : Act) (D : Nat → Value → World → Prop) (C : Array Bool → Act → World → Prop) (listed : Array Bool) (a : Act) (w : World) : Prop where
 cls : C listed a w
 defers : a.defers = a0.defers
 size : a.tmps.size = a0.tmps.size
 old : ∀ t, (∀ i o, ops[i]? = some o → o.dst = some t → listed.getD i true = false) → a.tmps.getD t undef = a0.tmps.getD t undef
 new : ∀ i o t, ops[i]? = some o → listed.getD i false = true → o.dst = some t → D i (a.tmps.getD t undef) w
theorem LaidG.kept3 {l : List Oper} {a0 : Act} {D : Nat → Value → World → Prop} {C : Array Bool → Act → World → Prop} {listed : Array Bool} {a : Act} {w : World} (h : LaidG l.toArray a0 D C listed a w)
  (hcl : ∀ k o, l[k]? = some o → listed.getD k false = true → ∀ e ∈ o.after.toList, Region.binds .any e = true → listed.getD e.on false = true) (hsz : listed.size = l.length) (t i j f : Nat) (hli : listed.getD i true = false)
  (hc : (l.zipIdx.all fun p => !decide (p.1.dst = some t) || decide (p.2 = j)) = true) (hr : reach l.toArray f j i = true) : a.tmps.getD t undef = a0.tmps.getD t undef := by
 refine h.old t fun q o ho hd => ?_
 rw [List.all_eq_true] at hc
 have hq : l[q]? = some o := by simpa using ho
 have := hc (o, q) (List.mem_zipIdx_iff_getElem?.2 hq)
 have hqj : q = j := by simpa [hd] using this
 subst hqj
 cases hx : listed.getD q true with
 | false => rfl
 | true =>
  have hsi : i < listed.size := by
   rcases Nat.lt_or_ge i listed.size with h1 | h1
   ·exact h1
   ·rw [Array.getD_eq_getD_getElem?, Array.getElem?_eq_none h1] at hli; cases hli
  by_cases hqs : q < listed.size
  ·have hx2 : listed.getD q false = true := by
    rw [Array.getD_eq_getD_getElem?, Array.getElem?_eq_getElem hqs] at hx ⊢; exact hx
   have h3 := reach_listed (ops := l.toArray) (listed := listed) (fun k o hk => hcl k o (by simpa using hk)) f q i o ho (hcl q o hq hx2) hr
   rw [Array.getD_eq_getD_getElem?, Array.getElem?_eq_getElem hsi] at h3 hli
   simp at h3 hli
   rw [h3] at hli; cases hli
  ·exact absurd (by rw [hsz]; exact (List.getElem?_eq_some_iff.1 hq).1) hqs
theorem LaidG.kept {l : List Oper} {a0 : Act} {D : Nat → Value → World → Prop} {C : Array Bool → Act → World → Prop} {listed : Array Bool} {a : Act} {w : World} (h : LaidG l.toArray a0 D C listed a w) (t : Nat) (hc : (l.all fun o => !decide (o.dst = some t)) = true) : a.tmps.getD t undef = a0.tmps.getD t undef := by
 refine h.old t fun i o ho hd => ?_
 rw [List.all_eq_true] at hc
 have hm : o ∈ l := List.mem_of_getElem? (i := i) (by simpa using ho)
 have := hc o hm
 simp [hd] at this
theorem LaidG.sets {l : List Oper} {a0 : Act} {D : Nat → Value → World → Prop} {C : Array Bool → Act → World → Prop} {listed : Array Bool} {a : Act} {w : World} (h : LaidG l.toArray a0 D C listed a w) (ts : List Nat)
  (hc : (l.zipIdx.all fun p => (match p.1.dst with | some d => ts.contains d | none => true) || !listed.getD p.2 true) = true) : a = { tmps := ts.foldl (fun t d => t.setIfInBounds d (a.tmps.getD d undef)) a0.tmps, defers := a0.defers } := by
 have hsz : ∀ (ts : List Nat) (t : Array Value), (ts.foldl (fun t d => t.setIfInBounds d (a.tmps.getD d undef)) t).size = t.size := by
  intro ts
  induction ts with
  | nil => intro t; rfl
  | cons x xs ih => intro t; rw [List.foldl_cons, ih]; simp
 have hg : ∀ (ts : List Nat) (t : Array Value) (j : Nat), j < t.size → (ts.foldl (fun t d => t.setIfInBounds d (a.tmps.getD d undef)) t).getD j undef = if ts.contains j then a.tmps.getD j undef else t.getD j undef := by
  intro ts
  induction ts with
  | nil => intro t j _; simp
  | cons x xs ih =>
   intro t j hj
   rw [List.foldl_cons, ih _ _ (by simpa using hj)]
   by_cases hx : j = x
   ·subst hx
    rw [getDV_set_self _ _ _ _ hj]
    simp
   ·rw [getDV_set_ne _ _ _ _ _ hx]
    simp [hx]
 have key : a.tmps = ts.foldl (fun t d => t.setIfInBounds d (a.tmps.getD d undef)) a0.tmps := by
  apply Array.ext
  ·rw [hsz]; exact h.size
  ·intro j h1 h2
   refine (getV_lt _ _ h1).trans (Eq.trans ?_ (getV_lt _ _ h2).symm)
   rw [hg _ _ _ (by rw [← h.size]; exact h1)]
   by_cases hn : ts.contains j = true
   ·rw [if_pos hn]
   ·rw [if_neg hn]
    refine h.old j fun i o ho hd => ?_
    rw [List.all_eq_true] at hc
    have := hc (o, i) (List.mem_zipIdx_iff_getElem?.2 (by simpa using ho))
    rw [hd] at this
    simp only [Bool.or_eq_true, Bool.not_eq_true'] at this
    rcases this with h3 | h3
    ·exact absurd h3 hn
    ·exact h3
 rw [← key]
 have hd := h.defers
 obtain ⟨t1, d1⟩ := a
 simp only [] at hd
 rw [hd]
end
section
open Go.RowKit Go.Shelf
def layableK (A : Nat → Bool) (n : Nat) (ops : Array Oper) (fl : Nat := 3) : Bool :=
 (List.range ops.size).all fun i => match ops[i]? with
  | none => false
  | some o =>
   if A i then (o.after.all fun e => !Region.binds .any e || (A e.on && decide (e.on < i))) && (match o.dst with
    | none => true
    | some t => decide (t < n) && (List.range ops.size).all fun j => decide (j = i) || (match ops[j]? with | none => true | some o' => !decide (o'.dst = some t)))
   else (List.range ops.size).all fun j => !A j || reach ops fl i j
theorem wpAny_laidK {P : Program} (R : World → World → Prop) {ops : Array Oper} {Q : Exit → Act → World → Prop} (A : Nat → Bool) (a0 : Act) (D : Nat → Value → World → Prop) (C : Array Bool → Act → World → Prop) {fl : Nat} (hok : layableK A a0.tmps.size ops fl = true) (nB : Nat)
  (hD : ∀ i x w w', R w w' → D i x w → D i x w')
  (hstep : ∀ i o listed a w, A i = true → ops[i]? = some o → LaidG ops a0 D C listed a w → (∀ e ∈ o.after.toList, Region.binds .any e = true → listed.getD e.on false = true) → (∀ k o, ops[k]? = some o → listed.getD k false = true → ∀ e ∈ o.after.toList, Region.binds .any e = true → listed.getD e.on false = true) → listed.getD i true = false → listed.size = ops.size →
   wpOp P ops Q i (fun a' w' => ∃ x, a' = a.put o.dst x ∧ R w w' ∧ C (listed.setIfInBounds i true) (a.put o.dst x) w' ∧ D i x w') a w)
  (hrest : ∀ listed a w, listed.size = ops.size → (∀ i, i < ops.size → listed.getD i false = A i) → LaidG ops a0 D C listed a w → wpAny P .any ops Q nB listed a w) :
  ∀ (k : Nat) (l : List Nat) (listed : Array Bool) (a : Act) (w : World), l.length = k → l.Nodup → (∀ i, i ∈ l ↔ i < ops.size ∧ A i = true ∧ listed.getD i true = false) → listed.size = ops.size → (∀ i, listed.getD i false = true → A i = true) → (∀ k o, ops[k]? = some o → listed.getD k false = true → ∀ e ∈ o.after.toList, Region.binds .any e = true → listed.getD e.on false = true) →
   LaidG ops a0 D C listed a w → wpAny P .any ops Q (k + nB) listed a w := by
 intro k
 induction k with
 | zero =>
  intro l listed a w hk _ hl hsz hA hcl hL
  rw [Nat.zero_add]
  refine hrest listed a w hsz (fun i hi => ?_) hL
  have hnl : l = [] := List.eq_nil_of_length_eq_zero hk
  cases h : A i with
  | true =>
   cases h2 : listed.getD i true with
   | true => simp only [Array.getD_eq_getD_getElem?] at h2 ⊢; rw [Array.getElem?_eq_getElem (by omega)] at h2 ⊢; simpa using h2
   | false => have := (hl i).2 ⟨hi, h, h2⟩; rw [hnl] at this; cases this
  | false =>
   cases h2 : listed.getD i false with
   | true => rw [hA i h2] at h; cases h
   | false => rfl
 | succ k ih =>
  intro l listed a w hk hnd hl hsz hA hcl hL
  rw [Nat.add_right_comm]
  have key : ∀ i o, ops[i]? = some o → (if A i then (o.after.all fun e => !Region.binds .any e || (A e.on && decide (e.on < i))) && (match o.dst with
    | none => true
    | some t => decide (t < a0.tmps.size) && (List.range ops.size).all fun j => decide (j = i) || (match ops[j]? with | none => true | some o' => !decide (o'.dst = some t)))
   else (List.range ops.size).all fun j => !A j || reach ops fl i j) = true := by
   intro i o ho
   unfold layableK at hok
   rw [List.all_eq_true] at hok
   have := hok i (List.mem_range.2 (Array.getElem?_eq_some_iff.1 ho).1)
   simpa only [ho] using this
  have hne : l ≠ [] := by intro e; rw [e] at hk; cases hk
  have hready : Region.ready .any ops listed ≠ [] := by
   obtain ⟨m, hm, hmin⟩ : ∃ m, m ∈ l ∧ ∀ j ∈ l, m ≤ j := by
    have : ∀ (q : List Nat), q ≠ [] → ∃ m, m ∈ q ∧ ∀ j ∈ q, m ≤ j := by
     intro q
     induction q with
     | nil => intro h; exact absurd rfl h
     | cons x xs ihx =>
      intro _
      by_cases hx : xs = []
      ·subst hx; exact ⟨x, by simp, by simp⟩
      ·obtain ⟨m, hm, hmm⟩ := ihx hx
       by_cases hc : x ≤ m
       ·exact ⟨x, by simp, fun j hj => by
         rcases List.mem_cons.1 hj with rfl | hj
         ·exact Nat.le_refl _
         ·exact Nat.le_trans hc (hmm j hj)⟩
       ·exact ⟨m, List.mem_cons_of_mem _ hm, fun j hj => by
         rcases List.mem_cons.1 hj with rfl | hj
         ·omega
         ·exact hmm j hj⟩
    exact this l hne
   obtain ⟨h1, h2, h3⟩ := (hl m).1 hm
   obtain ⟨o, ho⟩ : ∃ o, ops[m]? = some o := ⟨_, Array.getElem?_eq_getElem h1⟩
   have hk2 := key m o ho
   rw [if_pos h2, Bool.and_eq_true, Array.all_eq_true'] at hk2
   intro e
   have hin : m ∈ Region.ready .any ops listed := by
    unfold Region.ready
    rw [List.mem_filter, List.mem_range]
    refine ⟨h1, ?_⟩
    rw [h3, ho]
    simp only [Bool.not_false, Bool.true_and, Option.map_some, Option.getD_some, Array.all_eq_true']
    intro x hx
    have h4 := hk2.1 x hx
    cases hb : Region.binds .any x with
    | false => simp
    | true =>
     rw [hb] at h4
     simp only [Bool.not_true, Bool.false_or, Bool.and_eq_true, decide_eq_true_eq] at h4 ⊢
     have hxl : x.on ∉ l := fun hx' => by have := hmin _ hx'; omega
     cases h5 : listed.getD x.on true with
     | true => simp only [Array.getD_eq_getD_getElem?] at h5 ⊢; rw [Array.getElem?_eq_getElem (by omega)] at h5 ⊢; simpa using h5
     | false => exact absurd ((hl x.on).2 ⟨by omega, h4.1, h5⟩) hxl
   rw [e] at hin; cases hin
  refine ⟨fun h => absurd h hready, fun i hi => ?_⟩
  unfold Region.ready at hi
  rw [List.mem_filter, List.mem_range, Bool.and_eq_true] at hi
  obtain ⟨h1, h2, h3⟩ := hi
  obtain ⟨o, ho⟩ : ∃ o, ops[i]? = some o := ⟨_, Array.getElem?_eq_getElem h1⟩
  rw [ho] at h3
  simp only [Option.map_some, Option.getD_some, Array.all_eq_true'] at h3
  have hedge : ∀ e ∈ o.after.toList, Region.binds .any e = true → listed.getD e.on false = true := by
   intro e he hb
   have := h3 e (by simpa using he)
   rw [hb] at this; simpa using this
  have hk2 := key i o ho
  by_cases hAi : A i = true
  ·rw [if_pos hAi, Bool.and_eq_true] at hk2
   cases ht : o.dst with
   | none =>
    refine wpOp_mono ?_ (hstep i o listed a w hAi ho hL hedge hcl (by simpa using h2) hsz)
    rintro a' w' ⟨x, rfl, hB, hC, hDx⟩
    have hli : listed.getD i true = false := by simpa using h2
    have hput : a.put o.dst x = a := by rw [ht]; rfl
    have hil : i ∈ l := (hl i).2 ⟨h1, hAi, hli⟩
    refine ih (l.erase i) (listed.setIfInBounds i true) _ w' (by rw [List.length_erase_of_mem hil, hk]; rfl) (hnd.erase i) (fun j => ?_) (by simpa using hsz) (fun j hj => ?_) (fun j o' hj hlj e he hb => ?_) ⟨hC, ?_, ?_, ?_, ?_⟩
    ·rw [hnd.mem_erase_iff, hl]
     by_cases hj : j = i
     ·subst hj; simp [getD_set_self _ _ _ (show j < listed.size by omega)]
     ·simp [hj, getD_set_ne _ _ _ _ hj]
    ·by_cases hj2 : j = i
     ·subst hj2; exact hAi
     ·rw [getD_set_ne _ _ _ _ hj2] at hj; exact hA j hj
    ·have mono : ∀ q, listed.getD q false = true → (listed.setIfInBounds i true).getD q false = true := by
      intro q hq
      by_cases hqi : q = i
      ·subst hqi; exact getD_set_self _ _ _ (by omega)
      ·rw [getD_set_ne _ _ _ _ hqi]; exact hq
     by_cases hj2 : j = i
     ·subst hj2
      rw [ho] at hj; cases hj
      exact mono _ (hedge e he hb)
     ·rw [getD_set_ne _ _ _ _ hj2] at hlj
      exact mono _ (hcl j o' hj hlj e he hb)
    ·rw [hput]; exact hL.defers
    ·rw [hput]; exact hL.size
    ·intro t' h'
     rw [hput]
     refine hL.old t' fun j o' hj hd => ?_
     have h5 := h' j o' hj hd
     by_cases hj2 : j = i
     ·subst hj2; exact hli
     ·rwa [getD_set_ne _ _ _ _ hj2] at h5
    ·intro j o' t' hj hlj hd
     rw [hput]
     by_cases hj2 : j = i
     ·subst hj2
      rw [ho] at hj; cases hj
      rw [ht] at hd; cases hd
     ·rw [getD_set_ne _ _ _ _ hj2] at hlj
      exact hD _ _ _ _ hB (hL.new j o' t' hj hlj hd)
   | some t =>
    have hk3 := hk2.2
    rw [ht] at hk3
    simp only [Bool.and_eq_true, decide_eq_true_eq, List.all_eq_true, List.mem_range] at hk3
    have huniq : ∀ j o', ops[j]? = some o' → j ≠ i → o'.dst ≠ some t := by
     intro j o' hj hji
     have := hk3.2 j (Array.getElem?_eq_some_iff.1 hj).1
     rw [hj] at this
     simpa [hji] using this
    refine wpOp_mono ?_ (hstep i o listed a w hAi ho hL hedge hcl (by simpa using h2) hsz)
    rintro a' w' ⟨x, rfl, hB, hC, hDx⟩
    have hli : listed.getD i true = false := by simpa using h2
    have hput : a.put o.dst x = { a with tmps := a.tmps.setIfInBounds t x } := by rw [ht]; rfl
    have hil : i ∈ l := (hl i).2 ⟨h1, hAi, hli⟩
    refine ih (l.erase i) (listed.setIfInBounds i true) _ w' (by rw [List.length_erase_of_mem hil, hk]; rfl) (hnd.erase i) (fun j => ?_) (by simpa using hsz) (fun j hj => ?_) (fun j o' hj hlj e he hb => ?_) ⟨hC, ?_, ?_, ?_, ?_⟩
    ·rw [hnd.mem_erase_iff, hl]
     by_cases hj : j = i
     ·subst hj; simp [getD_set_self _ _ _ (show j < listed.size by omega)]
     ·simp [hj, getD_set_ne _ _ _ _ hj]
    ·by_cases hj2 : j = i
     ·subst hj2; exact hAi
     ·rw [getD_set_ne _ _ _ _ hj2] at hj; exact hA j hj
    ·have mono : ∀ q, listed.getD q false = true → (listed.setIfInBounds i true).getD q false = true := by
      intro q hq
      by_cases hqi : q = i
      ·subst hqi; exact getD_set_self _ _ _ (by omega)
      ·rw [getD_set_ne _ _ _ _ hqi]; exact hq
     by_cases hj2 : j = i
     ·subst hj2
      rw [ho] at hj; cases hj
      exact mono _ (hedge e he hb)
     ·rw [getD_set_ne _ _ _ _ hj2] at hlj
      exact mono _ (hcl j o' hj hlj e he hb)
    ·rw [hput]; exact hL.defers
    ·rw [hput]; simpa using hL.size
    ·intro t' h'
     have hne' : t' ≠ t := by
      intro e; subst e
      have := h' i o ho ht
      rw [getD_set_self _ _ _ (by omega)] at this; cases this
     rw [hput, getDV_set_ne _ _ _ _ _ hne']
     refine hL.old t' fun j o' hj hd => ?_
     have h5 := h' j o' hj hd
     by_cases hj2 : j = i
     ·subst hj2; exact hli
     ·rwa [getD_set_ne _ _ _ _ hj2] at h5
    ·intro j o' t' hj hlj hd
     rw [hput]
     by_cases hj2 : j = i
     ·subst hj2
      rw [ho] at hj; cases hj
      rw [ht] at hd; cases hd
      rw [getDV_set_self _ _ _ _ (by rw [hL.size]; exact hk3.1)]; exact hDx
     ·have hne' : t' ≠ t := fun e => huniq j o' hj hj2 (by rw [hd, e])
      rw [getDV_set_ne _ _ _ _ _ hne']
      rw [getD_set_ne _ _ _ _ hj2] at hlj
      exact hD _ _ _ _ hB (hL.new j o' t' hj hlj hd)
  ·exfalso
   rw [if_neg hAi, List.all_eq_true] at hk2
   obtain ⟨m, hm⟩ : ∃ m, m ∈ l := List.exists_mem_of_ne_nil l hne
   obtain ⟨g1, g2, g3⟩ := (hl m).1 hm
   have h4 := hk2 m (List.mem_range.2 g1)
   rw [g2] at h4
   simp only [Bool.not_true, Bool.false_or] at h4
   have h5 := reach_listed hcl fl i m o ho hedge h4
   simp only [Array.getD_eq_getD_getElem?] at h5 g3
   rw [Array.getElem?_eq_getElem (show m < listed.size by omega)] at h5 g3
   rw [Option.getD_some] at h5 g3
   rw [h5] at g3; cases g3
theorem region_laidK {P : Program} (R : World → World → Prop) {id : Nat} {Q : Exit → Act → World → Prop} {a0 : Act} {w : World} {l : List Oper} (LA : List Bool) (nB : Nat) (D : Nat → Value → World → Prop) (C : Array Bool → Act → World → Prop) (hm : P.follows .mixedOrders = true)
  (hlen : LA.length = l.length) {fl : Nat} (hok : layableK (fun i => LA.getD i false) a0.tmps.size l.toArray fl = true) (hnB : (LA.filter _root_.id).length + nB = l.length) (hC : C (Array.replicate l.toArray.size false) a0 w.drew)
  (hD : ∀ i x w w', R w w' → D i x w → D i x w')
  (hstep : ∀ i o listed a w, LA.getD i false = true → l[i]? = some o → LaidG l.toArray a0 D C listed a w → (∀ e ∈ o.after.toList, Region.binds .any e = true → listed.getD e.on false = true) → (∀ k o, l[k]? = some o → listed.getD k false = true → ∀ e ∈ o.after.toList, Region.binds .any e = true → listed.getD e.on false = true) → listed.getD i true = false → listed.size = l.length →
   wpOp P l.toArray Q i (fun a' w' => ∃ x, a' = a.put o.dst x ∧ R w w' ∧ C (listed.setIfInBounds i true) (a.put o.dst x) w' ∧ D i x w') a w)
  (hrest : ∀ a w, LaidG l.toArray a0 D C LA.toArray a w → wpAny P .any l.toArray Q nB LA.toArray a w) : (Code.region id l.toArray true).wp P Q a0 w := by
 refine wp_region_any hm ?_
 have hk : ((List.range l.length).filter fun i => LA.getD i false).length = (LA.filter _root_.id).length := by
  rw [← hlen]
  clear hok hnB hstep hrest hlen
  induction LA with
  | nil => rfl
  | cons b bs ih =>
   rw [List.length_cons, List.range_succ_eq_map, List.filter_cons, List.filter_map, List.filter_cons]
   simp only [List.getD_cons_zero, Function.comp_def, List.getD_cons_succ, List.length_map, _root_.id]
   simp only [List.getD_eq_getElem?_getD] at ih
   cases b <;> simp [ih]
 have h := wpAny_laidK R (P := P) (ops := l.toArray) (Q := Q) (fun i => LA.getD i false) a0 D C hok nB hD (fun i o listed a w hA ho hL he hc h1 h2 => hstep i o listed a w hA (by simpa using ho) hL he (fun k o hk => hc k o (by simpa using hk)) h1 (by simpa using h2)) (fun listed a w hsz hl hL => by
   have : listed = LA.toArray := by
    apply Array.ext
    ·simpa [hlen] using hsz
    ·intro i h1 h2
     have := hl i (by omega)
     simp only [Array.getD_eq_getD_getElem?, Array.getElem?_eq_getElem h1, Option.getD_some, List.getD_eq_getElem?_getD] at this
     rw [this]
     have h3 : i < LA.length := by simpa using h2
     simp [List.getElem?_eq_getElem h3]
   subst this
   exact hrest a w hL) ((LA.filter _root_.id).length) ((List.range l.length).filter fun i => LA.getD i false) (Array.replicate l.toArray.size false) a0 { w with drawn := w.drawn + 1 } hk
   (List.nodup_range.filter _) (fun i => by
    simp only [List.mem_filter, List.mem_range, Array.getD_eq_getD_getElem?]
    constructor
    ·rintro ⟨h1, h2⟩
     exact ⟨by simpa using h1, h2, by simp [h1]⟩
    ·rintro ⟨h1, h2, _⟩
     exact ⟨by simpa using h1, h2⟩) (by simp) (fun i h => by
    simp only [Array.getD_eq_getD_getElem?, Array.getElem?_replicate] at h
    split at h <;> simp at h) (fun k o _ h => by
    simp only [Array.getD_eq_getD_getElem?, Array.getElem?_replicate] at h
    split at h <;> simp at h)
   ⟨hC, rfl, rfl, fun _ _ => rfl, fun i o t _ h _ => by
    simp only [Array.getD_eq_getD_getElem?, Array.getElem?_replicate] at h
    split at h <;> simp at h⟩
 have hnB' : (LA.filter _root_.id).length + nB = l.toArray.size := by simpa using hnB
 rw [hnB'] at h
 exact h
end
end Go.Proofs.Ytnhjoebdmmelaaa
