/- Board, part Vn: all beds of a board, by the reference. -/
import Derived.Test.YtgceffpkhmjmkaaGreatVm
import Derived.Test.YtgceffpkhmjmkaaGreatVg
import Derived.Test.YtgceffpkhmjmkaaGreatRg
set_option linter.unusedVariables false
set_option linter.unusedSimpArgs false
namespace Go.Proofs.YtgceffpkhmjmkaaGreat
open Go.RowKit Go.Shelf

theorem zcB_eq : Tryz.zeroCells97 = Array.replicate 500 (.bool false) := by kernel_rfl
theorem store_none (w : World) : Sem.run Tryz.prog (storeCells ⟨w.heap.size, 0, none⟩ Tryz.zeroCells97.toList) (w.alloc (.cells Tryz.zeroCells97 97)) = .ok () (w.alloc (.cells Tryz.zeroCells97 97)) :=
  run_storeCells_new w 97 _ _ (by kernel_rfl) rfl (by kernel_rfl)
noncomputable def two : Array Value := (Tryz.zeroCells97.setIfInBounds 125 (.bool true)).setIfInBounds 225 (.bool true)
theorem store_two (w : World) : Sem.run Tryz.prog (storeCells ⟨w.heap.size, 0, none⟩ ((Tryz.zeroCells97.toList.set 125 (.bool true)).set 225 (.bool true))) (w.alloc (.cells Tryz.zeroCells97 97)) = .ok () (w.alloc (.cells two 97)) := by
  have h := run_storeCells_new (P := Tryz.prog) w 97 Tryz.zeroCells97 two (by kernel_rfl) (by unfold two; simp) (by kernel_rfl)
  have e : two.toList = (Tryz.zeroCells97.toList.set 125 (.bool true)).set 225 (.bool true) := by unfold two; simp
  rw [e] at h
  exact h

/-- The bools that an array of memory holds. -/
def SeenB (g : Nat) (W : World) (f : Nat → Bool) : Prop := ∀ i, i < 500 → W.cell? ⟨g, i, none⟩ = some (.bool (f i)) ∧ W.frozen? ⟨g, i, none⟩ = false
theorem seenB_none (w : World) : SeenB w.heap.size (w.alloc (.cells Tryz.zeroCells97 97)) (fun _ => false) := by
  intro i hi
  have hz : (w.alloc (.cells Tryz.zeroCells97 97)).heap[w.heap.size]? = some (.cells Tryz.zeroCells97 97 (0, 0)) := World.alloc_heap_new _ _
  refine ⟨?_, by unfold World.frozen?; simp only [hz]; simp⟩
  rw [cell_of_row _ _ i _ _ _ hz, zcB_eq, Array.getElem?_replicate, if_pos hi]
theorem seenB_two (w : World) : SeenB w.heap.size (w.alloc (.cells two 97)) (fun i => decide (i = 125) || decide (i = 225)) := by
  intro i hi
  have hz : (w.alloc (.cells two 97)).heap[w.heap.size]? = some (.cells two 97 (0, 0)) := World.alloc_heap_new _ _
  refine ⟨?_, by unfold World.frozen?; simp only [hz]; simp⟩
  rw [cell_of_row _ _ i _ _ _ hz]
  unfold two
  rw [zcB_eq, Array.getElem?_setIfInBounds, Array.getElem?_setIfInBounds, Array.getElem?_replicate]
  show _ = some (Value.bool (decide (i = 125) || decide (i = 225)))
  simp only [Array.size_setIfInBounds, Array.size_replicate]
  by_cases a : i = 225
  · subst a
    rw [if_pos rfl, if_pos (by omega)]; simp
  · by_cases b : i = 125
    · subst b
      rw [if_neg (fun e => a e.symm), if_pos rfl, if_pos (by omega)]; simp
    · rw [if_neg (fun e => a e.symm), if_neg (fun e => b e.symm), if_pos hi, decide_eq_false a, decide_eq_false b]; rfl
theorem SeenB.set {g : Nat} {W : World} {f : Nat → Bool} (h : SeenB g W f) (x : Nat) (hx : x < 500) : SeenB g (W.setCell ⟨g, x, none⟩ (.bool true)) (fun i => f i || i == x) := by
  intro i hi
  obtain ⟨h1, h2⟩ := h i hi
  refine ⟨?_, ?_⟩
  · show _ = some (Value.bool (f i || i == x))
    by_cases hix : i = x
    · subst hix
      rw [World.cell?_setCell_same' _ _ _ (by rw [h1]; rfl)]
      simp
    · have : (i == x) = false := by simp [hix]
      rw [this, Bool.or_false]
      have hab : (⟨g, x, none⟩ : Addr) ≠ ⟨g, i, none⟩ := by
        intro e
        injection e with _ e2 _
        exact hix e2.symm
      rw [World.cell?_setCell_other (h := hab)]
      exact h1
  · rw [World.frozen?_setCell]; exact h2
theorem SeenB.ext {g : Nat} {W : World} {f f' : Nat → Bool} (h : SeenB g W f) (e : ∀ i, i < 500 → f i = f' i) : SeenB g W f' := fun i hi => by rw [← e i hi]; exact h i hi
theorem SeenB.below {g : Nat} {W W' : World} {f : Nat → Bool} (h : SeenB g W f) (hb : Below W.heap.size W W') : SeenB g W' f := fun i hi => by
  obtain ⟨h1, h2⟩ := h i hi
  exact ⟨keepc hb h1, (hb.frozen (World.block_lt_of_cell? W _ h1)).trans h2⟩
theorem SeenB.load {g : Nat} {W : World} {f : Nat → Bool} (h : SeenB g W f) : Sem.run Tryz.prog (loadCellsFrom ⟨g, 0, none⟩ 0 500 #[]) W = .ok (boolsV f) W := by
  have := run_loadCells_list (P := Tryz.prog) W ⟨g, 0, none⟩ (boolsV f).toList (fun j v hv => by
    have hj : j < 500 := by
      have := (List.getElem?_eq_some_iff.1 hv).1
      rw [Array.length_toList, boolsV_size] at this; exact this
    rw [Addr.add_lit, Nat.zero_add, (h j hj).1]
    have := boolsV_get f j hj
    rw [← Array.getElem?_toList] at this
    rw [this] at hv
    simpa using hv)
  rw [Array.length_toList, boolsV_size] at this
  simpa [loadCells] using this
theorem SeenB.loadAt {g : Nat} {W : World} {f : Nat → Bool} (h : SeenB g W f) : Sem.run Tryz.prog (Instr.loadAt 97 (.pointer (some ⟨g, 0, none⟩))) W = .ok (.agg (boolsV f)) W := by
  simp only [Instr.loadAt, Instr.sureAddr, Sem.run_bind, Sem.run_pure, Result.andThen]
  have hl : (loadCells ⟨g, 0, none⟩ 500).run Tryz.prog W = .ok (boolsV f) W := by
    have := h.load
    simpa [loadCells] using this
  have hu : Tryz.prog.underlying 97 = some (.array 500 4) := Tryz.underlying97
  have hi : (Tryz.prog.info? 97).map (·.size) = some 500 := by kernel_rfl
  cases hq : Tryz.prog.info? 97 with
  | none => simp [hq] at hi
  | some i =>
    have hs : i.size = 500 := by simpa [hq] using hi
    have hagg : (isAgg 97).run Tryz.prog W = .ok true W := by
      unfold isAgg
      rw [Sem.run_bind, run_underlying hu W]
      rfl
    simp [loadVar, Sem.run_bind, hagg, sizeOf, typeInfo, hq, hs, hl]
theorem wp_load_bools {g : Nat} {W : World} {f : Nat → Bool} (h : SeenB g W f) {o : Oper} {a : Act} {K : Act → World → Prop} {Q : Exit → Act → World → Prop} (x : Operand) (ho : o.op = .load 97 x) (hx : a.eval x = .pointer (some ⟨g, 0, none⟩))
    (hK : K (a.put o.dst (.agg (boolsV f))) W) : o.wp Tryz.prog a W K Q := by
  unfold Oper.wp execOp
  simp only [ho, hx, Sem.run_bind, h.loadAt, Sem.run_pure, Result.andThen_ok]
  exact hK
theorem wpList_load_bools {g : Nat} {W : World} {f : Nat → Bool} (h : SeenB g W f) {ops : Array Oper} {rest : List Oper} {o : Oper} {a : Act} {Q : Exit → Act → World → Prop} (hgd : o.guard = none) (x : Operand) (ho : o.op = .load 97 x) (hx : a.eval x = .pointer (some ⟨g, 0, none⟩))
    (hK : wpList Tryz.prog ops Q rest (a.put o.dst (.agg (boolsV f))) W) : wpList Tryz.prog ops Q (o :: rest) a W :=
  wpList_plain hgd fun _ hK' => wp_load_bools h x ho hx (hK' _ _ hK)
theorem bedsOf_bedL (vs : List Int) : bedsOf vs = bedL (fun i => vs.contains (i : Int)) 500 := by
  unfold bedsOf bedL
  rw [List.filter_map]
  rfl
/-- What has been seen of a board's beds. -/
def seenT (b : Brd) (k j : Nat) (f : Int) (i : Nat) : Bool := (allT b k j f).contains (i : Int) && decide (i ≠ 0)
theorem allOf_bedL (b : Brd) (f : Int) : allOf b = bedL (seenT b b.rings.length 0 f) 500 := by
  unfold allOf
  rw [bedsOf_bedL]
  unfold bedL seenT
  rw [List.filter_map, List.filter_filter, allT_end]
  congr 1
  apply List.filter_congr
  intro i _
  rw [Bool.and_comm]
  congr 1
  rw [Bool.eq_iff_iff]
  simp
theorem seenT_start (b : Brd) (f : Int) (i : Nat) : (decide (i = 125) || decide (i = 225)) = seenT b 0 0 f i := by
  unfold seenT allT
  rw [Bool.eq_iff_iff]
  simp
  omega
theorem seenT_num {b : Brd} {k j : Nat} {f x : Int} (h : b.nums[j]? = some x) (i : Nat) : seenT b k (j + 1) f i = (seenT b k j f i || (decide ((i : Int) = bedOf f x) && decide (i ≠ 0))) := by
  unfold seenT
  rw [allT_num b k j f x h, Bool.eq_iff_iff]
  simp only [List.contains_eq_mem, List.mem_append, List.mem_singleton, Bool.and_eq_true, Bool.or_eq_true, decide_eq_true_eq]
  constructor
  · rintro ⟨h1 | h1, h2⟩
    · exact .inl ⟨h1, h2⟩
    · exact .inr ⟨h1, h2⟩
  · rintro (⟨h1, h2⟩ | ⟨h1, h2⟩)
    · exact ⟨.inl h1, h2⟩
    · exact ⟨.inr h1, h2⟩
theorem seenT_ring {b : Brd} {k : Nat} {r : Int × Int} (h : b.rings[k]? = some r) (f : Int) (i : Nat) : seenT b k b.nums.length r.2 i = seenT b (k + 1) 0 f i := by
  unfold seenT; rw [allT_ring b k r h f]

set_option maxRecDepth 100000 in
set_option maxHeartbeats 8000000 in
theorem rAll_any (v : Value) (b : Brd) (w : World) (h : BrdAt w v b) (hc : chk b = 0) :
    Calls Tryz.prog 16 #[v] w (SlV (allOf b) w) := by
  obtain ⟨vr, vl, vn, rfl, sr, ⟨al, cl, rfl, ll, _⟩, sn⟩ := h
  have hCR := sr
  have hCN := sn
  obtain ⟨ar, cr, rfl, lr, _⟩ := sr
  obtain ⟨an, cn, rfl, ln, _⟩ := sn
  have HCR : Aside (∀ j p, b.rings[j]? = some p → ∃ g off, ar = some ⟨g, off, none⟩ ∧ w.cell? ⟨g, off + j * 2, none⟩ = some (.int .i64 p.1) ∧ w.cell? ⟨g, off + j * 2 + 1, none⟩ = some (.int .i64 p.2)) := cells_of hCR
  have HCN : Aside (∀ j, j < b.nums.length → ∃ g off, an = some ⟨g, off, none⟩ ∧ w.cell? ⟨g, off + j, none⟩ = some (.int .i64 (gi b.nums j))) := cells_one hCN
  have gd := good_of_chk hc
  have HG : Aside (Good b) := gd
  have hr10 := gd.len.1
  have hn10 := gd.len.2.2
  clear hCR hCN gd hc
  obtain ⟨nr, hnr⟩ : ∃ n, b.rings.length = n := ⟨_, rfl⟩
  obtain ⟨nn, hnn⟩ : ∃ n, b.nums.length = n := ⟨_, rfl⟩
  have HN : Aside (b.rings.length = nr ∧ b.nums.length = nn) := ⟨hnr, hnn⟩
  have HR : Aside (∀ f, allOf b = bedL (seenT b nr 0 f) 500) := by intro f; rw [← hnr]; exact allOf_bedL b f
  rw [hnr] at lr hr10 ⊢
  rw [hnn] at HCN ln hn10 ⊢
  clear hnr hnn
  generalize b.lines.length = nl at *
  obtain ⟨res, hres⟩ : ∃ x, allOf b = x := ⟨_, rfl⟩
  rw [hres] at HR ⊢
  clear hres
  go_enter Tryz.func16, Tryz.ntmps16
  go_upto_region 1 with (fail)
  obtain ⟨W0, hW0⟩ : ∃ W0, W0 = w.alloc (.cells #[.int .i64 b.eye, .int .i64 b.bull, .slice ar nr cr, .slice al nl cl, .slice an nn cn, .int .i64 b.wire] 26) := ⟨_, rfl⟩
  have B0 : Aside (Below w.heap.size w W0) := by rw [hW0]; clear hW0; show Below _ _ _; (repeat' (first | exact Below.refl _ _ | assumption | (with_reducible refine Below.drew ?_) | (with_reducible refine Below.setCell ?_ (by (first | (simp; done) | (simp; omega))) _) | (with_reducible refine below_drewN' ?_ _) | (refine Below.alloc ?_ (by (try simp only [World.size_alloc, World.size_drew, World.size_setCell]); omega) _) | (refine Below.trans ?_ (Below.mono (by assumption) (by (try simp only [World.size_alloc, World.size_drew, World.size_setCell]); omega)))))
  have x2 : W0.cell? ⟨w.heap.size, 2, none⟩ = some (.slice ar nr cr) := by rw [hW0]; clear hW0; go_simp
  have x4 : W0.cell? ⟨w.heap.size, 4, none⟩ = some (.slice an nn cn) := by rw [hW0]; clear hW0; go_simp
  rw [← hW0]
  clear hW0
  have hst := store_two W0
  go_upto_region 2 with (fail)
  obtain ⟨gs, hgs⟩ : ∃ gs, W0.heap.size = gs := ⟨_, rfl⟩
  have BS0 : Below W0.heap.size W0 (W0.alloc (.cells two 97)) := (Below.refl _ _).alloc (Nat.le_refl _) _
  have SE0 := seenB_two W0
  obtain ⟨US, hUS⟩ : ∃ US, US = W0.alloc (.cells two 97) := ⟨_, rfl⟩
  rw [← hUS, hgs] at SE0
  rw [← hUS] at BS0
  rw [← hUS, hgs]
  have HGS : Aside (W0.heap.size ≤ gs) := by show _ ≤ _; omega
  clear hst hUS hgs
  go_wp2_with fail
  go_loopg [4] nr (fun gg iv wr => ∃ k : Nat, k ≤ nr ∧ nr - k ≤ gg ∧ iv = .int .i64 k ∧ Aside (SeenB gs wr (seenT b k 0 0)) ∧ Aside (Below W0.heap.size W0 wr))
  case atStart => exact ⟨0, by omega, by omega, rfl, SE0.ext (fun i _ => seenT_start b 0 i), BS0⟩
  case round =>
    clear SE0 BS0
    obtain ⟨k, hk, hg, rfl, SE, BK⟩ := hrel
    have y2 := keepc BK.out x2
    by_cases hlt : k < nr
    · have hltz : (k : Int) < (nr : Int) := by omega
      obtain ⟨r, hr⟩ : ∃ r, b.rings[k]? = some r := ⟨_, List.getElem?_eq_getElem (by rw [HN.out.1]; exact hlt)⟩
      obtain ⟨g', off, rfl, _, c1⟩ := HCR.out k r hr
      have hfb := HG.out.fac r (List.mem_of_getElem? hr)
      have HE : Aside (∀ i, seenT b k nn r.2 i = seenT b (k + 1) 0 0 i) := by intro i; rw [← HN.out.2]; exact seenT_ring hr 0 i
      obtain ⟨ro, f⟩ := r
      simp only [] at c1 hfb HE
      clear hr
      have SE1 : Aside (SeenB gs wr (seenT b k 0 f)) := SE.out.ext (fun i _ => by unfold seenT; rw [allT_zero b k 0 f])
      have c1 := keepc B0.out c1
      clear SE
      obtain ⟨Wk, rfl⟩ : ∃ W' : World, W' = wr := ⟨_, rfl⟩
      go_wp2_with fail
      go_loopg [5] nn (fun gg iv wr => ∃ j : Nat, j ≤ nn ∧ nn - j ≤ gg ∧ iv = .int .i64 j ∧ Aside (SeenB gs wr (seenT b k j f)) ∧ Aside (Below W0.heap.size W0 wr))
      case atStart => exact ⟨0, by omega, by omega, rfl, SE1, BK⟩
      case round =>
        clear SE1
        obtain ⟨j, hj, hg2, rfl, SE, BJ⟩ := hrel
        have y4 := keepc BJ.out x4
        by_cases hlj : j < nn
        · have hljz : (j : Int) < (nn : Int) := by omega
          obtain ⟨gn, on, rfl, n0⟩ := HCN.out j hlj
          have n0 := keepc BJ.out (keepc B0.out n0)
          have y2 := keepc BJ.out x2
          have d1 := keepc BJ.out c1
          have hjl : j < b.nums.length := by rw [HN.out.2]; exact hlj
          have hnb := HG.out.num _ (gi_mem hjl)
          have HS : Aside (∀ i, seenT b k (j + 1) f i = (seenT b k j f i || (decide ((i : Int) = bedOf f (gi b.nums j)) && decide (i ≠ 0)))) := fun i => seenT_num (gi_get hjl) i
          obtain ⟨nu, hx⟩ : ∃ x, gi b.nums j = x := ⟨_, rfl⟩
          rw [hx] at n0 hnb HS
          clear hx
          by_cases hf : f = 0
          · subst hf
            have SE2 : Aside (SeenB gs wr (seenT b k (j + 1) 0)) := SE.out.ext (fun i _ => by
              rw [HS.out]
              unfold bedOf
              rw [if_pos rfl]
              have : (decide ((i : Int) = 0) && decide (i ≠ 0)) = false := by
                by_cases e : i = 0
                · subst e; rfl
                · rw [decide_eq_false (show ¬ (i : Int) = 0 by omega)]; rfl
              rw [this, Bool.or_false])
            go_wp2_with fail
            go_roundg (nn - (j + 1))
            case measure => omega
            case rel => exact ⟨j + 1, by omega, by omega, by go_num, SE2, BJ⟩
          · have hfz : (f != 0) = true := by rw [bne_iff_ne]; exact hf
            obtain ⟨xn, hxn⟩ : ∃ xn : Nat, 100 * f + nu = (xn : Int) := ⟨(100 * f + nu).toNat, by omega⟩
            have hx5 : xn < 500 := by omega
            have HSI : Aside (∀ i, i < 500 → (seenT b k j f i || i == xn) = seenT b k (j + 1) f i) := by
              intro i _
              rw [HS.out]
              unfold bedOf
              rw [if_neg hf, hxn]
              congr 1
              rw [Bool.eq_iff_iff]
              simp only [beq_iff_eq, Bool.and_eq_true, decide_eq_true_eq]
              omega
            have w1 : IntKind.i64.wrap (100 * f) = 100 * f := IntWalk.i64_in _ (by omega)
            have w2 : IntKind.i64.wrap (100 * f + nu) = (xn : Int) := by rw [IntWalk.i64_in _ (by omega)]; exact hxn
            have hz1 : ¬ (499 : Int) < (xn : Int) := by omega
            have hz0 : ¬ (xn : Int) < 0 := by omega
            clear hxn HS hf
            have HWW : Aside (IntKind.i64.wrap (100 * f) = 100 * f ∧ IntKind.i64.wrap (100 * f + nu) = (xn : Int)) := ⟨w1, w2⟩
            have HZZ : Aside ((xn : Int) < 500 ∧ ¬ (xn : Int) < 0) := ⟨by omega, hz0⟩
            clear w1 w2 hz1 hz0
            go_upto_region 9 with (fail)
            refine region_laid (fl := 18) [true, true, true, true, true, true, true, true, true, true, true, true, true, true, false] 1 (fun (i : Nat) (x : Value) (ww : World) => (match i with | 0 => x = .pointer (some ⟨w.heap.size, 2, none⟩) | 1 => x = .slice (some ⟨g', off, none⟩) nr cr | 2 => x = .int .i64 k | 3 => x = .pointer (some ⟨g', off + k * 2, none⟩) | 4 => x = .pointer (some ⟨g', off + k * 2 + 1, none⟩) | 5 => x = .int .i64 f | 6 => x = .int .i64 (100 * f) | 7 => x = .pointer (some ⟨w.heap.size, 4, none⟩) | 8 => x = .slice (some ⟨gn, on, none⟩) nn cn | 9 => x = .int .i64 j | 10 => x = .pointer (some ⟨gn, on + j, none⟩) | 11 => x = .int .i64 nu | 12 => x = .int .i64 xn | 13 => x = .pointer (some ⟨gs, xn, none⟩) | _ => True : Prop)) (fun w' => Below wr.heap.size wr w') (by kernel_rfl) rfl (by show layable _ 44 _ 18 = true; decide +kernel) rfl ((Below.refl _ _).drew) ?mono9 ?step9 ?rest9
            case mono9 =>
              intro i x ww ww' hB h
              match i, h with
              | 0, h => exact h
              | 1, h => exact h
              | 2, h => exact h
              | 3, h => exact h
              | 4, h => exact h
              | 5, h => exact h
              | 6, h => exact h
              | 7, h => exact h
              | 8, h => exact h
              | 9, h => exact h
              | 10, h => exact h
              | 11, h => exact h
              | 12, h => exact h
              | 13, h => exact h
              | n + 14, h => exact h
            case step9 =>
              intro i o_ listed ac W hA ho hL he
              have hk1 : ac.tmps.getD 1 undef = .pointer (some ⟨w.heap.size, 0, none⟩) := hL.kept 1 (by decide +kernel)
              have hk3 : ac.tmps.getD 3 undef = .pointer (some ⟨gs, 0, none⟩) := hL.kept 3 (by decide +kernel)
              have hk4 : ac.tmps.getD 4 undef = .int .i64 k := hL.kept 4 (by decide +kernel)
              have hk5 : ac.tmps.getD 5 undef = .int .i64 j := hL.kept 5 (by decide +kernel)
              have CL : ∀ W', Below W.heap.size W W' → Below wr.heap.size wr W' := fun W' h => hL.cls.trans (h.mono hL.cls.size)
              have k_d1 := keepc hL.cls d1
              have k_n0 := keepc hL.cls n0
              have k_y2 := keepc hL.cls y2
              have k_y4 := keepc hL.cls y4
              match i, hA, ho with
              | 0, _, ho =>
                cases ho
                refine wpOp_plain rfl rfl ?_
                unfold Oper.wp
                go_simp
                exact ⟨_, rfl, Below.refl _ _, CL _ (Below.refl _ _), rfl⟩
              | 1, _, ho =>
                cases ho
                have d0 : ac.tmps.getD 28 undef = .pointer (some ⟨w.heap.size, 2, none⟩) := hL.new 0 _ 28 rfl (he ⟨0, .data⟩ (by simp) rfl) rfl
                refine wpOp_plain rfl rfl ?_
                unfold Oper.wp
                go_simp
                exact ⟨_, rfl, Below.refl _ _, CL _ (Below.refl _ _), rfl⟩
              | 2, _, ho =>
                cases ho
                refine wpOp_plain rfl rfl ?_
                unfold Oper.wp
                go_simp
                exact ⟨_, rfl, Below.refl _ _, CL _ (Below.refl _ _), rfl⟩
              | 3, _, ho =>
                cases ho
                have d1 : ac.tmps.getD 29 undef = .slice (some ⟨g', off, none⟩) nr cr := hL.new 1 _ 29 rfl (he ⟨1, .data⟩ (by simp) rfl) rfl
                have d2 : ac.tmps.getD 30 undef = .int .i64 k := hL.new 2 _ 30 rfl (he ⟨2, .data⟩ (by simp) rfl) rfl
                refine wpOp_plain rfl rfl ?_
                unfold Oper.wp
                go_simp
                exact ⟨_, rfl, Below.refl _ _, CL _ (Below.refl _ _), rfl⟩
              | 4, _, ho =>
                cases ho
                have d3 : ac.tmps.getD 31 undef = .pointer (some ⟨g', off + k * 2, none⟩) := hL.new 3 _ 31 rfl (he ⟨3, .data⟩ (by simp) rfl) rfl
                refine wpOp_plain rfl rfl ?_
                unfold Oper.wp
                go_simp
                exact ⟨_, rfl, Below.refl _ _, CL _ (Below.refl _ _), rfl⟩
              | 5, _, ho =>
                cases ho
                have d4 : ac.tmps.getD 32 undef = .pointer (some ⟨g', off + k * 2 + 1, none⟩) := hL.new 4 _ 32 rfl (he ⟨4, .data⟩ (by simp) rfl) rfl
                refine wpOp_plain rfl rfl ?_
                unfold Oper.wp
                go_simp
                exact ⟨_, rfl, Below.refl _ _, CL _ (Below.refl _ _), rfl⟩
              | 6, _, ho =>
                cases ho
                have d5 : ac.tmps.getD 33 undef = .int .i64 f := hL.new 5 _ 33 rfl (he ⟨5, .data⟩ (by simp) rfl) rfl
                obtain ⟨hw0, hw1⟩ := HWW.out
                refine wpOp_plain rfl rfl ?_
                unfold Oper.wp
                go_simp
                exact ⟨_, rfl, Below.refl _ _, CL _ (Below.refl _ _), rfl⟩
              | 7, _, ho =>
                cases ho
                refine wpOp_plain rfl rfl ?_
                unfold Oper.wp
                go_simp
                exact ⟨_, rfl, Below.refl _ _, CL _ (Below.refl _ _), rfl⟩
              | 8, _, ho =>
                cases ho
                have d7 : ac.tmps.getD 35 undef = .pointer (some ⟨w.heap.size, 4, none⟩) := hL.new 7 _ 35 rfl (he ⟨7, .data⟩ (by simp) rfl) rfl
                refine wpOp_plain rfl rfl ?_
                unfold Oper.wp
                go_simp
                exact ⟨_, rfl, Below.refl _ _, CL _ (Below.refl _ _), rfl⟩
              | 9, _, ho =>
                cases ho
                refine wpOp_plain rfl rfl ?_
                unfold Oper.wp
                go_simp
                exact ⟨_, rfl, Below.refl _ _, CL _ (Below.refl _ _), rfl⟩
              | 10, _, ho =>
                cases ho
                have d8 : ac.tmps.getD 36 undef = .slice (some ⟨gn, on, none⟩) nn cn := hL.new 8 _ 36 rfl (he ⟨8, .data⟩ (by simp) rfl) rfl
                have d9 : ac.tmps.getD 37 undef = .int .i64 j := hL.new 9 _ 37 rfl (he ⟨9, .data⟩ (by simp) rfl) rfl
                refine wpOp_plain rfl rfl ?_
                unfold Oper.wp
                go_simp
                exact ⟨_, rfl, Below.refl _ _, CL _ (Below.refl _ _), rfl⟩
              | 11, _, ho =>
                cases ho
                have d10 : ac.tmps.getD 38 undef = .pointer (some ⟨gn, on + j, none⟩) := hL.new 10 _ 38 rfl (he ⟨10, .data⟩ (by simp) rfl) rfl
                refine wpOp_plain rfl rfl ?_
                unfold Oper.wp
                go_simp
                exact ⟨_, rfl, Below.refl _ _, CL _ (Below.refl _ _), rfl⟩
              | 12, _, ho =>
                cases ho
                have d6 : ac.tmps.getD 34 undef = .int .i64 (100 * f) := hL.new 6 _ 34 rfl (he ⟨6, .data⟩ (by simp) rfl) rfl
                have d11 : ac.tmps.getD 39 undef = .int .i64 nu := hL.new 11 _ 39 rfl (he ⟨11, .data⟩ (by simp) rfl) rfl
                obtain ⟨hw0, hw1⟩ := HWW.out
                refine wpOp_plain rfl rfl ?_
                unfold Oper.wp
                go_simp
                exact ⟨_, rfl, Below.refl _ _, CL _ (Below.refl _ _), rfl⟩
              | 13, _, ho =>
                cases ho
                have d12 : ac.tmps.getD 40 undef = .int .i64 xn := hL.new 12 _ 40 rfl (he ⟨12, .data⟩ (by simp) rfl) rfl
                obtain ⟨hz1, hz0⟩ := HZZ.out
                refine wpOp_plain rfl rfl ?_
                unfold Oper.wp
                go_simp
                exact ⟨_, rfl, Below.refl _ _, CL _ (Below.refl _ _), rfl⟩
              | 14, hA, _ => cases hA
              | n + 15, hA, _ => simp at hA
            case rest9 =>
              intro ac W9 hL
              have e28 : ac.tmps.getD 28 undef = .pointer (some ⟨w.heap.size, 2, none⟩) := hL.new 0 _ 28 rfl rfl rfl
              have e29 : ac.tmps.getD 29 undef = .slice (some ⟨g', off, none⟩) nr cr := hL.new 1 _ 29 rfl rfl rfl
              have e30 : ac.tmps.getD 30 undef = .int .i64 k := hL.new 2 _ 30 rfl rfl rfl
              have e31 : ac.tmps.getD 31 undef = .pointer (some ⟨g', off + k * 2, none⟩) := hL.new 3 _ 31 rfl rfl rfl
              have e32 : ac.tmps.getD 32 undef = .pointer (some ⟨g', off + k * 2 + 1, none⟩) := hL.new 4 _ 32 rfl rfl rfl
              have e33 : ac.tmps.getD 33 undef = .int .i64 f := hL.new 5 _ 33 rfl rfl rfl
              have e34 : ac.tmps.getD 34 undef = .int .i64 (100 * f) := hL.new 6 _ 34 rfl rfl rfl
              have e35 : ac.tmps.getD 35 undef = .pointer (some ⟨w.heap.size, 4, none⟩) := hL.new 7 _ 35 rfl rfl rfl
              have e36 : ac.tmps.getD 36 undef = .slice (some ⟨gn, on, none⟩) nn cn := hL.new 8 _ 36 rfl rfl rfl
              have e37 : ac.tmps.getD 37 undef = .int .i64 j := hL.new 9 _ 37 rfl rfl rfl
              have e38 : ac.tmps.getD 38 undef = .pointer (some ⟨gn, on + j, none⟩) := hL.new 10 _ 38 rfl rfl rfl
              have e39 : ac.tmps.getD 39 undef = .int .i64 nu := hL.new 11 _ 39 rfl rfl rfl
              have e40 : ac.tmps.getD 40 undef = .int .i64 xn := hL.new 12 _ 40 rfl rfl rfl
              have e41 : ac.tmps.getD 41 undef = .pointer (some ⟨gs, xn, none⟩) := hL.new 13 _ 41 rfl rfl rfl
              have es := hL.sets [28, 29, 30, 31, 32, 33, 34, 35, 36, 37, 38, 39, 40, 41] (by decide +kernel)
              rw [List.foldl_cons, List.foldl_cons, List.foldl_cons, List.foldl_cons, List.foldl_cons, List.foldl_cons, List.foldl_cons, List.foldl_cons, List.foldl_cons, List.foldl_cons, List.foldl_cons, List.foldl_cons, List.foldl_cons, List.foldl_cons, List.foldl_nil, e28, e29, e30, e31, e32, e33, e34, e35, e36, e37, e38, e39, e40, e41] at es
              have BN : Below wr.heap.size wr W9 := hL.cls
              rw [es]
              clear es hL e28 e29 e30 e31 e32 e33 e34 e35 e36 e37 e38 e39 e40 e41
              simp only [List.setIfInBounds_toArray, List.set_cons_zero, List.set_cons_succ]
              obtain ⟨se1, se2⟩ := (SE.out.below BN) xn hx5
              have HSE : Aside (SeenB gs (W9.setCell ⟨gs, xn, none⟩ (.bool true)) (seenT b k (j + 1) f)) := ((SE.out.below BN).set xn hx5).ext HSI.out
              have B9 := BJ.out.trans (BN.mono BJ.out.size)
              refine wpAny_one (i := 14) (by decide +kernel) rfl rfl ?_
              unfold Oper.wp
              go_simp
              refine wpAny_done (by decide +kernel) ?_ _
              go_wp2_with fail
              go_roundg (nn - (j + 1))
              case measure => omega
              case rel => exact ⟨j + 1, by omega, by omega, by go_num, HSE, B9.setCell (p := ⟨gs, xn, none⟩) HGS.out _⟩
        · have hje : nn = j := by omega
          subst hje
          have hljz : ¬ (nn : Int) < (nn : Int) := by omega
          have SE2 : Aside (SeenB gs wr (seenT b (k + 1) 0 0)) := SE.out.ext (fun i _ => HE.out i)
          go_wp2_with fail
          go_roundg (nr - (k + 1))
          case measure => omega
          case rel => exact ⟨k + 1, by omega, by omega, by go_num, SE2, BJ⟩
    · have hke : nr = k := by omega
      subst hke
      have hltz : ¬ (nr : Int) < (nr : Int) := by omega
      have hse := SE.out
      have hx := rSorted_any (boolsV (seenT b nr 0 0)) (seenT b nr 0 0) wr (boolsV_size _) (boolsV_get _)
      rw [← HR.out 0] at hx
      unfold SlV at hx
      go_wp2_with (first | (refine wpList_load_bools hse rfl _ rfl rfl ?_) | (go_at_call 48; (with_reducible refine hx.mono ?_); rintro e w1 ⟨u, rfl, hsl, hb1⟩))
      go_ret
      exact ⟨_, rfl, hsl, B0.out.trans ((BK.out.trans (hb1.mono BK.out.size)).mono B0.out.size)⟩
end Go.Proofs.YtgceffpkhmjmkaaGreat
