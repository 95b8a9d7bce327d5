/- Board, part Zq: all beds of a board, in ascending order. -/
import Derived.Test.YtgceffpkhmjmkaaGreatUf
set_option linter.unusedVariables false
set_option linter.unusedSimpArgs false
namespace Go.Proofs.YtgceffpkhmjmkaaGreat
open Go.RowKit Go.Shelf Go.Maps

theorem wpList_insert_own {H : Type} {P : Program} (w : World) {ops : Array Oper} {rest : List Oper} {o : Oper} {a : Act} {Q : Exit → Act → World → Prop}
    (hg : o.guard = none) (m x v : Operand) (t : TypeId) (hop : o.op = Op.insert t m x v)
    (k e : TypeId) (K : Keyed P k) (ht : P.underlying t = some (.map k e)) (R : Value → Option (DataW H × List MemPlace)) (b n : Nat) (D : DataW H)
    (hm : a.eval m = .map (some b)) (hown : w.ownsMap P k R b n D) (hn : n < maxLen) (key val : Value) (kl : Lit) (hx : a.eval x = key) (hv : a.eval v = val) (hkey : keyOf P k key = some kl)
    (d : DataW H) (ps : List MemPlace) (hval : R val = some (d, ps))
    (hK : ∀ w', w'.ownsMap P k R b (n + 1) (D.put kl d) → w.grownBy w' (some b) → wpList P ops Q rest (a.put o.dst undef) w') :
    wpList P ops Q (o :: rest) a w := by
  refine wpList_plain hg fun K' hK' => ?_
  obtain ⟨w', hrun, r1, r2⟩ := hown.update K ht hn hkey hval
  unfold Oper.wp
  simp [execOp, hop, hm, hx, hv, hrun, Result.andThen]
  exact hK' _ _ (hK w' r1 r2)

/-- The beds of the first rings, and of the first numbers of the next one. -/
def allT (b : Brd) (k j : Nat) (f : Int) : List Int := [225, 125] ++ (b.rings.take k).flatMap (fun r => b.nums.map (bedOf r.2)) ++ (b.nums.take j).map (bedOf f)
def allV (b : Brd) : List Int := [225, 125] ++ b.rings.flatMap (fun r => b.nums.map (bedOf r.2))
def allOf (b : Brd) : List Int := (bedsOf (allV b)).filter fun n => decide (n ≠ 0)
theorem allT_end (b : Brd) (f : Int) : allT b b.rings.length 0 f = allV b := by
  unfold allT allV; rw [List.take_length]; simp
theorem allT_ring (b : Brd) (k : Nat) (r : Int × Int) (h : b.rings[k]? = some r) (f : Int) : allT b k b.nums.length r.2 = allT b (k + 1) 0 f := by
  obtain ⟨hk, e⟩ := List.getElem?_eq_some_iff.1 h
  unfold allT
  rw [List.take_length, List.take_succ_eq_append_getElem hk, e, List.flatMap_append]
  simp
theorem allT_num (b : Brd) (k j : Nat) (f x : Int) (h : b.nums[j]? = some x) : allT b k (j + 1) f = allT b k j f ++ [bedOf f x] := by
  obtain ⟨hk, e⟩ := List.getElem?_eq_some_iff.1 h
  unfold allT
  rw [List.take_succ_eq_append_getElem hk, e, List.map_append]
  simp
theorem allT_zero (b : Brd) (k : Nat) (f f' : Int) : allT b k 0 f = allT b k 0 f' := by unfold allT; simp
theorem bedOf_bd {f n : Int} (h1 : 0 ≤ f) (h2 : f ≤ 4) (h3 : 1 ≤ n) (h4 : n ≤ 20) : 0 ≤ bedOf f n ∧ bedOf f n < 500 := by
  unfold bedOf; split <;> omega
theorem allV_bd {b : Brd} (hc : chk b = 0) : ∀ x ∈ allV b, 0 ≤ x ∧ x < 500 := by
  have g := good_of_chk hc
  intro x hx
  unfold allV at hx
  simp only [List.mem_append, List.mem_cons, List.not_mem_nil, or_false, List.mem_flatMap, List.mem_map] at hx
  rcases hx with (rfl | rfl) | ⟨r, hr, n, hn, rfl⟩
  · omega
  · omega
  · have := g.fac r hr; have := g.num n hn; exact bedOf_bd (by omega) (by omega) (by omega) (by omega)
theorem mem_allOf {b : Brd} (hc : chk b = 0) (n : Int) : n ∈ allOf b ↔ n ∈ allV b ∧ n ≠ 0 := by
  unfold allOf
  simp only [List.mem_filter, decide_eq_true_eq, mem_bedsOf (allV_bd hc)]
theorem allOf_sorted (b : Brd) : (allOf b).Pairwise (· < ·) := List.Pairwise.filter _ (bedsOf_sorted _)
theorem allOf_len (b : Brd) : (allOf b).length ≤ 500 := Nat.le_trans (List.length_filter_le _ _) (bedsOf_len _)
theorem allOf_pos {b : Brd} (hc : chk b = 0) : ∀ x ∈ allOf b, 1 ≤ x ∧ x < 500 := by
  intro x hx
  obtain ⟨h1, h2⟩ := (mem_allOf hc x).1 hx
  have := allV_bd hc x h1
  omega
theorem sec_lt (ls : List (Int × Int)) (d : Int × Int) : ∀ n, sec ls d (n + 1) ≤ n := by
  intro n
  induction n with
  | zero => unfold sec; split <;> (try split) <;> simp [sec]
  | succ n ih => unfold sec; split <;> (try split) <;> omega
theorem bed_in_all {b : Brd} (hc : chk b = 0) (p : Int × Int) (h : bedW b p ≠ 0) : bedW b p ∈ allOf b := by
  have g := good_of_chk hc
  rw [mem_allOf hc]
  refine ⟨?_, h⟩
  have e : bedW b p = landed b p := by
    unfold bedW at h ⊢
    split
    · rename_i h'; rw [if_pos h'] at h; exact absurd rfl h
    · rfl
  rw [e] at h ⊢
  have hl := List.length_pos_iff.2 g.lines
  have hs : sector b p < b.nums.length := by
    have := g.same
    have h1 := sec_lt b.lines p (b.lines.length - 1)
    rw [show b.lines.length - 1 + 1 = b.lines.length by omega] at h1
    unfold sector
    omega
  unfold allV
  simp only [List.mem_append, List.mem_cons, List.not_mem_nil, or_false, List.mem_flatMap, List.mem_map]
  rcases landed_turn b 0 p with ⟨_, h1⟩ | ⟨f, h1, _, r, hr, rfl⟩
  · left; omega
  · rw [h1]
    refine .inr ⟨r, hr, b.nums[sector b p], List.getElem_mem hs, ?_⟩
    rw [List.getElem?_eq_getElem hs, Option.getD_some]

theorem perm_of_has {P : Program} {k : TypeId} {R : Value → Option (DataW Unit × List MemPlace)} {w : World} {M nn : Nat} {D : DataW Unit} {L ss : List Int} (hL : L.Pairwise (· < ·)) (hh : ∀ n, Maps.has D (.int .i64 n) = true ↔ n ∈ L) (hkk : ∀ kl, Maps.has D kl = true → ∃ x, kl = .int .i64 x)
    (hown : w.ownsMap P k R M nn D) (K : Keyed P k) (h : ss.Perm (intKeys D)) : ss.Perm L := by
  refine h.trans ?_
  obtain ⟨es, hD, hp, hk⟩ := hown.entries K
  rw [hD] at hh hkk ⊢
  refine (perm_intKeys hp (fun p hp' => ?_) (hL.imp (fun h e => by omega)) (fun x => by rw [hh])).symm
  refine hkk p.1 ?_
  rw [has_eq, List.any_eq_true]
  refine ⟨p, hp', ?_⟩
  exact sameKey_self' (hk p hp')
theorem has_all {b : Brd} (hc : chk b = 0) (n : Int) : Maps.has ((seenD (allV b)).del (.int .i64 0)) (.int .i64 n) = true ↔ n ∈ allOf b := by
  rw [mem_allOf hc]
  by_cases h : n = 0
  · subst h
    rw [has_del_same]
    simp
  · rw [has_del_other (by intro e; cases e; exact h rfl), has_seenD (allV_bd hc)]
    exact ⟨fun h1 => ⟨h1, h⟩, fun h1 => h1.1⟩
theorem keys_all {b : Brd} (hc : chk b = 0) (kl : Lit) (h : Maps.has ((seenD (allV b)).del (.int .i64 0)) kl = true) : ∃ x, kl = .int .i64 x := by
  by_cases e : kl = .int .i64 0
  · exact ⟨0, e⟩
  · rw [has_del_other e] at h
    unfold seenD at h
    rw [has_setOf _ _ _ (by intro x hx; obtain ⟨y, hy, rfl⟩ := List.mem_map.1 hx; exact (lit_key y (allV_bd hc y hy).1 (allV_bd hc y hy).2).1), List.any_eq_true] at h
    obtain ⟨x, hx, hs⟩ := h
    obtain ⟨y, hy, rfl⟩ := List.mem_map.1 hx
    by_cases e2 : Lit.int .i64 y = kl
    · exact ⟨y, e2.symm⟩
    · rw [sameKey_ne e2] at hs; cases hs
theorem seen_two : ((DataW.map [] : DataW Unit).put (.int .i64 225) (.lit (.bool true))).put (.int .i64 125) (.lit (.bool true)) = seenD [225, 125] := rfl

def AllMap (b : Brd) (M k j : Nat) (f : Int) (w : World) : Prop := ∃ nn, nn ≤ 2 + 20 * k + j ∧ w.ownsMap Tryz.prog 34 (plainElem (H := Unit) Tryz.prog 4) M nn (seenD (allT b k j f))

set_option maxRecDepth 100000 in
set_option maxHeartbeats 2000000 in
theorem All_ok (v : Value) (b : Brd) (w : World) (h : BrdAt w v b) (hc : chk b = 0) :
    Calls Tryz.prog 12 #[v] w (BedsOk (allOf b) w) := by
  have c1 := fun W (hW : Below w.heap.size w W) => check_any v b W (h.below hW)
  rw [hc] at c1
  have G := good_of_chk hc
  have HC : Aside (chk b = 0) := hc
  obtain ⟨vr, vl, vn, rfl, hr, hl, hn⟩ := h
  have HRS : Aside (Sl w 2 encP vr b.rings) := hr
  have HNS : Aside (Sl w 1 (fun x => [Value.int .i64 x]) vn b.nums) := hn
  obtain ⟨ar, cr, rfl, lr, _⟩ := hr
  obtain ⟨al, cl, rfl, ll, _⟩ := hl
  obtain ⟨an, cn, rfl, ln, _⟩ := hn
  have HRC : Aside (∀ k r, b.rings[k]? = some r → ∃ bb off, ar = some ⟨bb, off, none⟩ ∧ ∀ W, Below w.heap.size w W → W.cell? ⟨bb, off + k * 2, none⟩ = some (.int .i64 r.1) ∧ W.cell? ⟨bb, off + k * 2 + 1, none⟩ = some (.int .i64 r.2)) := by
    intro k r hk
    obtain ⟨a, c, e, _, hs⟩ := HRS.out
    cases e
    obtain ⟨bb, off, ha, _, hcc⟩ := hs (by intro e; rw [e] at hk; simp at hk)
    refine ⟨bb, off, ha, fun W hW => ⟨keepc hW ?_, keepc hW ?_⟩⟩
    · have := hcc k r hk 0 _ rfl; simpa using this
    · have := hcc k r hk 1 _ rfl; simpa using this
  have HNC : Aside (∀ k x, b.nums[k]? = some x → ∃ bb off, an = some ⟨bb, off, none⟩ ∧ ∀ W, Below w.heap.size w W → W.cell? ⟨bb, off + k, none⟩ = some (.int .i64 x)) := by
    intro k x hk
    obtain ⟨a, c, e, _, hs⟩ := HNS.out
    cases e
    obtain ⟨bb, off, ha, _, hcc⟩ := hs (by intro e; rw [e] at hk; simp at hk)
    refine ⟨bb, off, ha, fun W hW => keepc hW ?_⟩
    have := hcc k x hk 0 _ rfl; simpa using this
  clear HRS HNS
  have HG : Aside ((∀ r ∈ b.rings, 0 ≤ r.2 ∧ r.2 ≤ 4) ∧ ∀ n ∈ b.nums, 1 ≤ n ∧ n ≤ 20) := ⟨fun r hr => by have := G.fac r hr; omega, fun n hn => by have := G.num n hn; omega⟩
  have hl1 := G.len.1
  have hl3 := G.len.2.2
  clear G hc
  obtain ⟨LR, hLR⟩ : ∃ n, b.rings.length = n := ⟨_, rfl⟩
  obtain ⟨LN, hLN⟩ : ∃ n, b.nums.length = n := ⟨_, rfl⟩
  have HLR : Aside (b.rings.length = LR) := hLR
  have HLN : Aside (b.nums.length = LN) := hLN
  rw [hLR] at hl1 lr c1
  rw [hLN] at hl3 ln c1
  rw [hLR, hLN]
  clear hLR hLN
  generalize b.lines.length = LL at *
  have hmm := @run_makeMap Tryz.prog
  have hk225 : keyOf Tryz.prog 34 (.int .i64 225) = some (.int .i64 225) := Maps.keyOf_int_mk Tryz.underlying34 (WalkArith.wf_i64 (by omega))
  have hk125 : keyOf Tryz.prog 34 (.int .i64 125) = some (.int .i64 125) := Maps.keyOf_int_mk Tryz.underlying34 (WalkArith.wf_i64 (by omega))
  have KI : Keyed Tryz.prog 34 := Maps.int_keyed Tryz.underlying34
  have KT : plainElem (H := Unit) Tryz.prog 4 (.bool true) = some (.lit (.bool true), []) := plainElem_bool Tryz.underlying4 true
  go_enter Tryz.func12, Tryz.ntmps12
  go_wp2_with (first | (go_at_call 10; refine (c1 _ ?_).mono ?_; (repeat' (first | exact Below.refl _ _ | assumption | (with_reducible refine Below.drew ?_) | (with_reducible refine Below.setCell ?_ (by (first | (simp; done) | (simp; omega))) _) | (with_reducible refine below_drewN' ?_ _) | (refine Below.alloc ?_ (by (try simp only [World.size_alloc, World.size_drew, World.size_setCell]); omega) _) | (refine Below.trans ?_ (Below.mono (by assumption) (by (try simp only [World.size_alloc, World.size_drew, World.size_setCell]); omega))))); rintro e w1 ⟨rfl, hb1⟩; have z1 := hb1.size; simp only [World.size_alloc] at z1; have d2 : w1.cell? ⟨w.heap.size, 2, none⟩ = some (.slice ar LR cr) := keepc hb1 (by go_simp); have d4 : w1.cell? ⟨w.heap.size, 4, none⟩ = some (.slice an LN cn) := keepc hb1 (by go_simp)) | (refine wpList_insert_own _ rfl _ _ _ 89 rfl 34 4 KI Tryz.underlying89 (plainElem (H := Unit) Tryz.prog 4) w1.heap.size 0 _ rfl (World.ownsMap_made _ _ _ _) (by unfold maxLen; omega) _ _ _ rfl rfl hk225 _ [] KT ?_; intro V1 hM1 hg1) | (refine wpList_insert_own _ rfl _ _ _ 89 rfl 34 4 KI Tryz.underlying89 (plainElem (H := Unit) Tryz.prog 4) w1.heap.size (0 + 1) _ rfl hM1 (by unfold maxLen; omega) _ _ _ rfl rfl hk125 _ [] KT ?_; intro V2 hM2 hg2; have x2 := hg2.cell (hg1.cell (keepc ((Below.refl _ _).alloc (Nat.le_refl _) (.map #[] 0)) d2) (by simp; omega)) (by simp; omega); have x4 := hg2.cell (hg1.cell (keepc ((Below.refl _ _).alloc (Nat.le_refl _) (.map #[] 0)) d4) (by simp; omega)) (by simp; omega); clear d2 d4))
  rw [seen_two] at hM2
  have B2 : Below w.heap.size w V2 := by
    have h1 : Below w.heap.size w w1 := by (repeat' (first | exact Below.refl _ _ | assumption | (with_reducible refine Below.drew ?_) | (with_reducible refine Below.setCell ?_ (by (first | (simp; done) | (simp; omega))) _) | (with_reducible refine below_drewN' ?_ _) | (refine Below.alloc ?_ (by (try simp only [World.size_alloc, World.size_drew, World.size_setCell]); omega) _) | (refine Below.trans ?_ (Below.mono (by assumption) (by (try simp only [World.size_alloc, World.size_drew, World.size_setCell]); omega)))))
    exact ((h1.alloc (by omega) _).grown hg1 (by simp; omega) (fun j hj => by cases hj; omega)).grown hg2 (by have := hg1.size; simp at this; omega) (fun j hj => by cases hj; omega)
  obtain ⟨M, hM⟩ : ∃ M, w1.heap.size = M := ⟨_, rfl⟩
  have hMw : w.heap.size < M := by omega
  have AM : Aside (AllMap b M 0 0 0 V2) := ⟨0 + 1 + 1, by omega, by rw [← hM]; exact hM2⟩
  rw [hM]
  clear hb1 z1 hM1 hg1 hM2 hg2 hM c1 hmm hk225 hk125
  go_loopw [20] (fun i wr => ∃ k : Nat, k ≤ LR ∧ i = .int .i64 k ∧ Aside (AllMap b M k 0 0 wr) ∧ Aside (Below w.heap.size w wr) ∧ wr.cell? ⟨w.heap.size, 4, none⟩ = some (.slice an LN cn)) (fun i _ => LR - (intOf i).toNat)
  case atStart => exact ⟨0, Nat.zero_le _, rfl, AM, B2, x4⟩
  case round =>
    clear AM x2 x4
    obtain ⟨k, hk, rfl, AM, BR, x4⟩ := hrel
    by_cases hlt : k < LR
    · have hltz : (k : Int) < (LR : Int) := by omega
      obtain ⟨r, hr⟩ : ∃ r, b.rings[k]? = some r := ⟨_, List.getElem?_eq_getElem (by rw [HLR.out]; exact hlt)⟩
      obtain ⟨bb, off, rfl, hcc⟩ := HRC.out k r hr
      obtain ⟨y1, y2⟩ := hcc wr BR.out
      have HRR : Aside (b.rings[k]? = some r ∧ 0 ≤ r.2 ∧ r.2 ≤ 4) := ⟨hr, HG.out.1 r (List.mem_of_getElem? hr)⟩
      clear hcc hr
      obtain ⟨wo, rfl⟩ : ∃ wo : World, wo = wr := ⟨_, rfl⟩
      obtain ⟨ro, hro⟩ : ∃ ro, r.1 = ro := ⟨_, rfl⟩
      obtain ⟨rf, hrf⟩ : ∃ rf, r.2 = rf := ⟨_, rfl⟩
      rw [hro] at y1
      rw [hrf] at y2
      have HRF : Aside (r.2 = rf) := hrf
      clear hro hrf
      have hws : w.heap.size < wo.heap.size := World.block_lt_of_cell? wo _ x4
      go_wp2_with fail
      obtain ⟨WI, hWI⟩ : ∃ WI, WI = wo.alloc (.cells #[.int .i64 ro, .int .i64 rf] 79) := ⟨_, rfl⟩
      obtain ⟨gr, hgr⟩ : ∃ gr, wo.heap.size = gr := ⟨_, rfl⟩
      have BI : Below w.heap.size w WI := by rw [hWI]; exact BR.out.alloc BR.out.size _
      have i1 : WI.cell? ⟨gr, 1, none⟩ = some (.int .i64 rf) := by rw [hWI, ← hgr]; clear hWI; go_simp
      have i4 : WI.cell? ⟨w.heap.size, 4, none⟩ = some (.slice an LN cn) := by rw [hWI]; exact keepc ((Below.refl _ _).alloc (Nat.le_refl _) _) x4
      have AI : Aside (AllMap b M k 0 rf WI) := by
        obtain ⟨nn, h1, h2⟩ := AM.out
        refine ⟨nn, h1, ?_⟩
        rw [hWI, allT_zero b k rf 0]
        exact h2.alloc _
      have hMg : M < gr := by
        obtain ⟨nn, h1, h2⟩ := AM.out
        rw [← hgr]; exact h2.lt
      have hwg : w.heap.size < gr := by omega
      rw [← hWI, hgr]
      clear hWI hgr AM BR x4 y1 y2
      go_loopw [27] (fun i wr => ∃ j : Nat, j ≤ LN ∧ i = .int .i64 j ∧ Aside (AllMap b M k j rf wr) ∧ Aside (Below w.heap.size w wr) ∧ wr.cell? ⟨w.heap.size, 4, none⟩ = some (.slice an LN cn) ∧ wr.cell? ⟨gr, 1, none⟩ = some (.int .i64 rf)) (fun i _ => LN - (intOf i).toNat)
      case atStart => exact ⟨0, Nat.zero_le _, rfl, AI, BI, i4, i1⟩
      case round =>
        clear AI BI i4 i1
        obtain ⟨j, hj, rfl, AM, BR, i4, i1⟩ := hrel
        by_cases hjl : j < LN
        · have hjz : (j : Int) < (LN : Int) := by omega
          obtain ⟨x, hx⟩ : ∃ x, b.nums[j]? = some x := ⟨_, List.getElem?_eq_getElem (by rw [HLN.out]; exact hjl)⟩
          obtain ⟨b2, off2, rfl, hcc⟩ := HNC.out j x hx
          have y3 := hcc wr BR.out
          obtain ⟨hx0, hx1⟩ := HG.out.2 x (List.mem_of_getElem? hx)
          have hfb : 0 ≤ rf ∧ rf ≤ 4 := by rw [← HRF.out]; exact HRR.out.2
          have xb := fun W => bedOf_any rf x W hfb.1 hfb.2 hx0 hx1
          have hbb := bedOf_bd hfb.1 hfb.2 hx0 hx1
          obtain ⟨bd, hbd⟩ : ∃ bd, bedOf rf x = bd := ⟨_, rfl⟩
          have HT : Aside (seenD (allT b k (j + 1) rf) = (seenD (allT b k j rf)).put (.int .i64 bd) (.lit (.bool true))) := by
            show _ = _
            rw [allT_num b k j rf x hx, seenD_snoc, hbd]
          rw [hbd] at xb hbb
          have hkb : keyOf Tryz.prog 34 (.int .i64 bd) = some (.int .i64 bd) := Maps.keyOf_int_mk Tryz.underlying34 (lit_key bd hbb.1 hbb.2).2
          obtain ⟨nn, hn1, hown⟩ := AM.out
          have hnl : nn < maxLen := by unfold maxLen; omega
          clear hcc hx hbd hfb hbb
          go_wp2_with (first | (go_at_call 43; (with_reducible refine (xb _).mono ?_); rintro e w5 ⟨rfl, hb5⟩; have hown5 := ownsMap_below hown hb5) | (at_mapUpdate; refine wpList_mapUpdate_own _ rfl _ _ _ 89 rfl 34 4 KI Tryz.underlying89 (plainElem (H := Unit) Tryz.prog 4) M nn _ rfl hown5 hnl _ _ _ rfl rfl hkb _ [] KT ?_; intro w6 hown6 hgrow6))
          have j4 := hgrow6.cell (keepc hb5 i4) (by simp; omega)
          have j1 := hgrow6.cell (keepc hb5 i1) (by simp; omega)
          have B6 : Below w.heap.size w w6 := (BR.out.trans (hb5.mono BR.out.size)).grown hgrow6 (by have := BR.out.size; have := hb5.size; omega) (fun q hq => by cases hq; omega)
          go_roundw
          case rel => exact ⟨j + 1, by omega, by go_num, ⟨nn + 1, by omega, by rw [HT.out]; exact hown6⟩, B6, j4, j1⟩
          case measure => simp [intOf]; omega
        · have hje : LN = j := by omega
          subst hje
          have hjz : ¬ (LN : Int) < (LN : Int) := by omega
          have AE : Aside (AllMap b M (k + 1) 0 0 wr) := by
            obtain ⟨nn, hn1, hown⟩ := AM.out
            refine ⟨nn, by omega, ?_⟩
            have h1 := allT_ring b k r HRR.out.1 0
            rw [HLN.out, HRF.out] at h1
            rw [← h1]; exact hown
          clear AM i1
          go_wp2_with fail
          go_roundw
          case rel => exact ⟨k + 1, by omega, by go_num, AE, BR, i4⟩
          case measure => simp [intOf]; omega
    · have hke : LR = k := by omega
      subst hke
      have hltz : ¬ (LR : Int) < (LR : Int) := by omega
      obtain ⟨nn, hn1, hown⟩ := AM.out
      have hown' : wr.ownsMap Tryz.prog 34 (plainElem (H := Unit) Tryz.prog 4) M nn (seenD (allV b)) := by
        rw [← allT_end b 0, HLR.out]; exact hown
      have hk0 : keyOf Tryz.prog 34 (.int .i64 0) = some (.int .i64 0) := Maps.keyOf_int_mk Tryz.underlying34 (WalkArith.wf_i64 (by omega))
      have hnn : nn ≤ 200 := by omega
      clear hown AM x4 hn1
      have hMs := hown'.lt
      go_upto_region 15 with (at_delete; refine wpList_delete_own _ rfl _ _ 89 34 rfl 4 KI Tryz.underlying89 (plainElem (H := Unit) Tryz.prog 4) M nn _ rfl hown' _ _ rfl hk0 ?_; intro V hM4 hturn)
      have BV : Below w.heap.size w V := BR.out.grown hturn.grown (by have := BR.out.size; omega) (fun q hq => by cases hq; omega)
      have hbl := hM4.lt
      have hsz : Maps.size ((seenD (allV b)).del (.int .i64 0)) ≤ 200 := by
        obtain ⟨es, clock, hb, Ft, hs, hD⟩ := hM4
        rw [hD, size_eq, length_sorted]
        simp; omega
      have hseq : SeqGives Fence.wide 6 Tryz.prog 74 #[.pointer (some ⟨V.heap.size, 0, none⟩)] encZ (fun ss => ss.Perm (intKeys ((seenD (allV b)).del (.int .i64 0)))) (Maps.size ((seenD (allV b)).del (.int .i64 0))) (V.alloc (.cells #[.map (some M)] 89)) :=
        AnyZI.keys_gives (ρ := keysA_ren) { keysA with } Fence.wide _ trivial rfl (by omega) V.heap.size M nn _ _ (by simp) (by simp) (hM4.alloc _)
      have cK : ∀ mb W, CallsIn Fence.wide 9 Tryz.prog 45 #[.map mb] W fun e w' => e = .returned (.func (.func 74) #[] #[.pointer (some ⟨W.heap.size, 0, none⟩)]) ∧ w' = W.alloc (.cells #[.map mb] 89) := fun mb W => AnyZI.keys_in keysA Fence.wide 9 trivial rfl mb W
      have cS := AnyZI.sorted_in sortedA Fence.wide 9 trivial trivial trivial trivial rfl (by omega) (sortsA _) (enters_of Tryz.func73 (by kernel_rfl) rfl) 74 #[.pointer (some ⟨V.heap.size, 0, none⟩)] trivial (enters_of Tryz.func74 (by kernel_rfl) rfl) _ _ (by unfold maxLen; omega) (by omega) _ hseq
      change CallsIn _ _ Tryz.prog 44 _ _ _ at cS
      have cK' := fun mb W => callsIn_wide.1 (cK mb W)
      have cS' := callsIn_wide.1 cS
      have HM4 : Aside _ := hM4
      clear cK cS hseq hM4 hturn hown' BR
      go_wp2_with (first | (go_at_call 45; refine (cK' _ _).mono ?_; rintro e w' ⟨rfl, rfl⟩) | (go_at_call 44; refine cS'.mono ?_; rintro e V4 ⟨vv, ss, rfl, hS, hrow, hnil, hb4⟩))
      go_ret2
      have hps := perm_of_has (allOf_sorted b) (has_all HC.out) (keys_all HC.out) HM4.out KI hS
      have hms := (mergeSort_of_perm_i hps).trans (List.mergeSort_of_pairwise ((allOf_sorted b).imp (fun {a b} h => by simp; omega)))
      have hsl : Sl V4 1 eI vv (allOf b) := by
        rw [hms] at hrow
        have hlen : ss.length = (allOf b).length := hps.length_eq
        exact sl_of_owns (by have := allOf_len b; omega) hrow hlen (fun e => hnil.2 (by rw [e] at hlen; exact List.eq_nil_of_length_eq_zero hlen))
      exact ⟨vv, rfl, hsl, BV.trans ((((Below.refl _ V).alloc (Nat.le_refl _) _).trans (hb4.mono (by simp))).mono BV.size)⟩
end Go.Proofs.YtgceffpkhmjmkaaGreat
