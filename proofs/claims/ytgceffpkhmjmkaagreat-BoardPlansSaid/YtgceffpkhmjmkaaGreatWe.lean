/- Board, part We: the reference's plan. -/
import Derived.Test.YtgceffpkhmjmkaaGreatWb
import Derived.Test.YtgceffpkhmjmkaaGreatRi
import Derived.Deep.Cut
set_option linter.unusedVariables false
set_option linter.unusedSimpArgs false
namespace Go.Proofs.YtgceffpkhmjmkaaGreat
open Go.RowKit Go.Shelf

theorem dig_front (S : Nat) : ∀ j x, dig S (j + 1) x = ((x / S ^ j) % S) :: dig S j x := by
  intro j
  induction j with
  | zero => intro x; simp [dig]
  | succ j ih =>
    intro x
    rw [show dig S (j + 1 + 1) x = dig S (j + 1) (x / S) ++ [x % S] from rfl, ih, List.cons_append]
    rw [show dig S (j + 1) x = dig S j (x / S) ++ [x % S] from rfl, Nat.div_div_eq_div_mul, Nat.pow_succ, Nat.mul_comm]
/-- The turns after the last j of them have been laid. -/
def trI (S m j x : Nat) : List Int := (List.replicate (m - j) 0 ++ dig S j x).map Int.ofNat
theorem trI_length (S m j x : Nat) (h : j ≤ m) : (trI S m j x).length = m := by simp [trI, dig_length]; omega
theorem trI_zero (S m x : Nat) : trI S m 0 x = List.replicate m 0 := by simp [trI, dig]
theorem trI_all (S m x : Nat) : trI S m m x = digI S m x := by simp [trI, digI]
theorem trI_succ (S m j x q : Nat) (h : m = q + 1 + j) : (trI S m j x).set q (((x / S ^ j) % S : Nat) : Int) = trI S m (j + 1) x := by
  unfold trI
  rw [dig_front, show m - j = q + 1 by omega, show m - (j + 1) = q by omega, List.replicate_succ']
  simp only [List.map_append, List.map_cons, List.map_nil, List.map_replicate]
  rw [set_mid _ _ _ _ _ (by simp)]
  simp

/-- The best plan of the first ones. -/
def BestR (S m : Nat) (M : Nat → Int) (x : Nat) (vb : Value) (L : Int) (W : World) : Prop := (x = 0 ∧ L = -1) ∨ (0 < x ∧ L = M (bestI M x) ∧ Sl W 1 eI vb (digI S m (bestI M x)))
theorem BestR.below {S m x : Nat} {M : Nat → Int} {vb : Value} {L : Int} {W W' : World} (h : BestR S m M x vb L W) (hB : Below W.heap.size W W') : BestR S m M x vb L W' := by
  rcases h with h | ⟨h1, h2, h3⟩
  · exact .inl h
  · exact .inr ⟨h1, h2, h3.below hB⟩
theorem BestR.new {S m x : Nat} {M : Nat → Int} {vb vt : Value} {L : Int} {W : World} (h : BestR S m M x vb L W) (hl : L < 0 ∨ M x < L) (hN : ∀ i, 0 ≤ M (bestI M i)) (ht : Sl W 1 eI vt (digI S m x)) : BestR S m M (x + 1) vt (M x) W := by
  refine .inr ⟨by omega, ?_⟩
  have : bestI M (x + 1) = x := by
    rcases h with ⟨h1, h2⟩ | ⟨h1, h2, h3⟩
    · subst h1; show (if _ then _ else _) = _; split <;> rfl
    · have := hN x
      show (if _ then _ else _) = _
      rw [if_pos (by omega)]
  rw [this]
  exact ⟨rfl, ht⟩
theorem BestR.old {S m x : Nat} {M : Nat → Int} {vb : Value} {L : Int} {W : World} (h : BestR S m M x vb L W) (h1 : ¬ L < 0) (h2 : ¬ M x < L) : BestR S m M (x + 1) vb L W := by
  rcases h with ⟨a1, a2⟩ | ⟨a1, a2, a3⟩
  · omega
  · refine .inr ⟨by omega, ?_⟩
    have : bestI M (x + 1) = bestI M x := by
      show (if _ then _ else _) = _
      rw [if_neg (by omega)]
    rw [this]
    exact ⟨a2, a3⟩

set_option maxRecDepth 100000 in
set_option maxHeartbeats 16000000 in
theorem rPlan_any (v vs : Value) (worn : List Int) (ws : List (Value × List Int)) (w : World) (hw : Sl w 1 eI v worn) (hs : Sl w 1 eR vs ws) (hx : ∀ x ∈ ws, Sl w 1 eI x.1 x.2)
    (hn1 : worn ≠ []) (hn2 : worn.length ≤ 1000) (hm2 : ws.length ≤ 100) (hall : worn.length ^ ws.length ≤ 1000000000) (hlen : ∀ x ∈ ws, x.2.length = worn.length) (hb1 : ∀ x ∈ worn, 0 ≤ x ∧ x ≤ 100000000000) (hb2 : ∀ x ∈ ws, ∀ y ∈ x.2, 0 ≤ y ∧ y ≤ 1000000000) :
    Calls Tryz.prog 33 #[v, vs] w (fun e w' => ∃ v', e = .returned (.tuple #[v', .int .i64 (planM worn (ws.map (·.2)))]) ∧ Sl w' 1 eI v' (digI worn.length ws.length (bestP worn (ws.map (·.2)))) ∧ Below w.heap.size w w') := by
  have HL : Aside ((ws.map (·.2)).length = ws.length) := List.length_map _
  have HW : Aside (Sl w 1 eI v worn) := hw
  have HLW : ∀ wk ∈ ws.map (·.2), wk.length = worn.length := by
    intro wk hwk
    obtain ⟨z, hz, rfl⟩ := List.mem_map.1 hwk
    exact hlen z hz
  have HBW : ∀ wk ∈ ws.map (·.2), ∀ x ∈ wk, 0 ≤ x ∧ x ≤ 1000000000 := by
    intro wk hwk
    obtain ⟨z, hz, rfl⟩ := List.mem_map.1 hwk
    exact hb2 z hz
  have HLA := List.length_pos_iff.2 hn1
  -- the wear on the way
  have HE : Aside (∀ (j x : Nat), (endw worn ((ws.map (·.2)).take j) ((dig worn.length ws.length x).take j)).length = worn.length ∧ ∀ y ∈ endw worn ((ws.map (·.2)).take j) ((dig worn.length ws.length x).take j), 0 ≤ y ∧ y ≤ 1000000000000) := by
    intro j x
    refine ⟨endw_length worn.length _ worn _ rfl (fun wk h => HLW wk (List.mem_of_mem_take h)), fun y hy => ?_⟩
    have := endw_bd 1000000000 (by omega) ((ws.map (·.2)).take j) 100000000000 worn ((dig worn.length ws.length x).take j) (by omega) hb1 (fun wk h => HBW wk (List.mem_of_mem_take h)) y hy
    have hle : (((ws.map (·.2)).take j).length : Int) ≤ 100 := by rw [List.length_take, HL.out]; omega
    omega
  have HMX : Aside (∀ (x : Nat), endw worn ((ws.map (·.2)).take ws.length) ((dig worn.length ws.length x).take ws.length) = endw worn (ws.map (·.2)) (dig worn.length ws.length x)) := by
    intro x
    rw [List.take_of_length_le (by rw [HL.out]; exact Nat.le_refl _), List.take_of_length_le (by rw [dig_length]; exact Nat.le_refl _)]
  have HMM : Aside (∀ (x : Nat), mx (endw worn ((ws.map (·.2)).take ws.length) ((dig worn.length ws.length x).take ws.length)) = Mw worn (ws.map (·.2)) x) := by
    intro x
    rw [HMX.out x]; unfold Mw; rw [HL.out]
  have HN : Aside (∀ x, 0 ≤ Mw worn (ws.map (·.2)) x) := by
    intro x
    rw [← HMM.out]
    have h := HE.out ws.length x
    exact (mx_bd 1000000000000 _ (by intro e; rw [e] at h; have := h.1; simp at this; omega) h.2).1
  have HST : Aside (∀ (j x : Nat) (p : Value × List Int) (k : Nat), ws[j]? = some p → (dig worn.length ws.length x)[j]? = some k → aft (endw worn ((ws.map (·.2)).take j) ((dig worn.length ws.length x).take j)) p.2 k = endw worn ((ws.map (·.2)).take (j + 1)) ((dig worn.length ws.length x).take (j + 1))) := by
    intro j x p k hp hk
    exact endw_take _ _ _ _ j k (by rw [List.getElem?_map, hp]; rfl) hk
  have HDL : Aside (∀ x, (dig worn.length ws.length x).length = ws.length) := dig_length _ _
  have HDK : Aside (∀ x, ∀ k ∈ dig worn.length ws.length x, k < worn.length) := fun x => dig_lt _ _ HLA x
  have HDI : Aside (∀ (x j k : Nat), (dig worn.length ws.length x)[j]? = some k → (digI worn.length ws.length x)[j]? = some (k : Int)) := by
    intro x j k h
    unfold digI; rw [List.getElem?_map, h]; rfl
  have HPL : Aside (planM worn (ws.map (·.2)) = Mw worn (ws.map (·.2)) (bestI (Mw worn (ws.map (·.2))) (worn.length ^ ws.length)) ∧ bestP worn (ws.map (·.2)) = bestI (Mw worn (ws.map (·.2))) (worn.length ^ ws.length)) := by
    unfold planM bestP; rw [HL.out]; exact ⟨rfl, rfl⟩
  rw [HPL.out.1, HPL.out.2]
  have HBL : Aside (∀ x ∈ ws, x.2.length = worn.length ∧ ∀ y ∈ x.2, 0 ≤ y ∧ y ≤ 1000000000) := fun x hx => ⟨hlen x hx, hb2 x hx⟩
  obtain ⟨pw, hpw⟩ : ∃ f : Nat → Nat, f = fun i => worn.length ^ i := ⟨_, rfl⟩
  have HP0 : Aside (pw 0 = 1) := by show _ = _; rw [hpw]; rfl
  have HPP : Aside (∀ i, i < ws.length → IntKind.i64.wrap ((pw i : Int) * (worn.length : Int)) = (pw (i + 1) : Int)) := by
    intro i hi
    have h1 : pw (i + 1) = pw i * worn.length := by
      rw [hpw]
      show worn.length ^ (i + 1) = worn.length ^ i * worn.length
      rw [Nat.pow_succ]
    have h2 : pw (i + 1) ≤ 1000000000 := by rw [hpw]; exact Nat.le_trans (Nat.pow_le_pow_right HLA hi) hall
    have h3 : ((pw i : Int) * (worn.length : Int)) = ((pw (i + 1) : Nat) : Int) := by rw [h1]; push_cast; rfl
    rw [h3]
    exact IntWalk.i64_in _ (by omega)
  have HPA : Aside (worn.length ^ ws.length = pw ws.length) := by show _ = _; rw [hpw]
  have HPB : Aside (1 ≤ pw ws.length ∧ pw ws.length ≤ 1000000000) := by show _ ∧ _; rw [← HPA.out]; exact ⟨Nat.pos_of_ne_zero (by intro e; have := Nat.pow_eq_zero.1 e; omega), hall⟩
  rw [HPA.out]
  clear hpw hall HPA HPL HMX
  obtain ⟨rs, hrs⟩ : ∃ f : Nat → Nat → Nat, f = fun x j => x / worn.length ^ j := ⟨_, rfl⟩
  have HR0 : Aside (∀ x, rs x 0 = x) := by intro x; rw [hrs]; simp
  have HRD : Aside (∀ (x j : Nat), ((rs x j : Int)).tdiv (worn.length : Int) = (rs x (j + 1) : Int)) := by
    intro x j
    rw [hrs, Int.tdiv_eq_ediv_of_nonneg (by omega)]
    simp only []
    rw [Nat.pow_succ, ← Nat.div_div_eq_div_mul]; push_cast; rfl
  have HRM : Aside (∀ (x j : Nat), ((rs x j : Int)).tmod (worn.length : Int) = ((rs x j % worn.length : Nat) : Int)) := by
    intro x j
    rw [Int.tmod_eq_emod_of_nonneg (by omega)]; push_cast; rfl
  have HRL : Aside (∀ (x j : Nat), x < 1000000000 → rs x j < 1000000000) := by
    intro x j h
    rw [hrs]; exact Nat.lt_of_le_of_lt (Nat.div_le_self _ _) h
  have HTS : Aside (∀ (j x q : Nat), ws.length = q + 1 + j → (trI worn.length ws.length j x).set q ((rs x j % worn.length : Nat) : Int) = trI worn.length ws.length (j + 1) x) := by
    intro j x q h
    rw [hrs]; exact trI_succ _ _ _ _ _ h
  have HTL : Aside (∀ (j x : Nat), j ≤ ws.length → (trI worn.length ws.length j x).length = ws.length) := fun j x h => trI_length _ _ _ _ h
  have HT0 : Aside (∀ x, trI worn.length ws.length 0 x = List.replicate ws.length 0) := fun x => trI_zero _ _ x
  have HTA : Aside (∀ x, trI worn.length ws.length ws.length x = digI worn.length ws.length x) := fun x => trI_all _ _ x
  have HIL : Aside (∀ x, (digI worn.length ws.length x).length = ws.length) := fun x => digI_length _ _ x
  clear hrs
  have HWN : Aside (∀ x, endw worn ((ws.map (·.2)).take 0) ((dig worn.length ws.length x).take 0) = worn) := fun x => by rw [List.take_zero]; rfl
  obtain ⟨a2, c2, rfl, l2, hr⟩ := rows_of hs hx
  have HR : Aside (∀ (j : Nat) (x : Value × List Int), ws[j]? = some x → ∃ g off, a2 = some ⟨g, off, none⟩ ∧ w.cell? ⟨g, off + j, none⟩ = some x.1 ∧ Sl w 1 eI x.1 x.2) := hr
  obtain ⟨a, c, rfl, l1, _⟩ := hw
  clear hr hs hx hlen hb1 hb2 HLW HBW hn1
  obtain ⟨E, hE⟩ : ∃ f : Nat → Nat → List Int, f = fun j x => endw worn ((ws.map (·.2)).take j) ((dig worn.length ws.length x).take j) := ⟨_, rfl⟩
  have HEE : Aside (∀ j x, endw worn ((ws.map (·.2)).take j) ((dig worn.length ws.length x).take j) = E j x) := fun j x => by rw [hE]
  clear hE
  simp only [HEE.out] at HE HMM HST HWN
  clear HEE
  generalize Mw worn (ws.map (·.2)) = M at *
  obtain ⟨D, hD⟩ : ∃ f : Nat → List Nat, f = fun x => dig worn.length ws.length x := ⟨_, rfl⟩
  have HDD : Aside (∀ x, dig worn.length ws.length x = D x) := fun x => by rw [hD]
  simp only [HDD.out] at HST HDL HDK HDI
  clear hD HDD
  obtain ⟨n, hn⟩ : ∃ n, worn.length = n := ⟨_, rfl⟩
  obtain ⟨m, hm⟩ : ∃ m, ws.length = m := ⟨_, rfl⟩
  have HNN : Aside (worn.length = n) := hn
  have HMN : Aside (ws.length = m) := hm
  simp only [hn, hm] at HW HE HMM HST HDL HDK HDI HBL HPP HPB HRD HRM HTS HTL HT0 HTA HIL hn2 hm2 l1 l2 HLA ⊢
  clear hn hm HL
  obtain ⟨A, hA⟩ : ∃ A, pw m = A := ⟨_, rfl⟩
  have HPM : Aside (pw m = A) := hA
  rw [hA] at HPB ⊢
  clear hA
  obtain ⟨i0, hi, hz0, hz1, hz2⟩ := info_parts info_int
  have HI : Aside (_ ∧ _ ∧ _) := ⟨hi, hz0, hz1⟩
  have HI2 : Aside (i0.bytes * m ≤ 281474976710656) := by show _ ≤ _; rw [hz2]; omega
  clear hi hz0 hz1 hz2
  have eN : ¬ n = 0 := by omega
  go_enter Tryz.func33, Tryz.ntmps33
  go_wp2_with fail
  have BK : Aside (Below w.heap.size w (w.alloc (.cells #[] 3))) := by show Below _ _ _; (repeat' (first | exact Below.refl _ _ | assumption | (with_reducible refine Below.drew ?_) | (with_reducible refine Below.setCell ?_ (by (first | (simp; done) | (simp; omega))) _) | (with_reducible refine below_drewN' ?_ _) | (refine Below.alloc ?_ (by (try simp only [World.size_alloc, World.size_drew, World.size_setCell]); omega) _) | (refine Below.trans ?_ (Below.mono (by assumption) (by (try simp only [World.size_alloc, World.size_drew, World.size_setCell]); omega)))))
  obtain ⟨W0, hW0⟩ : ∃ W0, W0 = w.alloc (.cells #[] 3) := ⟨_, rfl⟩
  rw [← hW0] at BK ⊢
  clear hW0
  go_loopg [7, 10] m (fun gg al i wr => ∃ k : Nat, k ≤ m ∧ m - k ≤ gg ∧ i = .int .i64 k ∧ al = .int .i64 (pw k) ∧ wr = W0)
  case atStart => exact ⟨0, Nat.zero_le _, by omega, rfl, by rw [HP0.out]; rfl, rfl⟩
  case round =>
    obtain ⟨k, hk, hg, rfl, rfl, rfl⟩ := hrel
    by_cases hlt : k < m
    · have hltz : (k : Int) < (m : Int) := by omega
      have hu := HPP.out k hlt
      go_wp2_with fail
      go_roundg (m - (k + 1))
      case measure => omega
      case rel => exact ⟨k + 1, by omega, by omega, by go_num, by first | rfl | rw [hu], rfl⟩
    · have hke : m = k := by omega
      subst hke
      have hltz : ¬ (m : Int) < (m : Int) := by omega
      rw [HPM.out]
      go_wp2_with fail
      go_loopg [8, 9, 11] A (fun gg s8 s9 s11 wr => ∃ (x : Nat) (vb : Value) (L : Int), x ≤ A ∧ A - x ≤ gg ∧ s11 = .int .i64 x ∧ vb = s8 ∧ s9 = .int .i64 L ∧ Aside (BestR n m M x vb L wr) ∧ Aside (Below w.heap.size w wr))
      case atStart => exact ⟨0, _, _, Nat.zero_le _, by omega, rfl, rfl, rfl, .inl ⟨rfl, rfl⟩, BK⟩
      case round =>
        obtain ⟨x, vb, L, hxA, hgA, rfl, rfl, rfl, HBS, HB⟩ := hrel
        by_cases hlx : x < A
        · have hlxz : (x : Int) < (A : Int) := by omega
          have hx9 : x < 1000000000 := by have := HPB.out; omega
          obtain ⟨wo, rfl⟩ : ∃ W : World, W = wr := ⟨_, rfl⟩
          go_wp2_with (at_make; refine wpList_make_full _ rfl _ _ 24 rfl wo.heap.size 3 i0 (.int .i64 0) 1 Tryz.underlying24 HI.out.1 HI.out.2.1 HI.out.2.2 .i64 .i64 _ _ m rfl rfl rfl rfl HI2.out (by unfold maxLen; omega) (Nat.le_refl _) ?_; intro w1 hown1 hgrow1)
          rw [made_zero, ← HT0.out x] at hown1
          have B1 : Aside (Below wo.heap.size wo w1) := (Below.refl _ wo).grown hgrow1 (Nat.le_refl _) (fun j e => by cases e)
          clear hgrow1
          obtain ⟨gt, hgt⟩ : ∃ g, wo.heap.size = g := ⟨_, rfl⟩
          have HGE : Aside (wo.heap.size ≤ gt) := Nat.le_of_eq hgt
          rw [hgt] at hown1 ⊢
          clear hgt
          go_loopg [13, 15] m (fun gg s13 s15 wr => ∃ (j : Nat) (iv : Int), j ≤ m ∧ m - j ≤ gg ∧ s13 = .int .i64 (rs x j) ∧ s15 = .int .i64 iv ∧ Aside (iv = (m : Int) - 1 - (j : Int)) ∧ Aside (wr.ownsRow gt 3 1 (.slice (some ⟨gt, 0, none⟩) m m) m ((trI n m j x).map (Value.int .i64))) ∧ Aside (Below wo.heap.size wo wr))
          case atStart => exact ⟨0, (m : Int) - 1, Nat.zero_le _, by omega, by rw [HR0.out], by first | rfl | go_num, (show (_ : Int) = _ by omega), hown1, B1⟩
          case round =>
            obtain ⟨j, iv, hj, hgj, rfl, rfl, HIV, HOW, HBQ⟩ := hrel
            by_cases hlj : j < m
            · obtain ⟨q, rfl⟩ : ∃ q : Nat, iv = q := ⟨iv.toNat, by have := HIV.out; omega⟩
              have hqm : m = q + 1 + j := by have := HIV.out; omega
              have hqz : (q : Int) < (m : Int) := by omega
              have hq0 : (0 : Int) ≤ (q : Int) := by omega
              have HTJ : Aside _ := HTS.out j x q hqm
              have HTK : Aside _ := HTL.out j x hj
              have eD := HRD.out x j
              have eM := HRM.out x j
              have k1 := HOW.out.cellAt q (by omega)
              obtain ⟨u, hu⟩ : ∃ u, ((trI n m j x).map (Value.int .i64))[q]? = some u := ⟨_, List.getElem?_eq_getElem (by rw [List.length_map, HTK.out]; omega)⟩
              rw [hu] at k1
              have k2 := HOW.out.frozenAt q
              have HSTO : Aside (∀ W : World, W.ownsRow gt 3 1 (.slice (some ⟨gt, 0, none⟩) m m) m ((trI n m j x).map (Value.int .i64)) → (W.setCell ⟨gt, q, none⟩ (.int .i64 ((rs x j % n : Nat) : Int))).ownsRow gt 3 1 (.slice (some ⟨gt, 0, none⟩) m m) m ((trI n m (j + 1) x).map (Value.int .i64))) := by
                intro W h
                have HO := h.stored q (.int .i64 ((rs x j % n : Nat) : Int))
                rw [← List.map_set, HTJ.out] at HO
                exact HO.1
              have HQM : Aside (m = q + 1 + j) := hqm
              clear hu HTJ HTK hqm HIV hown1
              generalize rs x j % n = dgt at *
              obtain ⟨rx1, hrx1⟩ : ∃ z, rs x (j + 1) = z := ⟨_, rfl⟩
              have HRX : Aside (rs x (j + 1) = rx1) := hrx1
              have hrb : rx1 < 1000000000 := by have := HRL.out x (j + 1) hx9; have := HRX.out; omega
              rw [hrx1] at eD
              clear hrx1
              generalize rs x j = rx at *
              go_upto_region 13 with (fail)
              go_region
              all_goals
                go_wp2_with fail
                go_roundg (m - (j + 1))
                case measure => omega
                case rel => exact ⟨j + 1, (q : Int) - 1, by omega, by omega, (by rw [HRX.out]; (try rw [IntWalk.wrap64_in _ ⟨by omega, by omega⟩])), by go_num, (show (_ : Int) = _ by have := HQM.out; omega), HSTO.out _ HOW.out, (HBQ.out.setCell (p := ⟨gt, q, none⟩) HGE.out _).drew⟩
            · have hjm : j = m := by omega
              subst hjm
              have hiv : ¬ (0 : Int) ≤ iv := by have := HIV.out; omega
              have HTU : Aside (Sl wr 1 eI (.slice (some ⟨gt, 0, none⟩) j j) (digI n j x)) := by
                have := HOW.out
                rw [HTA.out x] at this
                exact sl_of_own2 (by rw [HIL.out]; omega) this (by rw [HIL.out])
              have BW : Aside (Below w.heap.size w wr) := HB.out.trans (HBQ.out.mono HB.out.size)
              have HBS2 : Aside (BestR n j M x vb L wr) := HBS.out.below HBQ.out
              have HWQ : Aside (Sl wr 1 eI (.slice a n c) (E 0 x)) := by show Sl _ _ _ _ _; rw [HWN.out x]; exact HW.out.below BW.out
              clear HOW HBQ HIV B1 hown1 HGE HBS HB hgj hj
              go_wp2_with fail
              obtain ⟨W3, rfl⟩ : ∃ W3 : World, W3 = wr := ⟨_, rfl⟩
              go_loopg [14, 16] j (fun gg s14 s16 wr => ∃ (iz : Nat) (vn : Value), iz ≤ j ∧ j - iz ≤ gg ∧ vn = s14 ∧ s16 = .int .i64 iz ∧ Aside (Sl wr 1 eI vn (E iz x)) ∧ Aside (Below W3.heap.size W3 wr))
              case atStart => exact ⟨0, _, Nat.zero_le _, by omega, rfl, rfl, HWQ, Below.refl _ _⟩
              case round =>
                obtain ⟨iz, vn, hi, hgi, rfl, rfl, HVN, HBZ⟩ := hrel
                by_cases hli : iz < j
                · have hliz : (iz : Int) < (j : Int) := by omega
                  obtain ⟨p, hp⟩ : ∃ p, ws[iz]? = some p := ⟨_, List.getElem?_eq_getElem (by rw [HMN.out]; exact hli)⟩
                  obtain ⟨kd, hkd⟩ : ∃ k, (D x)[iz]? = some k := ⟨_, List.getElem?_eq_getElem (by rw [HDL.out]; exact hli)⟩
                  have HKN : Aside (kd < n) := HDK.out x kd (List.mem_of_getElem? hkd)
                  obtain ⟨g', off, rfl, c0, hsp⟩ := HR.out iz p hp
                  have c0 := keepc HBZ.out (keepc BW.out c0)
                  have HSP : Aside (Sl wr 1 eI p.1 p.2) := (hsp.below BW.out).below HBZ.out
                  have ct : wr.cell? ⟨gt, iz, none⟩ = some (.int .i64 kd) := by
                    obtain ⟨aa, cc, ee, _, hh⟩ := HTU.out
                    obtain ⟨b', o', ha, _, hcc⟩ := hh (by intro e; have := HIL.out x; rw [e] at this; simp at this; omega)
                    rw [ha] at ee
                    simp only [Value.slice.injEq, Option.some.injEq, Addr.mk.injEq] at ee
                    obtain ⟨⟨rfl, rfl, _⟩, _⟩ := ee
                    have := hcc iz (kd : Int) (HDI.out x iz kd hkd) 0 _ rfl
                    rw [Nat.mul_one, Nat.add_zero, Nat.zero_add] at this
                    exact keepc HBZ.out this
                  have HBLP : Aside _ := HBL.out p (List.mem_of_getElem? hp)
                  have HCW : Aside (∀ W, Below wr.heap.size wr W → Calls Tryz.prog 31 #[vn, p.1, .int .i64 kd] W (SlV (E (iz + 1) x) W)) := by
                    intro W hW
                    have hE := HE.out iz x
                    have := rWear_any vn p.1 (E iz x) p.2 kd W (HVN.out.below hW) (HSP.out.below hW) (by rw [hE.1, HBLP.out.1]) (by rw [hE.1]; exact HKN.out) (by rw [hE.1]; omega) (fun y hy => by have := hE.2 y hy; omega) (fun y hy => by have := HBLP.out.2 y hy; omega)
                    rw [HST.out iz x p kd hp hkd] at this
                    exact this
                  clear hp hkd hsp HVN HSP HBLP HKN
                  obtain ⟨pv, pl⟩ := p
                  simp only [] at c0 HCW
                  obtain ⟨ER, hER⟩ : ∃ l, E (iz + 1) x = l := ⟨_, rfl⟩
                  have HER : Aside (E (iz + 1) x = ER) := hER
                  rw [hER] at HCW
                  clear hER
                  go_upto_region 17 with (fail)
                  refine region_laidC (fl := 12) [true, true, true, true, true, true, true, true, true, true, true] 0 (fun (i : Nat) (x : Value) (ww : World) => (match i with | 0 => x = vn | 1 => x = .slice (some ⟨g', off, none⟩) j c2 | 2 => x = .int .i64 iz | 3 => x = .pointer (some ⟨g', off + iz, none⟩) | 4 => x = pv | 5 => x = .slice (some ⟨gt, 0, none⟩) j j | 6 => x = .int .i64 iz | 7 => x = .pointer (some ⟨gt, iz, none⟩) | 8 => x = .int .i64 kd | 9 => Sl ww 1 eI x ER | 10 => Sl ww 1 eI x ER | _ => True : Prop)) (fun w' => Below wr.heap.size wr w') (by kernel_rfl) rfl (by show layableC _ 85 _ 12 = true; decide +kernel) rfl ((Below.refl _ _).drew) ?mono17 ?step17 ?rest17
                  case mono17 =>
                    intro i x ww ww' hB h
                    match i, h with
                    | 0, h => exact h
                    | 1, h => exact h
                    | 2, h => exact h
                    | 3, h => exact h
                    | 4, h => exact h
                    | 5, h => exact h
                    | 6, h => exact h
                    | 7, h => exact h
                    | 8, h => exact h
                    | 9, h => exact Sl.below h hB
                    | 10, h => exact Sl.below h hB
                    | n + 11, h => exact h
                  case step17 =>
                    intro i o_ listed ac W hA ho hL he hcl hli hsz
                    have hk1 : ac.tmps.getD 1 undef = .slice (some ⟨g', off, none⟩) j c2 := hL.kept 1 (by decide +kernel)
                    have hk12 : ac.tmps.getD 12 undef = .slice (some ⟨gt, 0, none⟩) j j := hL.kept 12 (by decide +kernel)
                    have hk16 : ac.tmps.getD 16 undef = .int .i64 iz := hL.kept 16 (by decide +kernel)
                    have CL : ∀ W', Below W.heap.size W W' → Below wr.heap.size wr W' := fun W' h => hL.cls.trans (h.mono hL.cls.size)
                    have k_c0 := keepc hL.cls c0
                    have k_ct := keepc hL.cls ct
                    match i, hA, ho with
                    | 0, _, ho =>
                      cases ho
                      have hk14 : ac.tmps.getD 14 undef = vn := hL.kept3 hcl hsz 14 0 10 12 hli (by decide +kernel) (by decide +kernel)
                      refine wpOp_plain rfl rfl ?_
                      unfold Oper.wp
                      go_simp
                      exact ⟨_, rfl, Below.refl _ _, CL _ (Below.refl _ _), rfl⟩
                    | 1, _, ho =>
                      cases ho
                      refine wpOp_plain rfl rfl ?_
                      unfold Oper.wp
                      go_simp
                      exact ⟨_, rfl, Below.refl _ _, CL _ (Below.refl _ _), rfl⟩
                    | 2, _, ho =>
                      cases ho
                      refine wpOp_plain rfl rfl ?_
                      unfold Oper.wp
                      go_simp
                      exact ⟨_, rfl, Below.refl _ _, CL _ (Below.refl _ _), rfl⟩
                    | 3, _, ho =>
                      cases ho
                      have d1 : ac.tmps.getD 63 undef = .slice (some ⟨g', off, none⟩) j c2 := hL.new 1 _ 63 rfl (he ⟨1, .data⟩ (by simp) rfl) rfl
                      have d2 : ac.tmps.getD 64 undef = .int .i64 iz := hL.new 2 _ 64 rfl (he ⟨2, .data⟩ (by simp) rfl) rfl
                      refine wpOp_plain rfl rfl ?_
                      unfold Oper.wp
                      go_simp
                      exact ⟨_, rfl, Below.refl _ _, CL _ (Below.refl _ _), rfl⟩
                    | 4, _, ho =>
                      cases ho
                      have d3 : ac.tmps.getD 65 undef = .pointer (some ⟨g', off + iz, none⟩) := hL.new 3 _ 65 rfl (he ⟨3, .data⟩ (by simp) rfl) rfl
                      refine wpOp_plain rfl rfl ?_
                      unfold Oper.wp
                      go_simp
                      exact ⟨_, rfl, Below.refl _ _, CL _ (Below.refl _ _), rfl⟩
                    | 5, _, ho =>
                      cases ho
                      refine wpOp_plain rfl rfl ?_
                      unfold Oper.wp
                      go_simp
                      exact ⟨_, rfl, Below.refl _ _, CL _ (Below.refl _ _), rfl⟩
                    | 6, _, ho =>
                      cases ho
                      refine wpOp_plain rfl rfl ?_
                      unfold Oper.wp
                      go_simp
                      exact ⟨_, rfl, Below.refl _ _, CL _ (Below.refl _ _), rfl⟩
                    | 7, _, ho =>
                      cases ho
                      have d5 : ac.tmps.getD 67 undef = .slice (some ⟨gt, 0, none⟩) j j := hL.new 5 _ 67 rfl (he ⟨5, .data⟩ (by simp) rfl) rfl
                      have d6 : ac.tmps.getD 68 undef = .int .i64 iz := hL.new 6 _ 68 rfl (he ⟨6, .data⟩ (by simp) rfl) rfl
                      refine wpOp_plain rfl rfl ?_
                      unfold Oper.wp
                      go_simp
                      exact ⟨_, rfl, Below.refl _ _, CL _ (Below.refl _ _), rfl⟩
                    | 8, _, ho =>
                      cases ho
                      have d7 : ac.tmps.getD 69 undef = .pointer (some ⟨gt, iz, none⟩) := hL.new 7 _ 69 rfl (he ⟨7, .data⟩ (by simp) rfl) rfl
                      refine wpOp_plain rfl rfl ?_
                      unfold Oper.wp
                      go_simp
                      exact ⟨_, rfl, Below.refl _ _, CL _ (Below.refl _ _), rfl⟩
                    | 9, _, ho =>
                      cases ho
                      have d0 : ac.tmps.getD 62 undef = vn := hL.new 0 _ 62 rfl (he ⟨0, .data⟩ (by simp) rfl) rfl
                      have d4 : ac.tmps.getD 66 undef = pv := hL.new 4 _ 66 rfl (he ⟨4, .data⟩ (by simp) rfl) rfl
                      have d8 : ac.tmps.getD 70 undef = .int .i64 kd := hL.new 8 _ 70 rfl (he ⟨8, .data⟩ (by simp) rfl) rfl
                      have x := HCW.out W hL.cls
                      refine wpOp_plain rfl rfl ?_
                      unfold Oper.wp
                      go_simp
                      refine x.mono ?_
                      rintro e w' ⟨v', rfl, hs, hBn⟩
                      exact ⟨_, rfl, hBn, CL _ hBn, hs⟩
                    | 10, _, ho =>
                      cases ho
                      obtain ⟨x9, hx9⟩ : ∃ x, ac.tmps.getD 71 undef = x := ⟨_, rfl⟩
                      have d9 := hL.new 9 _ 71 rfl (he ⟨9, .data⟩ (by simp) rfl) rfl
                      rw [hx9] at d9
                      refine wpOp_plain rfl rfl ?_
                      unfold Oper.wp
                      go_simp
                      exact ⟨_, rfl, Below.refl _ _, CL _ (Below.refl _ _), d9⟩
                    | n + 11, hA, _ => simp at hA
                  case rest17 =>
                    intro ac W17 hL
                    have e62 : ac.tmps.getD 62 undef = vn := hL.new 0 _ 62 rfl rfl rfl
                    have e63 : ac.tmps.getD 63 undef = .slice (some ⟨g', off, none⟩) j c2 := hL.new 1 _ 63 rfl rfl rfl
                    have e64 : ac.tmps.getD 64 undef = .int .i64 iz := hL.new 2 _ 64 rfl rfl rfl
                    have e65 : ac.tmps.getD 65 undef = .pointer (some ⟨g', off + iz, none⟩) := hL.new 3 _ 65 rfl rfl rfl
                    have e66 : ac.tmps.getD 66 undef = pv := hL.new 4 _ 66 rfl rfl rfl
                    have e67 : ac.tmps.getD 67 undef = .slice (some ⟨gt, 0, none⟩) j j := hL.new 5 _ 67 rfl rfl rfl
                    have e68 : ac.tmps.getD 68 undef = .int .i64 iz := hL.new 6 _ 68 rfl rfl rfl
                    have e69 : ac.tmps.getD 69 undef = .pointer (some ⟨gt, iz, none⟩) := hL.new 7 _ 69 rfl rfl rfl
                    have e70 : ac.tmps.getD 70 undef = .int .i64 kd := hL.new 8 _ 70 rfl rfl rfl
                    obtain ⟨y71, e71⟩ : ∃ x, ac.tmps.getD 71 undef = x := ⟨_, rfl⟩
                    have hn14 := hL.new 10 _ 14 rfl rfl rfl
                    obtain ⟨v14, e14⟩ : ∃ x, ac.tmps.getD 14 undef = x := ⟨_, rfl⟩
                    rw [e14] at hn14
                    have Hv14 : Aside (Sl W17 1 eI v14 ER) := hn14
                    clear hn14
                    have es := hL.sets [62, 63, 64, 65, 66, 67, 68, 69, 70, 71, 14] (by decide +kernel)
                    rw [List.foldl_cons, List.foldl_cons, List.foldl_cons, List.foldl_cons, List.foldl_cons, List.foldl_cons, List.foldl_cons, List.foldl_cons, List.foldl_cons, List.foldl_cons, List.foldl_cons, List.foldl_nil, e62, e63, e64, e65, e66, e67, e68, e69, e70, e71, e14] at es
                    have BN : Below wr.heap.size wr W17 := hL.cls
                    rw [es]
                    clear es hL e62 e63 e64 e65 e66 e67 e68 e69 e70 e71 e14
                    refine wpAny_done (by decide +kernel) ?_ _
                    simp only [List.setIfInBounds_toArray, List.set_cons_zero, List.set_cons_succ]
                    go_wp2_with fail
                    go_roundg (j - (iz + 1))
                    case measure => omega
                    case rel => exact ⟨iz + 1, v14, by omega, by omega, rfl, by go_num, (show Sl _ _ _ _ _ from by rw [HER.out]; exact Hv14.out), HBZ.out.trans (BN.mono HBZ.out.size)⟩
                · have hij : iz = j := by omega
                  subst hij
                  have hliz : ¬ (iz : Int) < (iz : Int) := by omega
                  have HM0 : Aside (∀ W, Sl W 1 eI vn (E iz x) → Calls Tryz.prog 32 #[vn] W (Ret (.int .i64 (M x)) W)) := by
                    intro W h
                    have := rMost_any vn (E iz x) W h (by intro e; have h := (HE.out iz x).1; rw [e] at h; simp at h; omega)
                    rw [HMM.out] at this
                    exact this
                  have HMM0 := HM0.out wr HVN.out
                  have HTU2 : Aside (Sl wr 1 eI (.slice (some ⟨gt, 0, none⟩) iz iz) (digI n iz x)) := HTU.out.below HBZ.out
                  have HBS3 : Aside (BestR n iz M x vb L wr) := HBS2.out.below HBZ.out
                  have BZ : Aside (Below w.heap.size w wr) := BW.out.trans (HBZ.out.mono BW.out.size)
                  have HMX0 : Aside (M x = M x) := rfl
                  obtain ⟨mz, hmz⟩ : ∃ z, M x = z := ⟨_, rfl⟩
                  have HMZ : Aside (M x = mz) := hmz
                  rw [hmz] at HMM0
                  clear hmz HM0 HVN HTU HBS2 BW HBZ HMX0
                  by_cases b1 : L < 0
                  · go_wp2_with (go_at_call 32; (with_reducible refine HMM0.mono ?_); rintro e w5 ⟨rfl, hb5⟩)
                    have HNW : Aside (BestR n iz M (x + 1) (.slice (some ⟨gt, 0, none⟩) iz iz) mz w5) := by
                      have := (HBS3.out.below hb5).new (.inl b1) (fun _ => HN.out _) (HTU2.out.below hb5)
                      rw [HMZ.out] at this; exact this
                    go_roundg (A - (x + 1))
                    case measure => omega
                    case rel => exact ⟨x + 1, _, _, by omega, by omega, by go_num, rfl, rfl, HNW, BZ.out.trans (hb5.mono BZ.out.size)⟩
                  · by_cases b2 : mz < L
                    · go_wp2_with (go_at_call 32; (with_reducible refine HMM0.mono ?_); rintro e w5 ⟨rfl, hb5⟩)
                      have HNW : Aside (BestR n iz M (x + 1) (.slice (some ⟨gt, 0, none⟩) iz iz) mz w5) := by
                        have := (HBS3.out.below hb5).new (.inr (by rw [HMZ.out]; exact b2)) (fun _ => HN.out _) (HTU2.out.below hb5)
                        rw [HMZ.out] at this; exact this
                      go_roundg (A - (x + 1))
                      case measure => omega
                      case rel => exact ⟨x + 1, _, _, by omega, by omega, by go_num, rfl, rfl, HNW, BZ.out.trans (hb5.mono BZ.out.size)⟩
                    · go_wp2_with (go_at_call 32; (with_reducible refine HMM0.mono ?_); rintro e w5 ⟨rfl, hb5⟩)
                      have HNW : Aside (BestR n iz M (x + 1) vb L w5) := (HBS3.out.below hb5).old (by omega) (by rw [HMZ.out]; omega)
                      go_roundg (A - (x + 1))
                      case measure => omega
                      case rel => exact ⟨x + 1, _, _, by omega, by omega, by go_num, rfl, rfl, HNW, BZ.out.trans (hb5.mono BZ.out.size)⟩
        · have hxe : x = A := by omega
          subst hxe
          have hlxz : ¬ (x : Int) < (x : Int) := by omega
          rcases HBS.out with ⟨h0, _⟩ | ⟨_, h2, h3⟩
          · exact absurd h0 (by have := HPB.out; omega)
          · have H3 : Aside _ := h3
            have H2 : Aside (L = M (bestI M x)) := h2
            clear h2 h3
            go_wp2_with fail
            go_ret2
            exact ⟨vb, congrArg (fun z => Ending.returned (.tuple #[vb, .int .i64 z])) H2.out, H3.out, HB.out⟩
end Go.Proofs.YtgceffpkhmjmkaaGreat
