/- Leg, part Db: the walk of LegBull. -/
import Derived.Test.YthcgbceapabikaaDa
import Derived.Test.YthcgbceapabikaaCf
set_option linter.unusedVariables false
set_option linter.unusedSimpArgs false
namespace Go.Proofs.Ythcgbceapabikaa
open Go.RowKit Go.Maps Go.Sort Go.Shelf Go.Deep

def eW (x : Int) : List Value := [.int .u16 x]
theorem owns_rowB {α : Type} {w : World} {base : Nat} {e : TypeId} {k : Nat} {enc : α → List Value} {xs : List α} {v : Value} (hk : ∀ x, (enc x).length = k) (hl : xs.length ≤ 9223372036854775807) (hne : xs ≠ []) (h : w.ownsRow base e k v xs.length ((xs.map enc).flatten)) : RowB w k enc e v xs := by
  have hp := List.length_pos_iff.2 hne
  rcases h.2 with ⟨_, h0⟩ | ⟨g, cap, cur, rfl, hb, hg, h1, h2, h3, h4⟩
  · omega
  · refine ⟨g, cap, cur, rfl, hl, hg, fun j y hj i u hu => ?_⟩
    have hf := flat_get enc k hk xs j y i u hj hu
    rw [← h4] at hf
    rw [List.getElem?_take] at hf
    split at hf
    · simpa using hf
    · cases hf
theorem sl_row1 (W : World) (k : Nat) (hk : k = W.heap.size) (T : TypeId) (u : Value) (ds : List (Int × Int)) : Sl (W.alloc (.cells #[u] T)) 1 eRow (.slice (some ⟨k, 0, none⟩) 1 1) [(u, ds)] := by
  subst hk
  refine ⟨_, 1, rfl, by simp, fun _ => ⟨_, _, rfl, by simp, ?_⟩⟩
  intro j z hz i v hv
  match i, hv with
  | 0, hv =>
    simp [eRow] at hv; subst hv
    match j, hz with
    | 0, hz => simp at hz; subst hz; go_simp
  | i + 1, hv => simp [eRow] at hv
theorem sl_row2 (W : World) (k : Nat) (hk : k = W.heap.size) (T : TypeId) (u u2 : Value) (ds es : List (Int × Int)) : Sl (W.alloc (.cells #[u, u2] T)) 1 eRow (.slice (some ⟨k, 0, none⟩) 2 2) [(u, ds), (u2, es)] := by
  subst hk
  refine ⟨_, 2, rfl, by simp, fun _ => ⟨_, _, rfl, by simp, ?_⟩⟩
  intro j z hz i v hv
  match i, hv with
  | 0, hv =>
    simp [eRow] at hv; subst hv
    match j, hz with
    | 0, hz => simp at hz; subst hz; go_simp
    | 1, hz => simp at hz; subst hz; go_simp
  | i + 1, hv => simp [eRow] at hv
theorem off_n1 (ds : List (Int × Int)) : offF 1 [ds] = (0, 33) := rfl
theorem off_n0 : offF 1 [] = (0, 0) := rfl
/-- The beds and distances of darts by numbers. -/
def FLc (xs : List Int) (k : Nat) : List Value := (((xs.take k).map dartF).map encP).flatten
theorem FLc_succ {xs : List Int} {k : Nat} {x : Int} (h : xs[k]? = some x) : FLc xs (k + 1) = FLc xs k ++ [.int .i64 (dartF x).1, .int .i64 (dartF x).2] := by
  unfold FLc
  rw [take_snoc' h, List.map_append, List.map_append, List.flatten_append]; rfl
theorem FLc_len (xs : List Int) (k : Nat) (h : k ≤ xs.length) : ((xs.take k).map dartF).length = k := by simp; omega
theorem darts_ok (xs : List Int) : ∀ d ∈ xs.map dartF, offOk d = true := by
  intro d hd
  obtain ⟨x, _, rfl⟩ := List.mem_map.1 hd
  exact dart_ok x
theorem darts_bd (xs : List Int) : ∀ d ∈ xs.map dartF, ((-9223372036854775808 ≤ d.1 ∧ d.1 ≤ 9223372036854775807) ∧ -9223372036854775808 ≤ d.2 ∧ d.2 ≤ 9223372036854775807) ∧ 0 ≤ d.2 ∧ d.2 ≤ 10000 := by
  intro d hd
  obtain ⟨x, _, rfl⟩ := List.mem_map.1 hd
  exact dart_bd x

set_option maxRecDepth 100000 in
set_option maxHeartbeats 4000000 in
theorem bull_few (v1 v2 : Value) (xs : List Int) (w : World) (h1 : Sl w 1 eW v1 xs) (hn : xs.length < 1 ∨ 8 < xs.length) : Calls Try.prog 12 #[v1, v2] w (Ret (.bool true) w) := by
  have HK := fun W => known_any W
  obtain ⟨a, cp, rfl, hl, _⟩ := h1
  obtain ⟨n, hnn⟩ : ∃ n, xs.length = n := ⟨_, rfl⟩
  rw [hnn] at hl hn ⊢
  clear hnn
  by_cases h0 : n < 1
  · have hz : (n : Int) < 1 := by omega
    go_enter Try.func12, Try.ntmps12
    go_wp2_with fail
    refine (HK _).mono ?_
    rintro e w1 ⟨rfl, hb1⟩
    go_wp2
    go_ret
    exact ⟨rfl, by (repeat' (first | exact Below.refl _ _ | assumption | (with_reducible refine Below.drew ?_) | (with_reducible refine Below.setCell ?_ (by (first | (simp; done) | (simp; omega))) _) | (with_reducible refine below_drewN' ?_ _) | (refine Below.alloc ?_ (by (try simp only [World.size_alloc, World.size_drew, World.size_setCell]); omega) _) | (refine Below.trans ?_ (Below.mono (by assumption) (by (try simp only [World.size_alloc, World.size_drew, World.size_setCell]); omega)))))⟩
  · have hz : ¬ (n : Int) < 1 := by omega
    have hz2 : (8 : Int) < (n : Int) := by omega
    go_enter Try.func12, Try.ntmps12
    go_wp2_with fail
    refine (HK _).mono ?_
    rintro e w1 ⟨rfl, hb1⟩
    go_wp2
    go_ret
    exact ⟨rfl, by (repeat' (first | exact Below.refl _ _ | assumption | (with_reducible refine Below.drew ?_) | (with_reducible refine Below.setCell ?_ (by (first | (simp; done) | (simp; omega))) _) | (with_reducible refine below_drewN' ?_ _) | (refine Below.alloc ?_ (by (try simp only [World.size_alloc, World.size_drew, World.size_setCell]); omega) _) | (refine Below.trans ?_ (Below.mono (by assumption) (by (try simp only [World.size_alloc, World.size_drew, World.size_setCell]); omega)))))⟩

set_option maxRecDepth 100000 in
set_option maxHeartbeats 16000000 in
theorem bull_law (v1 v2 : Value) (xs ss : List Int) (w : World) (h1 : Sl w 1 eW v1 xs) (h2 : Sl w 1 eW v2 ss) (b1 : ∀ x ∈ xs, 0 ≤ x ∧ x ≤ 65535) (b2 : ∀ x ∈ ss, 0 ≤ x ∧ x ≤ 65535) :
    Calls Try.prog 12 #[v1, v2] w (Ret (.bool true) w) := by
  by_cases hfew : xs.length < 1 ∨ 8 < xs.length
  · exact bull_few v1 v2 xs w h1 hfew
  obtain ⟨j0, hj0, jz0, jz1, jz2⟩ := info_parts info_off
  obtain ⟨i0, hi0, iz0, iz1, iz2⟩ := info_parts info_int
  have HK : Aside (∀ W, Calls Try.prog 13 #[] W (Ret (.bool true) W)) := fun W => known_any W
  have X1 : Aside (∀ (k : Int) W v' (rows' : List (Value × List (Int × Int))), Sl W 1 eRow v' rows' → (∀ x ∈ rows', Sl W 2 encP x.1 x.2) → (∀ x ∈ rows', ∃ zs : List Int, x.2 = zs.map dartF) → Calls Try.prog 29 #[.int .i64 k, v'] W (Ret (.tuple #[.int .i64 (offF k (rows'.map (·.2))).1, .int .i64 (offF k (rows'.map (·.2))).2]) W)) := by
    intro k W v' rows' h1 h2 h3
    refine Off_any k v' rows' W h1 h2 ?_
    intro x hx d hd
    obtain ⟨zs, hz⟩ := h3 x hx
    rw [hz] at hd
    exact (darts_bd zs d hd).1
  have YD : Aside (∀ x W, 0 ≤ x → x ≤ 65535 → Calls Try.prog 35 #[.int .u16 x] W (Ret (.agg #[.int .i64 (dartF x).1, .int .i64 (dartF x).2]) W)) := fun x W h0 h1 => dart_any x W h0 h1
  have YC : Aside (∀ d W, 0 ≤ d.2 → d.2 ≤ 10000 → Calls Try.prog 36 #[.agg #[.int .i64 d.1, .int .i64 d.2]] W (Ret (.int .i64 (distF d + 2)) W)) := fun d W h0 h1 => class_any d W h0 h1
  obtain ⟨a, cp, rfl, hl, hs1⟩ := h1
  obtain ⟨a', cp', rfl, hl', hs2⟩ := h2
  obtain ⟨n, hn⟩ : ∃ n, xs.length = n := ⟨_, rfl⟩
  obtain ⟨s, hs⟩ : ∃ s, ss.length = s := ⟨_, rfl⟩
  have HN : Aside (xs.length = n) := hn
  have HM : Aside (ss.length = s) := hs
  have HS1 : Aside (xs ≠ [] → ∃ b off, a = some ⟨b, off, none⟩ ∧ b < w.heap.size ∧ ∀ j x, xs[j]? = some x → ∀ i y, (eW x)[i]? = some y → w.cell? ⟨b, off + j * 1 + i, none⟩ = some y) := hs1
  have HS2 : Aside (ss ≠ [] → ∃ b off, a' = some ⟨b, off, none⟩ ∧ b < w.heap.size ∧ ∀ j x, ss[j]? = some x → ∀ i y, (eW x)[i]? = some y → w.cell? ⟨b, off + j * 1 + i, none⟩ = some y) := hs2
  have HBD : Aside ((∀ x ∈ xs, 0 ≤ x ∧ x ≤ 65535) ∧ ∀ x ∈ ss, 0 ≤ x ∧ x ≤ 65535) := ⟨b1, b2⟩
  rw [hn] at hl hfew ⊢
  rw [hs] at hl' ⊢
  have hn1 : 1 ≤ n := by omega
  have hn8 : n ≤ 8 := by omega
  clear hs1 hs2 b1 b2 hn hs hfew
  have hz1 : ¬ (n : Int) < 1 := by omega
  have hz8 : ¬ (8 : Int) < (n : Int) := by omega
  have HDL : Aside ((xs.map dartF).length = n) := by show _ = _; rw [List.length_map]; exact HN.out
  have HNE : Aside (xs.map dartF ≠ []) := by
    intro e
    have := HDL.out
    rw [e] at this
    simp at this
    omega
  go_enter Try.func12, Try.ntmps12
  go_wp2_with fail
  obtain ⟨wa, hwa⟩ : ∃ u, u = (w.alloc (.cells #[] 91)).alloc (.cells #[] 3) := ⟨_, rfl⟩
  have HO : Aside (wa.ownsRow w.heap.size 91 2 (.slice (some ⟨w.heap.size, 0, none⟩) 0 0) 0 []) := by rw [hwa]; exact (owns_empty w _ 2).alloc _
  have BA : Aside ((Below w.heap.size w wa ∧ w.heap.size ≤ wa.heap.size) ∧ wa.heap[w.heap.size + 1]? = some (.cells #[] 3 (0, 0))) := by
    rw [hwa]
    exact ⟨⟨by (repeat' (first | exact Below.refl _ _ | assumption | (with_reducible refine Below.drew ?_) | (with_reducible refine Below.setCell ?_ (by (first | (simp; done) | (simp; omega))) _) | (with_reducible refine below_drewN' ?_ _) | (refine Below.alloc ?_ (by (try simp only [World.size_alloc, World.size_drew, World.size_setCell]); omega) _) | (refine Below.trans ?_ (Below.mono (by assumption) (by (try simp only [World.size_alloc, World.size_drew, World.size_setCell]); omega))))), by simp; omega⟩, World.alloc_heap_new' _ _ _ (by simp)⟩
  rw [← hwa]
  clear hwa
  go_loopg [8, 10] n (fun gg v i wr => ∃ k : Nat, k ≤ n ∧ n - k ≤ gg ∧ i = .int .i64 k ∧ wr.ownsRow w.heap.size 91 2 v k (FLc xs k) ∧ Aside ((Below w.heap.size w wr ∧ w.heap.size ≤ wr.heap.size) ∧ wr.heap[w.heap.size + 1]? = some (.cells #[] 3 (0, 0))))
  case atStart => exact ⟨0, Nat.zero_le _, by omega, rfl, HO.out, BA.out⟩
  case round =>
    clear HO BA
    obtain ⟨k, hk, hg, rfl, hown, HA⟩ := hrel
    by_cases hlt : k < n
    · have hltz : (k : Int) < (n : Int) := by omega
      obtain ⟨x, hx⟩ : ∃ x, xs[k]? = some x := ⟨_, List.getElem?_eq_getElem (by rw [HN.out]; exact hlt)⟩
      obtain ⟨B, off, rfl, hBlt, hcl⟩ := HS1.out (by intro e; rw [e] at hx; simp at hx)
      have kx : wr.cell? ⟨B, off + k, none⟩ = some (.int .u16 x) := keepc HA.out.1.1 (by have := hcl k x hx 0 (.int .u16 x) rfl; simpa using this)
      have hxb := HBD.out.1 x (List.mem_of_getElem? hx)
      have yd := fun W => YD.out x W hxb.1 hxb.2
      have HFL : Aside (FLc xs (k + 1) = FLc xs k ++ [.int .i64 (dartF x).1, .int .i64 (dartF x).2]) := FLc_succ hx
      generalize FLc xs k = L at *
      obtain ⟨d1, hd1⟩ : ∃ y, (dartF x).1 = y := ⟨_, rfl⟩
      obtain ⟨d2, hd2⟩ : ∃ y, (dartF x).2 = y := ⟨_, rfl⟩
      rw [hd1, hd2] at HFL
      simp only [hd1, hd2] at yd
      clear hcl hx hxb hd1 hd2
      go_wp2_with fail
      refine (yd _).mono ?_
      rintro e w2 ⟨rfl, hb2⟩
      have hown2 := ownsRow_below hown hb2
      have A2 : Aside ((Below w.heap.size w w2 ∧ w.heap.size ≤ w2.heap.size) ∧ w2.heap[w.heap.size + 1]? = some (.cells #[] 3 (0, 0))) := ⟨⟨HA.out.1.1.trans (hb2.mono HA.out.1.2), Nat.le_trans HA.out.1.2 hb2.size⟩, (hb2.block _ (Array.getElem?_eq_some_iff.1 HA.out.2).1).trans HA.out.2⟩
      clear hb2 hown HA yd kx
      go_wp2_with (at_builtin; refine wpList_append_own _ rfl _ _ 63 rfl w.heap.size 91 j0 (.agg #[.int .i64 0, .int .i64 0]) 2 16 Try.underlying63 hj0 jz0 jz1 jz2 rfl (by decide) _ _ _ rfl (hown2.alloc _) ⟨w2.heap.size, 0, none⟩ 1 1 [.int .i64 d1, .int .i64 d2] rfl rfl (by intro j u h; match j, h with | 0, h => (simp at h; subst h; go_simp) | 1, h => (simp at h; subst h; go_simp) | j + 2, h => simp at h) (by intro u hu; simp at hu; rcases hu with rfl | rfl <;> rfl) (by unfold maxLen; omega) (by omega) (by have := A2.out.1.2; simp; omega) ?_; intro v' w3 hown3 hgrow3 hnil3)
      go_roundg (n - (k + 1))
      case measure => omega
      case rel =>
        refine ⟨k + 1, by omega, by omega, by go_num, by rw [HFL.out]; exact hown3, ⟨⟨(A2.out.1.1.alloc A2.out.1.2 _).grown hgrow3 (by have := A2.out.1.2; simp; omega) (fun j hj => (hown2.lt j hj).1), by have h8 := hgrow3.size; have h7 := A2.out.1.2; rw [World.size_alloc] at h8; omega⟩, ?_⟩⟩
        have hb3 : (w2.alloc (.cells #[.int .i64 d1, .int .i64 d2] 91)).heap[w.heap.size + 1]? = some (.cells #[] 3 (0, 0)) := (Below.heap_alloc _ _ _ (Array.getElem?_eq_some_iff.1 A2.out.2).1).trans A2.out.2
        refine (hgrow3.block _ (Array.getElem?_eq_some_iff.1 hb3).1 (fun h => ?_)).trans hb3
        rcases ownsRow_ne_a (hown2.alloc _) hb3 (fun cur e => by injection e with _ e2; exact absurd e2 (by decide)) with h2 | h2
        · exact absurd (h.trans h2) (by simp)
        · exact h2 h.symm
    · have hltz : ¬ (k : Int) < (n : Int) := by omega
      have hke : k = n := by omega
      subst hke
      have htk : xs.take k = xs := List.take_of_length_le (by rw [HN.out]; exact Nat.le_refl _)
      have hrow : RowB wr 2 encP 91 u8 (xs.map dartF) := by
        refine owns_rowB (base := w.heap.size) (fun _ => rfl) (by rw [HDL.out]; omega) HNE.out ?_
        rw [HDL.out]
        unfold FLc at hown
        rw [htk] at hown
        exact hown
      obtain ⟨g8, c8, cs8, rfl, _, hg8, hc8⟩ := hrow
      have HB9 : Aside (wr.heap[w.heap.size + 1]? = some (.cells #[] 3 (0, 0))) := HA.out.2
      have HG8 : Aside ((Below w.heap.size w wr ∧ w.heap.size ≤ wr.heap.size) ∧ wr.heap[g8]? = some (.cells cs8 91 (0, 0))) := ⟨HA.out.1, hg8⟩
      have HCC : Aside (∀ j d, (xs.map dartF)[j]? = some d → cs8[j * 2]? = some (.int .i64 d.1) ∧ cs8[j * 2 + 1]? = some (.int .i64 d.2)) := fun j d hd => ⟨hc8 j d hd 0 _ rfl, hc8 j d hd 1 _ rfl⟩
      rw [HDL.out]
      have HDO : Aside ((∀ d ∈ xs.map dartF, offOk d = true) ∧ ∀ d ∈ xs.map dartF, ((-9223372036854775808 ≤ d.1 ∧ d.1 ≤ 9223372036854775807) ∧ -9223372036854775808 ≤ d.2 ∧ d.2 ≤ 9223372036854775807) ∧ 0 ≤ d.2 ∧ d.2 ≤ 10000) := ⟨darts_ok xs, darts_bd xs⟩
      have HXD : Aside (∃ zs : List Int, xs.map dartF = zs.map dartF) := ⟨xs, rfl⟩
      clear hown HA hg8 hc8 htk
      obtain ⟨ds, hds⟩ : ∃ ds, xs.map dartF = ds := ⟨_, rfl⟩
      rw [hds] at HDL HNE HCC HDO HXD
      clear hds hg hk
      have HM2 : Aside (∀ d, d ∈ ds → (ds.all fun e => decide (distF d + 2 ≤ distF e + 2)) = (distF d == mn (ds.map distF))) := fun d hd => most_best hd
      have HBE : Aside (bestL ds = leastU (mn (ds.map distF)) (farP (evL k) ds)) := by show _ = _; unfold bestL; rw [HDL.out]
      generalize mn (ds.map distF) = M at *
      go_wp2_with fail
      go_loopg [9, 11] k (fun gg v i wr => ∃ i' : Nat, i' ≤ k ∧ k - i' ≤ gg ∧ i = .int .i64 i' ∧ wr.ownsRow w.heap.size 3 1 v (leastU M ((farP (evL k) ds).take i')).length ((leastU M ((farP (evL k) ds).take i')).map (Value.int .i64)) ∧ Aside ((Below w.heap.size w wr ∧ w.heap.size ≤ wr.heap.size) ∧ wr.heap[g8]? = some (.cells cs8 91 (0, 0))))
      case atStart => exact ⟨0, Nat.zero_le _, by omega, rfl, ⟨by simp [leastU], .inr ⟨w.heap.size + 1, 0, #[], rfl, by omega, HB9.out, by simp [leastU], Nat.zero_le _, by simp, by simp [leastU]⟩⟩, HG8.out⟩
      case round =>
        clear HB9 HG8
        obtain ⟨i, hi, hgi, rfl, hown, HG8⟩ := hrel
        by_cases hlti : i < k
        · have hltzi : (i : Int) < (k : Int) := by omega
          obtain ⟨d, hd⟩ : ∃ d, ds[i]? = some d := ⟨_, List.getElem?_eq_getElem (by rw [HDL.out]; exact hlti)⟩
          have hdm := List.mem_of_getElem? hd
          have yc := fun W => YC.out d W (HDO.out.2 d hdm).2.1 (HDO.out.2 d hdm).2.2
          have HMO : Aside ((ds.all fun e => decide (distF d + 2 ≤ distF e + 2)) = (distF d == M)) := HM2.out d hdm
          have HL : Aside (leastU M ((farP (evL k) ds).take (i + 1)) = leastU M ((farP (evL k) ds).take i) ++ (if distF d == M then [(i : Int)] else [])) := by
            show _ = _
            have he : (evL k)[i]? = some (i : Int) := by unfold evL; rw [List.getElem?_map, List.getElem?_range hlti]; rfl
            rw [take_snoc' (farP_get he hd)]
            exact leastU_snoc _ _ _
          have hln : (leastU M ((farP (evL k) ds).take i)).length ≤ 8 := by
            have h1 := leastU_len M ((farP (evL k) ds).take i)
            rw [List.length_take] at h1
            omega
          have HD : Aside (ds[i]? = some d) := hd
          generalize leastU M ((farP (evL k) ds).take i) = lu at *
          generalize hDD : distF d = D at *
          have HCI : Aside (cs8[i * 2]? = some (.int .i64 d.1) ∧ cs8[i * 2 + 1]? = some (.int .i64 d.2)) := HCC.out i d hd
          obtain ⟨db, df⟩ := d
          simp only [] at yc HCI
          clear hd hdm hDD HD
          have HOW : Aside (wr.ownsRow w.heap.size 3 1 _ lu.length (lu.map (Value.int .i64))) := hown
          clear hown
          obtain ⟨wo, rfl⟩ : ∃ W, W = wr := ⟨_, rfl⟩
          go_wp2_with fail
          go_loopg [12, 13] k (fun gg b i2 wr => ∃ j : Nat, j ≤ k ∧ k - j ≤ gg ∧ i2 = .int .i64 j ∧ b = .bool ((ds.take j).all fun e => decide (D + 2 ≤ distF e + 2)) ∧ Aside (Below wo.heap.size wo wr))
          case atStart => exact ⟨0, Nat.zero_le _, by omega, rfl, by simp, Below.refl _ _⟩
          case round =>
            obtain ⟨j, hj, hgj, rfl, rfl, HJ⟩ := hrel
            have HZ8 : Aside (wr.heap[g8]? = some (.cells cs8 91 (0, 0))) := (HJ.out.block _ (Array.getElem?_eq_some_iff.1 HG8.out.2).1).trans HG8.out.2
            by_cases hltj : j < k
            · have hltzj : (j : Int) < (k : Int) := by omega
              obtain ⟨e, he⟩ : ∃ e, ds[j]? = some e := ⟨_, List.getElem?_eq_getElem (by rw [HDL.out]; exact hltj)⟩
              have hem := List.mem_of_getElem? he
              have ye := fun W => YC.out e W (HDO.out.2 e hem).2.1 (HDO.out.2 e hem).2.2
              have HAL : Aside (((ds.take (j + 1)).all fun e => decide (D + 2 ≤ distF e + 2)) = (((ds.take j).all fun e => decide (D + 2 ≤ distF e + 2)) && decide (D + 2 ≤ distF e + 2))) := by
                show _ = _
                rw [take_snoc' he, List.all_append]; simp
              have HCJ : Aside (cs8[j * 2]? = some (.int .i64 e.1) ∧ cs8[j * 2 + 1]? = some (.int .i64 e.2)) := HCC.out j e he
              generalize ((ds.take j).all fun e => decide (D + 2 ≤ distF e + 2)) = A at *
              generalize distF e = E at *
              obtain ⟨eb, ef⟩ := e
              simp only [] at ye HCJ
              clear he hem
              have ki0 := blk_cell HZ8.out HCI.out.1
              have ki1 := blk_cell HZ8.out HCI.out.2
              have kj0 := blk_cell HZ8.out HCJ.out.1
              have kj1 := blk_cell HZ8.out HCJ.out.2
              go_wp2_with fail
              have MC : Aside (∀ w', Below wr.heap.size wr w' → (Below wr.heap.size wr w' ∧ w'.cell? ⟨g8, i * 2, none⟩ = some (.int .i64 db) ∧ w'.cell? ⟨g8, i * 2 + 1, none⟩ = some (.int .i64 df) ∧ w'.cell? ⟨g8, j * 2, none⟩ = some (.int .i64 eb) ∧ w'.cell? ⟨g8, j * 2 + 1, none⟩ = some (.int .i64 ef))) := fun w' hB => ⟨hB, keepc hB ki0, keepc hB ki1, keepc hB kj0, keepc hB kj1⟩
              have HFIN : Aside (∀ wb, Below wr.heap.size wr wb → Below wo.heap.size wo wb) := fun wb hb => HJ.out.trans (hb.mono HJ.out.size)
              clear ki0 ki1 kj0 kj1
              cases A with
              | true =>
                refine region_class (fun w' => Below wr.heap.size wr w' ∧ w'.cell? ⟨g8, i * 2, none⟩ = some (.int .i64 db) ∧ w'.cell? ⟨g8, i * 2 + 1, none⟩ = some (.int .i64 df) ∧ w'.cell? ⟨g8, j * 2, none⟩ = some (.int .i64 eb) ∧ w'.cell? ⟨g8, j * 2 + 1, none⟩ = some (.int .i64 ef)) (by kernel_rfl) (by kernel_rfl) (MC.out _ ((Below.refl _ _).drew)) ?_
                iterate 17 (first | go_big_quiet_skip | (go_big_quiet_want; unfold Oper.quiet; apply Exists.intro; refine ⟨fun W hW => ?_, ?_⟩; (go_split_ands; unfold Oper.quietAt; go_simp; first | rfl | exact ⟨rfl, rfl⟩ | ((first | (with_reducible refine (yc _).mono ?_) | (with_reducible refine (ye _).mono ?_)); rintro e w2 ⟨rfl, hb2⟩; exact ⟨rfl, MC.out _ (Below.trans (by assumption) (Below.mono (by assumption) (Below.size (by assumption))))⟩)); go_big_quiet_on; (try simp only [Act.put, List.setIfInBounds_toArray, List.set_cons_zero, List.set_cons_succ])))
                refine wpQuiet_nil ?_
                intro wb hwb
                have BF : Aside (Below wo.heap.size wo wb) := HFIN.out wb hwb.1
                clear hwb MC HFIN yc ye
                go_wp2_with fail
                go_roundg (k - (j + 1))
                case measure => omega
                case rel => exact ⟨j + 1, by omega, by omega, by go_num, by rw [HAL.out]; simp, BF.out⟩
              | false =>
                refine region_class (fun w' => Below wr.heap.size wr w' ∧ w'.cell? ⟨g8, i * 2, none⟩ = some (.int .i64 db) ∧ w'.cell? ⟨g8, i * 2 + 1, none⟩ = some (.int .i64 df) ∧ w'.cell? ⟨g8, j * 2, none⟩ = some (.int .i64 eb) ∧ w'.cell? ⟨g8, j * 2 + 1, none⟩ = some (.int .i64 ef)) (by kernel_rfl) (by kernel_rfl) (MC.out _ ((Below.refl _ _).drew)) ?_
                iterate 17 (first | go_big_quiet_skip | (go_big_quiet_want; unfold Oper.quiet; apply Exists.intro; refine ⟨fun W hW => ?_, ?_⟩; (go_split_ands; unfold Oper.quietAt; go_simp; first | rfl | exact ⟨rfl, rfl⟩ | ((first | (with_reducible refine (yc _).mono ?_) | (with_reducible refine (ye _).mono ?_)); rintro e w2 ⟨rfl, hb2⟩; exact ⟨rfl, MC.out _ (Below.trans (by assumption) (Below.mono (by assumption) (Below.size (by assumption))))⟩)); go_big_quiet_on; (try simp only [Act.put, List.setIfInBounds_toArray, List.set_cons_zero, List.set_cons_succ])))
                refine wpQuiet_nil ?_
                intro wb hwb
                have BF : Aside (Below wo.heap.size wo wb) := HFIN.out wb hwb.1
                clear hwb MC HFIN yc ye
                go_wp2_with fail
                go_roundg (k - (j + 1))
                case measure => omega
                case rel => exact ⟨j + 1, by omega, by omega, by go_num, by rw [HAL.out]; simp, BF.out⟩
            · have hltzj : ¬ (j : Int) < (k : Int) := by omega
              have hje : j = k := by omega
              subst hje
              have htk : ds.take j = ds := List.take_of_length_le (by rw [HDL.out]; exact Nat.le_refl _)
              rw [htk, HMO.out]
              have hown := ownsRow_below HOW.out HJ.out
              have B4 : Aside (Below w.heap.size w wr ∧ w.heap.size ≤ wr.heap.size) := ⟨HG8.out.1.1.trans (HJ.out.mono HG8.out.1.2), Nat.le_trans HG8.out.1.2 HJ.out.size⟩
              clear htk HMO HOW HJ HG8 yc HCI
              cases hdm : (D == M) with
              | true =>
                rw [hdm] at HL
                have HB0 : Aside (w.heap.size ≤ wr.heap.size) := B4.out.2
                go_wp2_with (at_builtin; refine wpList_append_own _ rfl _ _ 48 rfl w.heap.size 3 i0 (.int .i64 0) 1 8 Try.underlying48 hi0 iz0 iz1 iz2 rfl (by decide) _ _ _ rfl (hown.alloc _) ⟨wr.heap.size, 0, none⟩ 1 1 [.int .i64 i] rfl rfl (cell_one_new _ _ _) (ints_oneCell .i64 [(i : Int)]) (by unfold maxLen; omega) (by omega) (by have := HB0.out; simp; omega) ?_; intro v' w8 hown8 hgrow8 hnil8)
                go_roundg (j - (i + 1))
                case measure => omega
                case rel =>
                  refine ⟨i + 1, by omega, by omega, by go_num, by rw [HL.out]; simpa using hown8, ⟨⟨(B4.out.1.alloc B4.out.2 _).grown hgrow8 (by have := B4.out.2; simp; omega) (fun j hj => (hown.lt j hj).1), by have h8 := hgrow8.size; have h7 := B4.out.2; rw [World.size_alloc] at h8; omega⟩, ?_⟩⟩
                  have hb3 : (wr.alloc (.cells #[.int .i64 (i : Int)] 3)).heap[g8]? = some (.cells cs8 91 (0, 0)) := (Below.heap_alloc _ _ _ (Array.getElem?_eq_some_iff.1 HZ8.out).1).trans HZ8.out
                  refine (hgrow8.block _ (Array.getElem?_eq_some_iff.1 hb3).1 (fun h => ?_)).trans hb3
                  rcases ownsRow_ne_a (hown.alloc _) hb3 (fun cur e => by injection e with _ e2; exact absurd e2 (by decide)) with h2 | h2
                  · exact absurd (h.trans h2) (by simp)
                  · exact h2 h.symm
              | false =>
                rw [hdm] at HL
                go_wp2_with fail
                go_roundg (j - (i + 1))
                case measure => omega
                case rel => exact ⟨i + 1, by omega, by omega, by go_num, by rw [HL.out]; simpa using hown, B4.out, HZ8.out⟩
        · have hltzi : ¬ (i : Int) < (k : Int) := by omega
          have hie : i = k := by omega
          subst hie
          have hfl : (farP (evL i) ds).length = i := by rw [farP_length (by rw [evL_length]; exact HDL.out), evL_length]
          rw [List.take_of_length_le (by rw [hfl]; exact Nat.le_refl _), ← HBE.out] at hown
          have hbl8 : (bestL ds).length ≤ 8 := by
            rw [HBE.out]
            have h1 := leastU_len M (farP (evL i) ds)
            omega
          have hbl1 : 1 ≤ (bestL ds).length := List.length_pos_iff.2 (best_ne HNE.out)
          have HS9 : Aside (Sl wr 1 eI u9 (bestL ds)) := sl_owns (fun _ => rfl) (by omega) (by rw [flat_eI]; exact hown)
          obtain ⟨a9, c9, rfl, _, hs9⟩ := HS9.out
          obtain ⟨B9, o9, rfl, hB9, hc9⟩ := hs9 (best_ne HNE.out)
          have HC9 : Aside (∀ j p, (bestL ds)[j]? = some p → wr.cell? ⟨B9, o9 + j, none⟩ = some (.int .i64 p)) := fun j p hp => by have := hc9 j p hp 0 (.int .i64 p) rfl; simpa using this
          have HDS : Aside (Sl wr 2 encP (.slice (some ⟨g8, 0, none⟩) i c8) ds) := by
            refine ⟨_, c8, by rw [HDL.out], by rw [HDL.out]; omega, fun _ => ⟨g8, 0, rfl, (Array.getElem?_eq_some_iff.1 HG8.out.2).1, fun j d hd i' y hy => ?_⟩⟩
            match i', hy with
            | 0, hy => simp [encP] at hy; subst hy; rw [Nat.add_zero, Nat.zero_add]; exact blk_cell HG8.out.2 (HCC.out j d hd).1
            | 1, hy => simp [encP] at hy; subst hy; rw [Nat.zero_add]; exact blk_cell HG8.out.2 (HCC.out j d hd).2
            | i' + 2, hy => simp [encP] at hy
          have HO1 : Aside (2 ≤ i → offF (i : Int) [ds] = if 1 < (bestL ds).length then (0, 31) else ((bestL ds)[0]?.getD 0, 0)) := fun h => by
            have := off_one HDO.out.1 (by rw [HDL.out]; exact h) (by rw [HDL.out]; exact hn8)
            rw [HDL.out] at this
            exact this
          have HO2 : Aside (∀ zs : List Int, 2 ≤ i → 2 ≤ (bestL ds).length → offF (i : Int) [ds, zs.map dartF] = if (zs.map dartF).length ≠ (bestL ds).length then (0, 4) else if 1 < (bestL (zs.map dartF)).length then (0, 31) else ((bestL ds).getD ((bestL (zs.map dartF))[0]?.getD 0).toNat 0, 0)) := fun zs h h2 => by
            have := off_two HDO.out.1 (darts_ok zs) (by rw [HDL.out]; exact h) (by rw [HDL.out]; exact hn8) h2
            rw [HDL.out] at this
            exact this
          have BB : Aside (Below w.heap.size w wr ∧ w.heap.size ≤ wr.heap.size) := HG8.out.1
          obtain ⟨bl, hbl⟩ : ∃ bl, bestL ds = bl := ⟨_, rfl⟩
          rw [hbl] at HS9 HC9 HO1 HO2 hbl8 hbl1 ⊢
          obtain ⟨q, hq⟩ : ∃ q, bl.length = q := ⟨_, rfl⟩
          have HQ : Aside (bl.length = q) := hq
          rw [hq] at HS9 HO1 HO2 hbl8 hbl1 ⊢
          clear hown hs9 hc9 hbl hq HG8 hfl HM2 HBE HNE hgi hi HCC
          go_wp2_with (at_builtin; refine wpList_append_fresh _ rfl _ _ 63 rfl 91 j0 (.agg #[.int .i64 0, .int .i64 0]) 2 16 Try.underlying63 hj0 jz0 jz1 jz2 rfl (by decide) wr.heap.size (World.alloc_heap_new _ _) rfl (vy := .slice (some ⟨g8, 0, none⟩) i c8) (ys := ds) (enc := encP) rfl (HDS.out.below ((Below.refl _ _).alloc (Nat.le_refl _) _)) (fun _ => rfl) (encP_one ds) (by rw [HDL.out]; unfold maxLen; omega) (by rw [HDL.out]; omega) ?_; intro v5 w5 hrow5 hB5; obtain ⟨g5, c5, cs5, rfl, hl5, hg5, hc5⟩ := hrow5)
          have HR5 : Aside (RowB w5 2 encP 91 (.slice (some ⟨g5, 0, none⟩) ds.length c5) ds ∧ Below wr.heap.size wr w5) := ⟨⟨g5, c5, cs5, rfl, hl5, hg5, hc5⟩, ((Below.refl _ wr).alloc (Nat.le_refl _) _).trans (hB5.mono (by simp))⟩
          clear hg5 hc5 hl5 hB5
          have x1 := X1.out (i : Int) _ _ [(.slice (some ⟨g5, 0, none⟩) ds.length c5, ds)] (sl_row1 w5 _ rfl 63 (.slice (some ⟨g5, 0, none⟩) ds.length c5) ds) (fun x hx => by simp at hx; subst hx; exact HR5.out.1.sl.below ((Below.refl _ _).alloc (Nat.le_refl _) _)) (fun x hx => by simp at hx; subst hx; exact HXD.out)
          have e1 : ([(.slice (some ⟨g5, 0, none⟩) ds.length c5, ds)] : List (Value × List (Int × Int))).map (·.2) = [ds] := rfl
          rw [e1] at x1
          by_cases hi1 : i = 1
          · skip
            -- @@a
            subst hi1
            have x2 := fun W => X1.out 1 W (.slice none 0 0) [] ⟨none, 0, rfl, by simp, fun h => absurd rfl h⟩ (fun x hx => by cases hx) (fun x hx => by cases hx)
            have e2 : ([] : List (Value × List (Int × Int))).map (·.2) = [] := rfl
            rw [show offF ((1 : Nat) : Int) [ds] = (0, 33) from off_n1 ds] at x1
            simp only [e2, off_n0] at x2
            refine x1.mono ?_
            rintro e w6 ⟨rfl, hb6⟩
            have B6 : Aside (Below w.heap.size w w6) := BB.out.1.trans ((HR5.out.2.trans ((((Below.refl _ w5).alloc (Nat.le_refl _) _).trans (hb6.mono (by simp))).mono HR5.out.2.size)).mono BB.out.2)
            clear hb6 x1 HR5 HDS HS9 HC9 e1 e2
            go_wp2_with fail
            refine (x2 _).mono ?_
            rintro e w7 ⟨rfl, hb7⟩
            replace B6 : Aside (Below w.heap.size w w7) := B6.out.trans (hb7.mono B6.out.size)
            clear hb7 x2
            go_wp2_with fail
            refine (HK.out _).mono ?_
            rintro e w9 ⟨rfl, hb9⟩
            go_wp2
            go_ret
            exact ⟨rfl, B6.out.trans (hb9.mono B6.out.size)⟩
          · have hi2 : 2 ≤ i := by omega
            have hi1z : ((i : Int) == 1) = false := by rw [beq_eq_false_iff_ne]; omega
            rw [HO1.out hi2] at x1
            by_cases hq1 : q = 1
            · skip
              -- @@b
              subst hq1
              rw [if_neg (by omega)] at x1
              obtain ⟨p, hp⟩ : ∃ p, bl[0]? = some p := ⟨_, List.getElem?_eq_getElem (by rw [HQ.out]; omega)⟩
              rw [hp] at x1
              simp only [Option.getD_some] at x1
              have k9 := HC9.out 0 p hp
              rw [Nat.add_zero] at k9
              refine x1.mono ?_
              rintro e w6 ⟨rfl, hb6⟩
              have hB6 : Below wr.heap.size wr w6 := HR5.out.2.trans ((((Below.refl _ w5).alloc (Nat.le_refl _) _).trans (hb6.mono (by simp))).mono HR5.out.2.size)
              replace k9 := keepc hB6 k9
              have B6 : Aside (Below w.heap.size w w6) := BB.out.1.trans (hB6.mono BB.out.2)
              clear hb6 hB6 x1 HR5 HDS HS9 HC9 hp e1
              go_wp2_with fail
              refine (HK.out _).mono ?_
              rintro e w9 ⟨rfl, hb9⟩
              go_wp2
              go_ret
              exact ⟨rfl, B6.out.trans (hb9.mono B6.out.size)⟩
            · have hq2 : 2 ≤ q := by omega
              have hq1z : ((q : Int) == 1) = false := by rw [beq_eq_false_iff_ne]; omega
              rw [if_pos (by omega)] at x1
              refine x1.mono ?_
              rintro e w6 ⟨rfl, hb6⟩
              have B6 : Aside (Below wr.heap.size wr w6) := HR5.out.2.trans ((((Below.refl _ w5).alloc (Nat.le_refl _) _).trans (hb6.mono (by simp))).mono HR5.out.2.size)
              clear hb6 x1 HR5 e1
              have HC9b : Aside (∀ j p, bl[j]? = some p → w6.cell? ⟨B9, o9 + j, none⟩ = some (.int .i64 p)) := fun j p hp => keepc B6.out (HC9.out j p hp)
              have HDSb : Aside (Sl w6 2 encP (.slice (some ⟨g8, 0, none⟩) i c8) ds) := HDS.out.below B6.out
              have BBb : Aside (Below w.heap.size w w6 ∧ w.heap.size ≤ w6.heap.size) := ⟨BB.out.1.trans (B6.out.mono BB.out.2), Nat.le_trans BB.out.2 B6.out.size⟩
              clear HC9 HDS BB B6 HS9 HO1
              go_wp2_with fail
              obtain ⟨wb, hwb⟩ : ∃ u, u = w6.alloc (.cells #[] 91) := ⟨_, rfl⟩
              have HO18 : Aside (wb.ownsRow w6.heap.size 91 2 (.slice (some ⟨w6.heap.size, 0, none⟩) 0 0) 0 []) := by rw [hwb]; exact owns_empty w6 _ 2
              have BW : Aside (Below w6.heap.size w6 wb ∧ w6.heap.size ≤ wb.heap.size) := by rw [hwb]; exact ⟨(Below.refl _ _).alloc (Nat.le_refl _) _, by simp⟩
              rw [← hwb]
              clear hwb
              go_loopg [18, 19] q (fun gg v i2 wr => ∃ j : Nat, j ≤ q ∧ j ≤ s ∧ q - j ≤ gg ∧ i2 = .int .i64 j ∧ wr.ownsRow w6.heap.size 91 2 v j (FLc ss j) ∧ Aside (Below w6.heap.size w6 wr ∧ w6.heap.size ≤ wr.heap.size))
              case atStart => exact ⟨0, Nat.zero_le _, Nat.zero_le _, by omega, rfl, HO18.out, BW.out⟩
              case round =>
                clear HO18 BW
                obtain ⟨j, hj, hjs, hgj, rfl, hown, HJ⟩ := hrel
                by_cases hjq : j < q
                · have hjqz : (j : Int) < (q : Int) := by omega
                  by_cases hjl : j < s
                  · skip
                    -- @@c
                    have hjlz : (j : Int) < (s : Int) := by omega
                    obtain ⟨x, hx⟩ : ∃ x, ss[j]? = some x := ⟨_, List.getElem?_eq_getElem (by rw [HM.out]; exact hjl)⟩
                    obtain ⟨B, off, rfl, hBlt, hcl⟩ := HS2.out (by intro e; rw [e] at hx; simp at hx)
                    have kx : wr.cell? ⟨B, off + j, none⟩ = some (.int .u16 x) := keepc HJ.out.1 (keepc BBb.out.1 (by have := hcl j x hx 0 (.int .u16 x) rfl; simpa using this))
                    have hxb := HBD.out.2 x (List.mem_of_getElem? hx)
                    have yd := fun W => YD.out x W hxb.1 hxb.2
                    have HFL : Aside (FLc ss (j + 1) = FLc ss j ++ [.int .i64 (dartF x).1, .int .i64 (dartF x).2]) := FLc_succ hx
                    generalize FLc ss j = L at *
                    obtain ⟨d1, hd1⟩ : ∃ y, (dartF x).1 = y := ⟨_, rfl⟩
                    obtain ⟨d2, hd2⟩ : ∃ y, (dartF x).2 = y := ⟨_, rfl⟩
                    rw [hd1, hd2] at HFL
                    simp only [hd1, hd2] at yd
                    clear hcl hx hxb hd1 hd2
                    go_wp2_with fail
                    refine (yd _).mono ?_
                    rintro e w2 ⟨rfl, hb2⟩
                    have hown2 := ownsRow_below hown hb2
                    have A2 : Aside (Below w6.heap.size w6 w2 ∧ w6.heap.size ≤ w2.heap.size) := ⟨HJ.out.1.trans (hb2.mono HJ.out.2), Nat.le_trans HJ.out.2 hb2.size⟩
                    clear hb2 hown HJ yd kx
                    go_wp2_with (at_builtin; refine wpList_append_own _ rfl _ _ 63 rfl w6.heap.size 91 j0 (.agg #[.int .i64 0, .int .i64 0]) 2 16 Try.underlying63 hj0 jz0 jz1 jz2 rfl (by decide) _ _ _ rfl (hown2.alloc _) ⟨w2.heap.size, 0, none⟩ 1 1 [.int .i64 d1, .int .i64 d2] rfl rfl (by intro j u h; match j, h with | 0, h => (simp at h; subst h; go_simp) | 1, h => (simp at h; subst h; go_simp) | j + 2, h => simp at h) (by intro u hu; simp at hu; rcases hu with rfl | rfl <;> rfl) (by unfold maxLen; omega) (by omega) (by have := A2.out.2; simp; omega) ?_; intro v' w3 hown3 hgrow3 hnil3)
                    go_roundg (q - (j + 1))
                    case measure => omega
                    case rel => exact ⟨j + 1, by omega, by omega, by omega, by go_num, by rw [HFL.out]; exact hown3, (A2.out.1.alloc A2.out.2 _).grown hgrow3 (by have := A2.out.2; simp; omega) (fun j hj => (hown2.lt j hj).1), by have h8 := hgrow3.size; have h7 := A2.out.2; rw [World.size_alloc] at h8; omega⟩
                  · skip
                    -- @@d
                    have hjlz : ¬ (j : Int) < (s : Int) := by omega
                    have hel : ((ss.take j).map dartF).length = j := FLc_len ss j (by rw [HM.out]; exact hjs)
                    have HS18 : Aside (Sl wr 2 encP u18 ((ss.take j).map dartF)) := sl_owns (fun _ => rfl) (by rw [hel]; omega) (by rw [hel]; exact hown)
                    have HEL : Aside (((ss.take j).map dartF).length = j) := hel
                    have HO3 : Aside (offF (i : Int) [ds, (ss.take j).map dartF] = (0, 4)) := by
                      show _ = _
                      rw [HO2.out (ss.take j) hi2 hq2, if_pos (by rw [hel]; omega)]
                    have HXE : Aside (∃ zs : List Int, (ss.take j).map dartF = zs.map dartF) := ⟨_, rfl⟩
                    obtain ⟨a18, c18, rfl, _, _⟩ := HS18.out
                    rw [hel] at HS18 ⊢
                    generalize (ss.take j).map dartF = es at *
                    clear hown hel HO2
                    go_wp2_with (at_builtin; refine wpList_append_fresh _ rfl _ _ 63 rfl 91 j0 (.agg #[.int .i64 0, .int .i64 0]) 2 16 Try.underlying63 hj0 jz0 jz1 jz2 rfl (by decide) wr.heap.size (World.alloc_heap_new _ _) rfl (vy := .slice a18 j c18) (ys := es) (enc := encP) rfl (HS18.out.below ((Below.refl _ _).alloc (Nat.le_refl _) _)) (fun _ => rfl) (encP_one es) (by rw [HEL.out]; unfold maxLen; omega) (by rw [HEL.out]; omega) ?_; intro v7 w7 hrow7 hB7; obtain ⟨g7, c7, cs7, rfl, hl7, hg7, hc7⟩ := hrow7)
                    have HR7 : Aside (RowB w7 2 encP 91 (.slice (some ⟨g7, 0, none⟩) es.length c7) es ∧ Below w6.heap.size w6 w7) := ⟨⟨g7, c7, cs7, rfl, hl7, hg7, hc7⟩, HJ.out.1.trans ((((Below.refl _ wr).alloc (Nat.le_refl _) _).trans (hB7.mono (by simp))).mono HJ.out.2)⟩
                    clear hg7 hc7 hl7 hB7
                    have x3 := X1.out (i : Int) _ _ [(.slice (some ⟨g8, 0, none⟩) i c8, ds), (.slice (some ⟨g7, 0, none⟩) es.length c7, es)] (sl_row2 w7 _ rfl 63 _ (.slice (some ⟨g7, 0, none⟩) es.length c7) ds es) (fun x hx => by
                      simp at hx
                      rcases hx with rfl | rfl
                      · exact (HDSb.out.below HR7.out.2).below ((Below.refl _ _).alloc (Nat.le_refl _) _)
                      · exact HR7.out.1.sl.below ((Below.refl _ _).alloc (Nat.le_refl _) _)) (fun x hx => by
                      simp at hx
                      rcases hx with rfl | rfl
                      · exact HXD.out
                      · exact HXE.out)
                    rw [show ([(.slice (some ⟨g8, 0, none⟩) i c8, ds), (.slice (some ⟨g7, 0, none⟩) es.length c7, es)] : List (Value × List (Int × Int))).map (·.2) = [ds, es] from rfl, HO3.out] at x3
                    refine x3.mono ?_
                    rintro e w8 ⟨rfl, hb8⟩
                    have B8 : Aside (Below w.heap.size w w8) := BBb.out.1.trans ((HR7.out.2.trans ((((Below.refl _ w7).alloc (Nat.le_refl _) _).trans (hb8.mono (by simp))).mono HR7.out.2.size)).mono BBb.out.2)
                    clear hb8 x3 HR7
                    go_wp2_with fail
                    refine (HK.out _).mono ?_
                    rintro e w9 ⟨rfl, hb9⟩
                    go_wp2
                    go_ret
                    exact ⟨rfl, B8.out.trans (hb9.mono B8.out.size)⟩
                · skip
                  -- @@e
                  have hjqz : ¬ (j : Int) < (q : Int) := by omega
                  have hjqe : j = q := by omega
                  subst hjqe
                  have hel : ((ss.take j).map dartF).length = j := FLc_len ss j (by rw [HM.out]; exact hjs)
                  have HS18 : Aside (Sl wr 2 encP u18 ((ss.take j).map dartF)) := sl_owns (fun _ => rfl) (by rw [hel]; omega) (by rw [hel]; exact hown)
                  have HEL : Aside (((ss.take j).map dartF).length = j) := hel
                  have HO3 : Aside (offF (i : Int) [ds, (ss.take j).map dartF] = if 1 < (bestL ((ss.take j).map dartF)).length then (0, 31) else (bl.getD ((bestL ((ss.take j).map dartF))[0]?.getD 0).toNat 0, 0)) := by
                    show _ = _
                    rw [HO2.out (ss.take j) hi2 hq2, if_neg (by rw [hel]; simp)]
                  have HO4 : Aside (offF (j : Int) [(ss.take j).map dartF] = if 1 < (bestL ((ss.take j).map dartF)).length then (0, 31) else ((bestL ((ss.take j).map dartF))[0]?.getD 0, 0)) := by
                    have := off_one (darts_ok (ss.take j)) (by rw [hel]; exact hq2) (by rw [hel]; exact hbl8)
                    rw [hel] at this
                    exact this
                  have HPL : Aside (∃ p : Nat, (bestL ((ss.take j).map dartF))[0]? = some (p : Int) ∧ p < j) := by
                    have hne : bestL ((ss.take j).map dartF) ≠ [] := best_ne (by intro e; rw [e] at hel; simp at hel; omega)
                    obtain ⟨p, hp⟩ : ∃ p, (bestL ((ss.take j).map dartF))[0]? = some p := ⟨_, List.getElem?_eq_getElem (List.length_pos_iff.2 hne)⟩
                    obtain ⟨p', h1, rfl⟩ := best_bd p (List.mem_of_getElem? hp)
                    exact ⟨p', hp, by rw [hel] at h1; exact h1⟩
                  have HXE : Aside (∃ zs : List Int, (ss.take j).map dartF = zs.map dartF) := ⟨_, rfl⟩
                  obtain ⟨a18, c18, rfl, _, _⟩ := HS18.out
                  rw [hel] at HS18 ⊢
                  generalize (ss.take j).map dartF = es at *
                  clear hown hel HO2
                  go_wp2_with (at_builtin; refine wpList_append_fresh _ rfl _ _ 63 rfl 91 j0 (.agg #[.int .i64 0, .int .i64 0]) 2 16 Try.underlying63 hj0 jz0 jz1 jz2 rfl (by decide) wr.heap.size (World.alloc_heap_new _ _) rfl (vy := .slice a18 j c18) (ys := es) (enc := encP) rfl (HS18.out.below ((Below.refl _ _).alloc (Nat.le_refl _) _)) (fun _ => rfl) (encP_one es) (by rw [HEL.out]; unfold maxLen; omega) (by rw [HEL.out]; omega) ?_; intro v7 w7 hrow7 hB7; obtain ⟨g7, c7, cs7, rfl, hl7, hg7, hc7⟩ := hrow7)
                  have HR7 : Aside ((RowB w7 2 encP 91 (.slice (some ⟨g7, 0, none⟩) es.length c7) es ∧ Below w6.heap.size w6 w7) ∧ Sl w7 2 encP (.slice a18 j c18) es ∧ w6.heap.size ≤ w7.heap.size) := by
                    have hb : Below wr.heap.size wr w7 := ((Below.refl _ wr).alloc (Nat.le_refl _) _).trans (hB7.mono (by simp))
                    exact ⟨⟨⟨g7, c7, cs7, rfl, hl7, hg7, hc7⟩, HJ.out.1.trans (hb.mono HJ.out.2)⟩, HS18.out.below hb, Nat.le_trans HJ.out.2 hb.size⟩
                  clear hg7 hc7 hl7 hB7
                  have x3 := X1.out (i : Int) _ _ [(.slice (some ⟨g8, 0, none⟩) i c8, ds), (.slice (some ⟨g7, 0, none⟩) es.length c7, es)] (sl_row2 w7 _ rfl 63 _ (.slice (some ⟨g7, 0, none⟩) es.length c7) ds es) (fun x hx => by
                    simp at hx
                    rcases hx with rfl | rfl
                    · exact (HDSb.out.below HR7.out.1.2).below ((Below.refl _ _).alloc (Nat.le_refl _) _)
                    · exact HR7.out.1.1.sl.below ((Below.refl _ _).alloc (Nat.le_refl _) _)) (fun x hx => by
                    simp at hx
                    rcases hx with rfl | rfl
                    · exact HXD.out
                    · exact HXE.out)
                  rw [show ([(.slice (some ⟨g8, 0, none⟩) i c8, ds), (.slice (some ⟨g7, 0, none⟩) es.length c7, es)] : List (Value × List (Int × Int))).map (·.2) = [ds, es] from rfl, HO3.out] at x3
                  have X4 : Aside (∀ W, Sl W 2 encP (.slice a18 j c18) es → Calls Try.prog 29 #[.int .i64 (j : Int), .slice (some ⟨W.heap.size, 0, none⟩) 1 1] (W.alloc (.cells #[.slice a18 j c18] 63)) (Ret (.tuple #[.int .i64 (offF (j : Int) [es]).1, .int .i64 (offF (j : Int) [es]).2]) (W.alloc (.cells #[.slice a18 j c18] 63)))) := fun W hW => X1.out (j : Int) _ _ [(.slice a18 j c18, es)] (sl_row1 W _ rfl 63 _ es) (fun x hx => by simp at hx; subst hx; exact hW.below ((Below.refl _ _).alloc (Nat.le_refl _) _)) (fun x hx => by simp at hx; subst hx; exact HXE.out)
                  rw [HO4.out] at X4
                  by_cases hmore : 1 < (bestL es).length
                  · skip
                    -- @@f
                    rw [if_pos hmore] at x3 X4
                    refine x3.mono ?_
                    rintro e w8 ⟨rfl, hb8⟩
                    have hB8 : Below w7.heap.size w7 w8 := ((Below.refl _ w7).alloc (Nat.le_refl _) _).trans (hb8.mono (by simp))
                    have B8 : Aside (Below w.heap.size w w8) := BBb.out.1.trans ((HR7.out.1.2.trans (hB8.mono HR7.out.2.2)).mono BBb.out.2)
                    have x4 := X4.out w8 (HR7.out.2.1.below hB8)
                    clear hb8 x3 HR7 hB8 X4 HO3 HO4
                    go_wp2_with fail
                    refine x4.mono ?_
                    rintro e w10 ⟨rfl, hb10⟩
                    replace B8 : Aside (Below w.heap.size w w10) := B8.out.trans ((((Below.refl _ w8).alloc (Nat.le_refl _) _).trans (hb10.mono (by simp))).mono B8.out.size)
                    clear hb10 x4
                    have hq0z : ¬ (j : Int) ≤ 0 := by omega
                    go_wp2_with fail
                    refine (HK.out _).mono ?_
                    rintro e w9 ⟨rfl, hb9⟩
                    go_wp2
                    go_ret
                    exact ⟨rfl, B8.out.trans (hb9.mono B8.out.size)⟩
                  · skip
                    -- @@g
                    rw [if_neg hmore] at x3 X4
                    obtain ⟨p, hp, hpj⟩ := HPL.out
                    rw [hp] at x3 X4
                    simp only [Option.getD_some, Int.toNat_natCast] at x3 X4
                    obtain ⟨r, hr⟩ : ∃ r, bl[p]? = some r := ⟨_, List.getElem?_eq_getElem (by rw [HQ.out]; exact hpj)⟩
                    have hgd : bl.getD p 0 = r := by rw [List.getD_eq_getElem?_getD, hr]; rfl
                    rw [hgd] at x3
                    have k9 := HC9b.out p r hr
                    refine x3.mono ?_
                    rintro e w8 ⟨rfl, hb8⟩
                    have hB8 : Below w7.heap.size w7 w8 := ((Below.refl _ w7).alloc (Nat.le_refl _) _).trans (hb8.mono (by simp))
                    have hB68 : Below w6.heap.size w6 w8 := HR7.out.1.2.trans (hB8.mono HR7.out.2.2)
                    have B8 : Aside (Below w.heap.size w w8) := BBb.out.1.trans (hB68.mono BBb.out.2)
                    have x4 := X4.out w8 (HR7.out.2.1.below hB8)
                    replace k9 := keepc hB68 k9
                    have hpz : (p : Int) < (j : Int) := by omega
                    have hpz2 : ¬ (j : Int) ≤ (p : Int) := by omega
                    have hpz0 : ¬ (p : Int) < 0 := by omega
                    clear hb8 x3 HR7 hB8 hB68 X4 HO3 HO4 hp hr hgd
                    go_wp2_with fail
                    refine x4.mono ?_
                    rintro e w10 ⟨rfl, hb10⟩
                    have hB10 : Below w8.heap.size w8 w10 := ((Below.refl _ w8).alloc (Nat.le_refl _) _).trans (hb10.mono (by simp))
                    replace B8 : Aside (Below w.heap.size w w10) := B8.out.trans (hB10.mono B8.out.size)
                    replace k9 := keepc hB10 k9
                    clear hb10 x4 hB10
                    go_wp2_with fail
                    refine (HK.out _).mono ?_
                    rintro e w9 ⟨rfl, hb9⟩
                    go_wp2
                    go_ret
                    exact ⟨rfl, B8.out.trans (hb9.mono B8.out.size)⟩
end Go.Proofs.Ythcgbceapabikaa
