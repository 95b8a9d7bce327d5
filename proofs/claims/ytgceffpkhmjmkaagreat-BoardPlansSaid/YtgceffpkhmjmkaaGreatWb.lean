/- Board, part Wb: wear as the statements get it; the reference's wear after a week. -/
import Derived.Test.YtgceffpkhmjmkaaGreatUc
import Derived.Test.YtgceffpkhmjmkaaGreatVm
import Derived.Test.YtgceffpkhmjmkaaGreatQ
import Derived.Test.YtgceffpkhmjmkaaGreatRg
import Derived.Deep.Cut
set_option linter.unusedVariables false
set_option linter.unusedSimpArgs false
namespace Go.Proofs.YtgceffpkhmjmkaaGreat
open Go.RowKit Go.Shelf

/-- How wear, weeks, a turn and a limit lie. -/
def WoreAt (w : World) (v : Value) (worn : List Int) (ws : List (Value × List Int)) (K L : Int) : Prop :=
  ∃ v1 v2, v = .agg #[v1, v2, .int .i64 K, .int .i64 L] ∧ Sl w 1 eI v1 worn ∧ Sl w 1 eR v2 ws ∧ ∀ x ∈ ws, Sl w 1 eI x.1 x.2
theorem WoreAt.below {w W : World} {v : Value} {worn : List Int} {ws : List (Value × List Int)} {K L : Int} (h : WoreAt w v worn ws K L) (hB : Below w.heap.size w W) : WoreAt W v worn ws K L := by
  obtain ⟨v1, v2, e, h1, h2, h3⟩ := h
  exact ⟨v1, v2, e, h1.below hB, h2.below hB, fun x hx => (h3 x hx).below hB⟩
/-- The first week. -/
def wkV (ws : List (Value × List Int)) : Value := match ws with | [] => .slice none 0 0 | x :: _ => x.1
def wk (ws : List (Value × List Int)) : List Int := match ws with | [] => [] | x :: _ => x.2
theorem wk_sl {w : World} {ws : List (Value × List Int)} (h : ∀ x ∈ ws, Sl w 1 eI x.1 x.2) : Sl w 1 eI (wkV ws) (wk ws) := by
  cases ws with
  | nil => exact ⟨none, 0, rfl, Nat.zero_le _, fun h => absurd rfl h⟩
  | cons x t => exact h x List.mem_cons_self
def bigW (worn : List Int) (ws : List (Value × List Int)) : Bool := decide (25 < worn.length) || decide (4 < ws.length) || ws.any (fun x => decide (25 < x.2.length))
theorem rows_of {w : World} {v : Value} {ws : List (Value × List Int)} (h : Sl w 1 eR v ws) (hx : ∀ x ∈ ws, Sl w 1 eI x.1 x.2) : ∃ a c, v = .slice a ws.length c ∧ ws.length ≤ 9223372036854775807 ∧ ∀ j x, ws[j]? = some x → ∃ g off, a = some ⟨g, off, none⟩ ∧ w.cell? ⟨g, off + j, none⟩ = some x.1 ∧ Sl w 1 eI x.1 x.2 := by
  obtain ⟨a, c, rfl, hl, hs⟩ := h
  refine ⟨a, c, rfl, hl, ?_⟩
  intro j x hj
  obtain ⟨g, off, ha, _, hc⟩ := hs (by intro e; rw [e] at hj; simp at hj)
  exact ⟨g, off, ha, by have := hc j x hj 0 x.1 rfl; simpa using this, hx x (List.mem_of_getElem? hj)⟩

set_option maxRecDepth 100000 in
set_option maxHeartbeats 4000000 in
theorem week_any (v : Value) (worn : List Int) (ws : List (Value × List Int)) (K L : Int) (w : World) (h : WoreAt w v worn ws K L) :
    Calls Tryz.prog 25 #[v] w (Ret (wkV ws) w) := by
  obtain ⟨v1, v2, rfl, ⟨a1, c1, rfl, l1, _⟩, h2, h3⟩ := h
  obtain ⟨a2, c2, rfl, l2, hr⟩ := rows_of h2 h3
  cases ws with
  | nil =>
    unfold wkV
    simp only [List.length_nil]
    generalize worn.length = lw at *
    clear hr h2 h3
    go_enter Tryz.func25, Tryz.ntmps25
    go_wp2_with fail
    go_ret
    exact ⟨rfl, by (repeat' (first | exact Below.refl _ _ | assumption | (with_reducible refine Below.drew ?_) | (with_reducible refine Below.setCell ?_ (by (first | (simp; done) | (simp; omega))) _) | (with_reducible refine below_drewN' ?_ _) | (refine Below.alloc ?_ (by (try simp only [World.size_alloc, World.size_drew, World.size_setCell]); omega) _) | (refine Below.trans ?_ (Below.mono (by assumption) (by (try simp only [World.size_alloc, World.size_drew, World.size_setCell]); omega)))))⟩
  | cons x t =>
    obtain ⟨g, off, rfl, hc, ⟨ax, cx, hxe, lx, _⟩⟩ := hr 0 x rfl
    unfold wkV
    simp only []
    rw [hxe] at hc ⊢
    have hz : (0 : Int) < ((x :: t).length : Int) := by have : (x :: t).length = t.length + 1 := rfl
                                                        omega
    have hz2 : ¬ ((x :: t).length : Int) = 0 := by omega
    have hc1 := keepc (show Below w.heap.size w (w.alloc (.cells #[.slice a1 worn.length c1, .slice (some ⟨g, off, none⟩) (x :: t).length c2, .int .i64 K, .int .i64 L] 56)) by (repeat' (first | exact Below.refl _ _ | assumption | (with_reducible refine Below.drew ?_) | (with_reducible refine Below.setCell ?_ (by (first | (simp; done) | (simp; omega))) _) | (with_reducible refine below_drewN' ?_ _) | (refine Below.alloc ?_ (by (try simp only [World.size_alloc, World.size_drew, World.size_setCell]); omega) _) | (refine Below.trans ?_ (Below.mono (by assumption) (by (try simp only [World.size_alloc, World.size_drew, World.size_setCell]); omega)))))) hc
    rw [Nat.add_zero] at hc1
    clear hr h2 h3 hc
    generalize (x :: t).length = nx at *
    generalize worn.length = lw at *
    go_enter Tryz.func25, Tryz.ntmps25
    go_wp2_with fail
    go_ret
    exact ⟨rfl, by (repeat' (first | exact Below.refl _ _ | assumption | (with_reducible refine Below.drew ?_) | (with_reducible refine Below.setCell ?_ (by (first | (simp; done) | (simp; omega))) _) | (with_reducible refine below_drewN' ?_ _) | (refine Below.alloc ?_ (by (try simp only [World.size_alloc, World.size_drew, World.size_setCell]); omega) _) | (refine Below.trans ?_ (Below.mono (by assumption) (by (try simp only [World.size_alloc, World.size_drew, World.size_setCell]); omega)))))⟩

set_option maxRecDepth 100000 in
set_option maxHeartbeats 4000000 in
theorem big_any (v : Value) (worn : List Int) (ws : List (Value × List Int)) (K L : Int) (w : World) (h : WoreAt w v worn ws K L) :
    Calls Tryz.prog 23 #[v] w (Ret (.bool (bigW worn ws)) w) := by
  obtain ⟨v1, v2, rfl, ⟨a1, c1, rfl, l1, _⟩, h2, h3⟩ := h
  obtain ⟨a2, c2, rfl, l2, hr⟩ := rows_of h2 h3
  have HR : Aside _ := hr
  clear hr h2 h3
  obtain ⟨gb, hgb⟩ : ∃ x, bigW worn ws = x := ⟨_, rfl⟩
  rw [hgb]
  have HG : Aside (gb = (decide (25 < worn.length) || decide (4 < ws.length) || ws.any (fun x => decide (25 < x.2.length)))) := by show _ = _; rw [← hgb]; rfl
  clear hgb
  obtain ⟨nw, hnw⟩ : ∃ n, worn.length = n := ⟨_, rfl⟩
  obtain ⟨ns, hns⟩ : ∃ n, ws.length = n := ⟨_, rfl⟩
  have HN : Aside (ws.length = ns) := hns
  rw [hnw] at l1 HG ⊢
  rw [hns] at l2 HG ⊢
  clear hnw hns
  by_cases a : 25 < nw
  · have e : gb = true := by rw [HG.out, decide_eq_true a]; rfl
    have az : (25 : Int) < (nw : Int) := by omega
    subst e
    go_enter Tryz.func23, Tryz.ntmps23
    go_wp2_with fail
    go_ret
    exact ⟨rfl, by (repeat' (first | exact Below.refl _ _ | assumption | (with_reducible refine Below.drew ?_) | (with_reducible refine Below.setCell ?_ (by (first | (simp; done) | (simp; omega))) _) | (with_reducible refine below_drewN' ?_ _) | (refine Below.alloc ?_ (by (try simp only [World.size_alloc, World.size_drew, World.size_setCell]); omega) _) | (refine Below.trans ?_ (Below.mono (by assumption) (by (try simp only [World.size_alloc, World.size_drew, World.size_setCell]); omega)))))⟩
  · have az : ¬ (25 : Int) < (nw : Int) := by omega
    by_cases c : 4 < ns
    · have e : gb = true := by rw [HG.out, decide_eq_true c]; simp
      have cz : (4 : Int) < (ns : Int) := by omega
      subst e
      go_enter Tryz.func23, Tryz.ntmps23
      go_wp2_with fail
      go_ret
      exact ⟨rfl, by (repeat' (first | exact Below.refl _ _ | assumption | (with_reducible refine Below.drew ?_) | (with_reducible refine Below.setCell ?_ (by (first | (simp; done) | (simp; omega))) _) | (with_reducible refine below_drewN' ?_ _) | (refine Below.alloc ?_ (by (try simp only [World.size_alloc, World.size_drew, World.size_setCell]); omega) _) | (refine Below.trans ?_ (Below.mono (by assumption) (by (try simp only [World.size_alloc, World.size_drew, World.size_setCell]); omega)))))⟩
    · have cz : ¬ (4 : Int) < (ns : Int) := by omega
      have HG2 : Aside (gb = ws.any (fun x => decide (25 < x.2.length))) := by show _ = _; rw [HG.out, decide_eq_false a, decide_eq_false c]; rfl
      clear HG
      go_enter Tryz.func23, Tryz.ntmps23
      go_wp2_with fail
      obtain ⟨W0, hW0⟩ : ∃ W0, W0 = w.alloc (.cells #[.slice a1 nw c1, .slice a2 ns c2, .int .i64 K, .int .i64 L] 56) := ⟨_, rfl⟩
      have B0 : Aside (Below w.heap.size w W0) := by rw [hW0]; clear hW0; show Below _ _ _; (repeat' (first | exact Below.refl _ _ | assumption | (with_reducible refine Below.drew ?_) | (with_reducible refine Below.setCell ?_ (by (first | (simp; done) | (simp; omega))) _) | (with_reducible refine below_drewN' ?_ _) | (refine Below.alloc ?_ (by (try simp only [World.size_alloc, World.size_drew, World.size_setCell]); omega) _) | (refine Below.trans ?_ (Below.mono (by assumption) (by (try simp only [World.size_alloc, World.size_drew, World.size_setCell]); omega)))))
      have x1 : W0.cell? ⟨w.heap.size, 1, none⟩ = some (.slice a2 ns c2) := by rw [hW0]; clear hW0; go_simp
      rw [← hW0]
      clear hW0
      go_loopg [3] ns (fun gg i wr => ∃ k : Nat, k ≤ ns ∧ ns - k ≤ gg ∧ i = .int .i64 k ∧ Aside (∀ j p, j < k → ws[j]? = some p → ¬ 25 < p.2.length) ∧ wr = W0)
      case atStart => exact ⟨0, Nat.zero_le _, by omega, rfl, fun j p hj => absurd hj (Nat.not_lt_zero _), rfl⟩
      case round =>
        obtain ⟨k, hk, hg, rfl, HA, rfl⟩ := hrel
        by_cases hlt : k < ns
        · have hltz : (k : Int) < (ns : Int) := by omega
          obtain ⟨p, hp⟩ : ∃ p, ws[k]? = some p := ⟨_, List.getElem?_eq_getElem (by rw [HN.out]; exact hlt)⟩
          obtain ⟨g', off, rfl, c0, ⟨ax, cx, hxe, lx, _⟩⟩ := HR.out k p hp
          rw [hxe] at c0
          have c0 := keepc B0.out c0
          have HF : Aside (25 < p.2.length → gb = true) := by
            intro h
            rw [HG2.out]
            exact List.any_eq_true.2 ⟨p, List.mem_of_getElem? hp, decide_eq_true h⟩
          have HT : Aside (¬ 25 < p.2.length → ∀ j q, j < k + 1 → ws[j]? = some q → ¬ 25 < q.2.length) := by
            intro h j q hj hq
            by_cases e : j = k
            · subst e; rw [hp] at hq; cases hq; exact h
            · exact HA.out j q (by omega) hq
          clear HA hp hxe
          generalize p.2.length = np at *
          by_cases hb : 25 < np
          · have hbz : (25 : Int) < (np : Int) := by omega
            have e : gb = true := HF.out hb
            subst e
            go_wp2_with fail
            go_ret
            exact ⟨rfl, B0.out⟩
          · have hbz : ¬ (25 : Int) < (np : Int) := by omega
            have HT2 : Aside _ := HT.out hb
            go_wp2_with fail
            go_roundg (ns - (k + 1))
            case measure => omega
            case rel => exact ⟨k + 1, by omega, by omega, by go_num, HT2, rfl⟩
        · have hke : ns = k := by omega
          subst hke
          have hltz : ¬ (ns : Int) < (ns : Int) := by omega
          have e : gb = false := by
            rw [HG2.out, List.any_eq_false]
            intro p hp
            obtain ⟨j, hj, rfl⟩ := List.getElem_of_mem hp
            have := HA.out j _ (by rw [← HN.out]; exact hj) (List.getElem?_eq_getElem hj)
            simpa using this
          subst e
          go_wp2_with fail
          go_ret
          exact ⟨rfl, B0.out⟩

set_option maxRecDepth 100000 in
set_option maxHeartbeats 4000000 in
theorem rMost_any (v : Value) (xs : List Int) (w : World) (hs : Sl w 1 (fun x => [Value.int .i64 x]) v xs) (hne : xs ≠ []) :
    Calls Tryz.prog 32 #[v] w (Ret (.int .i64 (mx xs)) w) := by
  obtain ⟨a, c, rfl, hl, hs⟩ := hs
  obtain ⟨b, off, rfl, hb, hc⟩ := hs hne
  clear hs
  have hpos : 0 < xs.length := List.length_pos_iff.2 hne
  have HC : Aside (∀ j x, xs[j]? = some x → w.cell? ⟨b, off + j, none⟩ = some (.int .i64 x)) := fun j x hx => by have := hc j x hx 0 (.int .i64 x) rfl; simpa using this
  clear hc hne
  obtain ⟨n, hn⟩ : ∃ n, xs.length = n := ⟨_, rfl⟩
  have HN : Aside (xs.length = n) := hn
  rw [hn] at hl hpos ⊢
  have HE : Aside (mx xs = mx (xs.take n)) := by show _ = _; rw [← hn, List.take_length]
  rw [HE.out]
  clear hn
  obtain ⟨x0, hx0⟩ : ∃ x, xs[0]? = some x := ⟨_, List.getElem?_eq_getElem (by rw [HN.out]; exact hpos)⟩
  have k0 : w.cell? ⟨b, off, none⟩ = some (.int .i64 x0) := by have := HC.out 0 x0 hx0; simpa using this
  have H1 : Aside (mx (xs.take 1) = x0) := by
    show _ = _
    cases xs with
    | nil => simp at hx0
    | cons y ys => simp at hx0; simp [mx, hx0]
  clear hx0
  have hz1 : ¬ ((n : Int) < 1) := by omega
  have hz0 : (0 : Int) < (n : Int) := by omega
  go_enter Tryz.func32, Tryz.ntmps32
  go_wp2
  go_loopg [3, 4] n (fun gg m i wr => ∃ k : Nat, 1 ≤ k ∧ k ≤ n ∧ n - k ≤ gg ∧ i = .int .i64 k ∧ m = .int .i64 (mx (xs.take k)) ∧ wr = w)
  case atStart => exact ⟨1, by omega, by omega, by omega, rfl, by rw [H1.out], rfl⟩
  case round =>
    obtain ⟨k, hk1, hk, hg, rfl, rfl, rfl⟩ := hrel
    by_cases hlt : k < n
    · have hltz : (k : Int) < (n : Int) := by omega
      obtain ⟨x, hx⟩ : ∃ x, xs[k]? = some x := ⟨_, List.getElem?_eq_getElem (by rw [HN.out]; exact hlt)⟩
      have kx := HC.out k x hx
      have HM : Aside (mx (xs.take (k + 1)) = max (mx (xs.take k)) x) := by
        show _ = _
        obtain ⟨hk', e⟩ := List.getElem?_eq_some_iff.1 hx
        rw [List.take_succ_eq_append_getElem hk', e]
        exact mx_snoc _ _ (by intro e0; have := congrArg List.length e0; have := HN.out; simp only [List.length_take, List.length_nil] at *; omega)
      clear hx
      generalize mx (xs.take k) = m at *
      go_wp2
      go_roundg (n - (k + 1))
      case measure => omega
      case rel => exact ⟨k + 1, by omega, by omega, by omega, by go_num, by rw [HM.out], rfl⟩
    · have : k = n := by omega
      subst this
      have hltz : ¬ (k : Int) < (k : Int) := by omega
      go_wp2
      go_ret
      exact ⟨rfl, Below.refl _ _⟩

theorem rowForm {w : World} {base : Nat} {e : TypeId} {size : Nat} {v : Value} {n : Nat} {xs : List Value} (h : w.ownsRow base e size v n xs) (hn : 0 < n) : ∃ g c, v = .slice (some ⟨g, 0, none⟩) n c := by
  rcases h.2 with ⟨_, h0⟩ | ⟨g, cap, cur, h0, _⟩
  · omega
  · exact ⟨g, cap, h0⟩
theorem owns_below2 {w w' : World} {base : Nat} {e : TypeId} {size : Nat} {v : Value} {n : Nat} {xs : List Value} (h : w.ownsRow base e size v n xs) (hB : Below w.heap.size w w') : w'.ownsRow base e size v n xs :=
  h.kept (show w.grownBy w' none from ⟨hB.os, hB.tape, hB.output, hB.size, fun k hk _ => hB.block k hk⟩) (by cases hv : v.ownBlock <;> simp)

/-- The wear after i sectors of a week have been added. -/
def addk (worn week : List Int) (k i : Nat) : List Int := (List.range worn.length).map fun s => if (s + (worn.length - k)) % worn.length < i then worn[s]?.getD 0 + week[(s + (worn.length - k)) % worn.length]?.getD 0 else worn[s]?.getD 0
theorem addk_length (worn week : List Int) (k i : Nat) : (addk worn week k i).length = worn.length := by simp [addk]
theorem addk_zero (worn week : List Int) (k : Nat) : addk worn week k 0 = worn := by
  apply List.ext_getElem
  · simp [addk]
  · intro s h1 h2
    simp [addk, List.getElem?_eq_getElem h2]
theorem addk_get (worn week : List Int) (k i : Nat) (hk : k < worn.length) (hi : i < worn.length) : (addk worn week k i)[(i + k) % worn.length]? = some (worn[(i + k) % worn.length]?.getD 0) := by
  have hm : (i + k) % worn.length < worn.length := Nat.mod_lt _ (by omega)
  rw [List.getElem?_eq_getElem (by rw [addk_length]; exact hm)]
  simp only [addk, List.getElem_map, List.getElem_range]
  rw [(back_iff hm hk hi).2 rfl, if_neg (by omega)]
theorem addk_succ (worn week : List Int) (k i : Nat) (hk : k < worn.length) (hi : i < worn.length) : (addk worn week k i).set ((i + k) % worn.length) (worn[(i + k) % worn.length]?.getD 0 + week[i]?.getD 0) = addk worn week k (i + 1) := by
  apply List.ext_getElem
  · simp [addk]
  · intro s h1 h2
    have hs : s < worn.length := by simpa [addk] using h2
    rw [List.getElem_set]
    have hb := back_iff hs hk hi
    by_cases c : (i + k) % worn.length = s
    · rw [if_pos c]
      have := hb.2 c.symm
      simp only [addk, List.getElem_map, List.getElem_range]
      rw [this, if_pos (by omega), c]
    · rw [if_neg c]
      have hne : (s + (worn.length - k)) % worn.length ≠ i := fun h => c (hb.1 h).symm
      simp only [addk, List.getElem_map, List.getElem_range]
      by_cases d : (s + (worn.length - k)) % worn.length < i
      · rw [if_pos d, if_pos (by omega)]
      · rw [if_neg d, if_neg (by omega)]
theorem addk_all (worn week : List Int) (k : Nat) (he : worn.length = week.length) (hk : k < worn.length) : addk worn week k worn.length = aft worn week k := by
  apply List.ext_getElem
  · rw [addk_length]; unfold aft; rw [plus_length, rot_length]; exact he
  · intro s h1 h2
    have hs : s < worn.length := by simpa [addk] using h1
    have hm : (s + (worn.length - k)) % worn.length < worn.length := Nat.mod_lt _ (by omega)
    simp only [addk, aft, plus, rot, lay, List.getElem_map, List.getElem_range]
    rw [if_pos hm, if_pos hs, Int.add_comm]
    congr 1
    rw [List.getElem?_map, List.getElem?_range (by omega)]
    rw [← he]
    simp [hm]

set_option maxRecDepth 100000 in
set_option maxHeartbeats 4000000 in
theorem rWear_any (v vk : Value) (worn week : List Int) (k : Nat) (w : World) (hw : Sl w 1 eI v worn) (hs : Sl w 1 eI vk week) (he : worn.length = week.length) (hk : k < worn.length) (hle : worn.length ≤ 1000)
    (hb1 : ∀ x ∈ worn, -1000000000000 ≤ x ∧ x ≤ 1000000000000) (hb2 : ∀ x ∈ week, -1000000000000 ≤ x ∧ x ≤ 1000000000000) :
    Calls Tryz.prog 31 #[v, vk, .int .i64 k] w (SlV (aft worn week k) w) := by
  rw [← addk_all worn week k he hk]
  have H0 : Aside (worn = addk worn week k 0) := (addk_zero worn week k).symm
  have HG : Aside (∀ i, i < worn.length → (addk worn week k i)[(i + k) % worn.length]? = some (worn[(i + k) % worn.length]?.getD 0)) := fun i hi => addk_get worn week k i hk hi
  have HS : Aside (∀ i, i < worn.length → (addk worn week k i).set ((i + k) % worn.length) (worn[(i + k) % worn.length]?.getD 0 + week[i]?.getD 0) = addk worn week k (i + 1)) := fun i hi => addk_succ worn week k i hk hi
  have HAL : Aside (∀ i, (addk worn week k i).length = worn.length) := addk_length worn week k
  have HB1 : Aside (∀ x ∈ worn, -1000000000000 ≤ x ∧ x ≤ 1000000000000) := hb1
  have HB2 : Aside (∀ x ∈ week, -1000000000000 ≤ x ∧ x ≤ 1000000000000) := hb2
  have hne : worn ≠ [] := by intro e; rw [e] at hk; simp at hk
  have hne2 : week ≠ [] := by
    intro e
    have h0 : week.length = 0 := by rw [e]; rfl
    omega
  obtain ⟨a, c, rfl, hl, hs1⟩ := hw
  obtain ⟨b, off, rfl, hb, hc⟩ := hs1 hne
  obtain ⟨a2, c2, rfl, hl2, hs2⟩ := hs
  obtain ⟨b2, off2, rfl, hb2l, hc2⟩ := hs2 hne2
  have HC : Aside (∀ j u, (worn.map (Value.int .i64))[j]? = some u → (w.alloc (.cells #[] 3)).cell? ((⟨b, off, none⟩ : Addr).add j) = some u) := by
    intro j u h
    rw [List.getElem?_map] at h
    obtain ⟨x, hx, rfl⟩ := Option.map_eq_some_iff.1 h
    rw [Addr.add_lit]
    have := hc j x hx 0 _ rfl
    rw [Nat.mul_one, Nat.add_zero] at this
    exact keepc (W := w) (w1 := w.alloc (.cells #[] 3)) (a := ⟨b, off + j, none⟩) (by (repeat' (first | exact Below.refl _ _ | assumption | (with_reducible refine Below.drew ?_) | (with_reducible refine Below.setCell ?_ (by (first | (simp; done) | (simp; omega))) _) | (with_reducible refine below_drewN' ?_ _) | (refine Below.alloc ?_ (by (try simp only [World.size_alloc, World.size_drew, World.size_setCell]); omega) _) | (refine Below.trans ?_ (Below.mono (by assumption) (by (try simp only [World.size_alloc, World.size_drew, World.size_setCell]); omega)))))) this
  have HC2 : Aside (∀ j x, week[j]? = some x → w.cell? ⟨b2, off2 + j, none⟩ = some (.int .i64 x)) := fun j x hx => by have := hc2 j x hx 0 (.int .i64 x) rfl; simpa using this
  have H1 : Aside (∀ u ∈ worn.map (Value.int .i64), u.oneCell' = true) := by
    intro u hu
    obtain ⟨x, _, rfl⟩ := List.mem_map.1 hu
    rfl
  have HLA : Aside ((worn.map (Value.int .i64)).length = worn.length * 1) := by show _ = _; simp
  have HFI : Aside (∀ (W : World) (g c : Nat), W.ownsRow w.heap.size 3 1 (.slice (some ⟨g, 0, none⟩) worn.length c) worn.length ((addk worn week k worn.length).map (Value.int .i64)) → Sl W 1 eI (.slice (some ⟨g, 0, none⟩) worn.length c) (addk worn week k worn.length)) := by
    intro W g c h
    exact sl_of_own2 (by rw [addk_length]; omega) h (by rw [addk_length])
  have HWK : Aside (week.length = worn.length) := he.symm
  obtain ⟨n, hn⟩ : ∃ n, worn.length = n := ⟨_, rfl⟩
  have HN : Aside (worn.length = n) := hn
  rw [← he] at hl2 ⊢
  rw [hn] at hl hl2 hk hle HLA HFI HAL HG HS HWK ⊢
  obtain ⟨i0, hi, hz0, hz1, hz2⟩ := info_parts info_ints
  have hm1 : 0 + n ≤ maxLen := by unfold maxLen; omega
  have hm2 : (0 + n) * 8 ≤ 140737488355328 := by omega
  have hn1 : 1 ≤ n := by omega
  clear hn hs1 hs2 hc hc2 he hb1 hb2 hne hne2
  go_enter Tryz.func31, Tryz.ntmps31
  go_wp2_with (at_builtin; refine wpList_append_own _ rfl _ _ 24 rfl w.heap.size 3 i0 (.int .i64 0) 1 8 Tryz.underlying24 hi hz0 hz1 hz2 rfl (by decide) _ 0 [] rfl (owns_empty _ _ _) ⟨b, off, none⟩ n c (worn.map (Value.int .i64)) rfl HLA.out HC.out H1.out hm1 hm2 (by simp) ?_; intro v' w1 hown1 hgrow1 _)
  rw [List.nil_append, Nat.zero_add] at hown1
  obtain ⟨g1, c1, rfl⟩ := rowForm hown1 hn1
  have B1 : Aside (Below w.heap.size w w1) := ((Below.refl _ w).alloc (Nat.le_refl _) _).grown hgrow1 (by simp) (fun k e => by cases e; exact Nat.le_refl _)
  have hg1 : w.heap.size ≤ g1 := by
    rcases hown1.2 with ⟨h0, _⟩ | ⟨g', cap, cur, h0, h1, _⟩
    · cases h0
    · cases h0; exact h1
  have HMP : Aside (worn.map (Value.int .i64) = (addk worn week k 0).map (Value.int .i64)) := congrArg (List.map (Value.int .i64)) H0.out
  rw [HMP.out] at hown1
  clear hgrow1 HMP H1 HC HLA hi hz0 hz1 hz2 hm1 hm2 H0 hb
  go_loopg [8] n (fun gg i wr => ∃ j : Nat, j ≤ n ∧ n - j ≤ gg ∧ i = .int .i64 j ∧ Aside (wr.ownsRow w.heap.size 3 1 (.slice (some ⟨g1, 0, none⟩) n c1) n ((addk worn week k j).map (Value.int .i64))) ∧ Aside (Below w.heap.size w wr))
  case atStart => exact ⟨0, Nat.zero_le _, by omega, rfl, hown1, B1⟩
  case round =>
    obtain ⟨j, hj, hgg, rfl, HOW, HB⟩ := hrel
    by_cases hlt : j < n
    · have hltz : (j : Int) < (n : Int) := by omega
      obtain ⟨yw, hy⟩ : ∃ yw, week[j]? = some yw := ⟨_, List.getElem?_eq_getElem (by rw [HWK.out]; exact hlt)⟩
      have ky := keepc HB.out (HC2.out j yw hy)
      have hmn : (j + k) % n < n := Nat.mod_lt _ (by omega)
      obtain ⟨xw, hx⟩ : ∃ xw, worn[(j + k) % n]? = some xw := ⟨_, List.getElem?_eq_getElem (by rw [HN.out]; exact hmn)⟩
      have hxb := HB1.out xw (List.mem_of_getElem? hx)
      have hyb := HB2.out yw (List.mem_of_getElem? hy)
      have k1 := HOW.out.cellAt ((j + k) % n) (by omega)
      rw [List.getElem?_map, HG.out j hlt, hx] at k1
      have k1 : wr.cell? ⟨g1, (j + k) % n, none⟩ = some (.int .i64 xw) := k1
      have k2 := HOW.out.frozenAt ((j + k) % n)
      have HST : Aside (((addk worn week k j).map (Value.int .i64)).set ((j + k) % n) (.int .i64 (xw + yw)) = (addk worn week k (j + 1)).map (Value.int .i64)) := by
        show _ = _
        rw [← HS.out j hlt, List.map_set, hx, hy]; rfl
      have HSTO : Aside (∀ W : World, W.ownsRow w.heap.size 3 1 (.slice (some ⟨g1, 0, none⟩) n c1) n ((addk worn week k j).map (Value.int .i64)) → (W.setCell ⟨g1, (j + k) % n, none⟩ (.int .i64 (xw + yw))).ownsRow w.heap.size 3 1 (.slice (some ⟨g1, 0, none⟩) n c1) n ((addk worn week k (j + 1)).map (Value.int .i64))) := by
        intro W h
        have HO := h.stored ((j + k) % n) (.int .i64 (xw + yw))
        rw [HST.out] at HO
        exact HO.1
      have HET : Aside (((j : Int) + (k : Int)).tmod (n : Int) = (((j + k) % n : Nat) : Int) ∧ IntKind.i64.wrap ((j : Int) + (k : Int)) = (j : Int) + (k : Int)) := ⟨by rw [Int.tmod_eq_emod_of_nonneg (by omega)]; push_cast; rfl, IntWalk.i64_in _ (by omega)⟩
      have HEN : Aside (¬ n = 0) := by show ¬ _; omega
      have HXY : Aside (IntKind.i64.wrap (xw + yw) = xw + yw) := IntWalk.i64_in _ (by omega)
      clear HST hx hy
      generalize (j + k) % n = m at *
      have HMZ : Aside ((m : Int) < (n : Int) ∧ ¬ (m : Int) < 0) := ⟨by omega, by omega⟩
      have HK1 : Aside _ := k1
      have HK2 : Aside _ := k2
      have HG1 : Aside (w.heap.size ≤ g1) := hg1
      clear hxb hyb k2
      go_upto_region 5 with (fail)
      refine region_laid (fl := 16) [true, true, true, true, true, true, true, true, true, true, true, true, true, true, true, false] 1 (fun (i : Nat) (x : Value) (ww : World) => (match i with | 0 => x = .slice (some ⟨g1, 0, none⟩) n c1 | 1 => x = .int .i64 j | 2 => x = .int .i64 k | 3 => x = .int .i64 ((j : Int) + (k : Int)) | 4 => x = .slice (some ⟨g1, 0, none⟩) n c1 | 5 => x = .int .i64 n | 6 => x = .int .i64 m | 7 => x = .pointer (some ⟨g1, m, none⟩) | 8 => x = .int .i64 xw | 9 => x = .slice (some ⟨b2, off2, none⟩) n c2 | 10 => x = .int .i64 j | 11 => x = .pointer (some ⟨b2, off2 + j, none⟩) | 12 => x = .int .i64 yw | 13 => x = .int .i64 (xw + yw) | 14 => x = .pointer (some ⟨g1, m, none⟩) | _ => True : Prop)) (fun w' => Below wr.heap.size wr w') (by kernel_rfl) rfl (by show layable _ 34 _ 16 = true; decide +kernel) rfl ((Below.refl _ _).drew) ?mono5 ?step5 ?rest5
      case mono5 =>
        intro i x ww ww' hB h
        match i, h with
        | 0, h => exact h
        | 1, h => exact h
        | 2, h => exact h
        | 3, h => exact h
        | 4, h => exact h
        | 5, h => exact h
        | 6, h => exact h
        | 7, h => exact h
        | 8, h => exact h
        | 9, h => exact h
        | 10, h => exact h
        | 11, h => exact h
        | 12, h => exact h
        | 13, h => exact h
        | 14, h => exact h
        | n + 15, h => exact h
      case step5 =>
        intro i o_ listed ac W hA ho hL he
        have hk7 : ac.tmps.getD 7 undef = .slice (some ⟨g1, 0, none⟩) n c1 := hL.kept 7 (by decide +kernel)
        have hk8 : ac.tmps.getD 8 undef = .int .i64 j := hL.kept 8 (by decide +kernel)
        have hk1 : ac.tmps.getD 1 undef = .slice (some ⟨b2, off2, none⟩) n c2 := hL.kept 1 (by decide +kernel)
        have hk2 : ac.tmps.getD 2 undef = .int .i64 k := hL.kept 2 (by decide +kernel)
        have CL : ∀ W', Below W.heap.size W W' → Below wr.heap.size wr W' := fun W' h => hL.cls.trans (h.mono hL.cls.size)
        have k_k1 := keepc hL.cls k1
        have k_ky := keepc hL.cls ky
        match i, hA, ho with
        | 0, _, ho =>
          cases ho
          refine wpOp_plain rfl rfl ?_
          unfold Oper.wp
          go_simp
          exact ⟨_, rfl, Below.refl _ _, CL _ (Below.refl _ _), rfl⟩
        | 1, _, ho =>
          cases ho
          refine wpOp_plain rfl rfl ?_
          unfold Oper.wp
          go_simp
          exact ⟨_, rfl, Below.refl _ _, CL _ (Below.refl _ _), rfl⟩
        | 2, _, ho =>
          cases ho
          refine wpOp_plain rfl rfl ?_
          unfold Oper.wp
          go_simp
          exact ⟨_, rfl, Below.refl _ _, CL _ (Below.refl _ _), rfl⟩
        | 3, _, ho =>
          cases ho
          have d1 : ac.tmps.getD 19 undef = .int .i64 j := hL.new 1 _ 19 rfl (he ⟨1, .data⟩ (by simp) rfl) rfl
          have d2 : ac.tmps.getD 20 undef = .int .i64 k := hL.new 2 _ 20 rfl (he ⟨2, .data⟩ (by simp) rfl) rfl
          have eS := HET.out.2
          refine wpOp_plain rfl rfl ?_
          unfold Oper.wp
          go_simp
          exact ⟨_, rfl, Below.refl _ _, CL _ (Below.refl _ _), rfl⟩
        | 4, _, ho =>
          cases ho
          refine wpOp_plain rfl rfl ?_
          unfold Oper.wp
          go_simp
          exact ⟨_, rfl, Below.refl _ _, CL _ (Below.refl _ _), rfl⟩
        | 5, _, ho =>
          cases ho
          have d4 : ac.tmps.getD 22 undef = .slice (some ⟨g1, 0, none⟩) n c1 := hL.new 4 _ 22 rfl (he ⟨4, .data⟩ (by simp) rfl) rfl
          refine wpOp_plain rfl rfl ?_
          unfold Oper.wp
          go_simp
          exact ⟨_, rfl, Below.refl _ _, CL _ (Below.refl _ _), rfl⟩
        | 6, _, ho =>
          cases ho
          have d3 : ac.tmps.getD 21 undef = .int .i64 ((j : Int) + (k : Int)) := hL.new 3 _ 21 rfl (he ⟨3, .data⟩ (by simp) rfl) rfl
          have d5 : ac.tmps.getD 23 undef = .int .i64 n := hL.new 5 _ 23 rfl (he ⟨5, .data⟩ (by simp) rfl) rfl
          have eT := HET.out.1
          have eN := HEN.out
          refine wpOp_plain rfl rfl ?_
          unfold Oper.wp
          go_simp
          exact ⟨_, rfl, Below.refl _ _, CL _ (Below.refl _ _), rfl⟩
        | 7, _, ho =>
          cases ho
          have d0 : ac.tmps.getD 18 undef = .slice (some ⟨g1, 0, none⟩) n c1 := hL.new 0 _ 18 rfl (he ⟨0, .data⟩ (by simp) rfl) rfl
          have d6 : ac.tmps.getD 24 undef = .int .i64 m := hL.new 6 _ 24 rfl (he ⟨6, .data⟩ (by simp) rfl) rfl
          have hmz := HMZ.out.1
          have hmz2 := HMZ.out.2
          refine wpOp_plain rfl rfl ?_
          unfold Oper.wp
          go_simp
          exact ⟨_, rfl, Below.refl _ _, CL _ (Below.refl _ _), rfl⟩
        | 8, _, ho =>
          cases ho
          have d7 : ac.tmps.getD 25 undef = .pointer (some ⟨g1, m, none⟩) := hL.new 7 _ 25 rfl (he ⟨7, .data⟩ (by simp) rfl) rfl
          refine wpOp_plain rfl rfl ?_
          unfold Oper.wp
          go_simp
          exact ⟨_, rfl, Below.refl _ _, CL _ (Below.refl _ _), rfl⟩
        | 9, _, ho =>
          cases ho
          refine wpOp_plain rfl rfl ?_
          unfold Oper.wp
          go_simp
          exact ⟨_, rfl, Below.refl _ _, CL _ (Below.refl _ _), rfl⟩
        | 10, _, ho =>
          cases ho
          refine wpOp_plain rfl rfl ?_
          unfold Oper.wp
          go_simp
          exact ⟨_, rfl, Below.refl _ _, CL _ (Below.refl _ _), rfl⟩
        | 11, _, ho =>
          cases ho
          have d9 : ac.tmps.getD 27 undef = .slice (some ⟨b2, off2, none⟩) n c2 := hL.new 9 _ 27 rfl (he ⟨9, .data⟩ (by simp) rfl) rfl
          have d10 : ac.tmps.getD 28 undef = .int .i64 j := hL.new 10 _ 28 rfl (he ⟨10, .data⟩ (by simp) rfl) rfl
          refine wpOp_plain rfl rfl ?_
          unfold Oper.wp
          go_simp
          exact ⟨_, rfl, Below.refl _ _, CL _ (Below.refl _ _), rfl⟩
        | 12, _, ho =>
          cases ho
          have d11 : ac.tmps.getD 29 undef = .pointer (some ⟨b2, off2 + j, none⟩) := hL.new 11 _ 29 rfl (he ⟨11, .data⟩ (by simp) rfl) rfl
          refine wpOp_plain rfl rfl ?_
          unfold Oper.wp
          go_simp
          exact ⟨_, rfl, Below.refl _ _, CL _ (Below.refl _ _), rfl⟩
        | 13, _, ho =>
          cases ho
          have d8 : ac.tmps.getD 26 undef = .int .i64 xw := hL.new 8 _ 26 rfl (he ⟨8, .data⟩ (by simp) rfl) rfl
          have d12 : ac.tmps.getD 30 undef = .int .i64 yw := hL.new 12 _ 30 rfl (he ⟨12, .data⟩ (by simp) rfl) rfl
          have hxy := HXY.out
          refine wpOp_plain rfl rfl ?_
          unfold Oper.wp
          go_simp
          exact ⟨_, rfl, Below.refl _ _, CL _ (Below.refl _ _), rfl⟩
        | 14, _, ho =>
          cases ho
          have d0 : ac.tmps.getD 18 undef = .slice (some ⟨g1, 0, none⟩) n c1 := hL.new 0 _ 18 rfl (he ⟨0, .data⟩ (by simp) rfl) rfl
          have d6 : ac.tmps.getD 24 undef = .int .i64 m := hL.new 6 _ 24 rfl (he ⟨6, .data⟩ (by simp) rfl) rfl
          have hmz := HMZ.out.1
          have hmz2 := HMZ.out.2
          refine wpOp_plain rfl rfl ?_
          unfold Oper.wp
          go_simp
          exact ⟨_, rfl, Below.refl _ _, CL _ (Below.refl _ _), rfl⟩
        | 15, hA, _ => cases hA
        | n + 16, hA, _ => simp at hA
      case rest5 =>
        intro ac W5 hL
        have e18 : ac.tmps.getD 18 undef = .slice (some ⟨g1, 0, none⟩) n c1 := hL.new 0 _ 18 rfl rfl rfl
        have e19 : ac.tmps.getD 19 undef = .int .i64 j := hL.new 1 _ 19 rfl rfl rfl
        have e20 : ac.tmps.getD 20 undef = .int .i64 k := hL.new 2 _ 20 rfl rfl rfl
        have e21 : ac.tmps.getD 21 undef = .int .i64 ((j : Int) + (k : Int)) := hL.new 3 _ 21 rfl rfl rfl
        have e22 : ac.tmps.getD 22 undef = .slice (some ⟨g1, 0, none⟩) n c1 := hL.new 4 _ 22 rfl rfl rfl
        have e23 : ac.tmps.getD 23 undef = .int .i64 n := hL.new 5 _ 23 rfl rfl rfl
        have e24 : ac.tmps.getD 24 undef = .int .i64 m := hL.new 6 _ 24 rfl rfl rfl
        have e25 : ac.tmps.getD 25 undef = .pointer (some ⟨g1, m, none⟩) := hL.new 7 _ 25 rfl rfl rfl
        have e26 : ac.tmps.getD 26 undef = .int .i64 xw := hL.new 8 _ 26 rfl rfl rfl
        have e27 : ac.tmps.getD 27 undef = .slice (some ⟨b2, off2, none⟩) n c2 := hL.new 9 _ 27 rfl rfl rfl
        have e28 : ac.tmps.getD 28 undef = .int .i64 j := hL.new 10 _ 28 rfl rfl rfl
        have e29 : ac.tmps.getD 29 undef = .pointer (some ⟨b2, off2 + j, none⟩) := hL.new 11 _ 29 rfl rfl rfl
        have e30 : ac.tmps.getD 30 undef = .int .i64 yw := hL.new 12 _ 30 rfl rfl rfl
        have e31 : ac.tmps.getD 31 undef = .int .i64 (xw + yw) := hL.new 13 _ 31 rfl rfl rfl
        have e32 : ac.tmps.getD 32 undef = .pointer (some ⟨g1, m, none⟩) := hL.new 14 _ 32 rfl rfl rfl
        have es := hL.sets [18, 19, 20, 21, 22, 23, 24, 25, 26, 27, 28, 29, 30, 31, 32] (by decide +kernel)
        rw [List.foldl_cons, List.foldl_cons, List.foldl_cons, List.foldl_cons, List.foldl_cons, List.foldl_cons, List.foldl_cons, List.foldl_cons, List.foldl_cons, List.foldl_cons, List.foldl_cons, List.foldl_cons, List.foldl_cons, List.foldl_cons, List.foldl_cons, List.foldl_nil, e18, e19, e20, e21, e22, e23, e24, e25, e26, e27, e28, e29, e30, e31, e32] at es
        have BN : Below wr.heap.size wr W5 := hL.cls
        rw [es]
        clear es hL e18 e19 e20 e21 e22 e23 e24 e25 e26 e27 e28 e29 e30 e31 e32
        simp only [List.setIfInBounds_toArray, List.set_cons_zero, List.set_cons_succ]
        have k2 := (BN.frozen (p := ⟨g1, m, none⟩) (World.block_lt_of_cell? _ _ HK1.out)).trans HK2.out
        have k1 := keepc BN HK1.out
        have HOW3 : Aside _ := HSTO.out W5 (owns_below2 HOW.out BN)
        have B5 := HB.out.trans (BN.mono HB.out.size)
        refine wpAny_one (i := 15) (by decide +kernel) rfl rfl ?_
        unfold Oper.wp
        go_simp
        refine wpAny_done (by decide +kernel) ?_ _
        go_wp2_with fail
        go_roundg (n - (j + 1))
        case measure => omega
        case rel => exact ⟨j + 1, by omega, by omega, by go_num, HOW3, B5.setCell (p := ⟨g1, m, none⟩) HG1.out _⟩
    · have : j = n := by omega
      subst this
      have hltz : ¬ (j : Int) < (j : Int) := by omega
      go_wp2
      go_ret
      exact ⟨_, rfl, HFI.out _ _ _ HOW.out, HB.out⟩
end Go.Proofs.YtgceffpkhmjmkaaGreat
