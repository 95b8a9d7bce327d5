/- Board, part Yc: the statements' own copies of weeks. -/
import Derived.Test.YtifabfbnjnjhlaaYb
import Derived.Test.YtifabfbnjnjhlaaX
set_option linter.unusedVariables false
set_option linter.unusedSimpArgs false
namespace Go.Proofs.Ytifabfbnjnjhlaa
open Go.RowKit Go.Shelf

set_option maxRecDepth 100000 in
set_option maxHeartbeats 1000000 in
theorem ints_row (v : Value) (xs : List (Int)) (w : World) (hs : Sl w 1 (fun x => [Value.int .i64 x]) v xs) (hne : xs ≠ []) (hle : xs.length ≤ 1000) :
    Calls Try.prog 20 #[v] w (fun e w' => ∃ v', e = .returned v' ∧ w'.ownsRow w.heap.size 3 1 v' xs.length (xs.map (Value.int .i64)) ∧ Below w.heap.size w w') := by
  have hk : ∀ x, (((fun x => [Value.int .i64 x])) x).length = 1 := fun _ => rfl
  obtain ⟨a, c, rfl, hl, hs⟩ := hs
  obtain ⟨b, off, rfl, hb, hc⟩ := hs hne
  have HC : Aside (∀ j u, ((xs.map ((fun x => [Value.int .i64 x]))).flatten)[j]? = some u → w.cell? ⟨b, off + j, none⟩ = some u) := by
    intro j u h
    obtain ⟨q, x, i, h1, h2, h3⟩ := flat_inv _ 1 hk xs j u h
    have := hc q x h1 i u h2
    rw [h3, ← Nat.add_assoc]; exact this
  have H1 : Aside (∀ u ∈ (xs.map ((fun x => [Value.int .i64 x]))).flatten, u.oneCell' = true) := by
    intro u hu
    obtain ⟨l, hl, hu⟩ := List.mem_flatten.1 hu
    obtain ⟨x, _, rfl⟩ := List.mem_map.1 hl
    try simp only [] at hu
    simp only [List.mem_cons, List.not_mem_nil, or_false] at hu
    subst hu; rfl
  have HL := flat_len ((fun x => [Value.int .i64 x])) 1 hk xs
  have HF : Aside (∀ (w' : World) (v' : Value), w'.ownsRow w.heap.size 3 1 v' (0 + xs.length) ([] ++ (xs.map ((fun x => [Value.int .i64 x]))).flatten) → ∃ g c, v' = .slice (some ⟨g, 0, none⟩) xs.length c ∧ w.heap.size ≤ g ∧ g < w'.heap.size ∧ Sl w' 1 ((fun x => [Value.int .i64 x])) (.slice (some ⟨g, 0, none⟩) xs.length c) xs) := fun w' v' h => sl_of_row hk hl hne (by simpa using h)
  obtain ⟨i0, hi, hz0, hz1, hz2⟩ := info_parts info_ints
  have HFL : Aside ((xs.map ((fun x => [Value.int .i64 x]))).flatten = xs.map (Value.int .i64)) := flat_one xs
  clear hs hc hk hne
  have HLA : Aside (((xs.map ((fun x => [Value.int .i64 x]))).flatten).length = xs.length * 1) := HL
  clear HL
  have HC2 : Aside (∀ j u, ((xs.map ((fun x => [Value.int .i64 x]))).flatten)[j]? = some u → (w.alloc (.cells #[] 3)).cell? ((⟨b, off, none⟩ : Addr).add j) = some u) := by
    intro j u h
    rw [Addr.add_lit]
    exact keepc (W := w) (w1 := w.alloc (.cells #[] 3)) (a := ⟨b, off + j, none⟩) (by (repeat' (first | exact Below.refl _ _ | assumption | (with_reducible refine Below.drew ?_) | (with_reducible refine Below.setCell ?_ (by (first | (simp; done) | (simp; omega))) _) | (with_reducible refine below_drewN' ?_ _) | (refine Below.alloc ?_ (by (try simp only [World.size_alloc, World.size_drew, World.size_setCell]); omega) _) | (refine Below.trans ?_ (Below.mono (by assumption) (by (try simp only [World.size_alloc, World.size_drew, World.size_setCell]); omega)))))) (HC.out j u h)
  have hm1 : 0 + xs.length ≤ maxLen := by unfold maxLen; omega
  have hm2 : (0 + xs.length) * 8 ≤ 140737488355328 := by omega
  go_enter Try.func20, Try.ntmps20
  go_wp2_with (at_builtin; refine wpList_append_own _ rfl _ _ 29 rfl w.heap.size 3 i0 (.int .i64 0) 1 8 Try.underlying29 hi hz0 hz1 hz2 rfl (by decide) _ 0 [] rfl (owns_empty _ _ _) ⟨b, off, none⟩ xs.length c ((xs.map ((fun x => [Value.int .i64 x]))).flatten) rfl HLA.out HC2.out H1.out hm1 hm2 (by simp) ?_; intro v' w1 hown1 hgrow1 _; obtain ⟨g, c', rfl, hg1, hg2, hsl⟩ := HF.out _ _ hown1)
  go_ret
  refine ⟨_, rfl, ?_, ((Below.refl _ w).alloc (Nat.le_refl _) _).grown hgrow1 (by simp) (fun k e => by cases e; exact Nat.le_refl _)⟩
  rw [HFL.out] at hown1
  simpa using hown1

/-- What weeks leaves. -/
def WeeksOk (ls : List (List Int)) (w : World) (e : Ending) (w' : World) : Prop :=
  ∃ (v2 : Value) (ws : List (Value × List Int)), e = .returned v2 ∧ Sl w' 1 eR v2 ws ∧ ws.map (·.2) = ls ∧ (∀ x ∈ ws, Sl w' 1 eI x.1 x.2) ∧ Below w.heap.size w w'

set_option maxRecDepth 100000 in
set_option maxHeartbeats 4000000 in
theorem weeks_any (v : Value) (ws : List (Value × List Int)) (w : World) (hs : Sl w 1 eR v ws) (hx : ∀ x ∈ ws, Sl w 1 eI x.1 x.2) (hne : ∀ x ∈ ws, x.2 ≠ []) (hl : ∀ x ∈ ws, x.2.length ≤ 1000) (h1 : 1 ≤ ws.length) (h2 : ws.length ≤ 3) :
    Calls Try.prog 23 #[v] w (WeeksOk (ws.map (·.2)) w) := by
  obtain ⟨a, c, rfl, hll, hs⟩ := hs
  obtain ⟨b, off, rfl, hb, hc⟩ := hs (by intro e; rw [e] at h1; simp at h1)
  have HC : Aside (∀ k, k < ws.length → ∃ (u : Value) (xs : List Int), ws[k]? = some (u, xs) ∧ (∀ W, Below w.heap.size w W → W.cell? ⟨b, off + k, none⟩ = some u) ∧ (∀ W, Below w.heap.size w W → Calls Try.prog 20 #[u] W (fun e w' => ∃ v', e = .returned v' ∧ w'.ownsRow W.heap.size 3 1 v' xs.length (xs.map (Value.int .i64)) ∧ Below W.heap.size W w')) ∧ 1 ≤ xs.length ∧ xs.length ≤ 1000) := by
    intro k hk
    have hg := List.getElem?_eq_getElem hk
    have hm := List.getElem_mem hk
    refine ⟨ws[k].1, ws[k].2, by rw [hg], ?_, ?_, List.length_pos_iff.2 (hne _ hm), hl _ hm⟩
    · intro W hW
      have := hc k _ hg 0 _ rfl
      rw [Nat.mul_one, Nat.add_zero] at this
      exact keepc hW this
    · intro W hW
      exact ints_row _ _ W ((hx _ hm).below hW) (hne _ hm) (hl _ hm)
  have HN : Aside (∀ k u xs, ws[k]? = some (u, xs) → (ws.map (·.2)).take (k + 1) = (ws.map (·.2)).take k ++ [xs]) := by
    intro k u xs h
    obtain ⟨hk, e⟩ := List.getElem?_eq_some_iff.1 h
    rw [List.take_succ_eq_append_getElem (by rw [List.length_map]; exact hk), List.getElem_map, e]
  have HE : Aside (ws.map (·.2) = (ws.map (·.2)).take ws.length) := (List.take_of_length_le (by simp)).symm
  rw [HE.out]
  clear hs hc hx hne hl
  generalize ws.map (·.2) = ls at *
  obtain ⟨n, hn⟩ : ∃ n, ws.length = n := ⟨_, rfl⟩
  rw [hn] at h1 h2 hll HC ⊢
  clear hn HE
  obtain ⟨i1, hii, hy0, hy1, hy2⟩ := info_parts info_ii
  go_enter Try.func23, Try.ntmps23
  go_wp2_with fail
  have o2 : (w.alloc (.cells #[] 29)).ownsRow w.heap.size 29 1 (.slice (some ⟨w.heap.size, 0, none⟩) 0 0) 0 [] := owns_empty w _ 1
  have B0 : Below w.heap.size w (w.alloc (.cells #[] 29)) := (Below.refl _ _).alloc (Nat.le_refl _) _
  go_loopg [3, 4] n (fun gg s3 iv wr => ∃ (q : Nat) (v2 : Value) (us : List (Value × List Int)), q ≤ n ∧ n - q ≤ gg ∧ iv = .int .i64 q ∧ v2 = s3 ∧ wr.ownsRow w.heap.size 29 1 v2 q (us.map (·.1)) ∧ Aside (us.length = q ∧ us.map (·.2) = ls.take q ∧ ∀ x ∈ us, x.2 ≠ [] ∧ x.2.length ≤ 1000 ∧ wr.ownsRow w.heap.size 3 1 x.1 x.2.length (x.2.map (Value.int .i64))) ∧ Aside (Below w.heap.size w wr))
  case atStart => exact ⟨0, _, [], Nat.zero_le _, by omega, rfl, rfl, o2, ⟨rfl, rfl, by simp⟩, B0⟩
  case round =>
    obtain ⟨q, v2, us, hq, hg, rfl, rfl, own2, HUS, BK⟩ := hrel
    by_cases hlt : q < n
    · have hltz : (q : Int) < (n : Int) := by omega
      obtain ⟨u, xs, hu, hcell, hcall, hx1, hx2⟩ := HC.out q hlt
      have kc := hcell wr BK.out
      have x1 := hcall wr BK.out
      have HT : Aside _ := HN.out q u xs hu
      have HXL : Aside (1 ≤ xs.length ∧ xs.length ≤ 1000) := ⟨hx1, hx2⟩
      have HZ := BK.out.size
      clear hu hcell hcall hx1 hx2
      go_wp2_with (first | (go_at_call 20; (with_reducible refine x1.mono ?_); rintro e w1 ⟨u1, rfl, own1, hb1⟩; obtain ⟨gu, cu, rfl⟩ := ownsRow_form own1 HXL.out.1; have OW1 : Aside _ := own1; clear own1) | (at_builtin; refine wpList_append_own _ rfl _ _ 61 rfl w.heap.size 29 i1 (.slice none 0 0) 1 24 Try.underlying61 hii hy0 hy1 hy2 rfl (by decide) v2 q _ rfl ((owns_below own2 hb1).alloc _) ⟨w1.heap.size, 0, none⟩ 1 1 [.slice (some ⟨gu, 0, none⟩) xs.length cu] rfl rfl (one_new w1 _ _) (by intro u hu; simp at hu; subst hu; rfl) (by unfold maxLen; omega) (by omega) (by simp; have := hb1.size; omega) ?_; intro v' w2 hown2 hgrow2 _))
      go_roundg (n - (q + 1))
      case measure => omega
      case rel =>
        have z1 := hb1.size
        have ow := (owns_below own2 hb1).alloc (.cells #[.slice (some ⟨gu, 0, none⟩) xs.length cu] 29)
        obtain ⟨h1, h2, h3⟩ := HUS.out
        refine ⟨q + 1, _, us ++ [(.slice (some ⟨gu, 0, none⟩) xs.length cu, xs)], by omega, by omega, by go_num, rfl, by rw [List.map_append]; exact hown2, ⟨by simp; omega, by rw [List.map_append, h2, HT.out]; rfl, ?_⟩, ((BK.out.trans (hb1.mono HZ)).trans ((Below.refl _ _).alloc (by omega) _)).grown hgrow2 (by simp; omega) (fun r e => (ow.lt r e).1)⟩
        intro x hx
        rcases List.mem_append.1 hx with hx | hx
        · exact ⟨(h3 x hx).1, (h3 x hx).2.1, owns_apart ((owns_below (h3 x hx).2.2 hb1).alloc _) ow (by decide) hgrow2⟩
        · rw [List.mem_singleton] at hx
          subst hx
          refine ⟨List.length_pos_iff.1 HXL.out.1, HXL.out.2, owns_apart (World.ownsRow.alloc (Go.Joins.ownsRow_le OW1.out HZ) _) ow (by decide) hgrow2⟩
    · have hqe : q = n := by omega
      subst hqe
      have hltz : ¬ (q : Int) < (q : Int) := by omega
      go_wp2_with fail
      go_ret
      obtain ⟨h1, h2, h3⟩ := HUS.out
      refine ⟨v2, us, rfl, ?_, h2, ?_, BK.out⟩
      · exact sl_of_own1 (·.1) (by omega) own2 h1.symm (by intro e; rw [e] at h1; simp at h1; omega)
      · intro x hx
        exact sl_of_own1 (Value.int .i64) (by have := (h3 x hx).2.1; omega) (h3 x hx).2.2 rfl (h3 x hx).1
end Go.Proofs.Ytifabfbnjnjhlaa
