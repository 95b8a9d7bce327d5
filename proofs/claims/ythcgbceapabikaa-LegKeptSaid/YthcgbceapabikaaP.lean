/- Leg, part P: who throws first, by darts at the bull. -/
import Derived.Test.YthcgbceapabikaaO
set_option linter.unusedVariables false
set_option linter.unusedSimpArgs false
namespace Go.Proofs.Ythcgbceapabikaa
open Go.RowKit Go.Maps Go.Sort Go.Shelf

/-- Players with how far their darts are. -/
def farP (ps : List Int) (ds : List (Int × Int)) : List (Int × Int) := (ps.zip ds).map fun p => (p.1, distF p.2)
def nearL (ps : List Int) (ds : List (Int × Int)) : List Int := leastL (farP ps ds)

theorem farP_length {ps : List Int} {ds : List (Int × Int)} (h : ds.length = ps.length) : (farP ps ds).length = ps.length := by simp [farP]; omega
theorem farP_keys {ps : List Int} {ds : List (Int × Int)} (h : ds.length = ps.length) : (farP ps ds).map (·.1) = ps := by
  unfold farP
  rw [List.map_map]
  have : ((fun p : Int × Int => p.1) ∘ fun p : Int × (Int × Int) => (p.1, distF p.2)) = fun p => p.1 := rfl
  rw [this]
  exact List.map_fst_zip (by omega)
theorem farP_get {ps : List Int} {ds : List (Int × Int)} {k : Nat} {p : Int} {d : Int × Int} (h1 : ps[k]? = some p) (h2 : ds[k]? = some d) : (farP ps ds)[k]? = some (p, distF d) := by
  unfold farP
  rw [List.getElem?_map, (List.getElem?_zip_eq_some (z := (p, d))).2 ⟨h1, h2⟩]; rfl
theorem take_snoc' {α : Type} {l : List α} {k : Nat} {x : α} (h : l[k]? = some x) : l.take (k + 1) = l.take k ++ [x] := by
  obtain ⟨h1, h2⟩ := List.getElem?_eq_some_iff.1 h
  rw [List.take_succ_eq_append_getElem h1, h2]

set_option maxRecDepth 100000 in
set_option maxHeartbeats 4000000 in
theorem nearest_any (v vd : Value) (ps : List Int) (ds : List (Int × Int)) (w : World) (hv : Sl w 1 eI v ps) (hd : Sl w 2 encP vd ds) (hlen : ds.length = ps.length) (hnd : ps.Nodup) (hne : ps ≠ []) (hl : ps.length ≤ 1000) (hb : ∀ p ∈ ps, 0 ≤ p ∧ p ≤ 1000) (hf : ∀ d ∈ ds, -9223372036854775808 ≤ d.2 ∧ d.2 ≤ 9223372036854775807) :
    Calls Try.prog 57 #[v, vd] w (RetOwn (nearL ps ds) w) := by
  have HK : Aside ((farP ps ds).map (·.1) = ps) := farP_keys hlen
  have HL : Aside ((farP ps ds).length = ps.length) := farP_length hlen
  have HG : Aside (∀ k p d, ps[k]? = some p → ds[k]? = some d → (farP ps ds)[k]? = some (p, distF d)) := fun k p d => farP_get
  unfold nearL
  generalize farP ps ds = fs at *
  obtain ⟨a, cp, rfl, hl1, hs⟩ := hv
  obtain ⟨a2, cp2, rfl, hl2, hs2⟩ := hd
  have HS : Aside (ps ≠ [] → ∃ b off, a = some ⟨b, off, none⟩ ∧ b < w.heap.size ∧ ∀ j x, ps[j]? = some x → ∀ i y, (eI x)[i]? = some y → w.cell? ⟨b, off + j * 1 + i, none⟩ = some y) := hs
  have HS2 : Aside (ds ≠ [] → ∃ b off, a2 = some ⟨b, off, none⟩ ∧ b < w.heap.size ∧ ∀ j x, ds[j]? = some x → ∀ i y, (encP x)[i]? = some y → w.cell? ⟨b, off + j * 2 + i, none⟩ = some y) := hs2
  have HB : Aside ((∀ p ∈ ps, 0 ≤ p ∧ p ≤ 1000) ∧ (∀ d ∈ ds, -9223372036854775808 ≤ d.2 ∧ d.2 ≤ 9223372036854775807) ∧ ps.Nodup ∧ ps ≠ []) := ⟨hb, hf, hnd, hne⟩
  obtain ⟨n, hn⟩ : ∃ n, ps.length = n := ⟨_, rfl⟩
  have HN : Aside (ps.length = n ∧ ds.length = n) := ⟨hn, by omega⟩
  have hdn : ds.length = n := by omega
  rw [hn] at hl hl1
  rw [hdn, hn]
  clear hs hs2 hb hf hnd hne hlen hn hl2 hdn
  have hmm := @run_makeMap Try.prog
  go_enter Try.func57, Try.ntmps57
  go_wp2
  clear hmm
  go_loopw [11] (fun i wr => ∃ (k : Nat) (D : DataW Unit), k ≤ n ∧ i = .int .i64 k ∧ OwnM wr w.heap.size k D ∧ Aside (Rep D (fs.take k)) ∧ Aside (Below w.heap.size w wr)) (fun i _ => n - (intOf i).toNat)
  case atStart => exact ⟨0, _, Nat.zero_le _, rfl, World.ownsMap_made _ _ _ _, by rw [List.take_zero]; exact Rep.empty, (Below.refl _ _).alloc (Nat.le_refl _) _⟩
  case round =>
    obtain ⟨k, D, hk, rfl, hown, HR, HBW⟩ := hrel
    by_cases hlt : k < n
    · have hltz : (k : Int) < (n : Int) := by omega
      obtain ⟨p, hp⟩ : ∃ p, ps[k]? = some p := ⟨_, List.getElem?_eq_getElem (by rw [HN.out.1]; exact hlt)⟩
      obtain ⟨d, hd⟩ : ∃ d, ds[k]? = some d := ⟨_, List.getElem?_eq_getElem (by rw [HN.out.2]; exact hlt)⟩
      obtain ⟨B, off, rfl, hBlt, hcl⟩ := HS.out HB.out.2.2.2
      obtain ⟨B2, off2, rfl, hBlt2, hcl2⟩ := HS2.out (by intro e; rw [e] at hd; simp at hd)
      have kp : wr.cell? ⟨B, off + k, none⟩ = some (.int .i64 p) := keepc HBW.out (by have := hcl k p hp 0 (.int .i64 p) rfl; simpa using this)
      have kd0 : wr.cell? ⟨B2, off2 + k * 2, none⟩ = some (.int .i64 d.1) := keepc HBW.out (by have := hcl2 k d hd 0 (.int .i64 d.1) rfl; simpa using this)
      have kd1 : wr.cell? ⟨B2, off2 + k * 2 + 1, none⟩ = some (.int .i64 d.2) := keepc HBW.out (by have := hcl2 k d hd 1 (.int .i64 d.2) rfl; simpa using this)
      have hg := HG.out k p d hp hd
      have HT : Aside (fs.take (k + 1) = fs.take k ++ [(p, distF d)]) := take_snoc' hg
      have HF : Aside (p ∉ (fs.take k).map (·.1)) := by
        intro hm
        rw [List.map_take, HK.out] at hm
        obtain ⟨j, hj, e⟩ := List.getElem_of_mem hm
        have hjk : j < k := by simp at hj; omega
        rw [List.getElem_take] at e
        obtain ⟨h1, h2⟩ := List.getElem?_eq_some_iff.1 hp
        exact (List.pairwise_iff_getElem.1 HB.out.2.2.1) j k (by omega) h1 hjk (e.trans h2.symm)
      have hpb := HB.out.1 p (List.mem_of_getElem? hp)
      have hdb := HB.out.2.1 d (List.mem_of_getElem? hd)
      have hdist : -9223372036854775808 ≤ distF d ∧ distF d ≤ 9223372036854775807 := by unfold distF; split <;> (try split) <;> (try split) <;> omega
      have x1 := fun W => distance_any d W
      unfold pt at x1
      have hkey : keyOf Try.prog 3 (.int .i64 p) = some (.int .i64 p) := keyOf_int_mk Try.underlying3 (WalkArith.wf_i64 (by omega))
      have hwf : (Lit.int .i64 (distF d)).wf = true := WalkArith.wf_i64 (by omega)
      generalize distF d = dd at *
      clear hcl hcl2 hp hd hg hpb hdb hdist
      have hkn : k + 1 ≤ 1000 := by omega
      go_wp2_with (first | (go_at_call 78; (with_reducible refine (x1 _).mono ?_); rintro e w1 ⟨rfl, hb1⟩; have hown1 := ownsMap_below hown hb1) | (at_mapUpdate; refine wpList_mapUpdate_own _ rfl _ _ _ 116 rfl 3 3 int_k Try.underlying116 (plainElem (H := Unit) Try.prog 3) w.heap.size k _ rfl hown1 (by unfold maxLen; omega) _ _ _ rfl rfl hkey _ [] (plainElem_int Try.underlying3 hwf) ?_; intro w3 hown3 hgrow3))
      go_roundw
      case rel => exact ⟨k + 1, _, by omega, by go_num, hown3, by rw [HT.out]; exact HR.out.put HF.out, (HBW.out.trans (hb1.mono HBW.out.size)).grown hgrow3 (by have := HBW.out.size; have := hb1.size; omega) (fun j hj => by cases hj; exact Nat.le_refl _)⟩
      case measure => simp [intOf]; omega
    · have hltz : ¬ (k : Int) < (n : Int) := by omega
      have : k = n := by omega
      subst this
      have HR2 : Aside (Rep D fs) := by
        have h1 := HR.out
        rw [List.take_of_length_le (by rw [HL.out, HN.out.1]; exact Nat.le_refl _)] at h1
        exact h1
      have x2 := least_any w.heap.size k D fs wr hown HR2.out (by
        intro e
        have h1 := HK.out
        rw [e] at h1
        exact HB.out.2.2.2 h1.symm) (by rw [HL.out, HN.out.1]; exact hl)
      clear hown HR
      go_wp2_with fail
      refine x2.mono ?_
      rintro e w4 ⟨v4, rfl, hrow4, hnil4, hb4⟩
      have H4 : Aside _ := hrow4
      have H5 : Aside (v4 = .slice none 0 0 ↔ leastL fs = []) := hnil4
      clear hrow4 hnil4 x2
      go_wp2
      go_ret
      exact ⟨_, rfl, ownsRow_base H4.out HBW.out.size, H5.out, HBW.out.trans (hb4.mono HBW.out.size)⟩
end Go.Proofs.Ythcgbceapabikaa
