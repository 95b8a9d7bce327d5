/- Board, part U: the wear after a week. -/
import Derived.Test.YtgceffpkhmjmkaaGreatP
set_option linter.unusedVariables false
set_option linter.unusedSimpArgs false
namespace Go.Proofs.YtgceffpkhmjmkaaGreat
open Go.RowKit Go.Shelf

/-- A row to whose first i elements those of another one have been added. -/
def plus (r xs : List Int) (i : Nat) : List Int := (List.range r.length).map fun s => if s < i then r[s]?.getD 0 + xs[s]?.getD 0 else r[s]?.getD 0
def aft (worn week : List Int) (k : Nat) : List Int := plus (rot week k) worn worn.length

theorem plus_length (r xs : List Int) (i : Nat) : (plus r xs i).length = r.length := by simp [plus]
theorem plus_zero (r xs : List Int) : plus r xs 0 = r := by
  apply List.ext_getElem
  · simp [plus_length]
  · intro s h1 h2
    simp [plus, List.getElem?_eq_getElem h2]
theorem plus_get (r xs : List Int) (i : Nat) (hi : i < r.length) : (plus r xs i)[i]? = some (r[i]?.getD 0) := by
  rw [List.getElem?_eq_getElem (by rw [plus_length]; exact hi)]
  simp [plus]
theorem plus_succ (r xs : List Int) (i : Nat) (hi : i < r.length) : (plus r xs i).set i (r[i]?.getD 0 + xs[i]?.getD 0) = plus r xs (i + 1) := by
  apply List.ext_getElem
  · simp [plus_length]
  · intro s h1 h2
    rw [List.getElem_set]
    by_cases c : i = s
    · subst c; simp [plus]
    · rw [if_neg c]
      simp only [plus, List.getElem_map, List.getElem_range]
      by_cases d : s < i
      · rw [if_pos d, if_pos (by omega)]
      · rw [if_neg d, if_neg (by omega)]

theorem rot_bd (xs : List Int) (k : Nat) (M : Int) (hM : 0 ≤ M) (h : ∀ x ∈ xs, -M ≤ x ∧ x ≤ M) (i : Nat) : -M ≤ (rot xs k)[i]?.getD 0 ∧ (rot xs k)[i]?.getD 0 ≤ M := by
  have aux : ∀ j : Nat, -M ≤ xs[j]?.getD 0 ∧ xs[j]?.getD 0 ≤ M := by
    intro j
    by_cases hj : j < xs.length
    · rw [List.getElem?_eq_getElem hj]; exact h _ (List.getElem_mem hj)
    · rw [List.getElem?_eq_none (by omega)]; simp; omega
  by_cases hi : i < (rot xs k).length
  · rw [List.getElem?_eq_getElem hi]
    simp only [rot, lay, List.getElem_map, List.getElem_range, Option.getD_some]
    split
    · exact aux _
    · omega
  · rw [List.getElem?_eq_none (by omega)]; simp; omega

set_option maxRecDepth 100000 in
set_option maxHeartbeats 2000000 in
theorem after_any (v vk : Value) (worn week : List Int) (k : Nat) (w : World) (hw : Sl w 1 (fun x => [Value.int .i64 x]) v worn) (hs : Sl w 1 (fun x => [Value.int .i64 x]) vk week) (he : worn.length = week.length) (hk : k < week.length) (hle : week.length ≤ 1000)
    (hb1 : ∀ x ∈ worn, -1000000000000 ≤ x ∧ x ≤ 1000000000000) (hb2 : ∀ x ∈ week, -1000000000000 ≤ x ∧ x ≤ 1000000000000) :
    Calls Tryz.prog 60 #[v, vk, .int .i64 k] w (RetRow (aft worn week k) w) := by
  have x1 := turned_any vk week k w hs hk hle
  unfold RetRow at x1 ⊢
  have hal : (aft worn week k).length = week.length := by unfold aft; rw [plus_length, rot_length]
  rw [hal]
  rw [rot_length] at x1
  have HRB : Aside (∀ i : Nat, -1000000000000 ≤ (rot week k)[i]?.getD 0 ∧ (rot week k)[i]?.getD 0 ≤ 1000000000000) := rot_bd week k 1000000000000 (by omega) hb2
  have HA : Aside (aft worn week k = plus (rot week k) worn week.length) := by show _ = _; unfold aft; rw [he]
  rw [HA.out]
  have HRL : Aside ((rot week k).length = week.length) := rot_length _ _
  obtain ⟨a2, c2, rfl, hl2, _⟩ := hs
  obtain ⟨a, c, rfl, hl, hw⟩ := hw
  obtain ⟨b, off, rfl, hb, hc⟩ := hw (by intro e; rw [e] at he; simp at he; omega)
  clear hw
  have HC : Aside (∀ j x, worn[j]? = some x → w.cell? ⟨b, off + j, none⟩ = some (.int .i64 x)) := fun j x hx => by have := hc j x hx 0 (.int .i64 x) rfl; simpa using this
  have HBW : Aside (∀ x ∈ worn, -1000000000000 ≤ x ∧ x ≤ 1000000000000) := hb1
  clear hc hb1 hb2 hal HA
  rw [he] at hl
  have HWL : Aside (worn.length = week.length) := he
  rw [he]
  clear he
  generalize rot week k = r at *
  generalize week.length = n at *
  go_enter Tryz.func60, Tryz.ntmps60
  go_wp2_with (go_at_call 58; (with_reducible refine x1.mono ?_); rintro e w1 ⟨g, rfl, hg, hown0, hB0⟩)
  rw [← plus_zero r worn] at hown0
  have hgne : b ≠ g := by omega
  go_loopg [15] n (fun gg i wr => ∃ j : Nat, j ≤ n ∧ n - j ≤ gg ∧ i = .int .i64 j ∧ wr.ownsRow w.heap.size 3 1 (.slice (some ⟨g, 0, none⟩) n n) n ((plus r worn j).map (Value.int .i64)) ∧ Aside (Below w.heap.size w wr))
  case atStart => exact ⟨0, Nat.zero_le _, by omega, rfl, hown0, hB0⟩
  case round =>
    obtain ⟨j, hj, hgg, rfl, hown, HB⟩ := hrel
    by_cases hlt : j < n
    · have hltz : (j : Int) < (n : Int) := by omega
      obtain ⟨x, hx⟩ : ∃ x, worn[j]? = some x := ⟨_, List.getElem?_eq_getElem (by rw [HWL.out]; exact hlt)⟩
      have kx := keepc HB.out (HC.out j x hx)
      have hxb := HBW.out x (List.mem_of_getElem? hx)
      have hrb := HRB.out j
      have k1 := hown.cellAt j (by omega)
      rw [List.getElem?_map, plus_get r worn j (by rw [HRL.out]; exact hlt)] at k1
      have k1' : wr.cell? ⟨g, j, none⟩ = some (.int .i64 (r[j]?.getD 0)) := k1
      have k2 := hown.frozenAt j
      have HO := hown.stored j (.int .i64 (r[j]?.getD 0 + x))
      have HST : Aside (((plus r worn j).map (Value.int .i64)).set j (.int .i64 (r[j]?.getD 0 + x)) = (plus r worn (j + 1)).map (Value.int .i64)) := by
        show _ = _
        rw [← plus_succ r worn j (by rw [HRL.out]; exact hlt), List.map_set, hx]; rfl
      rw [HST.out] at HO
      clear k1 hx hown HST
      generalize r[j]?.getD 0 = y at *
      have HOA : Aside ((wr.setCell ⟨g, j, none⟩ (.int .i64 (y + x))).ownsRow w.heap.size 3 1 (.slice (some ⟨g, 0, none⟩) n n) n ((plus r worn (j + 1)).map (Value.int .i64))) := HO.1
      clear HO
      obtain ⟨u1, u2⟩ := hxb
      obtain ⟨u3, u4⟩ := hrb
      go_wp2
      go_roundg (n - (j + 1))
      case measure => omega
      case rel => exact ⟨j + 1, by omega, by omega, by go_num, HOA.out, (show Below _ _ _ from HB.out.setCell (p := ⟨g, j, none⟩) hg _)⟩
    · have : j = n := by omega
      subst this
      have hltz : ¬ (j : Int) < (j : Int) := by omega
      go_wp2
      go_ret
      exact ⟨g, rfl, hg, hown, HB.out⟩
end Go.Proofs.YtgceffpkhmjmkaaGreat
