/- Board, part P: a ring that is turned by k places. -/
import Derived.Test.YtgceffpkhmjmkaaGreatC
import Derived.OwnWalk
import Derived.Laws.OwnMore
set_option linter.unusedVariables false
set_option linter.unusedSimpArgs false
namespace Go.Proofs.YtgceffpkhmjmkaaGreat
open Go.RowKit Go.Shelf

/-- The ring after i elements have been laid. -/
def lay (xs : List Int) (k i : Nat) : List Int := (List.range xs.length).map fun s => if (s + (xs.length - k)) % xs.length < i then xs[(s + (xs.length - k)) % xs.length]?.getD 0 else 0
def rot (xs : List Int) (k : Nat) : List Int := lay xs k xs.length

theorem lay_length (xs : List Int) (k i : Nat) : (lay xs k i).length = xs.length := by simp [lay]
theorem rot_length (xs : List Int) (k : Nat) : (rot xs k).length = xs.length := lay_length _ _ _

theorem back_iff {n k s i : Nat} (hs : s < n) (hk : k < n) (hi : i < n) : (s + (n - k)) % n = i ↔ s = (i + k) % n := by
  constructor
  · intro h
    by_cases c : s + (n - k) < n
    · rw [Nat.mod_eq_of_lt c] at h
      rw [show i + k = s + n by omega, Nat.add_mod_right, Nat.mod_eq_of_lt hs]
    · rw [Nat.mod_eq_sub_mod (by omega), Nat.mod_eq_of_lt (by omega)] at h
      rw [Nat.mod_eq_of_lt (by omega)]; omega
  · intro h
    by_cases c : i + k < n
    · rw [Nat.mod_eq_of_lt c] at h
      rw [Nat.mod_eq_sub_mod (by omega), Nat.mod_eq_of_lt (by omega)]; omega
    · rw [Nat.mod_eq_sub_mod (by omega), Nat.mod_eq_of_lt (by omega)] at h
      rw [Nat.mod_eq_of_lt (by omega)]; omega

theorem lay_succ (xs : List Int) (k i : Nat) (x : Int) (hk : k < xs.length) (hx : xs[i]? = some x) : (lay xs k i).set ((i + k) % xs.length) x = lay xs k (i + 1) := by
  obtain ⟨hi, e⟩ := List.getElem?_eq_some_iff.1 hx
  apply List.ext_getElem
  · simp [lay_length]
  · intro s h1 h2
    have hs : s < xs.length := by simpa [lay_length] using h2
    rw [List.getElem_set]
    have hb := back_iff hs hk hi
    by_cases c : (i + k) % xs.length = s
    · rw [if_pos c]
      have := hb.2 c.symm
      simp only [lay, List.getElem_map, List.getElem_range]
      rw [this, if_pos (by omega), hx]; rfl
    · rw [if_neg c]
      have hne : (s + (xs.length - k)) % xs.length ≠ i := fun h => c (hb.1 h).symm
      simp only [lay, List.getElem_map, List.getElem_range]
      by_cases d : (s + (xs.length - k)) % xs.length < i
      · rw [if_pos d, if_pos (by omega)]
      · rw [if_neg d, if_neg (by omega)]

theorem lay_zero (xs : List Int) (k : Nat) : lay xs k 0 = List.replicate xs.length 0 := by
  apply List.ext_getElem
  · simp [lay_length]
  · intro s h1 h2
    simp [lay]

/-- What a call leaves that hands back a new row of its own. -/
def RetRow (xs : List Int) (w : World) (e : Ending) (w' : World) : Prop :=
  ∃ g, e = .returned (.slice (some ⟨g, 0, none⟩) xs.length xs.length) ∧ w.heap.size ≤ g ∧ w'.ownsRow w.heap.size 3 1 (.slice (some ⟨g, 0, none⟩) xs.length xs.length) xs.length (xs.map (Value.int .i64)) ∧ Below w.heap.size w w'

theorem info_int : (Tryz.prog.info? 3).map (fun i => (i.zero, i.size, i.bytes)) = some (some (.int .i64 0), 1, 8) := by kernel_rfl

theorem made_zero (n : Nat) : (madeCells (Value.int .i64 0).cells (n * 1)).toList = (List.replicate n (0 : Int)).map (Value.int .i64) := by
  apply List.ext_getElem
  · simp [madeCells]
  · intro i h1 h2
    simp [madeCells, Value.cells]
    rw [Nat.mod_one]; rfl

set_option maxRecDepth 100000 in
set_option maxHeartbeats 2000000 in
theorem turned_any (v : Value) (xs : List Int) (k : Nat) (w : World) (hs : Sl w 1 (fun x => [Value.int .i64 x]) v xs) (hk : k < xs.length) (hle : xs.length ≤ 1000) :
    Calls Tryz.prog 58 #[v, .int .i64 k] w (RetRow (rot xs k) w) := by
  unfold RetRow
  rw [rot_length]
  obtain ⟨a, c, rfl, hl, hs⟩ := hs
  obtain ⟨b, off, rfl, hb, hc⟩ := hs (by intro e; rw [e] at hk; simp at hk)
  clear hs
  have HC : Aside (∀ j x, xs[j]? = some x → w.cell? ⟨b, off + j, none⟩ = some (.int .i64 x)) := fun j x hx => by have := hc j x hx 0 (.int .i64 x) rfl; simpa using this
  clear hc
  have HZ : Aside (lay xs k 0 = List.replicate xs.length 0) := lay_zero xs k
  have HS : Aside (∀ i x, xs[i]? = some x → (lay xs k i).set ((i + k) % xs.length) x = lay xs k (i + 1)) := fun i x hx => lay_succ xs k i x hk hx
  have HR : Aside (rot xs k = lay xs k xs.length) := rfl
  obtain ⟨n, hn⟩ : ∃ n, xs.length = n := ⟨_, rfl⟩
  have HN : Aside (xs.length = n) := hn
  rw [HR.out]
  rw [hn] at hl hk hle HZ HS ⊢
  clear hn HR
  obtain ⟨i0, hi, hz0, hz1, hz2⟩ := info_parts info_int
  have b2 : i0.bytes * n ≤ 281474976710656 := by rw [hz2]; omega
  go_enter Tryz.func58, Tryz.ntmps58
  go_wp2_with (at_make; refine wpList_make_full _ rfl _ _ 24 rfl w.heap.size 3 i0 (.int .i64 0) 1 Tryz.underlying24 hi hz0 hz1 .i64 .i64 _ _ n rfl rfl rfl rfl b2 (by unfold maxLen; omega) (Nat.le_refl _) ?_; intro w1 hown1 hgrow1)
  rw [made_zero, ← HZ.out] at hown1
  have B1 : Below w.heap.size w w1 := (Below.refl _ w).grown hgrow1 (Nat.le_refl _) (fun j e => by cases e)
  clear hgrow1 HZ hi hz0 hz1 hz2 b2
  go_loopg [13] n (fun gg i wr => ∃ j : Nat, j ≤ n ∧ n - j ≤ gg ∧ i = .int .i64 j ∧ wr.ownsRow w.heap.size 3 1 (.slice (some ⟨w.heap.size, 0, none⟩) n n) n ((lay xs k j).map (Value.int .i64)) ∧ Aside (Below w.heap.size w wr))
  case atStart => exact ⟨0, Nat.zero_le _, by omega, rfl, hown1, B1⟩
  case round =>
    obtain ⟨j, hj, hg, rfl, hown, HB⟩ := hrel
    by_cases hlt : j < n
    · have hltz : (j : Int) < (n : Int) := by omega
      obtain ⟨x, hx⟩ : ∃ x, xs[j]? = some x := ⟨_, List.getElem?_eq_getElem (by rw [HN.out]; exact hlt)⟩
      have kx := keepc HB.out (HC.out j x hx)
      have HST := HS.out j x hx
      have eN : ¬ n = 0 := by omega
      have hm : (j + k) % n < n := Nat.mod_lt _ (by omega)
      have eT : ((j : Int) + (k : Int)).tmod (n : Int) = (((j + k) % n : Nat) : Int) := by rw [Int.tmod_eq_emod_of_nonneg (by omega)]; push_cast; rfl
      have eS : IntKind.i64.wrap ((j : Int) + (k : Int)) = (j : Int) + (k : Int) := IntWalk.i64_in _ (by omega)
      have k1 := hown.cellAt ((j + k) % n) (by omega)
      obtain ⟨u, hu⟩ : ∃ u, ((lay xs k j).map (Value.int .i64))[(j + k) % n]? = some u := ⟨_, List.getElem?_eq_getElem (by rw [List.length_map, lay_length, HN.out]; exact hm)⟩
      rw [hu] at k1
      have k2 := hown.frozenAt ((j + k) % n)
      have HO := hown.stored ((j + k) % n) (.int .i64 x)
      have HST' : Aside (((lay xs k j).map (Value.int .i64)).set ((j + k) % n) (.int .i64 x) = (lay xs k (j + 1)).map (Value.int .i64)) := by
        show _ = _
        rw [← HST, List.map_set]
      rw [HST'.out] at HO
      have HOA : Aside ((wr.setCell ⟨w.heap.size, (j + k) % n, none⟩ (.int .i64 x)).ownsRow w.heap.size 3 1 (.slice (some ⟨w.heap.size, 0, none⟩) n n) n ((lay xs k (j + 1)).map (Value.int .i64))) := HO.1
      clear HO HST HST' hx hu hown
      generalize (j + k) % n = m at *
      have hmz : (m : Int) < (n : Int) := by omega
      go_wp2
      go_roundg (n - (j + 1))
      case measure => omega
      case rel => exact ⟨j + 1, by omega, by omega, by go_num, HOA.out, (show Below _ _ _ from HB.out.setCell (p := ⟨w.heap.size, m, none⟩) (Nat.le_refl _) _)⟩
    · have : j = n := by omega
      subst this
      have hltz : ¬ (j : Int) < (j : Int) := by omega
      go_wp2
      go_ret
      exact ⟨w.heap.size, rfl, Nat.le_refl _, hown, HB.out⟩
end Go.Proofs.YtgceffpkhmjmkaaGreat
