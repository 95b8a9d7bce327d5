/- Board, part Ul: the bed of a point on a board that is turned. -/
import Derived.Test.YtifabfbnjnjhlaaTb
import Derived.Test.YtifabfbnjnjhlaaUf
set_option linter.unusedVariables false
set_option linter.unusedSimpArgs false
namespace Go.Proofs.Ytifabfbnjnjhlaa

theorem sector_lt {b : Brd} (g : Good b) (p : Int × Int) : sector b p < b.nums.length := by
  rw [g.same]
  have hne := g.lines
  have h0 : 0 < b.lines.length := List.length_pos_iff.2 hne
  have hself : ∀ (ls : List (Int × Int)), 0 < ls.length → ∀ k, k < ls.length → sec ls p (k + 1) < ls.length ∧ sec ls p (k + 1) ≤ k := by
    intro ls hls k
    induction k with
    | zero =>
      intro hk
      have e : sec ls p (0 + 1) ≤ 0 := by
        unfold sec
        rw [List.getElem?_eq_getElem hls]
        simp only []
        split
        · exact Nat.le_refl _
        · exact Nat.le_refl _
      exact ⟨by omega, e⟩
    | succ k ih =>
      intro hk
      obtain ⟨i1, i2⟩ := ih (by omega)
      have e : sec ls p (k + 1 + 1) ≤ k + 1 := by
        rw [sec]
        rw [List.getElem?_eq_getElem hls, List.getElem?_eq_getElem hk]
        simp only []
        split
        · omega
        · exact Nat.le_refl _
      exact ⟨by omega, e⟩
  unfold sector
  have := (hself b.lines h0 (b.lines.length - 1) (by omega)).1
  rwa [show b.lines.length - 1 + 1 = b.lines.length by omega] at this

theorem nodup_of_chk {b : Brd} (hc : chk b = 0) : b.nums.Nodup := by
  unfold chk at hc
  split at hc
  · omega
  · split at hc
    · rename_i hv
      unfold valid numsOk dist at hv
      simp only [Bool.and_eq_true, decide_eq_true_eq] at hv
      exact hv.1.2.2
    · omega
theorem turn_bed {b : Brd} (hc : chk b = 0) (k : Nat) (hk : k < b.nums.length) (p : Int × Int) :
    (bedW (turnB' b k) p = bedW b p ∧ (bedW b p = 0 ∨ bedW b p % 100 = 25)) ∨
    (bedW b p ≠ 0 ∧ bedW b p % 100 ≠ 25 ∧ bedW b p / 100 = bedW (turnB' b k) p / 100 ∧ ∀ i, i < b.nums.length → b.nums[i]?.getD 0 = bedW b p % 100 → b.nums[(i + b.nums.length - k) % b.nums.length]?.getD 0 = bedW (turnB' b k) p % 100) := by
  have g := good_of_chk hc
  unfold bedW
  rw [onWire_turn]
  cases hw : onWire b p with
  | true => left; simp
  | false =>
    simp only [Bool.false_eq_true, if_false]
    rcases landed_turn b k p with ⟨h1, h2⟩ | ⟨f, h1, h2, r, hr, rfl⟩
    · left; exact ⟨h1, by omega⟩
    · have hf := g.fac r hr
      have hs := sector_lt g p
      have hn := g.num _ (List.getElem_mem hs)
      rw [rot_get b.nums k _ hs] at h2
      rw [h1, h2]
      simp only [Option.getD_some]
      have hlen : (sector b p + (b.nums.length - k)) % b.nums.length < b.nums.length := Nat.mod_lt _ (by omega)
      have hn2 := g.num _ (List.getElem_mem hlen)
      rw [List.getElem?_eq_getElem hs, List.getElem?_eq_getElem hlen]
      simp only [Option.getD_some]
      unfold bedOf
      by_cases hz : r.2 = 0
      · left; rw [if_pos hz, if_pos hz]; omega
      · right
        rw [if_neg hz, if_neg hz]
        refine ⟨by omega, by omega, by omega, ?_⟩
        intro i hi he
        have hd : b.nums.Nodup := nodup_of_chk hc
        rw [List.getElem?_eq_getElem hi, Option.getD_some] at he
        have e2 : b.nums[i] = b.nums[sector b p] := by omega
        have hpw := List.pairwise_iff_getElem.1 (List.nodup_iff_pairwise_ne.1 hd)
        have hii : i = sector b p := by
          rcases Nat.lt_trichotomy i (sector b p) with h | h | h
          · exact absurd e2 (hpw i _ hi hs h)
          · exact h
          · exact absurd e2.symm (hpw _ i hs hi h)
        subst hii
        rw [show sector b p + b.nums.length - k = sector b p + (b.nums.length - k) by omega, List.getElem?_eq_getElem hlen, Option.getD_some]
        omega
end Go.Proofs.Ytifabfbnjnjhlaa
