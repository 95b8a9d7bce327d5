/- Board, part Tb: what a turned board has: it is valid if the board is; where a dart lands on it. -/
import Derived.Test.YtgceffpkhmjmkaaGreatN
import Derived.Test.YtgceffpkhmjmkaaGreatTa
set_option linter.unusedVariables false
set_option linter.unusedSimpArgs false
namespace Go.Proofs.YtgceffpkhmjmkaaGreat

def turnB' (b : Brd) (k : Nat) : Brd := { b with nums := rot b.nums k }

theorem chk_turn (b : Brd) (k : Nat) (hc : chk b = 0) (hk : k < b.nums.length) : chk (turnB' b k) = 0 := by
  have hp := rot_perm b.nums k hk
  have hl : (rot b.nums k).length = b.nums.length := rot_length _ _
  have e1 : long (turnB' b k) = long b := by unfold long turnB'; simp only [hl]
  have e2 : numsOk (turnB' b k) = numsOk b := by
    unfold numsOk turnB' dist
    simp only [hl]
    have h1 : (rot b.nums k).all (inb 1 20) = b.nums.all (inb 1 20) := by
      rw [Bool.eq_iff_iff, List.all_eq_true, List.all_eq_true]
      exact ⟨fun h x hx => h x (hp.mem_iff.2 hx), fun h x hx => h x (hp.mem_iff.1 hx)⟩
    have h2 : decide (rot b.nums k).Nodup = decide b.nums.Nodup := by
      rw [Bool.eq_iff_iff, decide_eq_true_eq, decide_eq_true_eq]; exact hp.nodup_iff
    rw [h1, h2]
  have e3 : valid (turnB' b k) = valid b := by unfold valid; rw [e2]; rfl
  unfold chk at hc ⊢
  rw [e1, e3]; exact hc

theorem onWire_turn (b : Brd) (k : Nat) (p : Int × Int) : onWire (turnB' b k) p = onWire b p := rfl
theorem sector_turn (b : Brd) (k : Nat) (p : Int × Int) : sector (turnB' b k) p = sector b p := rfl

/-- Where a dart lands, before the number is known: a bed without a number, or a factor and a sector. -/
theorem landed_turn (b : Brd) (k : Nat) (p : Int × Int) : (landed (turnB' b k) p = landed b p ∧ (landed b p = 225 ∨ landed b p = 125 ∨ landed b p = 0)) ∨
    ∃ f, landed b p = bedOf f (b.nums[sector b p]?.getD 0) ∧ landed (turnB' b k) p = bedOf f ((rot b.nums k)[sector b p]?.getD 0) ∧ ∃ r ∈ b.rings, r.2 = f := by
  unfold landed
  rw [sector_turn]
  by_cases c1 : dt p p < b.eye * b.eye
  · left; rw [if_pos c1, if_pos (show dt p p < (turnB' b k).eye * (turnB' b k).eye from c1)]; exact ⟨rfl, .inl rfl⟩
  · rw [if_neg c1, if_neg (show ¬ dt p p < (turnB' b k).eye * (turnB' b k).eye from c1)]
    by_cases c2 : dt p p < b.bull * b.bull
    · left; rw [if_pos c2, if_pos (show dt p p < (turnB' b k).bull * (turnB' b k).bull from c2)]; exact ⟨rfl, .inr (.inl rfl)⟩
    · rw [if_neg c2, if_neg (show ¬ dt p p < (turnB' b k).bull * (turnB' b k).bull from c2)]
      cases h : b.rings.findIdx? (fun r => decide (dt p p < r.1 * r.1)) with
      | none =>
        left
        have h' : (turnB' b k).rings.findIdx? (fun r => decide (dt p p < r.1 * r.1)) = none := h
        simp only [h']; simp
      | some i =>
        right
        have h' : (turnB' b k).rings.findIdx? (fun r => decide (dt p p < r.1 * r.1)) = some i := h
        simp only [h']
        obtain ⟨hi, _, _⟩ := List.findIdx?_eq_some_iff_getElem.1 h
        refine ⟨b.rings[i].2, by rw [List.getElem?_eq_getElem hi]; rfl, ?_, _, List.getElem_mem hi, rfl⟩
        show bedOf ((b.rings[i]?.getD (0, 0)).2) _ = _
        rw [List.getElem?_eq_getElem hi]; rfl
end Go.Proofs.YtgceffpkhmjmkaaGreat
