/- Board, part Ta: mathematics of a ring that is turned: plain lists, no program. -/
import Derived.Test.YtgceffpkhmjmkaaGreatP
set_option linter.unusedVariables false
set_option linter.unusedSimpArgs false
namespace Go.Proofs.YtgceffpkhmjmkaaGreat

theorem rot_get (xs : List Int) (k s : Nat) (hs : s < xs.length) : (rot xs k)[s]? = some (xs[(s + (xs.length - k)) % xs.length]?.getD 0) := by
  rw [List.getElem?_eq_getElem (by rw [rot_length]; exact hs)]
  simp only [rot, lay, List.getElem_map, List.getElem_range]
  rw [if_pos (Nat.mod_lt _ (by omega))]

theorem rot_eq (xs : List Int) (k : Nat) (hk : k < xs.length) : rot xs k = xs.drop (xs.length - k) ++ xs.take (xs.length - k) := by
  apply List.ext_getElem?
  intro s
  by_cases hs : s < xs.length
  · rw [rot_get xs k s hs]
    by_cases c : s < k
    · rw [List.getElem?_append_left (by rw [List.length_drop]; omega), List.getElem?_drop, Nat.mod_eq_of_lt (by omega), show xs.length - k + s = s + (xs.length - k) by omega, List.getElem?_eq_getElem (by omega)]; rfl
    · rw [List.getElem?_append_right (by rw [List.length_drop]; omega), List.length_drop, Nat.mod_eq_sub_mod (by omega), Nat.mod_eq_of_lt (by omega), List.getElem?_take, if_pos (by omega), show s + (xs.length - k) - xs.length = s - (xs.length - (xs.length - k)) by omega, List.getElem?_eq_getElem (by omega)]; rfl
  · rw [List.getElem?_eq_none (by rw [rot_length]; omega), List.getElem?_eq_none (by simp; omega)]

theorem rot_perm (xs : List Int) (k : Nat) (hk : k < xs.length) : (rot xs k).Perm xs := by
  rw [rot_eq xs k hk]
  exact List.perm_append_comm.trans (by rw [List.take_append_drop])

theorem rot_back (xs : List Int) (k : Nat) (hk : k < xs.length) : rot (rot xs k) ((xs.length - k) % xs.length) = xs := by
  apply List.ext_getElem?
  intro s
  by_cases hs : s < xs.length
  · rw [rot_get _ _ s (by rw [rot_length]; exact hs), rot_length]
    have hm : (s + (xs.length - (xs.length - k) % xs.length)) % xs.length < xs.length := Nat.mod_lt _ (by omega)
    rw [rot_get xs k _ hm, Option.getD_some]
    have : ((s + (xs.length - (xs.length - k) % xs.length)) % xs.length + (xs.length - k)) % xs.length = s := by
      by_cases h0 : k = 0
      · subst h0
        rw [Nat.sub_zero, Nat.mod_self, Nat.sub_zero, Nat.add_mod_right, Nat.add_mod_right, Nat.mod_mod, Nat.mod_eq_of_lt hs]
      · rw [Nat.mod_eq_of_lt (show xs.length - k < xs.length by omega), show xs.length - (xs.length - k) = k by omega, Nat.mod_add_mod, show s + k + (xs.length - k) = s + xs.length by omega, Nat.add_mod_right, Nat.mod_eq_of_lt hs]
    rw [this, List.getElem?_eq_getElem hs]; rfl
  · rw [List.getElem?_eq_none (by rw [rot_length, rot_length]; omega), List.getElem?_eq_none (by omega)]
end Go.Proofs.YtgceffpkhmjmkaaGreat
