/- Leg, part Ae: the document's examples, as data. -/
import Derived.Test.YthcgbceapabikaaAd
set_option linter.unusedVariables false
set_option linter.unusedSimpArgs false
namespace Go.Proofs.Ythcgbceapabikaa
open Go.RowKit Go.Maps Go.Sort Go.Shelf Go.Deep

def twoR (eq : Bool) : LegR := ⟨[(101, 0, 1), (101, 0, 1)], 0, 0, eq⟩
def exP1 : List (Int × List Int) := [(0, [320, 101, 220]), (1, [320, 101, 220])]
theorem ex_visit1 : visitF (101, 0, 1) true 101 [320, 220] = (⟨101, 0, 2, true, true, false⟩, 0) := by decide +kernel
theorem ex_visit2 : visitF (101, 1, 0) false 101 [320, 210, 120] = (⟨61, 40, 3, true, false, false⟩, 0) := by decide +kernel
theorem least_sorted {ps : List (Int × Int)} {m : Int} {xs : List Int} (h : leastU (mn (ps.map (·.2))) ps = xs) (hs : xs.Pairwise (fun x y => decide (x ≤ y) = true)) : leastL ps = xs := by
  unfold leastL
  rw [h]
  exact List.mergeSort_of_pairwise hs
theorem ex_near1 : nearL [0, 1, 2] [(125, 0), (101, 300), (125, 0)] = [0, 2] := by
  unfold nearL
  exact least_sorted (m := 0) (by decide +kernel) (by decide)
theorem ex_near2 : nearL [0, 2] [(103, 250), (104, 240)] = [2] := by
  unfold nearL
  exact least_sorted (m := 0) (by decide +kernel) (by decide)
theorem ex_off : offF 3 [[(125, 0), (101, 300), (125, 0)], [(103, 250), (104, 240)]] = (2, 0) := by
  unfold offF
  rw [show evL (3 : Int).toNat = [0, 1, 2] from rfl]
  simp only [offL, ex_near1, ex_near2]
  decide +kernel
theorem ex_play1o : (judgeK (twoR true) exP1 2).1.over = true ∧ (judgeK (twoR true) exP1 2).1.round = 1 := by decide +kernel
theorem ex_play1w : (judgeK (twoR true) exP1 2).1.wins = leastL [(0, 3), (1, 3)] := by rfl
theorem ex_play1n : (judgeK (twoR true) exP1 2).1.wins.length = 2 := by
  rw [ex_play1w]
  unfold leastL
  rw [List.length_mergeSort]
  decide +kernel
theorem ex_match1 : (matchF ⟨2, 2, 2, 2, 0⟩ [0, 0, 1, 1, 0, 1, 0, 0]).2.2 = (0, 0) ∧ (matchF ⟨2, 2, 2, 2, 0⟩ [0, 0, 1, 1, 0, 1, 0, 0]).1.win = 0 ∧ (matchF ⟨2, 2, 2, 2, 0⟩ [0, 0, 1, 1, 0, 1, 0, 0]).1.l0 = 3 ∧ (matchF ⟨2, 2, 2, 2, 0⟩ [0, 0, 1, 1, 0, 1, 0, 0]).1.l1 = 1 := by decide +kernel
def exJ : List (Int × List Int) := [(0, [101, 101, 101]), (0, [101, 101, 101]), (1, [120, 120]), (1, [120, 120, 120])]
def exP2 : List (Int × List Int) := [(0, [320, 101, 0]), (0, [0, 0, 0])]
theorem ex_play2 : playE (twoR false) exP2 = (1, 30) := by decide +kernel
theorem ex_play2g : playG (twoR false) exP2 = none := by decide +kernel
theorem ex_play1 : playE (twoR true) exP1 = (0, 0) := by decide +kernel
theorem ex_judge : judgeE (twoR false) exJ = 0 := by decide +kernel
theorem ex_judgeF : (judgeK (twoR false) exJ 4).2 = [(1, -1, 30), (2, -1, 31)] := by decide +kernel
theorem ex_judgeL : (judgeK (twoR false) exJ 4).1.left = [98, 41] ∧ (judgeK (twoR false) exJ 4).1.next = 0 := by decide +kernel
end Go.Proofs.Ythcgbceapabikaa
