/- Leg, part Ah: what the examples' calls return. -/
import Derived.Test.YthcgbceapabikaaAf
set_option linter.unusedVariables false
set_option linter.unusedSimpArgs false
namespace Go.Proofs.Ythcgbceapabikaa
open Go.RowKit Go.Maps Go.Sort Go.Shelf Go.Deep

theorem ex_matchA : matchF ⟨2, 2, 2, 2, 0⟩ [0, 0, 1, 1, 0, 1, 0, 0] = (⟨2, 1, 3, 1, 0⟩, -1, 0, 0) := by decide +kernel
theorem ex_play1g : playG (twoR true) exP1 = some (judgeK (twoR true) exP1 2).1 := by
  unfold playG
  rw [if_pos (by decide +kernel)]
  have : (judgeK (twoR true) exP1 exP1.length).2 = [] := by decide +kernel
  rw [this]
  rfl
theorem play1_ok {w w' : World} {e : Ending} (h : PlayOk (twoR true) exP1 w e w') : Below w.heap.size w w' ∧ ∃ al ad ai aw cl cd ci cw nl nd ni nx, e = .returned (.tuple #[.agg #[.slice al nl cl, .slice ad nd cd, .slice ai ni ci, .int .i64 nx, .int .i64 1, .bool true, .slice aw 2 cw], .int .i64 0, .int .i64 0]) := by
  obtain ⟨hB, vs, rfl, hm⟩ := h
  rw [ex_play1g] at hm
  obtain ⟨vl, vd, vi, vw, rfl, h1, h2, h3, h4, _⟩ := hm
  obtain ⟨al, cl, rfl, _⟩ := h1
  obtain ⟨ad, cd, rfl, _⟩ := h2
  obtain ⟨ai, ci, rfl, _⟩ := h3
  obtain ⟨aw, cw, rfl, _⟩ := h4
  exact ⟨hB, al, ad, ai, aw, cl, cd, ci, cw, _, _, _, _, by rw [ex_play1, ex_play1o.1, ex_play1o.2, ex_play1n]⟩
theorem play2_ok {w w' : World} {e : Ending} (h : PlayOk (twoR false) exP2 w e w') : Below w.heap.size w w' ∧ e = .returned (.tuple #[zeroSt, .int .i64 1, .int .i64 30]) := by
  obtain ⟨hB, vs, rfl, hm⟩ := h
  rw [ex_play2g] at hm
  rw [ex_play2, hm]
  exact ⟨hB, rfl⟩
theorem judge_ok {w w' : World} {e : Ending} (h : JudgeOk (twoR false) exJ w e w') : Below w.heap.size w w' ∧ ∃ al ad ai aw af cl cd ci cw cf nd ni nw rd ov, e = .returned (.tuple #[.agg #[.slice al 2 cl, .slice ad nd cd, .slice ai ni ci, .int .i64 0, .int .i64 rd, .bool ov, .slice aw nw cw], .slice af 2 cf, .int .i64 0]) ∧
    Sl w' 1 eI (.slice al 2 cl) [98, 41] ∧ Sl w' 3 encF (.slice af 2 cf) [(1, -1, 30), (2, -1, 31)] := by
  obtain ⟨hB, vs, vf, rfl, hm, _⟩ := h
  obtain ⟨hm, hf, _⟩ := hm ex_judge
  rw [show exJ.length = 4 from rfl, ex_judgeF] at hf
  rw [show exJ.length = 4 from rfl] at hm
  obtain ⟨vl, vd, vi, vw, rfl, h1, h2, h3, h4, _⟩ := hm
  rw [ex_judgeL.1] at h1
  obtain ⟨al, cl, rfl, h1⟩ := h1
  obtain ⟨ad, cd, rfl, _⟩ := h2
  obtain ⟨ai, ci, rfl, _⟩ := h3
  obtain ⟨aw, cw, rfl, _⟩ := h4
  obtain ⟨af, cf, rfl, hf⟩ := hf
  exact ⟨hB, al, ad, ai, aw, af, cl, cd, ci, cw, cf, _, _, _, _, _, by rw [ex_judge, ex_judgeL.2]; rfl, ⟨al, cl, rfl, h1⟩, ⟨af, cf, rfl, hf⟩⟩
theorem two_sl {W : World} {b : Nat} (eq : Bool) (h : W.heap[b]? = some (.cells #[.int .i64 101, .int .i64 0, .int .i64 1, .int .i64 101, .int .i64 0, .int .i64 1] 24 (0, 0))) : Sl W 3 encC (.slice (some ⟨b, 0, none⟩) 2 2) (twoR eq).counts :=
  sl_blk (enc := encC) (xs := [(101, 0, 1), (101, 0, 1)]) (fun _ => rfl) (by decide) h 2
theorem bedsB {xs : List Int} (h : xs.all (fun x => decide (-9223372036854775808 ≤ x) && decide (x ≤ 9223372036854775807)) = true) : ∀ b ∈ xs, -9223372036854775808 ≤ b ∧ b ≤ 9223372036854775807 := by
  intro b hb
  have := List.all_eq_true.1 h b hb
  simpa using this
theorem beds3 {W : World} {k : Nat} {x y z : Int} (h : W.heap[k]? = some (.cells #[.int .i64 x, .int .i64 y, .int .i64 z] 34 (0, 0))) : Sl W 1 eI (.slice (some ⟨k, 0, none⟩) 3 3) [x, y, z] := sl_blk (enc := eI) (xs := [x, y, z]) (fun _ => rfl) (by simp) h 3
theorem beds2 {W : World} {k : Nat} {x y : Int} (h : W.heap[k]? = some (.cells #[.int .i64 x, .int .i64 y] 34 (0, 0))) : Sl W 1 eI (.slice (some ⟨k, 0, none⟩) 2 2) [x, y] := sl_blk (enc := eI) (xs := [x, y]) (fun _ => rfl) (by simp) h 2
end Go.Proofs.Ythcgbceapabikaa
