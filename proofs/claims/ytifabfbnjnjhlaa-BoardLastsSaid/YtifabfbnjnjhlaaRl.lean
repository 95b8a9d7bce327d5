/- BoardLasts: for every board in bytes, bytes of wear and limit the call returns true, and the arguments read as they did. No condition. -/
import Derived.Test.YtifabfbnjnjhlaaFr
import Derived.Test.YtifabfbnjnjhlaaYg
set_option linter.unusedVariables false
set_option linter.unusedSimpArgs false
namespace Go.Proofs.Ytifabfbnjnjhlaa
open Go.ChangeShapes Go.WideShapes Go.ChangeAt Go.RowKit Go.Joins

set_option maxRecDepth 100000 in
theorem lasts_lifted (os : Os) (started : os.Started) (H : Type) (enc : TypeId × Value → H) :
    ReturnsInHanded {} Try.checked os 7 .any (Rows.boardLastsSpec.pre6 enc Try.prog Try.f7 Rows.boardLastsRow.domain false) (Rows.boardLastsSpec.post enc Try.prog Try.f7 false true false false) := by
  refine returnsInHanded_of_change (C := Try.checked) fr_own started (by kernel_rfl) Try.func7
    (ChangeSpec.witness6 (enc := enc) (C := Try.checked) false ⟨#[], #[.agg #[.slice none 0 0, .slice none 0 0, .int .u8 0, .int .u8 0], .slice none 0 0, .int .u16 0], []⟩ 8 (by kernel_rfl) (by kernel_rfl) (by kernel_rfl) (by kernel_rfl)) ?_
  intro W base args ds gs before hval0 hW hcnd _
  have hval : ∀ (j : Nat) t v, Try.f7.params[j]? = some t → args[j]? = some v → Value.okWide Try.prog W .any base t v := hval0
  have hW' := hW
  obtain ⟨p, q, hA0, hV, rfl, hfz, hnd⟩ := hW
  have hA : DataW.TrodAll enc Try.prog W 0 (fun _ => true) true Try.f7.params.toList args.toList ds p := hA0
  rw [Try.params7] at hA hval
  obtain ⟨v0, vs0, d0, ds0, p0, q0, hargs, rfl, rfl, h0, r0⟩ := trodAll_cons hA
  obtain ⟨v1, vs1, d1, ds1, p1, q1, rfl, rfl, rfl, h1, r1⟩ := trodAll_cons r0
  obtain ⟨v2, vs2, d2, ds2, p2, q2, rfl, rfl, rfl, h2, r2⟩ := trodAll_cons r1
  obtain ⟨rfl, rfl, rfl⟩ := trodAll_nil r2
  obtain rfl : args = #[v0, v1, v2] := by cases args; simp_all
  obtain ⟨rfl, rfl⟩ := trodVars_none hV
  obtain ⟨cs0, rfl, _⟩ := okWide_struct Try.underlying24 (hval 0 24 v0 rfl rfl)
  obtain ⟨a1, len1, cap1, rfl⟩ := okWide_slice Try.underlying22 (hval 1 22 v1 rfl rfl)
  have k0 := h0
  have k1 := h1
  have lt0 : ∀ x ∈ p0, x.block < W.heap.size := by obtain ⟨m, hm⟩ := k0; exact DataW.trod_lt m _ _ _ hm
  have lt1 : ∀ x ∈ p1, x.block < W.heap.size := by obtain ⟨m, hm⟩ := k1; exact DataW.trod_lt m _ _ _ hm
  obtain ⟨vr, vl, f, wi, rings, lines, e0, s1, s2, b1, b2, b3, b4⟩ : ∃ vr vl f wi rings lines, cs0 = #[vr, vl, .int .u8 f, .int .u8 wi] ∧ Sl W 1 eU vr rings ∧ Sl W 1 eU vl lines ∧ (∀ x ∈ rings, 0 ≤ x ∧ x ≤ 255) ∧ (∀ x ∈ lines, 0 ≤ x ∧ x ≤ 255) ∧ (0 ≤ f ∧ f ≤ 255) ∧ 0 ≤ wi ∧ wi ≤ 255 := by
    obtain ⟨m, hm⟩ := h0
    obtain ⟨vr, vl, f, wi, rings, lines, e0, r⟩ := made_open hm
    exact ⟨vr, vl, f, wi, rings, lines, Array.toList_inj.1 (by simpa [Value.cells] using e0), r⟩
  obtain ⟨by_, s3, b7⟩ : ∃ by_ : List Int, Sl W 1 eU (.slice a1 len1 cap1) by_ ∧ ∀ x ∈ by_, 0 ≤ x ∧ x ≤ 255 := by
    obtain ⟨m, hm⟩ := h1
    obtain ⟨v, xs, e, r1, r2⟩ := bytes_open hm
    simp [Value.cells] at e
    subst e
    exact ⟨xs, r1, r2⟩
  obtain ⟨lim, rfl, rfl, rfl, w2⟩ := open_int Try.underlying25 (hval 2 25 v2 rfl rfl) h2
  have b5 := bounds_u16 w2
  subst e0
  clear hA0 hval0
  refine (lasts_law vr vl (.slice a1 len1 cap1) rings lines by_ f wi lim W s1 s2 s3 b1 b2 b7 b3.1 b3.2 b4.1 b4.2 b5.1 b5.2).mono fun e W' hRet => ?_
  obtain ⟨he, bel⟩ := hRet
  subst he
  exact ⟨_, rfl, _, _, _, [], _, [], hW', trodAll_mk1 (shut_bool Try.underlying4 _), (trodAll_cons_mk (Below.trod fr_laid (by kernel_rfl) (of_decide_eq_true (by kernel_rfl)) k0 bel lt0) (trodAll_cons_mk (Below.trod fr_laid (by kernel_rfl) (of_decide_eq_true (by kernel_rfl)) k1 bel lt1) (trodAll_cons_mk (shut_int Try.underlying25 w2) trodAll_mk0))), rfl, bel.frame _, fun h => by cases h⟩

theorem lasts_over : Rows.boardLastsRow.holds Try.pinned (OpenSpec.ofChange Rows.boardLastsSpec) :=
  OpenClaim.holds_of_wide 7 Try.f7 rfl rfl rfl rfl rfl rfl rfl ⟨rfl, rfl, rfl, rfl, rfl⟩ rfl rfl rfl rfl rfl (by kernel_rfl) Try.func7 (by kernel_rfl)
    (of_decide_eq_true (by kernel_rfl)) (by unfold Func.isWrapper; rw [if_neg (of_decide_eq_false (by kernel_rfl))]; exact ⟨rfl, rfl⟩)
    (fun os started H enc _ => lasts_lifted os started H enc)

theorem lasts_proved : Rows.BoardLastsSaid := lasts_over
#print axioms lasts_proved
end Go.Proofs.Ytifabfbnjnjhlaa
