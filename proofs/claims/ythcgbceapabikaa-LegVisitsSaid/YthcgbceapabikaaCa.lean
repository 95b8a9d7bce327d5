/- LegVisits: for every player, stand and list of beds the call returns true, and the arguments read as they did. No condition. -/
import Derived.Test.YthcgbceapabikaaBg
import Derived.Test.YthcgbceapabikaaBh
set_option linter.unusedVariables false
set_option linter.unusedSimpArgs false
namespace Go.Proofs.Ythcgbceapabikaa
open Go.ChangeShapes Go.WideShapes Go.ChangeAt Go.RowKit Go.Joins

set_option maxRecDepth 100000 in
theorem visits_lifted (os : Os) (started : os.Started) (H : Type) (enc : TypeId × Value → H) :
    ReturnsInHanded {} Try.checked os 3 .any (Rows.legVisitsSpec.pre6 enc Try.prog Try.f3 Rows.legVisitsRow.domain false) (Rows.legVisitsSpec.post enc Try.prog Try.f3 false true false false) := by
  refine returnsInHanded_of_change (C := Try.checked) fr_own started (by kernel_rfl) Try.func3
    (ChangeSpec.witness6 (enc := enc) (C := Try.checked) false ⟨#[], #[.agg #[.int .i64 0, .int .i64 0, .int .i64 0, .bool false, .int .i64 0], .slice none 0 0], []⟩ 8 (by kernel_rfl) (by kernel_rfl) (by kernel_rfl) (by kernel_rfl)) ?_
  intro W base args ds gs before hval0 hW hcnd _
  have hval : ∀ (j : Nat) t v, Try.f3.params[j]? = some t → args[j]? = some v → Value.okWide Try.prog W .any base t v := hval0
  have hW' := hW
  obtain ⟨p, q, hA0, hV, rfl, hfz, hnd⟩ := hW
  have hA : DataW.TrodAll enc Try.prog W 0 (fun _ => true) true Try.f3.params.toList args.toList ds p := hA0
  rw [Try.params3] at hA hval
  obtain ⟨v0, vs0, d0, ds0, p0, q0, hargs, rfl, rfl, h0, r0⟩ := trodAll_cons hA
  obtain ⟨v1, vs1, d1, ds1, p1, q1, rfl, rfl, rfl, h1, r1⟩ := trodAll_cons r0
  obtain ⟨rfl, rfl, rfl⟩ := trodAll_nil r1
  obtain rfl : args = #[v0, v1] := by cases args; simp_all
  obtain ⟨rfl, rfl⟩ := trodVars_none hV
  obtain ⟨cs0, rfl, _⟩ := okWide_struct Try.underlying26 (hval 0 26 v0 rfl rfl)
  obtain ⟨a1, len1, cap1, rfl⟩ := okWide_slice Try.underlying27 (hval 1 27 v1 rfl rfl)
  have k0 := h0
  have k1 := h1
  have lt0 : ∀ x ∈ p0, x.block < W.heap.size := by obtain ⟨m, hm⟩ := k0; exact DataW.trod_lt m _ _ _ hm
  have lt1 : ∀ x ∈ p1, x.block < W.heap.size := by obtain ⟨m, hm⟩ := k1; exact DataW.trod_lt m _ _ _ hm
  obtain ⟨a, b, c, d, l, e0⟩ : ∃ a b c d l, cs0 = #[.int .i64 a, .int .i64 b, .int .i64 c, .bool d, .int .i64 l] := by
    obtain ⟨m, hm⟩ := h0
    obtain ⟨a, b, c, d, l, e0, r⟩ := aim_open hm
    exact ⟨a, b, c, d, l, Array.toList_inj.1 (by simpa [Value.cells] using e0)⟩
  obtain ⟨bs, s1, b1⟩ : ∃ bs, Sl W 1 eI (.slice a1 len1 cap1) bs ∧ ∀ x ∈ bs, I64 x := by
    obtain ⟨m, hm⟩ := h1
    obtain ⟨v, bs, e0, r⟩ := beds_open hm
    simp [Value.cells] at e0
    subst e0
    exact ⟨bs, r⟩
  subst e0
  clear hA0 hval0
  refine (visits_law a b c d l (.slice a1 len1 cap1) bs W s1 b1).mono fun e W' hRet => ?_
  obtain ⟨he, bel⟩ := hRet
  subst he
  exact ⟨_, rfl, _, _, _, [], _, [], hW', trodAll_mk1 (shut_bool Try.underlying4 _), (trodAll_cons_mk (Below.trod fr_laid (by kernel_rfl) (of_decide_eq_true (by kernel_rfl)) k0 bel lt0) (trodAll_cons_mk (Below.trod fr_laid (by kernel_rfl) (of_decide_eq_true (by kernel_rfl)) k1 bel lt1) trodAll_mk0)), rfl, bel.frame _, fun h => by cases h⟩

theorem visits_over : Rows.legVisitsRow.holds Try.pinned (OpenSpec.ofChange Rows.legVisitsSpec) :=
  OpenClaim.holds_of_wide 3 Try.f3 rfl rfl rfl rfl rfl rfl rfl ⟨rfl, rfl, rfl, rfl, rfl⟩ rfl rfl rfl rfl rfl (by kernel_rfl) Try.func3 (by kernel_rfl)
    (of_decide_eq_true (by kernel_rfl)) (by unfold Func.isWrapper; rw [if_neg (of_decide_eq_false (by kernel_rfl))]; exact ⟨rfl, rfl⟩)
    (fun os started H enc _ => visits_lifted os started H enc)

theorem visits_proved : Rows.LegVisitsSaid := visits_over
#print axioms visits_proved
end Go.Proofs.Ythcgbceapabikaa
