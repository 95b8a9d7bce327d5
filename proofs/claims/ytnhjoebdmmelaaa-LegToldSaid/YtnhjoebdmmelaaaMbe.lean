/- LegTold: for every hand the call returns true, and the argument reads as it did. No condition. -/
import Derived.Test.YtnhjoebdmmelaaaMbc
import Derived.Test.YtnhjoebdmmelaaaMbd
set_option linter.unusedVariables false
set_option linter.unusedSimpArgs false
namespace Go.Proofs.Ytnhjoebdmmelaaa
section
open Go.ChangeShapes Go.WideShapes Go.ChangeAt Go.RowKit Go.Joins
section
variable {H : Type} {enc : TypeId × Value → H} {w : World} {base : Nat} {spare : Nat → Bool} {held : Bool} {fuel : Nat} {cs : List Value} {y : DataW H × List MemPlace}
theorem fs_list6 {α : Type} {cs : List α} (h : cs.length = 6) : ∃ a b c d e f, cs = [a, b, c, d, e, f] := by
 match cs, h with
 | [a, b, c, d, e, f], _ => exact ⟨a, b, c, d, e, f, rfl⟩
theorem hand_open (h : DataW.trod enc Try.prog w base spare held fuel 78 cs = some y) : ∃ vs xs g b rd f vb ys, cs = [vs, .int .u8 g, .bool b, .int .u8 rd, .int .u8 f, vb] ∧ (Sl w 1 (fun x => [Value.int .u16 x]) vs xs ∧ ∀ x ∈ xs, 0 ≤ x ∧ x ≤ 65535) ∧ (0 ≤ g ∧ g ≤ 255) ∧ (0 ≤ rd ∧ rd ≤ 255) ∧ (0 ≤ f ∧ f ≤ 255) ∧ (Sl w 1 (fun x => [Value.int .u8 x]) vb ys ∧ ∀ x ∈ ys, 0 ≤ x ∧ x ≤ 255) := by
 obtain ⟨xs, m, rfl, _, hl, hx, hf⟩ := DataW.trod_struct Try.underlying78 h
 obtain ⟨c0, c1, c2, c3, c4, c5, rfl⟩ := fs_list6 (hl.trans (by kernel_rfl))
 have e0 : Try.prog.cellsOf 75 = 1 := by kernel_rfl
 have e1 : Try.prog.cellsOf 5 = 1 := by kernel_rfl
 have e2 : Try.prog.cellsOf 4 = 1 := by kernel_rfl
 have e3 : Try.prog.cellsOf 76 = 1 := by kernel_rfl
 have f0 := hf 0 _ rfl
 have f1 := hf 1 _ rfl
 have f2 := hf 2 _ rfl
 have f3 := hf 3 _ rfl
 have f4 := hf 4 _ rfl
 have f5 := hf 5 _ rfl
 have hxm : xs.length = 6 := hx
 obtain ⟨y0, g0⟩ := fs_get hxm (show 0 < 6 by omega)
 rw [g0] at f0
 obtain ⟨y1, g1⟩ := fs_get hxm (show 1 < 6 by omega)
 rw [g1] at f1
 obtain ⟨y2, g2⟩ := fs_get hxm (show 2 < 6 by omega)
 rw [g2] at f2
 obtain ⟨y3, g3⟩ := fs_get hxm (show 3 < 6 by omega)
 rw [g3] at f3
 obtain ⟨y4, g4⟩ := fs_get hxm (show 4 < 6 by omega)
 rw [g4] at f4
 obtain ⟨y5, g5⟩ := fs_get hxm (show 5 < 6 by omega)
 rw [g5] at f5
 simp [e0, e1, e2, e3] at f0 f1 f2 f3 f4 f5
 obtain ⟨v, us, h0, b0⟩ := u16s_open f0
 obtain ⟨a, h1, b1⟩ := u8_open f1
 obtain ⟨d, h2⟩ := b_open f2
 obtain ⟨c, h3, b3⟩ := u8_open f3
 obtain ⟨q, h4, b4⟩ := u8_open f4
 obtain ⟨v5, us5, h5, b5⟩ := u8s_open f5
 simp at h0
 subst h0
 simp at h1
 subst h1
 simp at h2
 subst h2
 simp at h3
 subst h3
 simp at h4
 subst h4
 simp at h5
 subst h5
 exact ⟨_, _, _, _, _, _, _, _, rfl, b0, b1, b3, b4, b5⟩
end
set_option maxRecDepth 100000 in
theorem told_lifted (os : Os) (started : os.Started) (H : Type) (enc : TypeId × Value → H) :
  ReturnsInHanded {} Try.checked os 8 .any (Rows.legToldSpec.pre6 enc Try.prog Try.f8 Rows.legToldRow.domain false) (Rows.legToldSpec.post enc Try.prog Try.f8 false true false false) := by
 refine returnsInHanded_of_change (C := Try.checked) fr_own started (by kernel_rfl) Try.func8
  (ChangeSpec.witness6 (enc := enc) (C := Try.checked) false ⟨#[], #[.agg #[.slice none 0 0, .int .u8 0, .bool false, .int .u8 0, .int .u8 0, .slice none 0 0]], []⟩ 8 (by kernel_rfl) (by kernel_rfl) (by kernel_rfl) (by kernel_rfl)) ?_
 intro W base args ds gs before hval0 hW hcnd _
 have hval : ∀ (j : Nat) t v, Try.f8.params[j]? = some t → args[j]? = some v → Value.okWide Try.prog W .any base t v := hval0
 have hW' := hW
 obtain ⟨p, q, hA0, hV, rfl, hfz, hnd⟩ := hW
 have hA : DataW.TrodAll enc Try.prog W 0 (fun _ => true) true Try.f8.params.toList args.toList ds p := hA0
 rw [Try.params8] at hA hval
 obtain ⟨v0, vs0, d0, ds0, p0, q0, hargs, rfl, rfl, h0, r0⟩ := trodAll_cons hA
 obtain ⟨rfl, rfl, rfl⟩ := trodAll_nil r0
 obtain rfl : args = #[v0] := by cases args; simp_all
 obtain ⟨rfl, rfl⟩ := trodVars_none hV
 obtain ⟨cs0, rfl, _⟩ := okWide_struct Try.underlying78 (hval 0 78 v0 rfl rfl)
 have k0 := h0
 have lt0 : ∀ x ∈ p0, x.block < W.heap.size := by obtain ⟨m, hm⟩ := k0; exact DataW.trod_lt m _ _ _ hm
 obtain ⟨vs, xs, g, b, rd, f, vb, ys, e0, sv, bg, br, bf, sb⟩ : ∃ vs xs g b rd f vb ys, cs0 = #[vs, .int .u8 g, .bool b, .int .u8 rd, .int .u8 f, vb] ∧ (Sl W 1 (fun x => [Value.int .u16 x]) vs xs ∧ ∀ x ∈ xs, 0 ≤ x ∧ x ≤ 65535) ∧ (0 ≤ g ∧ g ≤ 255) ∧ (0 ≤ rd ∧ rd ≤ 255) ∧ (0 ≤ f ∧ f ≤ 255) ∧ (Sl W 1 (fun x => [Value.int .u8 x]) vb ys ∧ ∀ x ∈ ys, 0 ≤ x ∧ x ≤ 255) := by
  obtain ⟨m, hm⟩ := h0
  obtain ⟨vs, xs, g, b, rd, f, vb, ys, e0, r⟩ := hand_open hm
  exact ⟨vs, xs, g, b, rd, f, vb, ys, Array.toList_inj.1 (by simpa [Value.cells] using e0), r⟩
 subst e0
 clear hA0 hval0
 refine (told_law ⟨xs, g, b, rd, f, ys⟩ vs vb W sv.1 sv.2 bg br bf sb.1 sb.2).mono fun e W' hRet => ?_
 obtain ⟨he, bel⟩ := hRet
 subst he
 exact ⟨_, rfl, _, _, _, [], _, [], hW', trodAll_mk1 (shut_bool Try.underlying4 _), (trodAll_cons_mk (Below.trod fr_laid (by kernel_rfl) (of_decide_eq_true (by kernel_rfl)) k0 bel lt0) trodAll_mk0), rfl, bel.frame _, fun h => by cases h⟩
theorem told_over : Rows.legToldRow.holds Try.pinned (OpenSpec.ofChange Rows.legToldSpec) :=
 OpenClaim.holds_of_wide 8 Try.f8 rfl rfl rfl rfl rfl rfl rfl ⟨rfl, rfl, rfl, rfl, rfl⟩ rfl rfl rfl rfl rfl (by kernel_rfl) Try.func8 (by kernel_rfl)
  (of_decide_eq_true (by kernel_rfl)) (by unfold Func.isWrapper; rw [if_neg (of_decide_eq_false (by kernel_rfl))]; exact ⟨rfl, rfl⟩)
  (fun os started H enc _ => told_lifted os started H enc)
theorem told_proved : Rows.LegToldSaid := told_over
#print axioms told_proved
end
end Go.Proofs.Ytnhjoebdmmelaaa
