/- Board, part Ue: a range over a function whose variable lies in memory; all beds of a box. -/
import Derived.Test.YtgceffpkhmjmkaaGreatUd
import Derived.Test.YtgceffpkhmjmkaaGreatUb
import Derived.Test.YtgceffpkhmjmkaaGreatR
import Derived.Maps.OwnIn
import Derived.Maps.Views
set_option linter.unusedVariables false
set_option linter.unusedSimpArgs false
namespace Go.Proofs.YtgceffpkhmjmkaaGreat
open Go.RowKit Go.Shelf Go.Maps
attribute [local go_sem] Oper.semAt_some

theorem wpInW_of_quiet {P : Program} {C : World → Prop} {n : Nat} {o : Oper} {a : Act} {K : Act → Prop} {K' : Act → World → Prop} {Q' : Exit → Act → World → Prop} {w : World} (hdf : ∀ c, o.op ≠ .defer c) (hw : C w)
    (h : ∀ a w', C w' → K a → K' a w') (hh : o.quiet P a C K) : o.wpIn Fence.wide n P a w K' Q' := by
  obtain ⟨v, h1, h2⟩ := hh
  refine ⟨fun _ _ => trivial, ?_⟩
  have h3 := h1 w hw
  unfold Oper.quietAt at h3
  rw [Oper.semAt_plain Fence.wide _ _ hdf]
  generalize (execOp a.eval o).run P w = res at *
  cases res with
  | ok nx w' =>
    cases nx <;> simp only [Oper.quietUpon] at h3
    case value u =>
      obtain ⟨e1, e2⟩ := h3
      rw [e1, e2]
      exact h _ _ hw h2
    case skip =>
      obtain ⟨e1, e2⟩ := h3
      rw [e1, Oper.uponIn_skip, ← e2]
      exact h _ _ hw h2
    case enter f args =>
      obtain ⟨e1, hc⟩ := h3
      rw [e1, Oper.uponIn_enter]
      refine ⟨(fun hh => by cases hh), ?_⟩
      refine CallsIn.mono (callsIn_wide.2 hc) ?_
      rintro e w'' ⟨he, hw''⟩
      subst he
      exact h _ _ hw'' h2
  | halt x w' => exact h3.elim

theorem wpOpInW_of_qOp {P : Program} {ops : Array Oper} {C : World → Prop} {n i : Nat} {a : Act} {K : Act → Prop} {K' : Act → World → Prop} {Q' : Exit → Act → World → Prop} {w : World} (hdf : ∀ o ∈ ops.toList, ∀ c, o.op ≠ .defer c) (hC : C w)
    (h : ∀ a w', C w' → K a → K' a w') (hh : qOp P ops C i K a) : wpOpIn Fence.wide n P ops Q' i K' a w := by
  unfold qOp at hh
  unfold wpOpIn
  split
  · rename_i ho; simp only [ho] at hh; exact h _ _ hC hh
  · rename_i o ho
    simp only [ho] at hh
    have hm : o ∈ ops.toList := by
      obtain ⟨hi, e⟩ := Array.getElem?_eq_some_iff.1 ho
      rw [← e]; simp
    split
    · rename_i hw; simp only [hw, if_true] at hh; exact wpInW_of_quiet (hdf o hm) hC h hh
    · rename_i hw; simp only [hw] at hh; exact ⟨fun _ _ => trivial, h _ _ hC hh⟩

theorem wpAnyInW_of_quiet {P : Program} {md : Region.Mode} {ops : Array Oper} {C : World → Prop} {n : Nat} {Q : Act → Prop} {Q' : Exit → Act → World → Prop} (hdf : ∀ o ∈ ops.toList, ∀ c, o.op ≠ .defer c) (hQ : ∀ a w, C w → Q a → Q' .normal a w) :
    ∀ (fuel : Nat) (listed : Array Bool) (a : Act) (w : World), C w → wpAnyQ P md ops C Q fuel listed a → wpAnyIn Fence.wide n P md ops Q' fuel listed a w
  | 0, _, _, _, hw, h => ⟨h.1, hQ _ _ hw h.2⟩
  | fuel + 1, _, _, _, hw, h => ⟨fun h0 => hQ _ _ hw (h.1 h0), fun i hi => wpOpInW_of_qOp hdf hw (fun a' w' hw' => wpAnyInW_of_quiet hdf hQ fuel _ a' w' hw') (h.2 i hi)⟩

/-- The law. -/
theorem regionW_class {P : Program} {n id : Nat} {Q : Exit → Act → World → Prop} {a : Act} {w : World} {l : List Oper} (C : World → Prop) (hm : P.follows .mixedOrders = true) (hdf : ∀ o ∈ l, ∀ c, o.op ≠ .defer c) (hB : Region.lexB .any l.toArray = true) (hC : C w.drew)
    (h : wpQuiet P l.toArray C (fun a' => ∀ w', C w' → Q .normal a' w') l a) : (Code.region id l.toArray true).wpIn Fence.wide n P Q a w := by
  simp only [Region.lexB, Bool.and_eq_true] at hB
  refine wpIn_region_any hm (wpAnyInW_of_quiet (Q := fun a' => ∀ w', C w' → Q .normal a' w') (by simpa using hdf) (fun _ w' hw' h => h w' hw') _ _ _ _ hC ?_)
  have := wpAnyQ_lex (C := C) (md := .any) hB.1 l 0 (Array.replicate l.toArray.size false) a (by simp) (by simpa using hB.2) h
  simpa using this

def allPost2 (b i : Nat) (I : Nat → World → Prop) (W : World) : Exit → Act → World → Prop
  | .normal, _, W' => W.heap.size ≤ W'.heap.size ∧ (∀ k, b ≤ k → k ≤ b + 2 → W'.heap[k]? = W.heap[k]?) ∧ I (i + 1) W'
  | _, _, _ => False

/-- A range over a function all of whose rounds go on: each round lays a block for its variable first. -/
theorem rangeFunc_all2 {F : Fence} {n : Nat} {P : Program} {g : Operand} {ps : Array Tmp} {assign body : Code} {Q : Exit → Act → World → Prop} {a : Act} {w : World}
    (hro : F.round = none) (h1 : 1 ≤ n) {gf : Nat} {lb : Array Value} (hg : a.eval g = .func (.func gf) #[] lb) (hFg : F.fn gf) (eg : ∀ args w, (callFunc gf args).run P w = .ok (.enter gf args) w) (hps : ps.size = 1)
    (N : Nat) (R : World → Prop) (Y : Nat → Value → Prop) (gW : Value → World → World) (hgW : ∀ v W, Below W.heap.size W (gW v W)) (hgK : ∀ v W, W.heap.size ≤ (gW v W).heap.size)
    (hcall : ∀ (J : Nat → World → Prop) (W0 : World), W0.heap.size = w.heap.size + 2 → Below w.heap.size w W0 → Turn1s (w.heap.size + 2) J → (∀ i W, J i W → R W) →
      (∀ i v W1, J i W1 → i < N → Y i v → w.heap.size + 2 < W1.heap.size → YieldAt F (n - 1 - 1) P (w.heap.size + 1) #[v] W1 fun e W' => e = .returned (.bool true) ∧ J (i + 1) W' ∧ W1.heap.size ≤ W'.heap.size ∧ W'.heap[w.heap.size + 2]? = W1.heap[w.heap.size + 2]?) → J 0 W0 →
      CallsIn F (n - 1) P gf (#[.func (.yield (w.heap.size + 1)) #[] #[]] ++ lb) W0 fun e W' => (∃ v, e = .returned v) ∧ J N W')
    (I : Nat → World → Prop) (hI : Turn3s w.heap.size I) (hIR : ∀ i W, I i W → R W) (h0 : I 0 w) (a₁ : Value → World → Act)
    (hassign : ∀ (l i : Nat) (v : Value) (W : World) (K : Act → World → Prop), Y i v → K (a₁ v W) (gW v W) →
      assign.wpIn (F.inRound l) (n - 1 - 1) P (Exit.then K (fun _ _ _ => False)) { tmps := (ps.zip #[v]).foldl (fun t (p, v) => t.setIfInBounds p v) a.tmps, defers := [] } W)
    (hbody : ∀ (l i : Nat) (v : Value) (Wp W : World), I i W → i < N → Y i v → w.heap.size + 2 < Wp.heap.size → W.heap.size = (gW v Wp).heap.size → (∀ x u, (gW v Wp).cell? x = some u → W.cell? x = some u) → body.wpIn (F.inRound l) (n - 1 - 1) P (allPost2 w.heap.size i I W) (a₁ v Wp) W)
    (hdone : ∀ (D : Nat) (W : World), w.heap.size ≤ D → I N W → W.heap[D]? = some (.deferred (some [])) → Q .normal { a with defers := { target := .collected D, args := #[] } :: a.defers } W) :
    (Code.rangeFunc g ps assign body).wpIn F n P Q a w := by
  refine wpIn_rangeFunc ?_
  intro fn hfn
  rw [hro]
  obtain ⟨rec, hrec⟩ : ∃ rec : LoopState → Option Code → Loop, rec = fun st pe => { state := st, pending := pe, fn, tmps := a.tmps, params := ps, assign, body, defers := w.heap.size } := ⟨_, rfl⟩
  obtain ⟨W1, hW1⟩ : ∃ W1, (w.alloc (.deferred (some []))).alloc (.loop (rec .ready none)) = W1 := ⟨_, rfl⟩
  have hs1 : W1.heap.size = w.heap.size + 2 := by rw [← hW1]; simp
  have hL1 : W1.heap[w.heap.size + 1]? = some (.loop (rec .ready none)) := by
    rw [← hW1]; have := World.alloc_heap_new (w.alloc (.deferred (some []))) (.loop (rec .ready none)); rwa [World.size_alloc] at this
  have hK1 : W1.heap[w.heap.size]? = some (.deferred (some [])) := by
    rw [← hW1]; exact (Below.heap_alloc _ _ _ (by simp)).trans (World.alloc_heap_new w _)
  have hI1 : I 0 W1 := by rw [← hW1]; exact hI _ _ _ (hI _ _ _ h0 (turns3_alloc _ _ _)) (turns3_alloc _ _ _)
  have hb1 : Below w.heap.size w W1 := by
    rw [← hW1]; exact ((Below.refl _ w).alloc (Nat.le_refl _) _).alloc (by simp) _
  refine ⟨w.heap.size + 1, [{ target := .collected w.heap.size, args := #[] }], W1, { target := .fn (.func gf) lb, args := #[.func (.yield (w.heap.size + 1)) #[] #[]] }, W1, gf,
    #[.func (.yield (w.heap.size + 1)) #[] #[]] ++ lb, W1, ?_, ?_, ?_, ?_, fun _ => h1, ?_⟩
  · rw [← hW1, hrec]; exact run_enterLoop_outer _ _ _ _ _
  · simp only [resolve, hg]
    simp [go_sem]
  · intro f' hf'; simp [Target.leads] at hf'; subst hf'; exact hFg
  · simp [invoke, go_sem, eg]
  · refine (hcall (fun i W => I i W ∧ w.heap.size + 2 ≤ W.heap.size ∧ W.heap[w.heap.size + 1]? = some (.loop (rec .ready none)) ∧ W.heap[w.heap.size]? = some (.deferred (some []))) W1 hs1 hb1
      (fun i A B hs _ hg' => ⟨hI i A B hs.1 hg'.three, Nat.le_trans hs.2.1 hg'.size, (hg'.block _ (by omega) (by omega)).trans hs.2.2.1, (hg'.block _ (by omega) (by omega)).trans hs.2.2.2⟩)
      (fun i W h => hIR i W h.1) ?_ ⟨hI1, by omega, hL1, hK1⟩).mono ?_
    · rintro i v W ⟨hi, hsz, hl, hk⟩ hlen hYv hbig
      have hy := run_yield (P := P) (args := #[v]) hl (by rw [hrec]; exact hps.symm)
      rw [hrec] at hy
      have hBg := hgW v W
      have hSg := hgK v W
      have hlg : (gW v W).heap[w.heap.size + 1]? = some (.loop (rec .ready none)) := (hBg.block _ (by omega)).trans hl
      have hkg : (gW v W).heap[w.heap.size]? = some (.deferred (some [])) := (hBg.block _ (by omega)).trans hk
      have hgg : (gW v W).heap[w.heap.size + 2]? = W.heap[w.heap.size + 2]? := hBg.block _ (by omega)
      have hig : I i (gW v W) := hI _ _ _ hi ⟨hBg.os, hBg.tape, hBg.output, hBg.size, fun k hk _ => hBg.block k hk⟩
      refine ⟨fn, _, assign, body, hy, roundIn_of_wpIn hfn (hassign _ i v W _ hYv ⟨_, run_beginRound hlg (by rw [hrec]), ?_⟩)⟩
      have hl2 : ((gW v W).putObj (w.heap.size + 1) (.loop { rec .ready none with state := .busy })).heap[w.heap.size + 1]? = some (.loop { rec .ready none with state := .busy }) := World.putObj_heap_same (by omega)
      have hk2 : ((gW v W).putObj (w.heap.size + 1) (.loop { rec .ready none with state := .busy })).heap[w.heap.size]? = some (.deferred (some [])) := (World.putObj_heap_other (by omega)).trans hkg
      refine wpIn_mono (hbody _ i v W _ (hI _ _ _ hig (turns3_put _ _ (by omega) (by omega))) hlen hYv (by omega) (by simp) (fun x u hx => cell_kept hx (grownBy_putObj' _ _ _) (fun r e => by cases e; exact ⟨_, hlg, rfl⟩))) ?_
      rintro e a3 W3 hp
      cases e with
      | normal =>
        obtain ⟨hk3, hg3, hi3⟩ := hp
        have hl3 := (hg3 _ (by omega) (by omega)).trans hl2
        have hk3' := (hg3 _ (Nat.le_refl _) (by omega)).trans hk2
        have hsz3 : (gW v W).heap.size ≤ W3.heap.size := by simpa using hk3
        have hre := run_endRound (P := P) none hl3
        rw [hrec] at hre
        refine ⟨_, _, hre, rfl, ⟨hI _ _ _ hi3 (turns3_put _ _ (by omega) (by omega)), by simp; omega, World.putObj_heap_same (by omega) |>.trans (by rw [hrec]; rfl), (World.putObj_heap_other (by omega)).trans hk3'⟩, by simp; omega, ?_⟩
        exact (World.putObj_heap_other (by omega)).trans ((hg3 _ (by omega) (Nat.le_refl _)).trans ((World.putObj_heap_other (by omega)).trans hgg))
      | ret => exact hp.elim
      | exit id => exact hp.elim
      | goto t => exact hp.elim
      | panic ch => exact hp.elim
      | outgrown => exact hp.elim
    · rintro e W2 ⟨⟨v, rfl⟩, hi, hsz, hl, hk⟩
      exact ⟨none, _, by have := run_endLoop (P := P) hl (by rw [hrec]; simp); rw [hrec] at this; exact this, hdone _ _ (Nat.le_refl _) (hI _ _ _ hi (turns3_put _ _ (by omega) (by omega))) ((World.putObj_heap_other (by omega)).trans hk)⟩
end Go.Proofs.YtgceffpkhmjmkaaGreat
