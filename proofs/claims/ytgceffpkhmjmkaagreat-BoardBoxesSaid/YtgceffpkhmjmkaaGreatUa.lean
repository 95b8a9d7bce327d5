/- Board, part Ua: a range over an iterator that writes a block of its own, all of whose rounds go on; all plans of turns. -/
import Derived.Test.YtgceffpkhmjmkaaGreatV
import Derived.Test.YtgceffpkhmjmkaaGreatE
import Derived.Test.YtgceffpkhmjmkaaGreatQ
import Derived.Sort.LoopGhostIn
set_option linter.unusedVariables false
set_option linter.unusedSimpArgs false
namespace Go.Proofs.YtgceffpkhmjmkaaGreat
open Go.RowKit Go.Shelf
attribute [local go_sem] Oper.semAt_some

/-- From A to B: nothing has turned but blocks b to b + 2, and what is new. -/
structure Turns3 (b : Nat) (A B : World) : Prop where
  os : B.os = A.os
  tape : B.tape = A.tape
  output : B.output = A.output
  size : A.heap.size ≤ B.heap.size
  block : ∀ k, k < A.heap.size → (k < b ∨ b + 2 < k) → B.heap[k]? = A.heap[k]?

/-- Nothing has turned but block g, and what is new. -/
structure Turns1 (g : Nat) (A B : World) : Prop where
  os : B.os = A.os
  tape : B.tape = A.tape
  output : B.output = A.output
  size : A.heap.size ≤ B.heap.size
  block : ∀ k, k < A.heap.size → k ≠ g → B.heap[k]? = A.heap[k]?

theorem Turns1.three {b : Nat} {A B : World} (h : Turns1 (b + 2) A B) : Turns3 b A B := ⟨h.os, h.tape, h.output, h.size, fun k hk hb => h.block k hk (by omega)⟩
theorem Turns1.of_below {g : Nat} {A B : World} (h : Below A.heap.size A B) : Turns1 g A B := ⟨h.os, h.tape, h.output, h.size, fun k hk _ => h.block k hk⟩
theorem Turns1.setCell (g i : Nat) (A : World) (u : Value) : Turns1 g A (A.setCell ⟨g, i, none⟩ u) := ⟨rfl, rfl, rfl, by simp [World.setCell], fun k _ hne => Below.heap_setCell _ _ _ _ hne⟩
theorem turns3_put {b l : Nat} (A : World) (o : Obj) (h1 : b ≤ l) (h2 : l ≤ b + 2) : Turns3 b A (A.putObj l o) := ⟨rfl, rfl, rfl, by simp, fun k hk hb => World.putObj_heap_other (by omega)⟩
theorem turns3_alloc (b : Nat) (A : World) (o : Obj) : Turns3 b A (A.alloc o) := ⟨rfl, rfl, rfl, by simp, fun k hk hb => Below.heap_alloc _ _ _ hk⟩

def Turn3s (b : Nat) (J : Nat → World → Prop) : Prop := ∀ i A B, J i A → Turns3 b A B → J i B
def Turn1s (g : Nat) (J : Nat → World → Prop) : Prop := ∀ i A B, J i A → g ≤ A.heap.size → Turns1 g A B → J i B

theorem Turns3.below {b n : Nat} {w A B : World} (h : Below n w A) (k : Turns3 b A B) (hn : n ≤ b) (hs : n ≤ w.heap.size) : Below n w B :=
  h.trans ⟨k.os, k.tape, k.output, k.size, fun i hi => k.block i (Nat.lt_of_lt_of_le hi (Nat.le_trans hs h.size)) (.inl (by omega))⟩

def allPost (g i : Nat) (I : Nat → World → Prop) (W : World) : Exit → Act → World → Prop
  | .normal, _, W' => KeepsOthers W W' ∧ W'.heap[g]? = W.heap[g]? ∧ I (i + 1) W'
  | _, _, _ => False

/-- A range over a function all of whose rounds go on: the iterator may write the first block that it makes. -/
theorem rangeFunc_all {F : Fence} {n : Nat} {P : Program} {g : Operand} {ps : Array Tmp} {assign body : Code} {Q : Exit → Act → World → Prop} {a : Act} {w : World}
    (hro : F.round = none) (h1 : 1 ≤ n) {gf : Nat} {lb : Array Value} (hg : a.eval g = .func (.func gf) #[] lb) (hFg : F.fn gf) (eg : ∀ args w, (callFunc gf args).run P w = .ok (.enter gf args) w) (hps : ps.size = 1)
    (N : Nat) (R : World → Prop) (Y : Nat → Value → World → Prop) (hYk : ∀ i v W l o o', Y i v W → W.heap[l]? = some o → o.isCells = false → Y i v (W.putObj l o'))
    (hcall : ∀ (J : Nat → World → Prop) (W0 : World), W0.heap.size = w.heap.size + 2 → Below w.heap.size w W0 → Turn1s (w.heap.size + 2) J → (∀ i W, J i W → R W) →
      (∀ i v W1, J i W1 → i < N → Y i v W1 → w.heap.size + 2 < W1.heap.size → YieldAt F (n - 1 - 1) P (w.heap.size + 1) #[v] W1 fun e W' => e = .returned (.bool true) ∧ J (i + 1) W' ∧ W1.heap.size ≤ W'.heap.size ∧ W'.heap[w.heap.size + 2]? = W1.heap[w.heap.size + 2]?) → J 0 W0 →
      CallsIn F (n - 1) P gf (#[.func (.yield (w.heap.size + 1)) #[] #[]] ++ lb) W0 fun e W' => (∃ v, e = .returned v) ∧ J N W')
    (I : Nat → World → Prop) (hI : Turn3s w.heap.size I) (hIR : ∀ i W, I i W → R W) (h0 : I 0 w) (a₁ : Value → Act)
    (hassign : ∀ (l : Nat) (v : Value) (W : World) (K : Act → World → Prop), K (a₁ v) W →
      assign.wpIn (F.inRound l) (n - 1 - 1) P (Exit.then K (fun _ _ _ => False)) { tmps := (ps.zip #[v]).foldl (fun t (p, v) => t.setIfInBounds p v) a.tmps, defers := [] } W)
    (hbody : ∀ (l i : Nat) (v : Value) (W : World), I i W → i < N → Y i v W → w.heap.size + 2 < W.heap.size → body.wpIn (F.inRound l) (n - 1 - 1) P (allPost (w.heap.size + 2) i I W) (a₁ v) W)
    (hdone : ∀ (D : Nat) (W : World), w.heap.size ≤ D → I N W → W.heap[D]? = some (.deferred (some [])) → Q .normal { a with defers := { target := .collected D, args := #[] } :: a.defers } W) :
    (Code.rangeFunc g ps assign body).wpIn F n P Q a w := by
  refine wpIn_rangeFunc ?_
  intro fn hfn
  rw [hro]
  obtain ⟨rec, hrec⟩ : ∃ rec : LoopState → Option Code → Loop, rec = fun st pe => { state := st, pending := pe, fn, tmps := a.tmps, params := ps, assign, body, defers := w.heap.size } := ⟨_, rfl⟩
  obtain ⟨W1, hW1⟩ : ∃ W1, (w.alloc (.deferred (some []))).alloc (.loop (rec .ready none)) = W1 := ⟨_, rfl⟩
  have hs1 : W1.heap.size = w.heap.size + 2 := by rw [← hW1]; simp
  have hL1 : W1.heap[w.heap.size + 1]? = some (.loop (rec .ready none)) := by
    rw [← hW1]; have := World.alloc_heap_new (w.alloc (.deferred (some []))) (.loop (rec .ready none)); rwa [World.size_alloc] at this
  have hK1 : W1.heap[w.heap.size]? = some (.deferred (some [])) := by
    rw [← hW1]; exact (Below.heap_alloc _ _ _ (by simp)).trans (World.alloc_heap_new w _)
  have hI1 : I 0 W1 := by rw [← hW1]; exact hI _ _ _ (hI _ _ _ h0 (turns3_alloc _ _ _)) (turns3_alloc _ _ _)
  have hb1 : Below w.heap.size w W1 := by
    rw [← hW1]; exact ((Below.refl _ w).alloc (Nat.le_refl _) _).alloc (by simp) _
  refine ⟨w.heap.size + 1, [{ target := .collected w.heap.size, args := #[] }], W1, { target := .fn (.func gf) lb, args := #[.func (.yield (w.heap.size + 1)) #[] #[]] }, W1, gf,
    #[.func (.yield (w.heap.size + 1)) #[] #[]] ++ lb, W1, ?_, ?_, ?_, ?_, fun _ => h1, ?_⟩
  · rw [← hW1, hrec]; exact run_enterLoop_outer _ _ _ _ _
  · simp only [resolve, hg]
    simp [go_sem]
  · intro f' hf'; simp [Target.leads] at hf'; subst hf'; exact hFg
  · simp [invoke, go_sem, eg]
  · refine (hcall (fun i W => I i W ∧ w.heap.size + 2 ≤ W.heap.size ∧ W.heap[w.heap.size + 1]? = some (.loop (rec .ready none)) ∧ W.heap[w.heap.size]? = some (.deferred (some []))) W1 hs1 hb1
      (fun i A B hs _ hg' => ⟨hI i A B hs.1 hg'.three, Nat.le_trans hs.2.1 hg'.size, (hg'.block _ (by omega) (by omega)).trans hs.2.2.1, (hg'.block _ (by omega) (by omega)).trans hs.2.2.2⟩)
      (fun i W h => hIR i W h.1) ?_ ⟨hI1, by omega, hL1, hK1⟩).mono ?_
    · rintro i v W ⟨hi, hsz, hl, hk⟩ hlen hYv hbig
      have hy := run_yield (P := P) (args := #[v]) hl (by rw [hrec]; exact hps.symm)
      rw [hrec] at hy
      refine ⟨fn, _, assign, body, hy, roundIn_of_wpIn hfn (hassign _ v W _ ⟨_, run_beginRound hl (by rw [hrec]), ?_⟩)⟩
      have hl2 : (W.putObj (w.heap.size + 1) (.loop { rec .ready none with state := .busy })).heap[w.heap.size + 1]? = some (.loop { rec .ready none with state := .busy }) := World.putObj_heap_same (by omega)
      have hk2 : (W.putObj (w.heap.size + 1) (.loop { rec .ready none with state := .busy })).heap[w.heap.size]? = some (.deferred (some [])) := (World.putObj_heap_other (by omega)).trans hk
      refine wpIn_mono (hbody _ i v _ (hI _ _ _ hi (turns3_put _ _ (by omega) (by omega))) hlen (hYk _ _ _ _ _ _ hYv hl rfl) (by simpa using hbig)) ?_
      rintro e a3 W3 hp
      cases e with
      | normal =>
        obtain ⟨hk3, hg3, hi3⟩ := hp
        have hl3 := hk3.same _ _ hl2 rfl
        have hk3' := hk3.same _ _ hk2 rfl
        have hsz3 : W.heap.size ≤ W3.heap.size := by have := hk3.size; simpa using this
        have hre := run_endRound (P := P) none hl3
        rw [hrec] at hre
        refine ⟨_, _, hre, rfl, ⟨hI _ _ _ hi3 (turns3_put _ _ (by omega) (by omega)), by simp; omega, World.putObj_heap_same (by omega) |>.trans (by rw [hrec]; rfl), (World.putObj_heap_other (by omega)).trans hk3'⟩, by simp; omega, ?_⟩
        exact (World.putObj_heap_other (by omega)).trans (hg3.trans (World.putObj_heap_other (by omega)))
      | ret => exact hp.elim
      | exit id => exact hp.elim
      | goto t => exact hp.elim
      | panic ch => exact hp.elim
      | outgrown => exact hp.elim
    · rintro e W2 ⟨⟨v, rfl⟩, hi, hsz, hl, hk⟩
      exact ⟨none, _, by have := run_endLoop (P := P) hl (by rw [hrec]; simp); rw [hrec] at this; exact this, hdone _ _ (Nat.le_refl _) (hI _ _ _ hi (turns3_put _ _ (by omega) (by omega))) ((World.putObj_heap_other (by omega)).trans hk)⟩

theorem wpListIn_make_full {F : Fence} {m : Nat} {P : Program} (w : World) {ops : Array Oper} {rest : List Oper} {o : Oper} {a : Act} {Q : Exit → Act → World → Prop}
    (hg : o.guard = none) (l c : Operand) (t : TypeId) (hop : o.op = Op.makeSlice t l c)
    (base : Nat) (e : TypeId) (i : TypeInfo) (z : Value) (size : Nat) (h1 : P.underlying t = some (.slice e)) (h2 : P.info? e = some i) (h3 : i.zero = some z) (h4 : i.size = size)
    (kl kc : IntKind) (L C : Int) (n : Nat) (hl : a.eval l = .int kl L) (hc : a.eval c = .int kc C) (hL : L = (n : Int)) (hC : C = (n : Int)) (b2 : i.bytes * n ≤ 281474976710656) (b3 : n ≤ maxLen) (b4 : base ≤ w.heap.size)
    (hK : ∀ w', w'.ownsRow base e size (.slice (some ⟨w.heap.size, 0, none⟩) n n) n (madeCells z.cells (n * size)).toList → w.grownBy w' none → wpListIn F m P ops Q rest (a.put o.dst (.slice (some ⟨w.heap.size, 0, none⟩) n n)) w') :
    wpListIn F m P ops Q (o :: rest) a w := by
  refine wpListIn_plain hg fun K hK' => ?_
  obtain ⟨w', hrun, r1, r2⟩ := run_make_full (P := P) w base t e i z size h1 h2 h3 h4 kl kc n b2 b3 b4
  subst hL
  subst hC
  unfold Oper.wpIn
  refine ⟨?_, ?_⟩
  · simp [Oper.about, hop]
  · rw [Oper.semAt_plain F _ _ (by rw [hop]; intro c hc'; cases hc')]
    simp [execOp, hop, hl, hc, hrun, Result.andThen]
    exact hK' _ _ (hK w' r1 r2)

/-- The m digits of i, the last one the lowest. -/
def dig (S : Nat) : Nat → Nat → List Nat
  | 0, _ => []
  | m + 1, i => dig S m (i / S) ++ [i % S]
def digI (S m i : Nat) : List Int := (dig S m i).map Int.ofNat

theorem dig_length (S m : Nat) : ∀ i, (dig S m i).length = m := by
  induction m with
  | zero => intro i; rfl
  | succ m ih => intro i; simp [dig, ih]
theorem digI_length (S m i : Nat) : (digI S m i).length = m := by simp [digI, dig_length]
theorem dig_zero (S m : Nat) : dig S m 0 = List.replicate m 0 := by
  induction m with
  | zero => rfl
  | succ m ih => rw [dig, Nat.zero_div, Nat.zero_mod, ih, List.replicate_succ']
theorem dig_lt (S m : Nat) (hS : 0 < S) : ∀ i, ∀ k ∈ dig S m i, k < S := by
  induction m with
  | zero => intro i k h; simp [dig] at h
  | succ m ih =>
    intro i k h
    simp only [dig, List.mem_append, List.mem_singleton] at h
    rcases h with h | h
    · exact ih _ k h
    · rw [h]; exact Nat.mod_lt _ hS

theorem getD_mid (l r : List Int) (x : Int) (k : Nat) (hk : l.length = k) : (l ++ [x] ++ r)[k]?.getD 0 = x := by
  subst hk; simp
theorem set_mid (l r : List Int) (x y : Int) (k : Nat) (hk : l.length = k) : (l ++ [x] ++ r).set k y = l ++ [y] ++ r := by
  subst hk; simp

theorem adv_dig (S : Nat) (hS : 0 < S) (k : Nat) : ∀ (i : Nat) (rest : List Int), i < S ^ k →
    (i + 1 < S ^ k → advAt S (digI S k i ++ rest) k = (digI S k (i + 1) ++ rest, true)) ∧ (¬ i + 1 < S ^ k → (advAt S (digI S k i ++ rest) k).2 = false) := by
  induction k with
  | zero => intro i rest hi; simp at hi; subst hi; exact ⟨fun h => by simp at h, fun _ => rfl⟩
  | succ k ih =>
    intro i rest hi
    have hd := Nat.div_add_mod i S
    have hm := Nat.mod_lt i hS
    have hq : i / S < S ^ k := by rw [Nat.div_lt_iff_lt_mul hS, ← Nat.pow_succ]; exact hi
    have e1 : digI S (k + 1) i = digI S k (i / S) ++ [((i % S : Nat) : Int)] := by simp [digI, dig]
    have hg : (digI S (k + 1) i ++ rest)[k]?.getD 0 = ((i % S : Nat) : Int) := by rw [e1]; exact getD_mid _ _ _ k (digI_length _ _ _)
    unfold advAt
    rw [hg]
    by_cases c : i % S + 1 < S
    · have cz : ((i % S : Nat) : Int) + 1 < (S : Int) := by omega
      rw [if_pos cz]
      have d1 : (i + 1) / S = i / S := by
        rw [Nat.div_eq_iff hS]; constructor
        · have := Nat.div_mul_le_self i S; omega
        · have : i / S * S = S * (i / S) := Nat.mul_comm _ _; omega
      have d2 : (i + 1) % S = i % S + 1 := by
        have h2 := Nat.div_add_mod (i + 1) S
        rw [d1] at h2; omega
      have hlt : i + 1 < S ^ (k + 1) := by
        rw [Nat.pow_succ, ← Nat.div_lt_iff_lt_mul hS, d1]; exact hq
      refine ⟨fun _ => ?_, fun h => absurd hlt h⟩
      congr 1
      rw [e1, set_mid _ _ _ _ k (digI_length _ _ _)]
      simp [digI, dig, d1, d2]
    · have cz : ¬ ((i % S : Nat) : Int) + 1 < (S : Int) := by omega
      rw [if_neg cz, e1, set_mid _ _ _ _ k (digI_length _ _ _), List.append_assoc]
      have hmS : i % S = S - 1 := by omega
      have d1 : (i + 1) / S = i / S + 1 := by
        rw [Nat.div_eq_iff hS]
        have : i / S * S = S * (i / S) := Nat.mul_comm _ _
        have h2 : (i / S + 1) * S = i / S * S + S := by rw [Nat.succ_mul]
        constructor
        · omega
        · omega
      have d2 : (i + 1) % S = 0 := by
        have h2 := Nat.div_add_mod (i + 1) S
        rw [d1, Nat.mul_add, Nat.mul_one] at h2; omega
      have hiff : i + 1 < S ^ (k + 1) ↔ i / S + 1 < S ^ k := by rw [Nat.pow_succ, ← Nat.div_lt_iff_lt_mul hS, d1]
      obtain ⟨i1, i2⟩ := ih (i / S) ([0] ++ rest) hq
      refine ⟨fun h => ?_, fun h => i2 (fun h' => h (hiff.2 h'))⟩
      rw [i1 (hiff.1 h)]
      simp [digI, dig, d1, d2]

theorem digI_bd (S m i : Nat) (hS : 0 < S) (hS1 : S ≤ 1000) : ∀ x ∈ digI S m i, -1000000 ≤ x ∧ x ≤ 1000000 := by
  intro x hx
  obtain ⟨k, hk, rfl⟩ := List.mem_map.1 hx
  have := dig_lt S m hS i k hk
  show -1000000 ≤ ((k : Nat) : Int) ∧ ((k : Nat) : Int) ≤ 1000000
  omega

/-- A slice that holds a plan. -/
def PlanAt (base S m i : Nat) (v : Value) (W : World) : Prop := ∃ gx c, v = .slice (some ⟨gx, 0, none⟩) m c ∧ base < gx ∧ gx < W.heap.size ∧ Sl W 1 (fun x => [Value.int .i64 x]) v (digI S m i)

theorem owns_same {w w' : World} {base : Nat} {e : TypeId} {size : Nat} {g n cap : Nat} {xs : List Value} (h : w.ownsRow base e size (.slice (some ⟨g, 0, none⟩) n cap) n xs) (hb : w'.heap[g]? = w.heap[g]?) : w'.ownsRow base e size (.slice (some ⟨g, 0, none⟩) n cap) n xs := by
  obtain ⟨h0, ⟨h1, _⟩ | ⟨g', cap', cur, e1, h2, h3, h4⟩⟩ := h
  · cases h1
  · have e2 : g = g' := by injection e1 with a; injection a with a; injection a
    subst e2
    exact ⟨h0, .inr ⟨g, cap', cur, e1, h2, by rw [hb]; exact h3, h4⟩⟩

set_option maxRecDepth 100000 in
set_option maxHeartbeats 2000000 in
theorem plans1_in (n : Nat) (hn : 1 ≤ n) (l Bw Bs S m : Nat) (J : Nat → World → Prop) (W : World) (hJ : Turn1s W.heap.size J)
    (hY : ∀ i v W1, J i W1 → i < S ^ m → PlanAt W.heap.size S m i v W1 → W.heap.size < W1.heap.size → YieldAt Fence.wide (n - 1) Tryz.prog l #[v] W1 fun e W' => e = .returned (.bool true) ∧ J (i + 1) W' ∧ W1.heap.size ≤ W'.heap.size ∧ W'.heap[W.heap.size]? = W1.heap[W.heap.size]?)
    (hJs : ∀ i A, J i A → A.cell? ⟨Bs, 0, none⟩ = some (.int .i64 S)) (hBs : Bs < W.heap.size) (hBw : Bw < W.heap.size) (h0 : J 0 W) (c0 : W.cell? ⟨Bw, 0, none⟩ = some (.int .i64 m)) (hm1 : 1 ≤ m) (hm2 : m ≤ 1000) (hS1 : 1 ≤ S) (hS2 : S ≤ 1000) :
    CallsIn Fence.wide n Tryz.prog 100 #[.func (.yield l) #[] #[], .pointer (some ⟨Bw, 0, none⟩), .pointer (some ⟨Bs, 0, none⟩)] W fun e W' => (∃ v, e = .returned v) ∧ J (S ^ m) W' := by
  obtain ⟨i0, hi, hz0, hz1, hz2⟩ := info_parts info_int
  have b2 : i0.bytes * m ≤ 281474976710656 := by rw [hz2]; omega
  have hN0 : 0 < S ^ m := Nat.pow_pos (by omega)
  have HD : Aside (∀ i, i < S ^ m → (i + 1 < S ^ m → advAt S (digI S m i) m = (digI S m (i + 1), true)) ∧ (¬ i + 1 < S ^ m → (advAt S (digI S m i) m).2 = false)) := fun i hi => by
    have := adv_dig S (by omega) m i [] hi
    simpa using this
  have HJ : Aside (Turn1s W.heap.size J) := hJ
  have HY : Aside (∀ i v W1, J i W1 → i < S ^ m → PlanAt W.heap.size S m i v W1 → W.heap.size < W1.heap.size → YieldAt Fence.wide (n - 1) Tryz.prog l #[v] W1 fun e W' => e = .returned (.bool true) ∧ J (i + 1) W' ∧ W1.heap.size ≤ W'.heap.size ∧ W'.heap[W.heap.size]? = W1.heap[W.heap.size]?) := hY
  have HJS : Aside (∀ i A, J i A → A.cell? ⟨Bs, 0, none⟩ = some (.int .i64 S)) := hJs
  have HBD : Aside (∀ i, ∀ x ∈ digI S m i, -1000000 ≤ x ∧ x ≤ 1000000) := fun i => digI_bd S m i (by omega) hS2
  have HZ : Aside ((digI S m 0) = List.replicate m 0) := by show _ = _; simp [digI, dig_zero]
  clear hJ hY hJs
  generalize S ^ m = N at *
  refine callsIn_of_wp Tryz.func100 rfl trivial ?_ rfl
  simp only [Tryz.ntmps100, List.size_toArray, List.length_cons, List.length_nil, Nat.reduceAdd, Nat.reduceSub, Array.replicate_succ, Array.replicate_zero, List.push_toArray, List.append_toArray, List.nil_append, List.cons_append]
  gi_wp2_with (gi_at_make; refine wpListIn_make_full _ rfl _ _ 24 rfl 0 3 i0 (.int .i64 0) 1 Tryz.underlying24 hi hz0 hz1 .i64 .i64 _ _ m rfl rfl rfl rfl b2 (by unfold maxLen; omega) (Nat.zero_le _) ?_; intro w1 hown1 hgrow1)
  rw [made_zero, ← HZ.out] at hown1
  have B1 : Below W.heap.size W w1 := (Below.refl _ W).grown hgrow1 (Nat.le_refl _) (fun j e => by cases e)
  have sz1 : W.heap.size < w1.heap.size := (hown1.lt _ rfl).2
  have J1 : Aside (J 0 w1) := HJ.out _ _ _ h0 (Nat.le_refl _) (Turns1.of_below B1)
  clear hgrow1 HZ hi hz0 hz1 hz2 b2 h0
  gi_loopg [5] (N + 1) (fun gg v wr => (v = .bool true ∧ ∃ i : Nat, i < N ∧ N - i ≤ gg ∧ wr.ownsRow 0 3 1 (.slice (some ⟨W.heap.size, 0, none⟩) m m) m ((digI S m i).map (Value.int .i64)) ∧ Aside (J i wr)) ∨ (v = .bool false ∧ Aside (J N wr)))
  case atStart => exact .inl ⟨rfl, 0, hN0, by omega, hown1, J1⟩
  case round =>
    rcases hrel with ⟨rfl, i, hi, hg, hown, HJi⟩ | ⟨rfl, HJN⟩
    · have hsz : W.heap.size < wr.heap.size := (hown.lt _ rfl).2
      have hrow := hown
      rw [show m = (digI S m i).length from (digI_length S m i).symm] at hrow
      have HSL : Aside (Sl wr 1 (fun x => [Value.int .i64 x]) (.slice (some ⟨W.heap.size, 0, none⟩) m m) (digI S m i)) := by
        show Sl _ _ _ _ _
        have hcell := hown.cellAt
        refine ⟨some ⟨W.heap.size, 0, none⟩, m, by rw [digI_length], by rw [digI_length]; omega, fun _ => ⟨W.heap.size, 0, rfl, hsz, fun j x hx q y hy => ?_⟩⟩
        have hj : j < m := by have := (List.getElem?_eq_some_iff.1 hx).1; rwa [digI_length] at this
        cases q with
        | zero =>
          simp at hy; subst hy
          have := hcell j (by omega)
          rw [List.getElem?_map, hx] at this
          simpa using this
        | succ q => simp at hy
      clear hrow
      have x1 := clone_ints _ (digI S m i) wr HSL.out (by intro e; have := digI_length S m i; rw [e] at this; simp at this; omega) (by rw [digI_length]; exact hm2)
      unfold RetSl at x1
      rw [digI_length] at x1
      gi_wp2_with (refine ⟨trivial, ?_⟩; gi_at_call 102; refine (callsIn_wide.2 x1).mono ?_; rintro e w2 ⟨gx, c, rfl, hgx1, hgx2, hsl2, hb2⟩; have z2 := hb2.size; obtain ⟨fn, tmps, assign, body, hy, hR⟩ := HY.out i _ w2 (HJ.out _ _ _ HJi.out (by omega) (Turns1.of_below hb2)) hi ⟨gx, c, rfl, by omega, hgx2, hsl2⟩ (by omega))
      refine hR.mono ?_
      clear hR hy x1
      rintro e w3 ⟨rfl, hJ3, hz3, hg3⟩
      have hown2 := owns_same hown (hb2.block _ hsz)
      have hown3 := owns_same hown2 hg3
      have kS := HJS.out _ _ hJ3
      have x2 := advance_any 0 W.heap.size S (digI S m i) w3 (Nat.zero_le _) (by rw [digI_length]; exact hown3) (by rw [digI_length]; exact hm2) (HBD.out i)
      rw [digI_length] at x2
      unfold RetAdv at x2
      rw [advAt_length, digI_length] at x2
      obtain ⟨d1, d2⟩ := HD.out i hi
      by_cases hc : i + 1 < N
      · rw [d1 hc] at x2
        gi_wp2_with (refine ⟨trivial, ?_⟩; gi_at_call 101; refine (callsIn_wide.2 x2).mono ?_; rintro e w4 ⟨rfl, hown4, hb4, hk4⟩)
        gi_roundg (N - (i + 1))
        case measure => omega
        case rel => exact .inl ⟨rfl, i + 1, hc, Nat.le_refl _, hown4, HJ.out _ _ _ hJ3 (by omega) ⟨hb4.os, hb4.tape, hb4.output, hb4.size, fun k h1 h2 => hk4 k h2 h1⟩⟩
      · rw [d2 hc] at x2
        have hNi : i + 1 = N := by omega
        rw [hNi] at hJ3
        gi_wp2_with (refine ⟨trivial, ?_⟩; gi_at_call 101; refine (callsIn_wide.2 x2).mono ?_; rintro e w4 ⟨rfl, hown4, hb4, hk4⟩)
        gi_roundg 0
        case measure => omega
        case rel => exact .inr ⟨rfl, HJ.out _ _ _ hJ3 (by omega) ⟨hb4.os, hb4.tape, hb4.output, hb4.size, fun k h1 h2 => hk4 k h2 h1⟩⟩
    · gi_wp2
      go_end0
      exact ⟨⟨_, rfl⟩, HJN.out⟩

set_option maxHeartbeats 400000 in
/-- The maker of the iterator: both numbers are boxed. -/
theorem plans_any (m S : Int) (w : World) :
    Calls Tryz.prog 82 #[.int .i64 m, .int .i64 S] w fun e' w' => e' = .returned (.func (.func 100) #[] #[.pointer (some ⟨w.heap.size, 0, none⟩), .pointer (some ⟨w.heap.size + 1, 0, none⟩)]) ∧ w' = (w.alloc (.cells #[.int .i64 m] 3)).alloc (.cells #[.int .i64 S] 3) := by
  go_enter Tryz.func82, Tryz.ntmps82
  go_wp2
  go_ret
  exact ⟨rfl, rfl⟩
end Go.Proofs.YtgceffpkhmjmkaaGreat
