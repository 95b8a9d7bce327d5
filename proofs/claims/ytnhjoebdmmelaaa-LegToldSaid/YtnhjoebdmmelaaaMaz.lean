/- Leg: parts Nc. -/
import Derived.Laws.MakeOwn
import Derived.Test.YtnhjoebdmmelaaaMav
import Derived.Test.YtnhjoebdmmelaaaMay
import Derived.Test.YtnhjoebdmmelaaaMao
import Derived.Test.YtnhjoebdmmelaaaMaw
import Derived.Test.YtnhjoebdmmelaaaMai
set_option linter.unusedVariables false
set_option linter.unusedSimpArgs false
namespace Go.Proofs.Ytnhjoebdmmelaaa
section
open Go.RowKit Go.Maps Go.Sort Go.Shelf Go.Deep
def MkI (B n : Nat) (T : TypeId) (z x : Value) (ww : World) : Prop := ∃ g, x = .slice (some ⟨g, 0, none⟩) n n ∧ B ≤ g ∧ ww.heap[g]? = some (.cells (List.replicate n z).toArray T (0, 0))
theorem MkI.below {B n : Nat} {T : TypeId} {z x : Value} {W W' : World} (h : MkI B n T z x W) (hB : Below W.heap.size W W') : MkI B n T z x W' := by
 obtain ⟨g, e, h1, h2⟩ := h; exact ⟨g, e, h1, (hB.block _ (Array.getElem?_eq_some_iff.1 h2).1).trans h2⟩
theorem made_one (x : Value) (n : Nat) : madeCells #[x] n = (List.replicate n x).toArray := by
 unfold madeCells
 apply Array.ext
 ·simp
 ·intro i h1 h2
  simp [Nat.mod_one]
theorem mk_ints (n : Nat) (hn : n ≤ 1000) (W : World) : (Instr.makeSlice 48 (.int .i64 (n : Int)) (.int .i64 (n : Int))).run Try.prog W = .ok (.slice (some ⟨W.heap.size, 0, none⟩) n n) (W.alloc (.cells (List.replicate n (Value.int .i64 0)).toArray 3)) := by
 obtain ⟨i0, hi0, hz0, hz1, hz2⟩ := info_parts info_int
 have h := run_make (P := Try.prog) W 48 3 i0 _ Try.underlying48 hi0 hz0 .i64 .i64 (n : Int) (n : Int) (by omega) (Int.le_refl _) (by rw [hz2]; omega) (by omega)
 rw [hz1, Nat.mul_one] at h
 simp only [Int.toNat_natCast] at h
 rw [h]
 rw [show (Value.int .i64 0).cells = #[Value.int .i64 0] from rfl, made_one]
theorem mk_bools (n : Nat) (hn : n ≤ 1000) (W : World) : (Instr.makeSlice 49 (.int .i64 (n : Int)) (.int .i64 (n : Int))).run Try.prog W = .ok (.slice (some ⟨W.heap.size, 0, none⟩) n n) (W.alloc (.cells (List.replicate n (Value.bool false)).toArray 4)) := by
 obtain ⟨i0, hi0, hz0, hz1, hz2⟩ := info_parts info_bool
 have h := run_make (P := Try.prog) W 49 4 i0 _ Try.underlying49 hi0 hz0 .i64 .i64 (n : Int) (n : Int) (by omega) (Int.le_refl _) (by rw [hz2]; omega) (by omega)
 rw [hz1, Nat.mul_one] at h
 simp only [Int.toNat_natCast] at h
 rw [h]
 rw [show (Value.bool false).cells = #[Value.bool false] from rfl, made_one]
def RowX (W : World) (g : Nat) (T : TypeId) (vs : List Value) : Prop := W.heap[g]? = some (.cells vs.toArray T (0, 0))
theorem RowX.get {W : World} {g k : Nat} {T : TypeId} {vs : List Value} {x : Value} (h : RowX W g T vs) (hx : vs[k]? = some x) : W.cell? ⟨g, k, none⟩ = some x := blk_cell h (by simpa using hx)
theorem RowX.set {W : World} {g : Nat} {T : TypeId} {vs : List Value} (h : RowX W g T vs) (k : Nat) (x : Value) : RowX (W.setCell ⟨g, k, none⟩ x) g T (vs.set k x) := by
 have := Go.Joins.block_setCell (i := k) h x
 rw [List.setIfInBounds_toArray] at this
 exact this
theorem RowX.other {W : World} {g g' k : Nat} {T : TypeId} {vs : List Value} (h : RowX W g T vs) (hg : g ≠ g') (x : Value) : RowX (W.setCell ⟨g', k, none⟩ x) g T vs := (Below.heap_setCell _ _ _ _ hg).trans h
theorem RowX.below {W W' : World} {g : Nat} {T : TypeId} {vs : List Value} (h : RowX W g T vs) (hB : Below W.heap.size W W') : RowX W' g T vs := (hB.block _ (Array.getElem?_eq_some_iff.1 h).1).trans h
structure TL (w4 : World) (gS gL gI : Nat) (ss ls : List Int) (bs : List Bool) (W : World) : Prop where
 bel : Below w4.heap.size w4 W
 s : RowX W gS 3 (ss.map (Value.int .i64))
 l : RowX W gL 3 (ls.map (Value.int .i64))
 i : RowX W gI 4 (bs.map Value.bool)
structure Dst (w4 : World) (gS gL gI : Nat) : Prop where
 s : w4.heap.size ≤ gS
 l : w4.heap.size ≤ gL
 i : w4.heap.size ≤ gI
 sl : gS ≠ gL
 si : gS ≠ gI
 li : gL ≠ gI
section
variable {w4 W W' : World} {gS gL gI : Nat} {ss ls : List Int} {bs : List Bool}
theorem TL.below (h : TL w4 gS gL gI ss ls bs W) (hB : Below W.heap.size W W') : TL w4 gS gL gI ss ls bs W' :=
 ⟨h.bel.trans (hB.mono h.bel.size), h.s.below hB, h.l.below hB, h.i.below hB⟩
theorem TL.setL (h : TL w4 gS gL gI ss ls bs W) (hd : Dst w4 gS gL gI) (k : Nat) (x : Int) : TL w4 gS gL gI ss (ls.set k x) bs (W.setCell ⟨gL, k, none⟩ (.int .i64 x)) :=
 ⟨h.bel.setCell (p := ⟨gL, k, none⟩) hd.l _, h.s.other hd.sl _, by rw [List.map_set]; exact h.l.set k _, h.i.other (Ne.symm hd.li) _⟩
theorem TL.setI (h : TL w4 gS gL gI ss ls bs W) (hd : Dst w4 gS gL gI) (k : Nat) (x : Bool) : TL w4 gS gL gI ss ls (bs.set k x) (W.setCell ⟨gI, k, none⟩ (.bool x)) :=
 ⟨h.bel.setCell (p := ⟨gI, k, none⟩) hd.i _, h.s.other hd.si _, h.l.other hd.li _, by rw [List.map_set]; exact h.i.set k _⟩
theorem TL.setS (h : TL w4 gS gL gI ss ls bs W) (hd : Dst w4 gS gL gI) (k : Nat) (x : Int) : TL w4 gS gL gI (ss.set k x) ls bs (W.setCell ⟨gS, k, none⟩ (.int .i64 x)) :=
 ⟨h.bel.setCell (p := ⟨gS, k, none⟩) hd.s _, by rw [List.map_set]; exact h.s.set k _, h.l.other (Ne.symm hd.sl) _, h.i.other (Ne.symm hd.si) _⟩
theorem TL.sc (h : TL w4 gS gL gI ss ls bs W) {k : Nat} {x : Int} (hx : ss[k]? = some x) : W.cell? ⟨gS, k, none⟩ = some (.int .i64 x) := h.s.get (by rw [List.getElem?_map, hx]; rfl)
theorem TL.lc (h : TL w4 gS gL gI ss ls bs W) {k : Nat} {x : Int} (hx : ls[k]? = some x) : W.cell? ⟨gL, k, none⟩ = some (.int .i64 x) := h.l.get (by rw [List.getElem?_map, hx]; rfl)
theorem TL.ic (h : TL w4 gS gL gI ss ls bs W) {k : Nat} {x : Bool} (hx : bs[k]? = some x) : W.cell? ⟨gI, k, none⟩ = some (.bool x) := h.i.get (by rw [List.getElem?_map, hx]; rfl)
theorem TL.fs (h : TL w4 gS gL gI ss ls bs W) : ∀ i, W.frozen? ⟨gS, i, none⟩ = false := fun i => blk_free h.s i
theorem TL.fl (h : TL w4 gS gL gI ss ls bs W) : ∀ i, W.frozen? ⟨gL, i, none⟩ = false := fun i => blk_free h.l i
theorem TL.fi (h : TL w4 gS gL gI ss ls bs W) : ∀ i, W.frozen? ⟨gI, i, none⟩ = false := fun i => blk_free h.i i
end
structure TLd (w4 base : World) (gS gL gI : Nat) (ss ls : List Int) (bs : List Bool) (k : Nat) (xs xl : Int) (xi : Bool) (iS iL iI : Nat) (listed : Array Bool) (a : Act) (W : World) : Prop where
 t : TL w4 gS gL gI (if listed.getD iS false = true then ss.set k xs else ss) (if listed.getD iL false = true then ls.set k xl else ls) (if listed.getD iI false = true then bs.set k xi else bs) W
 oth : ∀ j, j < base.heap.size → j ≠ gS → j ≠ gL → j ≠ gI → W.heap[j]? = base.heap[j]?
section
variable {w4 base W : World} {gS gL gI : Nat} {ss ls : List Int} {bs : List Bool} {k : Nat} {xs xl : Int} {xi : Bool} {iS iL iI : Nat} {listed : Array Bool} {a : Act}
theorem TLd.start (h : TL w4 gS gL gI ss ls bs base) (m : Nat) (a : Act) : TLd w4 base gS gL gI ss ls bs k xs xl xi iS iL iI (Array.replicate m false) a base.drew := by
 refine ⟨?_, fun j hj _ _ _ => rfl⟩
 rw [rep_false, rep_false, rep_false, if_neg (by simp), if_neg (by simp), if_neg (by simp)]
 exact h.below ((Below.refl _ _).drew)
theorem TLd.other (h : TLd w4 base gS gL gI ss ls bs k xs xl xi iS iL iI listed a W) {i : Nat} {a' : Act} (hi : (decide (i ≠ iS) && decide (i ≠ iL) && decide (i ≠ iI)) = true) : TLd w4 base gS gL gI ss ls bs k xs xl xi iS iL iI (listed.setIfInBounds i true) a' W := by
 simp only [Bool.and_eq_true, decide_eq_true_eq] at hi
 obtain ⟨⟨h1, h2⟩, h3⟩ := hi
 refine ⟨?_, h.oth⟩
 rw [getD_set_ne _ _ _ _ (Ne.symm h1), getD_set_ne _ _ _ _ (Ne.symm h2), getD_set_ne _ _ _ _ (Ne.symm h3)]
 exact h.t
theorem TLd.rest (h : TLd w4 base gS gL gI ss ls bs k xs xl xi iS iL iI listed a W) {g i : Nat} {x : Value} (hg : g ≠ gS ∧ g ≠ gL ∧ g ≠ gI) (hx : base.cell? ⟨g, i, none⟩ = some x) : W.cell? ⟨g, i, none⟩ = some x := (cell_blk (h.oth g (cell_lt hx) hg.1 hg.2.1 hg.2.2)).trans hx
theorem TLd.setL (h : TLd w4 base gS gL gI ss ls bs k xs xl xi iS iL iI listed a W) (hd : Dst w4 gS gL gI) (hn : listed.getD iL false = false) (hin : iL < listed.size) (h1 : iL ≠ iS) (h2 : iL ≠ iI) (a' : Act) : TLd w4 base gS gL gI ss ls bs k xs xl xi iS iL iI (listed.setIfInBounds iL true) a' (W.setCell ⟨gL, k, none⟩ (.int .i64 xl)) := by
 refine ⟨?_, fun j hj e1 e2 e3 => (Below.heap_setCell _ _ _ _ e2).trans (h.oth j hj e1 e2 e3)⟩
 rw [getD_set_ne _ _ _ _ (Ne.symm h1), getD_set_ne _ _ _ _ (Ne.symm h2), getD_set_self _ _ _ hin, if_pos rfl]
 have ht := h.t
 rw [if_neg (c := listed.getD iL false = true) (by rw [hn]; simp)] at ht
 exact ht.setL hd k xl
theorem TLd.setI (h : TLd w4 base gS gL gI ss ls bs k xs xl xi iS iL iI listed a W) (hd : Dst w4 gS gL gI) (hn : listed.getD iI false = false) (hin : iI < listed.size) (h1 : iI ≠ iS) (h2 : iI ≠ iL) (a' : Act) : TLd w4 base gS gL gI ss ls bs k xs xl xi iS iL iI (listed.setIfInBounds iI true) a' (W.setCell ⟨gI, k, none⟩ (.bool xi)) := by
 refine ⟨?_, fun j hj e1 e2 e3 => (Below.heap_setCell _ _ _ _ e3).trans (h.oth j hj e1 e2 e3)⟩
 rw [getD_set_ne _ _ _ _ (Ne.symm h1), getD_set_ne _ _ _ _ (Ne.symm h2), getD_set_self _ _ _ hin, if_pos rfl]
 have ht := h.t
 rw [if_neg (c := listed.getD iI false = true) (by rw [hn]; simp)] at ht
 exact ht.setI hd k xi
theorem TLd.setS (h : TLd w4 base gS gL gI ss ls bs k xs xl xi iS iL iI listed a W) (hd : Dst w4 gS gL gI) (hn : listed.getD iS false = false) (hin : iS < listed.size) (h1 : iS ≠ iL) (h2 : iS ≠ iI) (a' : Act) : TLd w4 base gS gL gI ss ls bs k xs xl xi iS iL iI (listed.setIfInBounds iS true) a' (W.setCell ⟨gS, k, none⟩ (.int .i64 xs)) := by
 refine ⟨?_, fun j hj e1 e2 e3 => (Below.heap_setCell _ _ _ _ e1).trans (h.oth j hj e1 e2 e3)⟩
 rw [getD_set_ne _ _ _ _ (Ne.symm h1), getD_set_ne _ _ _ _ (Ne.symm h2), getD_set_self _ _ _ hin, if_pos rfl]
 have ht := h.t
 rw [if_neg (c := listed.getD iS false = true) (by rw [hn]; simp)] at ht
 exact ht.setS hd k xs
theorem TLd.lcell (h : TLd w4 base gS gL gI ss ls bs k xs xl xi iS iL iI listed a W) (hn : listed.getD iL false = false) {o : Int} (hk : ls[k]? = some o) : W.cell? ⟨gL, k, none⟩ = some (.int .i64 o) := by
 have ht := h.t
 rw [if_neg (c := listed.getD iL false = true) (by rw [hn]; simp)] at ht
 exact ht.lc hk
theorem TLd.icell (h : TLd w4 base gS gL gI ss ls bs k xs xl xi iS iL iI listed a W) (hn : listed.getD iI false = false) {o : Bool} (hk : bs[k]? = some o) : W.cell? ⟨gI, k, none⟩ = some (.bool o) := by
 have ht := h.t
 rw [if_neg (c := listed.getD iI false = true) (by rw [hn]; simp)] at ht
 exact ht.ic hk
theorem TLd.scell (h : TLd w4 base gS gL gI ss ls bs k xs xl xi iS iL iI listed a W) (hn : listed.getD iS false = false) {o : Int} (hk : ss[k]? = some o) : W.cell? ⟨gS, k, none⟩ = some (.int .i64 o) := by
 have ht := h.t
 rw [if_neg (c := listed.getD iS false = true) (by rw [hn]; simp)] at ht
 exact ht.sc hk
theorem TLd.fin (h : TLd w4 base gS gL gI ss ls bs k xs xl xi iS iL iI listed a W) (hl : listed.getD iL false = true) (hi : listed.getD iI false = true) (hs : listed.getD iS false = true) : TL w4 gS gL gI (ss.set k xs) (ls.set k xl) (bs.set k xi) W := by
 have ht := h.t
 rw [if_pos hl, if_pos hi, if_pos hs] at ht
 exact ht
theorem TLd.fin2 (h : TLd w4 base gS gL gI ss ls bs k xs xl xi iS iL iI listed a W) (hl : listed.getD iL false = true) (hi : listed.getD iI false = true) (hs : listed.getD iS false = false) : TL w4 gS gL gI ss (ls.set k xl) (bs.set k xi) W := by
 have ht := h.t
 rw [if_pos hl, if_pos hi, if_neg (by rw [hs]; simp)] at ht
 exact ht
end
section
variable {h : Hnd} {w wr w5 : World} {vs vbd : Value} {B0 : Nat}
set_option maxRecDepth 100000 in
set_option maxHeartbeats 16000000 in
theorem tol1 {ops : List Oper} {Q : Exit → Act → World → Prop} {a0 : Act} (hbx : wr.heap[B0]? = some (.cells #[vs, .int .u8 h.gates, .bool h.equal, .int .u8 h.rounds, .int .u8 h.first, vbd] 78 (0, 0))) (X1 : Aside (∀ W, Below wr.heap.size wr W → Calls Try.prog 33 #[.agg #[vs, .int .u8 h.gates, .bool h.equal, .int .u8 h.rounds, .int .u8 h.first, vbd]] W (HRulesOk h W))) (X2 : Aside (∀ W, Below wr.heap.size wr W → Calls Try.prog 34 #[.agg #[vs, .int .u8 h.gates, .bool h.equal, .int .u8 h.rounds, .int .u8 h.first, vbd]] W (TaleOk h W))) (hops : regOps 1 Try.f8 = some ops) (hsz0 : a0.tmps.size = 405) (hs1 : a0.tmps.getD 1 undef = .pointer (some ⟨B0, 0, none⟩))
  (hrest : ∀ (ac : Act) (w5 : World), LaidG ops.toArray a0 (fun (i : Nat) (x : Value) (ww : World) => (match i with | 0 => x = .agg #[vs, .int .u8 h.gates, .bool h.equal, .int .u8 h.rounds, .int .u8 h.first, vbd] | 1 => RulV h x ww | 2 => x = .agg #[vs, .int .u8 h.gates, .bool h.equal, .int .u8 h.rounds, .int .u8 h.first, vbd] | 3 => TalV h wr x ww | 4 => True | 5 => True | _ => True : Prop)) (Cl wr [(⟨4, 6, 3, .cells #[.slice none 0 0, .int .i64 0, .int .i64 0, .bool false] 42 (0, 0), .cells #[.slice none 0 0, .int .i64 0, .int .i64 0, .bool false] 42 (0, 0)⟩ : AS), (⟨5, 7, 4, .cells #[.slice none 0 0, .slice none 0 0, .slice none 0 0, .slice none 0 0, .slice none 0 0, .slice none 0 0, .int .i64 0, .bool false] 81 (0, 0), .cells #[.slice none 0 0, .slice none 0 0, .slice none 0 0, .slice none 0 0, .slice none 0 0, .slice none 0 0, .int .i64 0, .bool false] 81 (0, 0)⟩ : AS)]) #[true, true, true, true, true, true, false, false] ac w5 → wpAny Try.prog .any ops.toArray Q 2 #[true, true, true, true, true, true, false, false] ac w5) : (Code.region 1 ops.toArray true).wp Try.prog Q a0 wr := by
 (conv at hops => lhs; whnf)
 obtain rfl := Option.some.inj hops
 clear hops
 refine region_laidK (fun W W2 => Below W.heap.size W W2) (fl := 16) [true, true, true, true, true, true, false, false] 2 (fun (i : Nat) (x : Value) (ww : World) => (match i with | 0 => x = .agg #[vs, .int .u8 h.gates, .bool h.equal, .int .u8 h.rounds, .int .u8 h.first, vbd] | 1 => RulV h x ww | 2 => x = .agg #[vs, .int .u8 h.gates, .bool h.equal, .int .u8 h.rounds, .int .u8 h.first, vbd] | 3 => TalV h wr x ww | 4 => True | 5 => True | _ => True : Prop)) (Cl wr [(⟨4, 6, 3, .cells #[.slice none 0 0, .int .i64 0, .int .i64 0, .bool false] 42 (0, 0), .cells #[.slice none 0 0, .int .i64 0, .int .i64 0, .bool false] 42 (0, 0)⟩ : AS), (⟨5, 7, 4, .cells #[.slice none 0 0, .slice none 0 0, .slice none 0 0, .slice none 0 0, .slice none 0 0, .slice none 0 0, .int .i64 0, .bool false] 81 (0, 0), .cells #[.slice none 0 0, .slice none 0 0, .slice none 0 0, .slice none 0 0, .slice none 0 0, .slice none 0 0, .int .i64 0, .bool false] 81 (0, 0)⟩ : AS)]) (by kernel_rfl) rfl (by rw [hsz0]; decide +kernel) rfl (Cl.start _ _ _ _) ?mono ?step hrest
 case mono =>
  intro i x ww ww' hB h
  match i, h with
  | 0, h => exact h
  | 1, h => exact (h.below hB)
  | 2, h => exact h
  | 3, h => exact (h.below hB)
  | 4, h => exact h
  | 5, h => exact h
  | n + 6, h => exact h
 case step =>
  intro i o_ listed ac W hA ho hL he hcl hli hsz
  have hk1 : ac.tmps.getD 1 undef = .pointer (some ⟨B0, 0, none⟩) := (hL.kept 1 (by decide +kernel)).trans hs1
  have z0 : W.cell? ⟨B0, 0, none⟩ = some (vs) := keepc hL.cls.1 (blk_cell hbx (i := 0) rfl)
  have z1 : W.cell? ⟨B0, 1, none⟩ = some (.int .u8 h.gates) := keepc hL.cls.1 (blk_cell hbx (i := 1) rfl)
  have z2 : W.cell? ⟨B0, 2, none⟩ = some (.bool h.equal) := keepc hL.cls.1 (blk_cell hbx (i := 2) rfl)
  have z3 : W.cell? ⟨B0, 3, none⟩ = some (.int .u8 h.rounds) := keepc hL.cls.1 (blk_cell hbx (i := 3) rfl)
  have z4 : W.cell? ⟨B0, 4, none⟩ = some (.int .u8 h.first) := keepc hL.cls.1 (blk_cell hbx (i := 4) rfl)
  have z5 : W.cell? ⟨B0, 5, none⟩ = some (vbd) := keepc hL.cls.1 (blk_cell hbx (i := 5) rfl)
  match i, hA, ho with
  | 0, _, ho =>
   cases ho
   refine wpOp_plain rfl rfl ?_
   unfold Oper.wp
   go_simp
   first | exact ⟨_, rfl, Below.refl _ _, Cl.other hL.cls rfl (Below.refl _ _), rfl⟩
  | 1, _, ho =>
   cases ho
   have d0 : ac.tmps.getD 24 undef = .agg #[vs, .int .u8 h.gates, .bool h.equal, .int .u8 h.rounds, .int .u8 h.first, vbd] := hL.new 0 _ 24 rfl (he ⟨0, .data⟩ (by simp) rfl) rfl
   refine wpOp_plain rfl rfl ?_
   unfold Oper.wp
   go_simp
   refine (X1.out _ hL.cls.1).mono ?_
   rintro e w' ⟨hBn, vc, rfl, ho⟩
   exact ⟨_, rfl, hBn, Cl.other hL.cls rfl hBn, ⟨vc, rfl, own_mono ho (Nat.zero_le _)⟩⟩
  | 2, _, ho =>
   cases ho
   refine wpOp_plain rfl rfl ?_
   unfold Oper.wp
   go_simp
   first | exact ⟨_, rfl, Below.refl _ _, Cl.other hL.cls rfl (Below.refl _ _), rfl⟩
  | 3, _, ho =>
   cases ho
   have d2 : ac.tmps.getD 26 undef = .agg #[vs, .int .u8 h.gates, .bool h.equal, .int .u8 h.rounds, .int .u8 h.first, vbd] := hL.new 2 _ 26 rfl (he ⟨2, .data⟩ (by simp) rfl) rfl
   refine wpOp_plain rfl rfl ?_
   unfold Oper.wp
   go_simp
   refine (X2.out _ hL.cls.1).mono ?_
   rintro e w' ⟨Z, vv, nn, xx, rfl, ht⟩
   exact ⟨_, rfl, ht.bel, Cl.other hL.cls rfl ht.bel, ⟨Z, vv, nn, xx, rfl, ht.base hL.cls.1⟩⟩
  | 4, _, ho =>
   cases ho
   have hq : listed.getD 6 false = false := by
    cases hx : listed.getD 6 false with
    | false => rfl
    | true =>
     have h8 := hcl 6 _ rfl hx ⟨4, .data⟩ (by simp) rfl
     simp only [Array.getD_eq_getD_getElem?] at h8 hli
     rw [Array.getElem?_eq_getElem (show 4 < listed.size by rw [hsz]; decide)] at h8 hli
     rw [Option.getD_some] at h8 hli
     rw [h8] at hli
     exact absurd hli (by simp)
   have hBn : Below W.heap.size W (W.alloc (.cells #[.slice none 0 0, .int .i64 0, .int .i64 0, .bool false] 42)) := (Below.refl _ _).alloc (Nat.le_refl _) _
   refine wpOp_plain rfl rfl ?_
   unfold Oper.wp
   go_simp
   have hC := Cl.alloc (⟨4, 6, 3, .cells #[.slice none 0 0, .int .i64 0, .int .i64 0, .bool false] 42 (0, 0), .cells #[.slice none 0 0, .int .i64 0, .int .i64 0, .bool false] 42 (0, 0)⟩ : AS) hL.cls (by simp) (by rw [hL.size, hsz0]; exact (by decide : (3 : Nat) < 405)) hq (by simp) (by intro e' he hne; simp at he; rcases he with rfl | rfl <;> first | exact absurd rfl hne | exact ⟨by simp, by simp, by simp⟩)
   first | exact ⟨_, rfl, hBn, hC, trivial⟩ | exact ⟨_, rfl, hBn, hC⟩ | exact ⟨_, rfl, hC⟩
  | 5, _, ho =>
   cases ho
   have hq : listed.getD 7 false = false := by
    cases hx : listed.getD 7 false with
    | false => rfl
    | true =>
     have h8 := hcl 7 _ rfl hx ⟨5, .data⟩ (by simp) rfl
     simp only [Array.getD_eq_getD_getElem?] at h8 hli
     rw [Array.getElem?_eq_getElem (show 5 < listed.size by rw [hsz]; decide)] at h8 hli
     rw [Option.getD_some] at h8 hli
     rw [h8] at hli
     exact absurd hli (by simp)
   have hBn : Below W.heap.size W (W.alloc (.cells #[.slice none 0 0, .slice none 0 0, .slice none 0 0, .slice none 0 0, .slice none 0 0, .slice none 0 0, .int .i64 0, .bool false] 81)) := (Below.refl _ _).alloc (Nat.le_refl _) _
   refine wpOp_plain rfl rfl ?_
   unfold Oper.wp
   go_simp
   have hC := Cl.alloc (⟨5, 7, 4, .cells #[.slice none 0 0, .slice none 0 0, .slice none 0 0, .slice none 0 0, .slice none 0 0, .slice none 0 0, .int .i64 0, .bool false] 81 (0, 0), .cells #[.slice none 0 0, .slice none 0 0, .slice none 0 0, .slice none 0 0, .slice none 0 0, .slice none 0 0, .int .i64 0, .bool false] 81 (0, 0)⟩ : AS) hL.cls (by simp) (by rw [hL.size, hsz0]; exact (by decide : (4 : Nat) < 405)) hq (by simp) (by intro e' he hne; simp at he; rcases he with rfl | rfl <;> first | exact absurd rfl hne | exact ⟨by simp, by simp, by simp⟩)
   first | exact ⟨_, rfl, hBn, hC, trivial⟩ | exact ⟨_, rfl, hBn, hC⟩ | exact ⟨_, rfl, hC⟩
  | 6, hA, _ => cases hA
  | 7, hA, _ => cases hA
  | n + 8, hA, _ => simp at hA
end
section
variable {wc wr w5 : World} {g7 g8 gL gI gS gX cb co cc k n m b c5 i0 dl c3v : Nat} {c1 c2 c3 tl ts td sk lk lo : Int} {ti tb tw bk : Bool} {a3 : Option Addr} {bs ss ls : List Int} {bo : List Bool}
set_option maxRecDepth 100000 in
set_option maxHeartbeats 16000000 in
theorem tol9 {ops : List Oper} {Q : Exit → Act → World → Prop} {a0 : Act} (hm1 : ∀ W : World, (Instr.makeSlice 48 (.int .i64 (n : Int)) (.int .i64 (n : Int))).run Try.prog W = .ok (.slice (some ⟨W.heap.size, 0, none⟩) n n) (W.alloc (.cells (List.replicate n (Value.int .i64 0)).toArray 3))) (hm2 : ∀ W : World, (Instr.makeSlice 49 (.int .i64 (n : Int)) (.int .i64 (n : Int))).run Try.prog W = .ok (.slice (some ⟨W.heap.size, 0, none⟩) n n) (W.alloc (.cells (List.replicate n (Value.bool false)).toArray 4))) (hops : regOps 9 Try.f8 = some ops) (hsz0 : a0.tmps.size = 405) (hs8 : a0.tmps.getD 8 undef = .int .i64 (n : Int))
  (hrest : ∀ (ac : Act) (w5 : World), LaidG ops.toArray a0 (fun (i : Nat) (x : Value) (ww : World) => (match i with | 0 => x = .int .i64 (n : Int) | 1 => MkI wr.heap.size n 3 (Value.int .i64 0) x ww | 2 => x = .int .i64 (n : Int) | 3 => MkI wr.heap.size n 4 (Value.bool false) x ww | 4 => MkI wr.heap.size n 3 (Value.int .i64 0) x ww | 5 => MkI wr.heap.size n 4 (Value.bool false) x ww | _ => True : Prop)) (fun (_ : Array Bool) (_ : Act) (w2_ : World) => Below wr.heap.size wr w2_) #[true, true, true, true, true, true] ac w5 → wpAny Try.prog .any ops.toArray Q 0 #[true, true, true, true, true, true] ac w5) : (Code.region 9 ops.toArray true).wp Try.prog Q a0 wr := by
 (conv at hops => lhs; whnf)
 obtain rfl := Option.some.inj hops
 clear hops
 refine region_laidK (fun W W2 => Below W.heap.size W W2) (fl := 16) [true, true, true, true, true, true] 0 (fun (i : Nat) (x : Value) (ww : World) => (match i with | 0 => x = .int .i64 (n : Int) | 1 => MkI wr.heap.size n 3 (Value.int .i64 0) x ww | 2 => x = .int .i64 (n : Int) | 3 => MkI wr.heap.size n 4 (Value.bool false) x ww | 4 => MkI wr.heap.size n 3 (Value.int .i64 0) x ww | 5 => MkI wr.heap.size n 4 (Value.bool false) x ww | _ => True : Prop)) (fun (_ : Array Bool) (_ : Act) (w2_ : World) => Below wr.heap.size wr w2_) (by kernel_rfl) rfl (by rw [hsz0]; decide +kernel) rfl ((Below.refl _ _).drew) ?mono ?step hrest
 case mono =>
  intro i x ww ww' hB h
  match i, h with
  | 0, h => exact h
  | 1, h => exact (h.below hB)
  | 2, h => exact h
  | 3, h => exact (h.below hB)
  | 4, h => exact (h.below hB)
  | 5, h => exact (h.below hB)
  | n + 6, h => exact h
 case step =>
  intro i o_ listed ac W hA ho hL he hcl hli hsz
  have hk8 : ac.tmps.getD 8 undef = .int .i64 (n : Int) := (hL.kept 8 (by decide +kernel)).trans hs8
  have CL : ∀ W', Below W.heap.size W W' → Below wr.heap.size wr W' := fun W' h => hL.cls.trans (h.mono hL.cls.size)
  match i, hA, ho with
  | 0, _, ho =>
   cases ho
   refine wpOp_plain rfl rfl ?_
   unfold Oper.wp
   go_simp
   exact ⟨_, rfl, Below.refl _ _, hL.cls, rfl⟩
  | 1, _, ho =>
   cases ho
   have d0 : ac.tmps.getD 111 undef = .int .i64 (n : Int) := hL.new 0 _ 111 rfl (he ⟨0, .data⟩ (by simp) rfl) rfl
   have hBn : Below W.heap.size W (W.alloc (.cells (List.replicate n (Value.int .i64 0)).toArray 3)) := (Below.refl _ _).alloc (Nat.le_refl _) _
   have hD : MkI wr.heap.size n 3 (Value.int .i64 0) (.slice (some ⟨W.heap.size, 0, none⟩) n n) (W.alloc (.cells (List.replicate n (Value.int .i64 0)).toArray 3)) := ⟨_, rfl, hL.cls.size, World.alloc_heap_new _ _⟩
   refine wpOp_plain rfl rfl ?_
   unfold Oper.wp
   go_simp
   first | exact ⟨_, rfl, hBn, CL _ hBn, hD⟩ | exact ⟨_, rfl, CL _ hBn, hD⟩ | exact ⟨CL _ hBn, hD⟩ | exact ⟨_, rfl, hD⟩ | exact hD
  | 2, _, ho =>
   cases ho
   refine wpOp_plain rfl rfl ?_
   unfold Oper.wp
   go_simp
   exact ⟨_, rfl, Below.refl _ _, hL.cls, rfl⟩
  | 3, _, ho =>
   cases ho
   have d2 : ac.tmps.getD 113 undef = .int .i64 (n : Int) := hL.new 2 _ 113 rfl (he ⟨2, .data⟩ (by simp) rfl) rfl
   have hBn : Below W.heap.size W (W.alloc (.cells (List.replicate n (Value.bool false)).toArray 4)) := (Below.refl _ _).alloc (Nat.le_refl _) _
   have hD : MkI wr.heap.size n 4 (Value.bool false) (.slice (some ⟨W.heap.size, 0, none⟩) n n) (W.alloc (.cells (List.replicate n (Value.bool false)).toArray 4)) := ⟨_, rfl, hL.cls.size, World.alloc_heap_new _ _⟩
   refine wpOp_plain rfl rfl ?_
   unfold Oper.wp
   go_simp
   first | exact ⟨_, rfl, hBn, CL _ hBn, hD⟩ | exact ⟨_, rfl, CL _ hBn, hD⟩ | exact ⟨CL _ hBn, hD⟩ | exact ⟨_, rfl, hD⟩ | exact hD
  | 4, _, ho =>
   cases ho
   obtain ⟨x1, hx1⟩ : ∃ x, ac.tmps.getD 112 undef = x := ⟨_, rfl⟩
   have d1 := hL.new 1 _ 112 rfl (he ⟨1, .data⟩ (by simp) rfl) rfl
   rw [hx1] at d1
   obtain ⟨gz, rfl, hz1, hz2⟩ := d1
   have hD : MkI wr.heap.size n 3 (Value.int .i64 0) (.slice (some ⟨gz, 0, none⟩) n n) W := ⟨gz, rfl, hz1, hz2⟩
   refine wpOp_plain rfl rfl ?_
   unfold Oper.wp
   go_simp
   first | exact ⟨_, rfl, Below.refl _ _, hL.cls, hD⟩ | exact ⟨hL.cls, hD⟩ | exact hD
  | 5, _, ho =>
   cases ho
   obtain ⟨x3, hx3⟩ : ∃ x, ac.tmps.getD 114 undef = x := ⟨_, rfl⟩
   have d3 := hL.new 3 _ 114 rfl (he ⟨3, .data⟩ (by simp) rfl) rfl
   rw [hx3] at d3
   obtain ⟨gz, rfl, hz1, hz2⟩ := d3
   have hD : MkI wr.heap.size n 4 (Value.bool false) (.slice (some ⟨gz, 0, none⟩) n n) W := ⟨gz, rfl, hz1, hz2⟩
   refine wpOp_plain rfl rfl ?_
   unfold Oper.wp
   go_simp
   first | exact ⟨_, rfl, Below.refl _ _, hL.cls, hD⟩ | exact ⟨hL.cls, hD⟩ | exact hD
  | n + 6, hA, _ => simp at hA
set_option maxRecDepth 100000 in
set_option maxHeartbeats 16000000 in
theorem tol15 {ops : List Oper} {Q : Exit → Act → World → Prop} {a0 : Act} (k70 : wc.cell? ⟨g7, 0, none⟩ = some (.slice (some ⟨cb, co, none⟩) n cc)) (hkn : k < n) (hkz : (k : Int) < (n : Int)) (q1 : wc.cell? ⟨cb, co + k * 3, none⟩ = some (.int .i64 c1)) (q2 : wc.cell? ⟨cb, co + k * 3 + 1, none⟩ = some (.int .i64 c2)) (HT : Aside (TL wc gS gL gI ss ls bo wr)) (HD : Aside (Dst wc gS gL gI)) (HO : Aside (ls[k]? = some lo ∧ bo[k]? = some bk)) (hops : regOps 15 Try.f8 = some ops) (hsz0 : a0.tmps.size = 405) (hs10 : a0.tmps.getD 10 undef = .slice (some ⟨gL, 0, none⟩) n n) (hs12 : a0.tmps.getD 12 undef = .int .i64 (k : Int)) (hs11 : a0.tmps.getD 11 undef = .slice (some ⟨gI, 0, none⟩) n n) (hs3 : a0.tmps.getD 3 undef = .pointer (some ⟨g7, 0, none⟩))
  (hrest : ∀ (ac : Act) (w5 : World), LaidG ops.toArray a0 (fun (i : Nat) (x : Value) (ww : World) => (match i with | 0 => x = .slice (some ⟨gL, 0, none⟩) n n | 1 => x = .int .i64 (k : Int) | 2 => x = .slice (some ⟨gI, 0, none⟩) n n | 3 => x = .int .i64 (k : Int) | 4 => x = .pointer (some ⟨g7, 0, none⟩) | 5 => x = .slice (some ⟨cb, co, none⟩) n cc | 6 => x = .int .i64 (k : Int) | 7 => x = .pointer (some ⟨cb, co + k * 3, none⟩) | 8 => x = .pointer (some ⟨cb, co + k * 3, none⟩) | 9 => x = .int .i64 c1 | 10 => x = .pointer (some ⟨g7, 0, none⟩) | 11 => x = .slice (some ⟨cb, co, none⟩) n cc | 12 => x = .int .i64 (k : Int) | 13 => x = .pointer (some ⟨cb, co + k * 3, none⟩) | 14 => x = .pointer (some ⟨cb, co + k * 3 + 1, none⟩) | 15 => x = .int .i64 c2 | 16 => x = .bool (c2 == 0) | 17 => x = .pointer (some ⟨gL, k, none⟩) | 18 => True | 19 => x = .pointer (some ⟨gI, k, none⟩) | 20 => True | _ => True : Prop)) (TLd wc wr gS gL gI ss ls bo k 0 c1 (c2 == 0) 99 18 20) #[true, true, true, true, true, true, true, true, true, true, true, true, true, true, true, true, true, true, true, true, true] ac w5 → wpAny Try.prog .any ops.toArray Q 0 #[true, true, true, true, true, true, true, true, true, true, true, true, true, true, true, true, true, true, true, true, true] ac w5) : (Code.region 15 ops.toArray true).wp Try.prog Q a0 wr := by
 (conv at hops => lhs; whnf)
 obtain rfl := Option.some.inj hops
 clear hops
 refine region_laidK (fun _ _ => True) (fl := 16) [true, true, true, true, true, true, true, true, true, true, true, true, true, true, true, true, true, true, true, true, true] 0 (fun (i : Nat) (x : Value) (ww : World) => (match i with | 0 => x = .slice (some ⟨gL, 0, none⟩) n n | 1 => x = .int .i64 (k : Int) | 2 => x = .slice (some ⟨gI, 0, none⟩) n n | 3 => x = .int .i64 (k : Int) | 4 => x = .pointer (some ⟨g7, 0, none⟩) | 5 => x = .slice (some ⟨cb, co, none⟩) n cc | 6 => x = .int .i64 (k : Int) | 7 => x = .pointer (some ⟨cb, co + k * 3, none⟩) | 8 => x = .pointer (some ⟨cb, co + k * 3, none⟩) | 9 => x = .int .i64 c1 | 10 => x = .pointer (some ⟨g7, 0, none⟩) | 11 => x = .slice (some ⟨cb, co, none⟩) n cc | 12 => x = .int .i64 (k : Int) | 13 => x = .pointer (some ⟨cb, co + k * 3, none⟩) | 14 => x = .pointer (some ⟨cb, co + k * 3 + 1, none⟩) | 15 => x = .int .i64 c2 | 16 => x = .bool (c2 == 0) | 17 => x = .pointer (some ⟨gL, k, none⟩) | 18 => True | 19 => x = .pointer (some ⟨gI, k, none⟩) | 20 => True | _ => True : Prop)) (TLd wc wr gS gL gI ss ls bo k 0 c1 (c2 == 0) 99 18 20) (by kernel_rfl) rfl (by rw [hsz0]; decide +kernel) rfl (TLd.start HT.out _ _) ?mono ?step hrest
 case mono =>
  intro i x ww ww' hB h
  match i, h with
  | 0, h => exact h
  | 1, h => exact h
  | 2, h => exact h
  | 3, h => exact h
  | 4, h => exact h
  | 5, h => exact h
  | 6, h => exact h
  | 7, h => exact h
  | 8, h => exact h
  | 9, h => exact h
  | 10, h => exact h
  | 11, h => exact h
  | 12, h => exact h
  | 13, h => exact h
  | 14, h => exact h
  | 15, h => exact h
  | 16, h => exact h
  | 17, h => exact h
  | 18, h => exact h
  | 19, h => exact h
  | 20, h => exact h
  | n + 21, h => exact h
 case step =>
  intro i o_ listed ac W hA ho hL he hcl hli hsz
  have hk10 : ac.tmps.getD 10 undef = .slice (some ⟨gL, 0, none⟩) n n := (hL.kept 10 (by decide +kernel)).trans hs10
  have hk12 : ac.tmps.getD 12 undef = .int .i64 (k : Int) := (hL.kept 12 (by decide +kernel)).trans hs12
  have hk11 : ac.tmps.getD 11 undef = .slice (some ⟨gI, 0, none⟩) n n := (hL.kept 11 (by decide +kernel)).trans hs11
  have hk3 : ac.tmps.getD 3 undef = .pointer (some ⟨g7, 0, none⟩) := (hL.kept 3 (by decide +kernel)).trans hs3
  have z0 := keepc hL.cls.t.bel k70
  have z1 := keepc hL.cls.t.bel q1
  have z2 := keepc hL.cls.t.bel q2
  match i, hA, ho with
  | 0, _, ho =>
   cases ho
   refine wpOp_plain rfl rfl ?_
   unfold Oper.wp
   go_simp
   first | exact ⟨_, rfl, trivial, hL.cls.other rfl, rfl⟩ | exact ⟨_, rfl, hL.cls.other rfl, rfl⟩ | exact ⟨hL.cls.other rfl, rfl⟩ | exact hL.cls.other rfl
  | 1, _, ho =>
   cases ho
   refine wpOp_plain rfl rfl ?_
   unfold Oper.wp
   go_simp
   first | exact ⟨_, rfl, trivial, hL.cls.other rfl, rfl⟩ | exact ⟨_, rfl, hL.cls.other rfl, rfl⟩ | exact ⟨hL.cls.other rfl, rfl⟩ | exact hL.cls.other rfl
  | 2, _, ho =>
   cases ho
   refine wpOp_plain rfl rfl ?_
   unfold Oper.wp
   go_simp
   first | exact ⟨_, rfl, trivial, hL.cls.other rfl, rfl⟩ | exact ⟨_, rfl, hL.cls.other rfl, rfl⟩ | exact ⟨hL.cls.other rfl, rfl⟩ | exact hL.cls.other rfl
  | 3, _, ho =>
   cases ho
   refine wpOp_plain rfl rfl ?_
   unfold Oper.wp
   go_simp
   first | exact ⟨_, rfl, trivial, hL.cls.other rfl, rfl⟩ | exact ⟨_, rfl, hL.cls.other rfl, rfl⟩ | exact ⟨hL.cls.other rfl, rfl⟩ | exact hL.cls.other rfl
  | 4, _, ho =>
   cases ho
   refine wpOp_plain rfl rfl ?_
   unfold Oper.wp
   go_simp
   first | exact ⟨_, rfl, trivial, hL.cls.other rfl, rfl⟩ | exact ⟨_, rfl, hL.cls.other rfl, rfl⟩ | exact ⟨hL.cls.other rfl, rfl⟩ | exact hL.cls.other rfl
  | 5, _, ho =>
   cases ho
   have d4 : ac.tmps.getD 169 undef = .pointer (some ⟨g7, 0, none⟩) := hL.new 4 _ 169 rfl (he ⟨4, .data⟩ (by simp) rfl) rfl
   refine wpOp_plain rfl rfl ?_
   unfold Oper.wp
   go_simp
   first | exact ⟨_, rfl, trivial, hL.cls.other rfl, rfl⟩ | exact ⟨_, rfl, hL.cls.other rfl, rfl⟩ | exact ⟨hL.cls.other rfl, rfl⟩ | exact hL.cls.other rfl
  | 6, _, ho =>
   cases ho
   refine wpOp_plain rfl rfl ?_
   unfold Oper.wp
   go_simp
   first | exact ⟨_, rfl, trivial, hL.cls.other rfl, rfl⟩ | exact ⟨_, rfl, hL.cls.other rfl, rfl⟩ | exact ⟨hL.cls.other rfl, rfl⟩ | exact hL.cls.other rfl
  | 7, _, ho =>
   cases ho
   have d5 : ac.tmps.getD 170 undef = .slice (some ⟨cb, co, none⟩) n cc := hL.new 5 _ 170 rfl (he ⟨5, .data⟩ (by simp) rfl) rfl
   have d6 : ac.tmps.getD 171 undef = .int .i64 (k : Int) := hL.new 6 _ 171 rfl (he ⟨6, .data⟩ (by simp) rfl) rfl
   refine wpOp_plain rfl rfl ?_
   unfold Oper.wp
   go_simp
   first | exact ⟨_, rfl, trivial, hL.cls.other rfl, rfl⟩ | exact ⟨_, rfl, hL.cls.other rfl, rfl⟩ | exact ⟨hL.cls.other rfl, rfl⟩ | exact hL.cls.other rfl
  | 8, _, ho =>
   cases ho
   have d7 : ac.tmps.getD 172 undef = .pointer (some ⟨cb, co + k * 3, none⟩) := hL.new 7 _ 172 rfl (he ⟨7, .data⟩ (by simp) rfl) rfl
   refine wpOp_plain rfl rfl ?_
   unfold Oper.wp
   go_simp
   first | exact ⟨_, rfl, trivial, hL.cls.other rfl, rfl⟩ | exact ⟨_, rfl, hL.cls.other rfl, rfl⟩ | exact ⟨hL.cls.other rfl, rfl⟩ | exact hL.cls.other rfl
  | 9, _, ho =>
   cases ho
   have d8 : ac.tmps.getD 173 undef = .pointer (some ⟨cb, co + k * 3, none⟩) := hL.new 8 _ 173 rfl (he ⟨8, .data⟩ (by simp) rfl) rfl
   refine wpOp_plain rfl rfl ?_
   unfold Oper.wp
   go_simp
   first | exact ⟨_, rfl, trivial, hL.cls.other rfl, rfl⟩ | exact ⟨_, rfl, hL.cls.other rfl, rfl⟩ | exact ⟨hL.cls.other rfl, rfl⟩ | exact hL.cls.other rfl
  | 10, _, ho =>
   cases ho
   refine wpOp_plain rfl rfl ?_
   unfold Oper.wp
   go_simp
   first | exact ⟨_, rfl, trivial, hL.cls.other rfl, rfl⟩ | exact ⟨_, rfl, hL.cls.other rfl, rfl⟩ | exact ⟨hL.cls.other rfl, rfl⟩ | exact hL.cls.other rfl
  | 11, _, ho =>
   cases ho
   have d10 : ac.tmps.getD 175 undef = .pointer (some ⟨g7, 0, none⟩) := hL.new 10 _ 175 rfl (he ⟨10, .data⟩ (by simp) rfl) rfl
   refine wpOp_plain rfl rfl ?_
   unfold Oper.wp
   go_simp
   first | exact ⟨_, rfl, trivial, hL.cls.other rfl, rfl⟩ | exact ⟨_, rfl, hL.cls.other rfl, rfl⟩ | exact ⟨hL.cls.other rfl, rfl⟩ | exact hL.cls.other rfl
  | 12, _, ho =>
   cases ho
   refine wpOp_plain rfl rfl ?_
   unfold Oper.wp
   go_simp
   first | exact ⟨_, rfl, trivial, hL.cls.other rfl, rfl⟩ | exact ⟨_, rfl, hL.cls.other rfl, rfl⟩ | exact ⟨hL.cls.other rfl, rfl⟩ | exact hL.cls.other rfl
  | 13, _, ho =>
   cases ho
   have d11 : ac.tmps.getD 176 undef = .slice (some ⟨cb, co, none⟩) n cc := hL.new 11 _ 176 rfl (he ⟨11, .data⟩ (by simp) rfl) rfl
   have d12 : ac.tmps.getD 177 undef = .int .i64 (k : Int) := hL.new 12 _ 177 rfl (he ⟨12, .data⟩ (by simp) rfl) rfl
   refine wpOp_plain rfl rfl ?_
   unfold Oper.wp
   go_simp
   first | exact ⟨_, rfl, trivial, hL.cls.other rfl, rfl⟩ | exact ⟨_, rfl, hL.cls.other rfl, rfl⟩ | exact ⟨hL.cls.other rfl, rfl⟩ | exact hL.cls.other rfl
  | 14, _, ho =>
   cases ho
   have d13 : ac.tmps.getD 178 undef = .pointer (some ⟨cb, co + k * 3, none⟩) := hL.new 13 _ 178 rfl (he ⟨13, .data⟩ (by simp) rfl) rfl
   refine wpOp_plain rfl rfl ?_
   unfold Oper.wp
   go_simp
   first | exact ⟨_, rfl, trivial, hL.cls.other rfl, rfl⟩ | exact ⟨_, rfl, hL.cls.other rfl, rfl⟩ | exact ⟨hL.cls.other rfl, rfl⟩ | exact hL.cls.other rfl
  | 15, _, ho =>
   cases ho
   have d14 : ac.tmps.getD 179 undef = .pointer (some ⟨cb, co + k * 3 + 1, none⟩) := hL.new 14 _ 179 rfl (he ⟨14, .data⟩ (by simp) rfl) rfl
   refine wpOp_plain rfl rfl ?_
   unfold Oper.wp
   go_simp
   first | exact ⟨_, rfl, trivial, hL.cls.other rfl, rfl⟩ | exact ⟨_, rfl, hL.cls.other rfl, rfl⟩ | exact ⟨hL.cls.other rfl, rfl⟩ | exact hL.cls.other rfl
  | 16, _, ho =>
   cases ho
   have d15 : ac.tmps.getD 180 undef = .int .i64 c2 := hL.new 15 _ 180 rfl (he ⟨15, .data⟩ (by simp) rfl) rfl
   refine wpOp_plain rfl rfl ?_
   unfold Oper.wp
   go_simp
   first | exact ⟨_, rfl, trivial, hL.cls.other rfl, rfl⟩ | exact ⟨_, rfl, hL.cls.other rfl, rfl⟩ | exact ⟨hL.cls.other rfl, rfl⟩ | exact hL.cls.other rfl
  | 17, _, ho =>
   cases ho
   have d0 : ac.tmps.getD 165 undef = .slice (some ⟨gL, 0, none⟩) n n := hL.new 0 _ 165 rfl (he ⟨0, .data⟩ (by simp) rfl) rfl
   have d1 : ac.tmps.getD 166 undef = .int .i64 (k : Int) := hL.new 1 _ 166 rfl (he ⟨1, .data⟩ (by simp) rfl) rfl
   refine wpOp_plain rfl rfl ?_
   unfold Oper.wp
   go_simp
   first | exact ⟨_, rfl, trivial, hL.cls.other rfl, rfl⟩ | exact ⟨_, rfl, hL.cls.other rfl, rfl⟩ | exact ⟨hL.cls.other rfl, rfl⟩ | exact hL.cls.other rfl
  | 18, _, ho =>
   cases ho
   have d17 : ac.tmps.getD 182 undef = .pointer (some ⟨gL, k, none⟩) := hL.new 17 _ 182 rfl (he ⟨17, .data⟩ (by simp) rfl) rfl
   have d9 : ac.tmps.getD 174 undef = .int .i64 c1 := hL.new 9 _ 174 rfl (he ⟨9, .data⟩ (by simp) rfl) rfl
   have ns : listed.getD 18 false = false := by
    simp only [Array.getD_eq_getD_getElem?] at hli ⊢
    rw [Array.getElem?_eq_getElem (show 18 < listed.size by rw [hsz]; decide)] at hli ⊢
    simpa using hli
   have HM : Aside _ := hL.cls.setL HD.out ns (by rw [hsz]; exact (by decide : (18 : Nat) < 21)) (show (18 : Nat) ≠ _ by decide) (show (18 : Nat) ≠ _ by decide) ac
   have ol := hL.cls.lcell ns HO.out.1
   have fz := hL.cls.t.fl
   simp only [Array.getD_eq_getD_getElem?] at d17 d9
   refine wpOp_plain rfl rfl ?_
   unfold Oper.wp
   go_simp
   first | exact HM.out | exact ⟨trivial, HM.out⟩ | exact ⟨trivial, HM.out, trivial⟩ | exact ⟨HM.out, trivial⟩
  | 19, _, ho =>
   cases ho
   have d2 : ac.tmps.getD 167 undef = .slice (some ⟨gI, 0, none⟩) n n := hL.new 2 _ 167 rfl (he ⟨2, .data⟩ (by simp) rfl) rfl
   have d3 : ac.tmps.getD 168 undef = .int .i64 (k : Int) := hL.new 3 _ 168 rfl (he ⟨3, .data⟩ (by simp) rfl) rfl
   refine wpOp_plain rfl rfl ?_
   unfold Oper.wp
   go_simp
   first | exact ⟨_, rfl, trivial, hL.cls.other rfl, rfl⟩ | exact ⟨_, rfl, hL.cls.other rfl, rfl⟩ | exact ⟨hL.cls.other rfl, rfl⟩ | exact hL.cls.other rfl
  | 20, _, ho =>
   cases ho
   have d19 : ac.tmps.getD 183 undef = .pointer (some ⟨gI, k, none⟩) := hL.new 19 _ 183 rfl (he ⟨19, .data⟩ (by simp) rfl) rfl
   have d16 : ac.tmps.getD 181 undef = .bool (c2 == 0) := hL.new 16 _ 181 rfl (he ⟨16, .data⟩ (by simp) rfl) rfl
   have ns : listed.getD 20 false = false := by
    simp only [Array.getD_eq_getD_getElem?] at hli ⊢
    rw [Array.getElem?_eq_getElem (show 20 < listed.size by rw [hsz]; decide)] at hli ⊢
    simpa using hli
   have HM : Aside _ := hL.cls.setI HD.out ns (by rw [hsz]; exact (by decide : (20 : Nat) < 21)) (show (20 : Nat) ≠ _ by decide) (show (20 : Nat) ≠ _ by decide) ac
   have ol := hL.cls.icell ns HO.out.2
   have fz := hL.cls.t.fi
   simp only [Array.getD_eq_getD_getElem?] at d19 d16
   refine wpOp_plain rfl rfl ?_
   unfold Oper.wp
   go_simp
   first | exact HM.out | exact ⟨trivial, HM.out⟩ | exact ⟨trivial, HM.out, trivial⟩ | exact ⟨HM.out, trivial⟩
  | n + 21, hA, _ => simp at hA
set_option maxRecDepth 100000 in
set_option maxHeartbeats 16000000 in
theorem tol23 {ops : List Oper} {Q : Exit → Act → World → Prop} {a0 : Act} (hkn : k < n) (hkz : (k : Int) < (n : Int)) (x0 : wr.cell? ⟨gX, 0, none⟩ = some (.int .i64 tl)) (x1 : wr.cell? ⟨gX, 1, none⟩ = some (.int .i64 ts)) (x3 : wr.cell? ⟨gX, 3, none⟩ = some (.bool ti)) (HXN : Aside (gX ≠ gS ∧ gX ≠ gL ∧ gX ≠ gI)) (hw : IntKind.i64.wrap (sk + ts) = sk + ts) (HT : Aside (TL wc gS gL gI ss ls bo wr)) (HD : Aside (Dst wc gS gL gI)) (HO : Aside (ls[k]? = some lo ∧ bo[k]? = some bk ∧ ss[k]? = some sk)) (hops : regOps 23 Try.f8 = some ops) (hsz0 : a0.tmps.size = 405) (hs10 : a0.tmps.getD 10 undef = .slice (some ⟨gL, 0, none⟩) n n) (hs14 : a0.tmps.getD 14 undef = .int .i64 (k : Int)) (hs11 : a0.tmps.getD 11 undef = .slice (some ⟨gI, 0, none⟩) n n) (hs9 : a0.tmps.getD 9 undef = .slice (some ⟨gS, 0, none⟩) n n) (hs15 : a0.tmps.getD 15 undef = .pointer (some ⟨gX, 0, none⟩))
  (hrest : ∀ (ac : Act) (w5 : World), LaidG ops.toArray a0 (fun (i : Nat) (x : Value) (ww : World) => (match i with | 0 => x = .slice (some ⟨gL, 0, none⟩) n n | 1 => x = .int .i64 (k : Int) | 2 => x = .slice (some ⟨gI, 0, none⟩) n n | 3 => x = .int .i64 (k : Int) | 4 => x = .slice (some ⟨gS, 0, none⟩) n n | 5 => x = .int .i64 (k : Int) | 6 => x = .pointer (some ⟨gX, 0, none⟩) | 7 => x = .int .i64 tl | 8 => x = .pointer (some ⟨gX, 3, none⟩) | 9 => x = .bool ti | 10 => x = .slice (some ⟨gS, 0, none⟩) n n | 11 => x = .int .i64 (k : Int) | 12 => x = .pointer (some ⟨gS, k, none⟩) | 13 => x = .int .i64 sk | 14 => x = .pointer (some ⟨gX, 1, none⟩) | 15 => x = .int .i64 ts | 16 => x = .int .i64 (sk + ts) | 17 => x = .pointer (some ⟨gL, k, none⟩) | 18 => True | 19 => x = .pointer (some ⟨gI, k, none⟩) | 20 => True | 21 => x = .pointer (some ⟨gS, k, none⟩) | 22 => True | _ => True : Prop)) (TLd wc wr gS gL gI ss ls bo k (sk + ts) tl ti 22 18 20) #[true, true, true, true, true, true, true, true, true, true, true, true, true, true, true, true, true, true, true, true, true, true, true] ac w5 → wpAny Try.prog .any ops.toArray Q 0 #[true, true, true, true, true, true, true, true, true, true, true, true, true, true, true, true, true, true, true, true, true, true, true] ac w5) : (Code.region 23 ops.toArray true).wp Try.prog Q a0 wr := by
 (conv at hops => lhs; whnf)
 obtain rfl := Option.some.inj hops
 clear hops
 refine region_laidK (fun _ _ => True) (fl := 16) [true, true, true, true, true, true, true, true, true, true, true, true, true, true, true, true, true, true, true, true, true, true, true] 0 (fun (i : Nat) (x : Value) (ww : World) => (match i with | 0 => x = .slice (some ⟨gL, 0, none⟩) n n | 1 => x = .int .i64 (k : Int) | 2 => x = .slice (some ⟨gI, 0, none⟩) n n | 3 => x = .int .i64 (k : Int) | 4 => x = .slice (some ⟨gS, 0, none⟩) n n | 5 => x = .int .i64 (k : Int) | 6 => x = .pointer (some ⟨gX, 0, none⟩) | 7 => x = .int .i64 tl | 8 => x = .pointer (some ⟨gX, 3, none⟩) | 9 => x = .bool ti | 10 => x = .slice (some ⟨gS, 0, none⟩) n n | 11 => x = .int .i64 (k : Int) | 12 => x = .pointer (some ⟨gS, k, none⟩) | 13 => x = .int .i64 sk | 14 => x = .pointer (some ⟨gX, 1, none⟩) | 15 => x = .int .i64 ts | 16 => x = .int .i64 (sk + ts) | 17 => x = .pointer (some ⟨gL, k, none⟩) | 18 => True | 19 => x = .pointer (some ⟨gI, k, none⟩) | 20 => True | 21 => x = .pointer (some ⟨gS, k, none⟩) | 22 => True | _ => True : Prop)) (TLd wc wr gS gL gI ss ls bo k (sk + ts) tl ti 22 18 20) (by kernel_rfl) rfl (by rw [hsz0]; decide +kernel) rfl (TLd.start HT.out _ _) ?mono ?step hrest
 case mono =>
  intro i x ww ww' hB h
  match i, h with
  | 0, h => exact h
  | 1, h => exact h
  | 2, h => exact h
  | 3, h => exact h
  | 4, h => exact h
  | 5, h => exact h
  | 6, h => exact h
  | 7, h => exact h
  | 8, h => exact h
  | 9, h => exact h
  | 10, h => exact h
  | 11, h => exact h
  | 12, h => exact h
  | 13, h => exact h
  | 14, h => exact h
  | 15, h => exact h
  | 16, h => exact h
  | 17, h => exact h
  | 18, h => exact h
  | 19, h => exact h
  | 20, h => exact h
  | 21, h => exact h
  | 22, h => exact h
  | n + 23, h => exact h
 case step =>
  intro i o_ listed ac W hA ho hL he hcl hli hsz
  have hk10 : ac.tmps.getD 10 undef = .slice (some ⟨gL, 0, none⟩) n n := (hL.kept 10 (by decide +kernel)).trans hs10
  have hk14 : ac.tmps.getD 14 undef = .int .i64 (k : Int) := (hL.kept 14 (by decide +kernel)).trans hs14
  have hk11 : ac.tmps.getD 11 undef = .slice (some ⟨gI, 0, none⟩) n n := (hL.kept 11 (by decide +kernel)).trans hs11
  have hk9 : ac.tmps.getD 9 undef = .slice (some ⟨gS, 0, none⟩) n n := (hL.kept 9 (by decide +kernel)).trans hs9
  have hk15 : ac.tmps.getD 15 undef = .pointer (some ⟨gX, 0, none⟩) := (hL.kept 15 (by decide +kernel)).trans hs15
  have z0 := hL.cls.rest HXN.out x0
  have z1 := hL.cls.rest HXN.out x1
  have z3 := hL.cls.rest HXN.out x3
  match i, hA, ho with
  | 0, _, ho =>
   cases ho
   refine wpOp_plain rfl rfl ?_
   unfold Oper.wp
   go_simp
   first | exact ⟨_, rfl, trivial, hL.cls.other rfl, rfl⟩ | exact ⟨_, rfl, hL.cls.other rfl, rfl⟩ | exact ⟨hL.cls.other rfl, rfl⟩ | exact hL.cls.other rfl
  | 1, _, ho =>
   cases ho
   refine wpOp_plain rfl rfl ?_
   unfold Oper.wp
   go_simp
   first | exact ⟨_, rfl, trivial, hL.cls.other rfl, rfl⟩ | exact ⟨_, rfl, hL.cls.other rfl, rfl⟩ | exact ⟨hL.cls.other rfl, rfl⟩ | exact hL.cls.other rfl
  | 2, _, ho =>
   cases ho
   refine wpOp_plain rfl rfl ?_
   unfold Oper.wp
   go_simp
   first | exact ⟨_, rfl, trivial, hL.cls.other rfl, rfl⟩ | exact ⟨_, rfl, hL.cls.other rfl, rfl⟩ | exact ⟨hL.cls.other rfl, rfl⟩ | exact hL.cls.other rfl
  | 3, _, ho =>
   cases ho
   refine wpOp_plain rfl rfl ?_
   unfold Oper.wp
   go_simp
   first | exact ⟨_, rfl, trivial, hL.cls.other rfl, rfl⟩ | exact ⟨_, rfl, hL.cls.other rfl, rfl⟩ | exact ⟨hL.cls.other rfl, rfl⟩ | exact hL.cls.other rfl
  | 4, _, ho =>
   cases ho
   refine wpOp_plain rfl rfl ?_
   unfold Oper.wp
   go_simp
   first | exact ⟨_, rfl, trivial, hL.cls.other rfl, rfl⟩ | exact ⟨_, rfl, hL.cls.other rfl, rfl⟩ | exact ⟨hL.cls.other rfl, rfl⟩ | exact hL.cls.other rfl
  | 5, _, ho =>
   cases ho
   refine wpOp_plain rfl rfl ?_
   unfold Oper.wp
   go_simp
   first | exact ⟨_, rfl, trivial, hL.cls.other rfl, rfl⟩ | exact ⟨_, rfl, hL.cls.other rfl, rfl⟩ | exact ⟨hL.cls.other rfl, rfl⟩ | exact hL.cls.other rfl
  | 6, _, ho =>
   cases ho
   refine wpOp_plain rfl rfl ?_
   unfold Oper.wp
   go_simp
   first | exact ⟨_, rfl, trivial, hL.cls.other rfl, rfl⟩ | exact ⟨_, rfl, hL.cls.other rfl, rfl⟩ | exact ⟨hL.cls.other rfl, rfl⟩ | exact hL.cls.other rfl
  | 7, _, ho =>
   cases ho
   have d6 : ac.tmps.getD 276 undef = .pointer (some ⟨gX, 0, none⟩) := hL.new 6 _ 276 rfl (he ⟨6, .data⟩ (by simp) rfl) rfl
   refine wpOp_plain rfl rfl ?_
   unfold Oper.wp
   go_simp
   first | exact ⟨_, rfl, trivial, hL.cls.other rfl, rfl⟩ | exact ⟨_, rfl, hL.cls.other rfl, rfl⟩ | exact ⟨hL.cls.other rfl, rfl⟩ | exact hL.cls.other rfl
  | 8, _, ho =>
   cases ho
   refine wpOp_plain rfl rfl ?_
   unfold Oper.wp
   go_simp
   first | exact ⟨_, rfl, trivial, hL.cls.other rfl, rfl⟩ | exact ⟨_, rfl, hL.cls.other rfl, rfl⟩ | exact ⟨hL.cls.other rfl, rfl⟩ | exact hL.cls.other rfl
  | 9, _, ho =>
   cases ho
   have d8 : ac.tmps.getD 278 undef = .pointer (some ⟨gX, 3, none⟩) := hL.new 8 _ 278 rfl (he ⟨8, .data⟩ (by simp) rfl) rfl
   refine wpOp_plain rfl rfl ?_
   unfold Oper.wp
   go_simp
   first | exact ⟨_, rfl, trivial, hL.cls.other rfl, rfl⟩ | exact ⟨_, rfl, hL.cls.other rfl, rfl⟩ | exact ⟨hL.cls.other rfl, rfl⟩ | exact hL.cls.other rfl
  | 10, _, ho =>
   cases ho
   refine wpOp_plain rfl rfl ?_
   unfold Oper.wp
   go_simp
   first | exact ⟨_, rfl, trivial, hL.cls.other rfl, rfl⟩ | exact ⟨_, rfl, hL.cls.other rfl, rfl⟩ | exact ⟨hL.cls.other rfl, rfl⟩ | exact hL.cls.other rfl
  | 11, _, ho =>
   cases ho
   refine wpOp_plain rfl rfl ?_
   unfold Oper.wp
   go_simp
   first | exact ⟨_, rfl, trivial, hL.cls.other rfl, rfl⟩ | exact ⟨_, rfl, hL.cls.other rfl, rfl⟩ | exact ⟨hL.cls.other rfl, rfl⟩ | exact hL.cls.other rfl
  | 12, _, ho =>
   cases ho
   have d10 : ac.tmps.getD 280 undef = .slice (some ⟨gS, 0, none⟩) n n := hL.new 10 _ 280 rfl (he ⟨10, .data⟩ (by simp) rfl) rfl
   have d11 : ac.tmps.getD 281 undef = .int .i64 (k : Int) := hL.new 11 _ 281 rfl (he ⟨11, .data⟩ (by simp) rfl) rfl
   refine wpOp_plain rfl rfl ?_
   unfold Oper.wp
   go_simp
   first | exact ⟨_, rfl, trivial, hL.cls.other rfl, rfl⟩ | exact ⟨_, rfl, hL.cls.other rfl, rfl⟩ | exact ⟨hL.cls.other rfl, rfl⟩ | exact hL.cls.other rfl
  | 13, _, ho =>
   cases ho
   have d12 : ac.tmps.getD 282 undef = .pointer (some ⟨gS, k, none⟩) := hL.new 12 _ 282 rfl (he ⟨12, .data⟩ (by simp) rfl) rfl
   have n16 : listed.getD 16 false = false := by
    cases hx : listed.getD 16 false with
    | false => rfl
    | true =>
     have h8 := hcl 16 _ rfl hx ⟨13, .data⟩ (by simp) rfl
     simp only [Array.getD_eq_getD_getElem?] at h8 hli
     rw [Array.getElem?_eq_getElem (show 13 < listed.size by rw [hsz]; decide)] at h8 hli
     rw [Option.getD_some] at h8 hli
     rw [h8] at hli
     exact absurd hli (by simp)
   have n22 : listed.getD 22 false = false := by
    cases hx : listed.getD 22 false with
    | false => rfl
    | true =>
     have h8 := hcl 22 _ rfl hx ⟨16, .data⟩ (by simp) rfl
     rw [n16] at h8; cases h8
   have z4 := hL.cls.scell n22 HO.out.2.2
   refine wpOp_plain rfl rfl ?_
   unfold Oper.wp
   go_simp
   first | exact ⟨_, rfl, trivial, hL.cls.other rfl, rfl⟩ | exact ⟨_, rfl, hL.cls.other rfl, rfl⟩ | exact ⟨hL.cls.other rfl, rfl⟩ | exact hL.cls.other rfl
  | 14, _, ho =>
   cases ho
   refine wpOp_plain rfl rfl ?_
   unfold Oper.wp
   go_simp
   first | exact ⟨_, rfl, trivial, hL.cls.other rfl, rfl⟩ | exact ⟨_, rfl, hL.cls.other rfl, rfl⟩ | exact ⟨hL.cls.other rfl, rfl⟩ | exact hL.cls.other rfl
  | 15, _, ho =>
   cases ho
   have d14 : ac.tmps.getD 284 undef = .pointer (some ⟨gX, 1, none⟩) := hL.new 14 _ 284 rfl (he ⟨14, .data⟩ (by simp) rfl) rfl
   refine wpOp_plain rfl rfl ?_
   unfold Oper.wp
   go_simp
   first | exact ⟨_, rfl, trivial, hL.cls.other rfl, rfl⟩ | exact ⟨_, rfl, hL.cls.other rfl, rfl⟩ | exact ⟨hL.cls.other rfl, rfl⟩ | exact hL.cls.other rfl
  | 16, _, ho =>
   cases ho
   have d13 : ac.tmps.getD 283 undef = .int .i64 sk := hL.new 13 _ 283 rfl (he ⟨13, .data⟩ (by simp) rfl) rfl
   have d15 : ac.tmps.getD 285 undef = .int .i64 ts := hL.new 15 _ 285 rfl (he ⟨15, .data⟩ (by simp) rfl) rfl
   refine wpOp_plain rfl rfl ?_
   unfold Oper.wp
   go_simp
   first | exact ⟨_, rfl, trivial, hL.cls.other rfl, rfl⟩ | exact ⟨_, rfl, hL.cls.other rfl, rfl⟩ | exact ⟨hL.cls.other rfl, rfl⟩ | exact hL.cls.other rfl
  | 17, _, ho =>
   cases ho
   have d0 : ac.tmps.getD 270 undef = .slice (some ⟨gL, 0, none⟩) n n := hL.new 0 _ 270 rfl (he ⟨0, .data⟩ (by simp) rfl) rfl
   have d1 : ac.tmps.getD 271 undef = .int .i64 (k : Int) := hL.new 1 _ 271 rfl (he ⟨1, .data⟩ (by simp) rfl) rfl
   refine wpOp_plain rfl rfl ?_
   unfold Oper.wp
   go_simp
   first | exact ⟨_, rfl, trivial, hL.cls.other rfl, rfl⟩ | exact ⟨_, rfl, hL.cls.other rfl, rfl⟩ | exact ⟨hL.cls.other rfl, rfl⟩ | exact hL.cls.other rfl
  | 18, _, ho =>
   cases ho
   have d17 : ac.tmps.getD 287 undef = .pointer (some ⟨gL, k, none⟩) := hL.new 17 _ 287 rfl (he ⟨17, .data⟩ (by simp) rfl) rfl
   have d7 : ac.tmps.getD 277 undef = .int .i64 tl := hL.new 7 _ 277 rfl (he ⟨7, .data⟩ (by simp) rfl) rfl
   have ns : listed.getD 18 false = false := by
    simp only [Array.getD_eq_getD_getElem?] at hli ⊢
    rw [Array.getElem?_eq_getElem (show 18 < listed.size by rw [hsz]; decide)] at hli ⊢
    simpa using hli
   have HM : Aside _ := hL.cls.setL HD.out ns (by rw [hsz]; exact (by decide : (18 : Nat) < 23)) (show (18 : Nat) ≠ _ by decide) (show (18 : Nat) ≠ _ by decide) ac
   have ol := hL.cls.lcell ns HO.out.1
   have fz := hL.cls.t.fl
   simp only [Array.getD_eq_getD_getElem?] at d17 d7
   refine wpOp_plain rfl rfl ?_
   unfold Oper.wp
   go_simp
   first | exact HM.out | exact ⟨trivial, HM.out⟩ | exact ⟨trivial, HM.out, trivial⟩ | exact ⟨HM.out, trivial⟩
  | 19, _, ho =>
   cases ho
   have d2 : ac.tmps.getD 272 undef = .slice (some ⟨gI, 0, none⟩) n n := hL.new 2 _ 272 rfl (he ⟨2, .data⟩ (by simp) rfl) rfl
   have d3 : ac.tmps.getD 273 undef = .int .i64 (k : Int) := hL.new 3 _ 273 rfl (he ⟨3, .data⟩ (by simp) rfl) rfl
   refine wpOp_plain rfl rfl ?_
   unfold Oper.wp
   go_simp
   first | exact ⟨_, rfl, trivial, hL.cls.other rfl, rfl⟩ | exact ⟨_, rfl, hL.cls.other rfl, rfl⟩ | exact ⟨hL.cls.other rfl, rfl⟩ | exact hL.cls.other rfl
  | 20, _, ho =>
   cases ho
   have d19 : ac.tmps.getD 288 undef = .pointer (some ⟨gI, k, none⟩) := hL.new 19 _ 288 rfl (he ⟨19, .data⟩ (by simp) rfl) rfl
   have d9 : ac.tmps.getD 279 undef = .bool ti := hL.new 9 _ 279 rfl (he ⟨9, .data⟩ (by simp) rfl) rfl
   have ns : listed.getD 20 false = false := by
    simp only [Array.getD_eq_getD_getElem?] at hli ⊢
    rw [Array.getElem?_eq_getElem (show 20 < listed.size by rw [hsz]; decide)] at hli ⊢
    simpa using hli
   have HM : Aside _ := hL.cls.setI HD.out ns (by rw [hsz]; exact (by decide : (20 : Nat) < 23)) (show (20 : Nat) ≠ _ by decide) (show (20 : Nat) ≠ _ by decide) ac
   have ol := hL.cls.icell ns HO.out.2.1
   have fz := hL.cls.t.fi
   simp only [Array.getD_eq_getD_getElem?] at d19 d9
   refine wpOp_plain rfl rfl ?_
   unfold Oper.wp
   go_simp
   first | exact HM.out | exact ⟨trivial, HM.out⟩ | exact ⟨trivial, HM.out, trivial⟩ | exact ⟨HM.out, trivial⟩
  | 21, _, ho =>
   cases ho
   have d4 : ac.tmps.getD 274 undef = .slice (some ⟨gS, 0, none⟩) n n := hL.new 4 _ 274 rfl (he ⟨4, .data⟩ (by simp) rfl) rfl
   have d5 : ac.tmps.getD 275 undef = .int .i64 (k : Int) := hL.new 5 _ 275 rfl (he ⟨5, .data⟩ (by simp) rfl) rfl
   refine wpOp_plain rfl rfl ?_
   unfold Oper.wp
   go_simp
   first | exact ⟨_, rfl, trivial, hL.cls.other rfl, rfl⟩ | exact ⟨_, rfl, hL.cls.other rfl, rfl⟩ | exact ⟨hL.cls.other rfl, rfl⟩ | exact hL.cls.other rfl
  | 22, _, ho =>
   cases ho
   have d21 : ac.tmps.getD 289 undef = .pointer (some ⟨gS, k, none⟩) := hL.new 21 _ 289 rfl (he ⟨21, .data⟩ (by simp) rfl) rfl
   have d16 : ac.tmps.getD 286 undef = .int .i64 (sk + ts) := hL.new 16 _ 286 rfl (he ⟨16, .data⟩ (by simp) rfl) rfl
   have ns : listed.getD 22 false = false := by
    simp only [Array.getD_eq_getD_getElem?] at hli ⊢
    rw [Array.getElem?_eq_getElem (show 22 < listed.size by rw [hsz]; decide)] at hli ⊢
    simpa using hli
   have HM : Aside _ := hL.cls.setS HD.out ns (by rw [hsz]; exact (by decide : (22 : Nat) < 23)) (show (22 : Nat) ≠ _ by decide) (show (22 : Nat) ≠ _ by decide) ac
   have ol := hL.cls.scell ns HO.out.2.2
   have fz := hL.cls.t.fs
   simp only [Array.getD_eq_getD_getElem?] at d21 d16
   refine wpOp_plain rfl rfl ?_
   unfold Oper.wp
   go_simp
   first | exact HM.out | exact ⟨trivial, HM.out⟩ | exact ⟨trivial, HM.out, trivial⟩ | exact ⟨HM.out, trivial⟩
  | n + 23, hA, _ => simp at hA
end
end
end Go.Proofs.Ytnhjoebdmmelaaa
