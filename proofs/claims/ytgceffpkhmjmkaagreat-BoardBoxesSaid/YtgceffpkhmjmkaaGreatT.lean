/- Board, part T: the errors of wear; the wear after a week. -/
import Derived.Test.YtgceffpkhmjmkaaGreatO
import Derived.Test.YtgceffpkhmjmkaaGreatP
set_option linter.unusedVariables false
set_option linter.unusedSimpArgs false
namespace Go.Proofs.YtgceffpkhmjmkaaGreat
open Go.RowKit Go.Shelf

abbrev eI : Int → List Value := fun x => [Value.int .i64 x]
abbrev eR : Value × List Int → List Value := fun x => [x.1]

/-- The errors of wear, for so many sectors. -/
def wErr (n : Int) (worn : List Int) (ws : List (Value × List Int)) : Int :=
  if ((worn.length : Int) != n) || ws.any (fun x => (x.2.length : Int) != n) then 4
  else if !(worn.all (inb 0 1000000000)) || ws.any (fun x => !(x.2.all (inb 0 1000000))) then 2 else 0

set_option maxRecDepth 100000 in
set_option maxHeartbeats 4000000 in
theorem wearError_any (n : Int) (v : Value) (worn : List Int) (vs : Value) (ws : List (Value × List Int)) (w : World) (hw : Sl w 1 eI v worn) (hs : Sl w 1 eR vs ws) (hx : ∀ x ∈ ws, Sl w 1 eI x.1 x.2) :
    Calls Tryz.prog 59 #[.int .i64 n, v, vs] w (Ret (.int .i64 (wErr n worn ws)) w) := by
  have x1 := fun W (hW : Below w.heap.size w W) (B : Nat) (hB : W.cell? ⟨B, 0, none⟩ = some (.int .i64 n)) => uneven_any n B v worn W (hw.below hW) hB
  have x2 := fun W (hW : Below w.heap.size w W) (B : Nat) (hB : W.cell? ⟨B, 0, none⟩ = some (.int .i64 n)) =>
    rows_any (fun x : Value × List Int => x.1) (fun x => (x.2.length : Int) != n) 79 #[.pointer (some ⟨B, 0, none⟩)] (enters_of Tryz.func79 (by kernel_rfl) rfl) vs ws W (hs.below hW)
      (fun W' hW' x hm => uneven_any n B x.1 x.2 W' (((hx x hm).below hW).below hW') (keepc hW' hB))
  have x3 := fun W (hW : Below w.heap.size w W) => within_any 0 1000000000 v worn W (hw.below hW)
  have x4 := fun W (hW : Below w.heap.size w W) =>
    rows_any (fun x : Value × List Int => x.1) (fun x => !(x.2.all (inb 0 1000000))) 81 #[] (enters_of Tryz.func81 (by kernel_rfl) rfl) vs ws W (hs.below hW)
      (fun W' hW' x hm => weekWrong_any x.1 x.2 W' (((hx x hm).below hW).below hW'))
  unfold wErr
  obtain ⟨a, c, rfl, hl, _⟩ := hw
  obtain ⟨a2, c2, rfl, hl2, _⟩ := hs
  clear hx
  generalize ((worn.length : Int) != n) = u1 at *
  generalize (ws.any fun x => (x.2.length : Int) != n) = u2 at *
  generalize (worn.all (inb 0 1000000000)) = u3 at *
  generalize (ws.any fun x => !(x.2.all (inb 0 1000000))) = u4 at *
  generalize worn.length = len at *
  generalize ws.length = len2 at *
  cases u1 <;> cases u2 <;> cases u3 <;> cases u4 <;> simp only [Bool.or_true, Bool.or_false, Bool.true_or, Bool.false_or, Bool.not_true, Bool.not_false, if_true, if_false, Bool.false_eq_true]
  all_goals
    go_enter Tryz.func59, Tryz.ntmps59
    go_wp2_with (first | (go_at_call 79; (with_reducible refine (x1 _ ?hh _ ?hq).mono ?_); (case hh => (repeat' (first | exact Below.refl _ _ | assumption | (with_reducible refine Below.drew ?_) | (with_reducible refine Below.setCell ?_ (by (first | (simp; done) | (simp; omega))) _) | (with_reducible refine below_drewN' ?_ _) | (refine Below.alloc ?_ (by (try simp only [World.size_alloc, World.size_drew, World.size_setCell]); omega) _) | (refine Below.trans ?_ (Below.mono (by assumption) (by (try simp only [World.size_alloc, World.size_drew, World.size_setCell]); omega)))))); (case hq => go_simp); rintro e w1 ⟨rfl, hb1⟩; (obtain ⟨hc1, hf1⟩ := bcell hb1; have z1 := hb1.size; (try simp only [World.size_alloc, World.size_drew, World.size_setCell] at z1); (try have q1a : w.heap.size < w1.heap.size := by omega); (try have q1b : w.heap.size + 1 < w1.heap.size := by omega); (try have q1c : w.heap.size + 1 + 1 < w1.heap.size := by omega); (try have q1d : w.heap.size + 1 + 1 + 1 < w1.heap.size := by omega); (try have q1e : wr.heap.size < w1.heap.size := by omega); (try have q1f : wr.heap.size + 1 < w1.heap.size := by omega))) | (go_at_call 80; (with_reducible refine (x2 _ ?hh _ ?hq).mono ?_); (case hh => (repeat' (first | exact Below.refl _ _ | assumption | (with_reducible refine Below.drew ?_) | (with_reducible refine Below.setCell ?_ (by (first | (simp; done) | (simp; omega))) _) | (with_reducible refine below_drewN' ?_ _) | (refine Below.alloc ?_ (by (try simp only [World.size_alloc, World.size_drew, World.size_setCell]); omega) _) | (refine Below.trans ?_ (Below.mono (by assumption) (by (try simp only [World.size_alloc, World.size_drew, World.size_setCell]); omega)))))); (case hq => go_simp); rintro e w2 ⟨rfl, hb2⟩; (obtain ⟨hc2, hf2⟩ := bcell hb2; have z2 := hb2.size; (try simp only [World.size_alloc, World.size_drew, World.size_setCell] at z2); (try have q2a : w.heap.size < w2.heap.size := by omega); (try have q2b : w.heap.size + 1 < w2.heap.size := by omega); (try have q2c : w.heap.size + 1 + 1 < w2.heap.size := by omega); (try have q2d : w.heap.size + 1 + 1 + 1 < w2.heap.size := by omega); (try have q2e : wr.heap.size < w2.heap.size := by omega); (try have q2f : wr.heap.size + 1 < w2.heap.size := by omega); (try have q2g : w1.heap.size < w2.heap.size := by omega); (try have q2h : w1.heap.size + 1 < w2.heap.size := by omega))) | (go_at_call 55; (with_reducible refine (x3 _ ?hh).mono ?_); (case hh => (repeat' (first | exact Below.refl _ _ | assumption | (with_reducible refine Below.drew ?_) | (with_reducible refine Below.setCell ?_ (by (first | (simp; done) | (simp; omega))) _) | (with_reducible refine below_drewN' ?_ _) | (refine Below.alloc ?_ (by (try simp only [World.size_alloc, World.size_drew, World.size_setCell]); omega) _) | (refine Below.trans ?_ (Below.mono (by assumption) (by (try simp only [World.size_alloc, World.size_drew, World.size_setCell]); omega)))))); rintro e w3 ⟨rfl, hb3⟩; (obtain ⟨hc3, hf3⟩ := bcell hb3; have z3 := hb3.size; (try simp only [World.size_alloc, World.size_drew, World.size_setCell] at z3); (try have q3a : w.heap.size < w3.heap.size := by omega); (try have q3b : w.heap.size + 1 < w3.heap.size := by omega); (try have q3c : w.heap.size + 1 + 1 < w3.heap.size := by omega); (try have q3d : w.heap.size + 1 + 1 + 1 < w3.heap.size := by omega); (try have q3e : wr.heap.size < w3.heap.size := by omega); (try have q3f : wr.heap.size + 1 < w3.heap.size := by omega); (try have q3g : w2.heap.size < w3.heap.size := by omega); (try have q3h : w2.heap.size + 1 < w3.heap.size := by omega))) | (go_at_call 80; (with_reducible refine (x4 _ ?hh).mono ?_); (case hh => (repeat' (first | exact Below.refl _ _ | assumption | (with_reducible refine Below.drew ?_) | (with_reducible refine Below.setCell ?_ (by (first | (simp; done) | (simp; omega))) _) | (with_reducible refine below_drewN' ?_ _) | (refine Below.alloc ?_ (by (try simp only [World.size_alloc, World.size_drew, World.size_setCell]); omega) _) | (refine Below.trans ?_ (Below.mono (by assumption) (by (try simp only [World.size_alloc, World.size_drew, World.size_setCell]); omega)))))); rintro e w4 ⟨rfl, hb4⟩; (obtain ⟨hc4, hf4⟩ := bcell hb4; have z4 := hb4.size; (try simp only [World.size_alloc, World.size_drew, World.size_setCell] at z4); (try have q4a : w.heap.size < w4.heap.size := by omega); (try have q4b : w.heap.size + 1 < w4.heap.size := by omega); (try have q4c : w.heap.size + 1 + 1 < w4.heap.size := by omega); (try have q4d : w.heap.size + 1 + 1 + 1 < w4.heap.size := by omega); (try have q4e : wr.heap.size < w4.heap.size := by omega); (try have q4f : wr.heap.size + 1 < w4.heap.size := by omega); (try have q4g : w3.heap.size < w4.heap.size := by omega); (try have q4h : w3.heap.size + 1 < w4.heap.size := by omega))))
    go_ret
    exact ⟨rfl, by (repeat' (first | exact Below.refl _ _ | assumption | (with_reducible refine Below.drew ?_) | (with_reducible refine Below.setCell ?_ (by (first | (simp; done) | (simp; omega))) _) | (with_reducible refine below_drewN' ?_ _) | (refine Below.alloc ?_ (by (try simp only [World.size_alloc, World.size_drew, World.size_setCell]); omega) _) | (refine Below.trans ?_ (Below.mono (by assumption) (by (try simp only [World.size_alloc, World.size_drew, World.size_setCell]); omega)))))⟩
end Go.Proofs.YtgceffpkhmjmkaaGreat
