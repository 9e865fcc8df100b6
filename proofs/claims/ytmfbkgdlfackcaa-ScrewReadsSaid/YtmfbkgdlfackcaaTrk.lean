/- Small words for the walk along a tree. -/
import Derived.Test.YtmfbkgdlfackcaaTre
import Derived.Test.YtmfbkgdlfackcaaRto
namespace Go.Proofs.Ytmfbkgdlfackcaa
open Go.RowKit

def Two (g : Nat) (a b : Int) (X : World) : Prop := X.cell? ⟨g, 0, none⟩ = some (.int .i64 a) ∧ X.cell? ⟨g, 1, none⟩ = some (.int .i64 b)
theorem Two.grown {g : Nat} {a b : Int} {X X' : World} (k : Two g a b X) (hb : Below X.heap.size X X') : Two g a b X' := ⟨cellB k.1 hb, cellB k.2 hb⟩
theorem Two.lt2 {g : Nat} {a b : Int} {X : World} (k : Two g a b X) : g < X.heap.size := World.block_lt_of_cell? _ _ k.1
theorem Slots.lt2 {g : Nat} {X : World} (k : Slots g 2 X) : g < X.heap.size := by
  obtain ⟨v, h, _⟩ := k.get 0 (by omega)
  exact World.block_lt_of_cell? _ _ h
theorem slots_new2 (w : World) (t : TypeId) : Slots w.heap.size 2 (w.alloc (.cells #[.int .i64 0, .int .i64 0] t)) := by
  intro o ho
  have : o = 0 ∨ o = 1 := by omega
  rcases this with rfl | rfl <;> simp [go_sem]
theorem two_set {g : Nat} {X : World} (h : Slots g 2 X) (x y : Int) : Two g x y ((X.setCell ⟨g, 0, none⟩ (.int .i64 x)).setCell ⟨g, 1, none⟩ (.int .i64 y)) := by
  obtain ⟨u, q, _⟩ := h.get 0 (by omega)
  obtain ⟨v, r, _⟩ := h.get 1 (by omega)
  constructor
  · rw [World.cell?_setCell_other _ _ _ _ (by simp), World.cell?_setCell_same _ _ _ q]
  · refine World.cell?_setCell_same _ _ _ (u := v) ?_
    rw [World.cell?_setCell_other _ _ _ _ (by simp)]; exact r
theorem Two.far {g g' : Nat} {a b : Int} {X : World} (k : Two g a b X) (hne : g ≠ g') (x y : Int) : Two g a b ((X.setCell ⟨g', 0, none⟩ (.int .i64 x)).setCell ⟨g', 1, none⟩ (.int .i64 y)) := by
  constructor
  · rw [World.cell?_setCell_other _ _ _ _ (fun e => hne (by injection e with e; exact e.symm)), World.cell?_setCell_other _ _ _ _ (fun e => hne (by injection e with e; exact e.symm))]; exact k.1
  · rw [World.cell?_setCell_other _ _ _ _ (fun e => hne (by injection e with e; exact e.symm)), World.cell?_setCell_other _ _ _ _ (fun e => hne (by injection e with e; exact e.symm))]; exact k.2
end Go.Proofs.Ytmfbkgdlfackcaa
