/- Measures in blocks of their own: seven cells. -/
import Derived.Test.YtmfbkgdlfackcaaRop
namespace Go.Proofs.Ytmfbkgdlfackcaa
open Go.RowKit

theorem Slots.lt7 {g : Nat} {X : World} (k : Slots g 7 X) : g < X.heap.size := by
  obtain ⟨v, h, _⟩ := k.get 0 (by omega)
  exact World.block_lt_of_cell? _ _ h
theorem slots_new7 (w : World) (t : TypeId) : Slots w.heap.size 7 (w.alloc (.cells #[.slice none 0 0, .int .i64 0, .int .i64 0, .int .i64 0, .int .i64 0, .int .i64 0, .slice none 0 0] t)) := by
  intro o ho
  have : o = 0 ∨ o = 1 ∨ o = 2 ∨ o = 3 ∨ o = 4 ∨ o = 5 ∨ o = 6 := by omega
  rcases this with rfl | rfl | rfl | rfl | rfl | rfl | rfl <;> simp [go_sem]
/-- Block g is a measure's, and can be written. -/
structure Box7 (X : World) (g : Nat) (h : Hd) : Prop where
  box : BoxC X g h
  slots : Slots g 7 X
def put7 (X : World) (g : Nat) (h : Hd) : World :=
  ((((((X.setCell ⟨g, 0, none⟩ (.slice h.a h.n h.cap)).setCell ⟨g, 1, none⟩ (.int .i64 h.eLo)).setCell ⟨g, 2, none⟩ (.int .i64 h.eHi)).setCell ⟨g, 3, none⟩ (.int .i64 h.images)).setCell ⟨g, 4, none⟩ (.int .i64 h.sLo)).setCell ⟨g, 5, none⟩ (.int .i64 h.sHi)).setCell ⟨g, 6, none⟩ (.slice h.sa h.ns h.scap)
theorem put7_bx (X : World) (g : Nat) (h : Hd) : BX g X (put7 X g h) :=
  (((((((BX.set g 0 X (.slice h.a h.n h.cap)).trans (BX.set g 1 _ (.int .i64 h.eLo))).trans (BX.set g 2 _ (.int .i64 h.eHi))).trans (BX.set g 3 _ (.int .i64 h.images))).trans (BX.set g 4 _ (.int .i64 h.sLo))).trans (BX.set g 5 _ (.int .i64 h.sHi))).trans (BX.set g 6 _ (.slice h.sa h.ns h.scap)))
theorem box_put7 {X : World} {g : Nat} (k : Slots g 7 X) (h : Hd) : Box7 (put7 X g h) g h := by
  obtain ⟨v0, a0, _⟩ := k.get 0 (by omega)
  obtain ⟨v1, a1, _⟩ := k.get 1 (by omega)
  obtain ⟨v2, a2, _⟩ := k.get 2 (by omega)
  obtain ⟨v3, a3, _⟩ := k.get 3 (by omega)
  obtain ⟨v4, a4, _⟩ := k.get 4 (by omega)
  obtain ⟨v5, a5, _⟩ := k.get 5 (by omega)
  obtain ⟨v6, a6, _⟩ := k.get 6 (by omega)
  refine ⟨?_, ((((((k.set _ _).set _ _).set _ _).set _ _).set _ _).set _ _).set _ _⟩
  unfold put7
  refine ⟨?_, ?_, ?_, ?_, ?_, ?_, ?_⟩ <;> simp [go_sem, a0, a1, a2, a3, a4, a5, a6]
theorem Box7.lt7 {g : Nat} {X : World} {h : Hd} (k : Box7 X g h) : g < X.heap.size := k.slots.lt7
theorem Box7.grown7 {g : Nat} {X X' : World} {h : Hd} (k : Box7 X g h) (hb : Below X.heap.size X X') : Box7 X' g h := ⟨k.box.grown hb, k.slots.below hb k.slots.lt7⟩
theorem Slots.far7 {X : World} {g g' : Nat} (k : Slots g 7 X) (_ : g ≠ g') (h : Hd) : Slots g 7 (put7 X g' h) := ((((((k.set _ _).set _ _).set _ _).set _ _).set _ _).set _ _).set _ _
theorem BoxC.bx {X X' : World} {g g' : Nat} {h : Hd} (k : BoxC X g h) (hx : BX g' X X') (hne : g ≠ g') : BoxC X' g h := by
  have hlt : g < X.heap.size := World.block_lt_of_cell? _ _ k.1
  obtain ⟨a0, a1, a2, a3, a4, a5, a6⟩ := k
  exact ⟨(hx.cell g _ hlt hne).trans a0, (hx.cell g _ hlt hne).trans a1, (hx.cell g _ hlt hne).trans a2, (hx.cell g _ hlt hne).trans a3, (hx.cell g _ hlt hne).trans a4, (hx.cell g _ hlt hne).trans a5, (hx.cell g _ hlt hne).trans a6⟩
theorem Box7.far7 {X : World} {g g' : Nat} {h' : Hd} (k : Box7 X g h') (hne : g ≠ g') (h : Hd) : Box7 (put7 X g' h) g h' := ⟨k.box.bx (put7_bx X g' h) hne, k.slots.far7 hne h⟩
/-- The sum is known. -/
def putN (X : World) (g : Nat) (n : Int) : World := (X.setCell ⟨g, 4, none⟩ (.int .i64 n)).setCell ⟨g, 5, none⟩ (.int .i64 n)
theorem putN_bx (X : World) (g : Nat) (n : Int) : BX g X (putN X g n) := (BX.set g 4 X (.int .i64 n)).trans (BX.set g 5 _ (.int .i64 n))
theorem Box7.putN {X : World} {g : Nat} {h : Hd} (k : Box7 X g h) (n : Int) : Box7 (putN X g n) g (withN h n) := by
  obtain ⟨⟨a0, a1, a2, a3, a4, a5, a6⟩, s⟩ := k
  refine ⟨?_, (s.set _ _).set _ _⟩
  unfold Go.Proofs.Ytmfbkgdlfackcaa.putN withN
  refine ⟨?_, ?_, ?_, ?_, ?_, ?_, ?_⟩ <;> simp [go_sem, a0, a1, a2, a3, a4, a5, a6]
theorem Box7.farN {X : World} {g g' : Nat} {h' : Hd} (k : Box7 X g h') (hne : g ≠ g') (n : Int) : Box7 (Go.Proofs.Ytmfbkgdlfackcaa.putN X g' n) g h' := ⟨k.box.bx (putN_bx X g' n) hne, (k.slots.set _ _).set _ _⟩
end Go.Proofs.Ytmfbkgdlfackcaa
