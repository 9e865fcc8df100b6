/- Small words for the walks of this seat: how a call ends, what stays as it was. -/
import Derived.Test.YtdkegkacpdkjgaaGreatProg
import Derived.WalkKit
import Derived.Lib.Hide
import Derived.KernelRfl
namespace Go.Proofs.YtdkegkacpdkjgaaGreat
open Go.RowKit

/-- The call returns v; what lay there lies there as it was. -/
def Ret (v : Value) (w : World) (e : Ending) (w' : World) : Prop := e = .returned v ∧ Below w.heap.size w w'
/-- The call panics with an error number of the program's own. -/
def Pan (c : Int) (w : World) (e : Ending) (w' : World) : Prop := e = .panicked [{ v := .iface 29 (.int .i64 c), recovered := false }] ∧ Below w.heap.size w w'
/-- Either. -/
def Out (r : Except Int Value) (w : World) (e : Ending) (w' : World) : Prop :=
  match r with
  | .ok v => Ret v w e w'
  | .error c => Pan c w e w'

theorem keepS {N : Nat} {W w w' : World} (hB : Below w.heap.size w w') (h : N ≤ w.heap.size ∧ ∀ b o, b < N → w.cell? ⟨b, o, none⟩ = W.cell? ⟨b, o, none⟩) :
    N ≤ w'.heap.size ∧ ∀ b o, b < N → w'.cell? ⟨b, o, none⟩ = W.cell? ⟨b, o, none⟩ :=
  ⟨Nat.le_trans h.1 hB.size, fun b o hb => (hB.cell (p := ⟨b, o, none⟩) (Nat.lt_of_lt_of_le hb h.1)).trans (h.2 b o hb)⟩
theorem keepA {N : Nat} {W w : World} (ob : Obj) (h : N ≤ w.heap.size ∧ ∀ b o, b < N → w.cell? ⟨b, o, none⟩ = W.cell? ⟨b, o, none⟩) :
    N ≤ (w.alloc ob).heap.size ∧ ∀ b o, b < N → (w.alloc ob).cell? ⟨b, o, none⟩ = W.cell? ⟨b, o, none⟩ :=
  keepS ((Below.refl _ w).alloc (Nat.le_refl _) ob) h

/-- The cells of a variable of n cells lie there and can be written. -/
def Slots (B n : Nat) (w : World) : Prop := ∀ o, o < n → (w.cell? ⟨B, o, none⟩).isSome = true ∧ w.frozen? ⟨B, o, none⟩ = false

theorem Slots.below {B n : Nat} {w w' : World} (h : Slots B n w) {M : Nat} (hb : Below M w w') (hB : B < M) : Slots B n w' := fun o ho => by
  rw [hb.cell (p := ⟨B, o, none⟩) hB, hb.frozen (p := ⟨B, o, none⟩) hB]; exact h o ho
theorem Slots.get {B n : Nat} {w : World} (h : Slots B n w) (o : Nat) (ho : o < n) : ∃ v, w.cell? ⟨B, o, none⟩ = some v ∧ w.frozen? ⟨B, o, none⟩ = false := by
  obtain ⟨h1, h2⟩ := h o ho
  obtain ⟨v, hv⟩ := Option.isSome_iff_exists.1 h1
  exact ⟨v, hv, h2⟩
theorem Slots.set {B n : Nat} {w : World} (h : Slots B n w) (p : Addr) (v : Value) : Slots B n (w.setCell p v) := fun o ho => by
  obtain ⟨x, hx, hf⟩ := h.get o ho
  refine ⟨?_, by rw [World.frozen?_setCell]; exact hf⟩
  by_cases e : p = ⟨B, o, none⟩
  · subst e; rw [World.cell?_setCell_same w _ v hx]; rfl
  · rw [World.cell?_setCell_other _ _ _ _ e, hx]; rfl
theorem Slots.alloc {B n : Nat} {w : World} (h : Slots B n w) (hB : B < w.heap.size) (ob : Obj) : Slots B n (w.alloc ob) :=
  h.below ((Below.refl w.heap.size w).alloc (Nat.le_refl _) ob) hB
theorem keepC {N : Nat} {W w : World} (B o : Nat) (v : Value) (hN : N ≤ B) (h : N ≤ w.heap.size ∧ ∀ b o, b < N → w.cell? ⟨b, o, none⟩ = W.cell? ⟨b, o, none⟩) :
    N ≤ (w.setCell ⟨B, o, none⟩ v).heap.size ∧ ∀ b o', b < N → (w.setCell ⟨B, o, none⟩ v).cell? ⟨b, o', none⟩ = W.cell? ⟨b, o', none⟩ := by
  have hb := (Below.refl N w).setCell (p := ⟨B, o, none⟩) hN v
  exact ⟨Nat.le_trans h.1 hb.size, fun b o hb' => (hb.cell (p := ⟨b, o, none⟩) hb').trans (h.2 b o hb')⟩
/-- Below N all cells are as in W; the variable of n cells at N can be written. -/
def Kept (N n : Nat) (W w : World) : Prop := (N ≤ w.heap.size ∧ ∀ b o, b < N → w.cell? ⟨b, o, none⟩ = W.cell? ⟨b, o, none⟩) ∧ Slots N n w ∧ N < w.heap.size
theorem Kept.below {N n : Nat} {W w w' : World} (h : Kept N n W w) (hB : Below w.heap.size w w') : Kept N n W w' :=
  ⟨keepS hB h.1, h.2.1.below hB h.2.2, Nat.lt_of_lt_of_le h.2.2 hB.size⟩
theorem Kept.by {N n : Nat} {W w w' : World} (hB : Below w.heap.size w w') (h : Kept N n W w) : Kept N n W w' := h.below hB
theorem Kept.alloc {N n : Nat} {W w : World} (h : Kept N n W w) (ob : Obj) : Kept N n W (w.alloc ob) := h.below ((Below.refl _ w).alloc (Nat.le_refl _) ob)
theorem Kept.set {N n : Nat} {W w : World} (h : Kept N n W w) (o : Nat) (v : Value) : Kept N n W (w.setCell ⟨N, o, none⟩ v) :=
  ⟨keepC N o v (Nat.le_refl _) h.1, h.2.1.set _ _, by simp; exact h.2.2⟩
theorem Kept.get {N n : Nat} {W w : World} (h : Kept N n W w) (o : Nat) (ho : o < n) : ∃ v, w.cell? ⟨N, o, none⟩ = some v ∧ w.frozen? ⟨N, o, none⟩ = false := h.2.1.get o ho
theorem heap_new (w : World) (o : Obj) : (w.alloc o).heap[w.heap.size]? = some o := by
  show (w.heap.push o)[w.heap.size]? = _
  simp
theorem Slots.drew {B n : Nat} {w : World} (h : Slots B n w) : Slots B n w.drew := h
/-- 'Below' of the world at the start, step by step. -/
theorem BA {a w : World} (h : Below a.heap.size a w) (o : Obj) : Below a.heap.size a (w.alloc o) := h.alloc h.size o
theorem BC {a w : World} (h : Below a.heap.size a w) (B o : Nat) (hp : a.heap.size ≤ B) (v : Value) : Below a.heap.size a (w.setCell ⟨B, o, none⟩ v) := h.setCell (p := ⟨B, o, none⟩) hp v
theorem BT {a w w' : World} (h : Below a.heap.size a w) (h' : Below w.heap.size w w') : Below a.heap.size a w' := h.trans (h'.mono h.size)
end Go.Proofs.YtdkegkacpdkjgaaGreat
