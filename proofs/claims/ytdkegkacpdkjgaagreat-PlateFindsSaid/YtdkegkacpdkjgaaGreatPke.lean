/- Plate: what is kept of all truths. -/
import Derived.Test.YtdkegkacpdkjgaaGreatPlo
import Derived.Maps.Range
namespace Go.Proofs.YtdkegkacpdkjgaaGreat
open Go.RowKit

theorem gB {w w' : World} (h : Below w.heap.size w w') (row : Option Nat) : w.grownBy w' row := ⟨h.os, h.tape, h.output, h.size, fun k hk _ => h.block k hk⟩
theorem gT {a b c : World} {row : Option Nat} (h : a.grownBy b row) (k : b.grownBy c row) : a.grownBy c row := h.andThen k (fun _ e => .inr e)
theorem gC (w : World) (K o : Nat) (v : Value) : w.grownBy (w.setCell ⟨K, o, none⟩ v) (some K) :=
  ⟨rfl, rfl, rfl, by simp, fun k _ hne => Below.heap_setCell _ _ _ _ (fun e => hne (by rw [e]))⟩
/-- What is kept lies in a variable. -/
structure KepAt (X : World) (K : Nat) (k : Int × Int × Bool) : Prop where
  c0 : X.cell? ⟨K, 0, none⟩ = some (.int .i64 k.1)
  c1 : X.cell? ⟨K, 1, none⟩ = some (.int .i64 k.2.1)
  c2 : X.cell? ⟨K, 2, none⟩ = some (.bool k.2.2)
  f0 : X.frozen? ⟨K, 0, none⟩ = false
  f1 : X.frozen? ⟨K, 1, none⟩ = false
  f2 : X.frozen? ⟨K, 2, none⟩ = false
theorem KepAt.lt {X : World} {K : Nat} {k : Int × Int × Bool} (h : KepAt X K k) : K < X.heap.size := World.block_lt_of_cell? _ _ h.c0
theorem KepAt.grown {X X' : World} {K : Nat} {k : Int × Int × Bool} (h : KepAt X K k) (hb : Below X.heap.size X X') : KepAt X' K k :=
  ⟨cellB h.c0 hb, cellB h.c1 hb, cellB h.c2 hb, frozenB h.c0 h.f0 hb, frozenB h.c1 h.f1 hb, frozenB h.c2 h.f2 hb⟩
theorem KepAt.kept {X X' : World} {K : Nat} {k : Int × Int × Bool} (h : KepAt X K k) {row : Option Nat} (hg : X.grownBy X' row) (hr : some K ≠ row) : KepAt X' K k := by
  have hlt := h.lt
  have e := hg.block K hlt hr
  have ec : ∀ o, X'.cell? ⟨K, o, none⟩ = X.cell? ⟨K, o, none⟩ := fun o => World.cell?_of_block (a := ⟨K, o, none⟩) e
  have ef : ∀ o, X'.frozen? ⟨K, o, none⟩ = X.frozen? ⟨K, o, none⟩ := fun o => World.frozen?_of_block (a := ⟨K, o, none⟩) e
  exact ⟨(ec 0).trans h.c0, (ec 1).trans h.c1, (ec 2).trans h.c2, (ef 0).trans h.f0, (ef 1).trans h.f1, (ef 2).trans h.f2⟩
/-- One more is kept, from a to b; nothing if that is less. -/
def kepS (k : Int × Int × Bool) (a b : Int) : Int × Int × Bool := if a ≤ b then (if k.2.2 then (min k.1 a, max k.2.1 b, true) else (a, b, true)) else k
def KeepOut (K : Nat) (k : Int × Int × Bool) (w : World) (e : Ending) (w' : World) : Prop := e = .returned (.tuple #[]) ∧ KepAt w' K k ∧ w.grownBy w' (some K)
theorem keepOut_mk {K : Nat} {w X : World} (hk : ∃ k, KepAt X K k) (hg : w.grownBy X (some K)) (a b : Int) :
    KeepOut K (a, b, true) w (.returned (.tuple #[])) (((X.setCell ⟨K, 0, none⟩ (.int .i64 a)).setCell ⟨K, 1, none⟩ (.int .i64 b)).setCell ⟨K, 2, none⟩ (.bool true)) := by
  obtain ⟨k, c0, c1, c2, f0, f1, f2⟩ := hk
  refine ⟨rfl, ?_, gT (gT (gT hg (gC _ _ _ _)) (gC _ _ _ _)) (gC _ _ _ _)⟩
  constructor <;> simp [go_sem, c0, c1, c2, f0, f1, f2]
theorem keepOut_drew {K : Nat} {w X : World} {k : Int × Int × Bool} {e : Ending} (h : KeepOut K k w e X) : KeepOut K k w e X.drew :=
  ⟨h.1, h.2.1.grown (Below.drew (Below.refl _ X)), gT h.2.2 (gB (Below.drew (Below.refl _ X)) _)⟩
set_option maxRecDepth 100000 in
set_option maxHeartbeats 4000000 in
theorem keep_any (K : Nat) (k : Int × Int × Bool) (a b : Int) (w : World) (h : KepAt w K k) :
    Calls Tryz.prog 106 #[.pointer (some ⟨K, 0, none⟩), .int .i64 a, .int .i64 b] w (KeepOut K (kepS k a b) w) := by
  obtain ⟨l, m, t⟩ := k
  have HR : Hid (kepS (l, m, t) a b = if a ≤ b then (if t then (min l a, max m b, true) else (a, b, true)) else (l, m, t)) := rfl
  generalize kepS (l, m, t) a b = R at *
  by_cases hab : a ≤ b
  · rw [if_pos hab] at HR
    have hd : decide (a ≤ b) = true := decide_eq_true hab
    have HD := Lib.hid hd
    clear hd hab
    cases t
    · have HR2 : Hid (R = (a, b, true)) := by rw [HR.out]; rfl
      rw [HR2.out]
      clear HR HR2
      go_enter Tryz.func106, Tryz.ntmps106
      go_wp2_with fail
      refine (rising2_any w.heap.size a b _ (by go_cell) (by go_cell)).mono ?_
      rintro e X ⟨rfl, hX⟩
      rw [HD.out]
      have hX := BT (newB w _) hX
      have hk := h.grown hX
      obtain ⟨c0, c1, c2, f0, f1, f2⟩ := hk
      dsimp only at c0 c1 c2
      have hfin := keepOut_mk ⟨_, h.grown hX⟩ (gB hX (some K)) a b
      clear h hX
      go_wp2_with fail
      go_end0
      exact hfin
    · have HR2 : Hid (R = (min l a, max m b, true)) := by rw [HR.out]; rfl
      rw [HR2.out]
      clear HR HR2
      go_enter Tryz.func106, Tryz.ntmps106
      go_wp2_with fail
      refine (rising2_any w.heap.size a b _ (by go_cell) (by go_cell)).mono ?_
      rintro e X ⟨rfl, hX⟩
      rw [HD.out]
      have hX := BT (newB w _) hX
      have hk := h.grown hX
      obtain ⟨c0, c1, c2, f0, f1, f2⟩ := hk
      dsimp only at c0 c1 c2
      have HF : Hid (∀ x y, KeepOut K (x, y, true) w (.returned (.tuple #[])) (((X.setCell ⟨K, 0, none⟩ (.int .i64 x)).setCell ⟨K, 1, none⟩ (.int .i64 y)).setCell ⟨K, 2, none⟩ (.bool true)).drew) := fun x y => keepOut_drew (keepOut_mk ⟨_, h.grown hX⟩ (gB hX (some K)) x y)
      clear h hX
      go_wp2_with fail
      refine wp_region_seq [(0, true), (1, true), (2, true), (3, true), (4, true), (5, true), (6, true), (7, true), (8, true), (9, true), (10, true), (11, true), (12, true), (13, true)] (fun w' => w'.cell? ⟨K, 0, none⟩ = some (.int .i64 l) ∧ w'.cell? ⟨K, 1, none⟩ = some (.int .i64 m)) (by kernel_rfl) (by kernel_rfl) (fun _ _ d _ _ h => by cases d <;> exact h) ⟨c0, c1⟩ ?_
      repeat (first | (refine seq_read rfl (by rfl) _ (fun w' hS => by (try dsimp only at hS); go_simp; (try with_reducible rfl)) ?_; (try simp only [Act.put, List.setIfInBounds_toArray, List.set_cons_zero, List.set_cons_succ])) | (refine seq_skip rfl (by rfl) ?_; (try simp only [Act.put, List.setIfInBounds_toArray, List.set_cons_zero, List.set_cons_succ])))
      apply seq_end
      first | show Exit.inBlock _ _ Exit.normal _ _ | show Exit.then _ _ Exit.normal _ _ | skip
      go_wp2_with fail
      all_goals
        go_end0
        first
          | (rw [show min l a = a by omega, show max m b = b by omega]; exact HF.out _ _)
          | (rw [show min l a = a by omega, show max m b = m by omega]; exact HF.out _ _)
          | (rw [show min l a = l by omega, show max m b = b by omega]; exact HF.out _ _)
          | (rw [show min l a = l by omega, show max m b = m by omega]; exact HF.out _ _)
  · rw [if_neg hab] at HR
    have hd : decide (a ≤ b) = false := by simpa using hab
    have HD := Lib.hid hd
    clear hd hab
    rw [HR.out]
    clear HR
    go_enter Tryz.func106, Tryz.ntmps106
    go_wp2_with fail
    refine (rising2_any w.heap.size a b _ (by go_cell) (by go_cell)).mono ?_
    rintro e X ⟨rfl, hX⟩
    rw [HD.out]
    have hX := BT (newB w _) hX
    have hk := h.grown hX
    have hfin : KeepOut K (l, m, t) w (.returned (.tuple #[])) X := ⟨rfl, hk, gB hX _⟩
    clear h hk hX
    go_wp2_with fail
    go_end0
    exact hfin
end Go.Proofs.YtdkegkacpdkjgaaGreat
