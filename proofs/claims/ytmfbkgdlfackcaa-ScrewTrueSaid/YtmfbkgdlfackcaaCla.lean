/- What a set is asked: whether its settings clash; whether the others can be right. -/
import Derived.Test.YtmfbkgdlfackcaaCan
import Derived.Test.YtmfbkgdlfackcaaSeq
import Derived.Test.YtmfbkgdlfackcaaMeth
namespace Go.Proofs.Ytmfbkgdlfackcaa
open Go.RowKit

/-- The box of the look. -/
structure BoxL (w0 w : World) (B L mb : Nat) (h : Hd) (tv : Value) (ts : List Tell) (cs : List Cnt) : Prop where
  box : w.cell? ⟨B, 0, none⟩ = some (.pointer (some ⟨L, 0, none⟩))
  look : IsLook w0 w L mb h tv ts cs
  len : ts.length ≤ 12
  im : ∀ t ∈ ts, 0 ≤ t.2.1 ∧ t.2.1 < 6
theorem BoxL.grown {w0 w w' : World} {B L mb : Nat} {h : Hd} {tv : Value} {ts : List Tell} {cs : List Cnt} (k : BoxL w0 w B L mb h tv ts cs) (hb : Below w.heap.size w w') : BoxL w0 w' B L mb h tv ts cs :=
  ⟨(hb.cell (World.block_lt_of_cell? _ _ k.box)).trans k.box, k.look.grown hb, k.len, k.im⟩

set_option maxRecDepth 100000 in
set_option maxHeartbeats 2000000 in
theorem clash1_any (w0 : World) (B L mb : Nat) (h : Hd) (tv : Value) (ts : List Tell) (cs : List Cnt) (x : Int) (w : World) (k : BoxL w0 w B L mb h tv ts cs) :
    Calls Try.prog 76 #[.int .i64 x, .pointer (some ⟨B, 0, none⟩)] w (Ret (.bool (!(boundsS h.sLo h.sHi ts x).1)) w) := by
  have hc := can_any w0 L mb h tv ts cs x w k.look k.len k.im
  have hbx := k.box
  clear k
  generalize (boundsS h.sLo h.sHi ts x).1 = b at *
  go_enter Try.func76, Try.ntmps76
  go_wp2_with (go_at_call 73; refine hc.mono ?_; rintro e w1 ⟨rfl, hb1⟩)
  go_ret
  exact ⟨rfl, by (repeat (first | assumption | exact Below.refl _ _ | refine BA ?_ _ | refine BC ?_ _ _ (by omega) _ | refine Below.drew ?_ | refine BT ?_ (by assumption)))⟩

/-- All settings but those of a set. -/
def butS (n : Nat) (x : Int) : Int := bits .andNot .i64 (2 ^ n - 1) x
set_option maxRecDepth 100000 in
set_option maxHeartbeats 2000000 in
theorem drop1_any (w0 : World) (B L mb : Nat) (h : Hd) (tv : Value) (ts : List Tell) (cs : List Cnt) (x : Int) (w : World) (k : BoxL w0 w B L mb h tv ts cs) :
    Calls Try.prog 79 #[.int .i64 x, .pointer (some ⟨B, 0, none⟩)] w (Ret (.bool (boundsS h.sLo h.sHi ts (butS ts.length x)).1) w) := by
  have K := Lib.hid k
  have hbx := k.box
  clear k
  have hd : Below w.heap.size w w.drew := by (repeat (first | assumption | exact Below.refl _ _ | refine BA ?_ _ | refine BC ?_ _ _ (by omega) _ | refine Below.drew ?_ | refine BT ?_ (by assumption)))
  have hc : Hid (∀ y, Calls Try.prog 73 #[.pointer (some ⟨L, 0, none⟩), .int .i64 y] w.drew (Ret (.bool (boundsS h.sLo h.sHi ts y).1) w.drew)) := fun y => can_any w0 L mb h tv ts cs y w.drew (K.out.look.grown hd) K.out.len K.out.im
  have ha : Hid (Calls Try.prog 74 #[.pointer (some ⟨L, 0, none⟩)] w.drew (fun e w' => e = .returned (.int .i64 (2 ^ ts.length - 1)) ∧ w' = w.drew)) := all_any w0 L mb h tv ts cs w.drew (K.out.look.grown hd) K.out.len
  have hu : Hid (butS ts.length x = bits .andNot .i64 (2 ^ ts.length - 1) x) := rfl
  generalize butS ts.length x = u at *
  have hcu := hc.out u
  clear hc
  generalize (boundsS h.sLo h.sHi ts u).1 = b at *
  generalize (2 : Int) ^ ts.length - 1 = z at *
  have hbd : w.drew.cell? ⟨B, 0, none⟩ = some (.pointer (some ⟨L, 0, none⟩)) := hbx
  go_enter Try.func79, Try.ntmps79
  go_wp2_with fail
  refine wp_region_seq [(0, true), (1, true), (3, true), (2, false), (4, true), (5, false), (6, true)]
    (fun w' => w'.cell? ⟨B, 0, none⟩ = some (.pointer (some ⟨L, 0, none⟩))) (by kernel_rfl) (by kernel_rfl) (fun _ _ d _ _ h => by cases d <;> exact h) hbd ?_
  repeat (first | (refine seq_read rfl (by rfl) _ (fun w' hS => by (try dsimp only at hS); go_simp; (try with_reducible rfl)) ?_; (try simp only [Act.put, List.setIfInBounds_toArray, List.set_cons_zero, List.set_cons_succ])) | (refine seq_skip rfl (by rfl) ?_; (try simp only [Act.put, List.setIfInBounds_toArray, List.set_cons_zero, List.set_cons_succ])))
  (refine seq_do rfl (by rfl) (fun K hK => ?_); go_simp)
  refine ha.out.mono ?_
  rintro e w1 ⟨rfl, rfl⟩
  refine hK _ _ hbd ?_
  clear hK
  (refine seq_read rfl (by rfl) _ (fun w' hS => by (try dsimp only at hS); go_simp; (try with_reducible rfl)) ?_; (try simp only [Act.put, List.setIfInBounds_toArray, List.set_cons_zero, List.set_cons_succ]))
  rw [← hu.out]
  (refine seq_do rfl (by rfl) (fun K hK => ?_); go_simp)
  refine hcu.mono ?_
  rintro e w2 ⟨rfl, hb2⟩
  refine hK _ _ ((hb2.cell (World.block_lt_of_cell? _ _ hbd)).trans hbd) ?_
  clear hK
  (refine seq_read rfl (by rfl) _ (fun w' hS => by (try dsimp only at hS); go_simp; (try with_reducible rfl)) ?_; (try simp only [Act.put, List.setIfInBounds_toArray, List.set_cons_zero, List.set_cons_succ]))
  refine seq_end ?_
  go_wp2
  go_ret
  exact ⟨rfl, by (repeat (first | assumption | exact Below.refl _ _ | refine BA ?_ _ | refine BC ?_ _ _ (by omega) _ | refine Below.drew ?_ | refine BT ?_ (by assumption)))⟩
end Go.Proofs.Ytmfbkgdlfackcaa
