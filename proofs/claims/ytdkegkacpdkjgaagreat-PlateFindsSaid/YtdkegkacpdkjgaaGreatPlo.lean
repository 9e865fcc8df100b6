/- Plate: a plate that is looked at. -/
import Derived.Test.YtdkegkacpdkjgaaGreatPlk
import Derived.Test.YtdkegkacpdkjgaaGreatSeq
namespace Go.Proofs.YtdkegkacpdkjgaaGreat
open Go.RowKit

theorem newB (w : World) (o : Obj) : Below w.heap.size w (w.alloc o) := (Below.refl _ w).alloc (Nat.le_refl _) o
theorem cellB {w w' : World} {p : Addr} {v : Value} (h : w.cell? p = some v) (hb : Below w.heap.size w w') : w'.cell? p = some v := (hb.cell (World.block_lt_of_cell? _ _ h)).trans h
theorem frozenB {w w' : World} {p : Addr} {v : Value} (hc : w.cell? p = some v) (h : w.frozen? p = false) (hb : Below w.heap.size w w') : w'.frozen? p = false := (hb.frozen (World.block_lt_of_cell? _ _ hc)).trans h

/-- A plate lies in a variable. -/
structure BoxP (X : World) (B : Nat) (p : Pl) : Prop where
  c0 : X.cell? ⟨B, 0, none⟩ = some (.int .i64 p.lo)
  c1 : X.cell? ⟨B, 1, none⟩ = some (.int .i64 p.hi)
  c2 : X.cell? ⟨B, 2, none⟩ = some (.slice p.a p.n p.cap)
theorem BoxP.grown {X X' : World} {B : Nat} {p : Pl} (k : BoxP X B p) (hb : Below X.heap.size X X') : BoxP X' B p := ⟨cellB k.c0 hb, cellB k.c1 hb, cellB k.c2 hb⟩
theorem boxP_new (w : World) (p : Pl) (T : TypeId) : BoxP (w.alloc (.cells #[.int .i64 p.lo, .int .i64 p.hi, .slice p.a p.n p.cap] T)) w.heap.size p := ⟨by simp [go_sem], by simp [go_sem], by simp [go_sem]⟩

set_option maxRecDepth 100000 in
set_option maxHeartbeats 2000000 in
theorem lookAt_ok (p : Pl) (ss : List St) (w : World) (h : PlAt p ss w) (hv : plB p ss = true) : Calls Tryz.prog 36 #[p.val] w (Ret (.agg (lookV p)) w) := by
  have hval : ∀ w' : World, Below w.heap.size w w' → Calls Tryz.prog 99 #[p.val] w' (Ret (.bool true) w') := fun w' hB => by
    have := valid_any p ss w' (h.below hB (Nat.le_refl _)); rw [hv] at this; exact this
  have HV := Lib.hid hval
  have HS := Lib.hid (sidesOf_any p)
  have hb0 := boxP_new w p 26
  have hst := @store_fn Tryz.prog
  clear h hval
  unfold Pl.val at HV HS ⊢
  go_enter Tryz.func36, Tryz.ntmps36
  go_wp2_with (first
    | (go_at_call 99; refine (HV.out _ (by (repeat (first | assumption | exact Below.refl _ _ | refine BA ?_ _ | refine BC ?_ _ _ (by first | omega | (simp; done) | (simp; omega)) _ | refine Below.drew ?_ | refine BT ?_ (by assumption))))).mono ?_; rintro e w1 ⟨rfl, hb1⟩)
    | (go_at_call 62; refine (insist_yes 1 _).mono ?_; rintro e w2 ⟨rfl, hb2⟩))
  have hsz : w.heap.size + 2 ≤ w2.heap.size := by have q1 := hb1.size; have q2 := hb2.size; simp at q1; omega
  have hB2 : Below w.heap.size w w2 := BT (BT (by (repeat (first | assumption | exact Below.refl _ _ | refine BA ?_ _ | refine BC ?_ _ _ (by first | omega | (simp; done) | (simp; omega)) _ | refine Below.drew ?_ | refine BT ?_ (by assumption)))) hb1) hb2
  have hb0 := ((hb0.grown (newB _ _)).grown hb1).grown hb2
  have hsl : Slots (w.heap.size + 1) 11 w2 := by
    refine Slots.below (Slots.below (M := w.heap.size + 2) ?_ (hb1.mono (by simp)) (by omega)) (hb2.mono (show w.heap.size + 2 ≤ w1.heap.size by have := hb1.size; simp at this; omega)) (by omega)
    intro o ho
    have : o = 0 ∨ o = 1 ∨ o = 2 ∨ o = 3 ∨ o = 4 ∨ o = 5 ∨ o = 6 ∨ o = 7 ∨ o = 8 ∨ o = 9 ∨ o = 10 := by omega
    rcases this with rfl | rfl | rfl | rfl | rfl | rfl | rfl | rfl | rfl | rfl | rfl <;> simp [go_sem]
  clear hb1 hb2 HV
  generalize hBw : w.heap.size = B at *
  refine wp_region_seq [(0, true), (1, true), (2, false), (3, true), (4, false)] (fun w' => w'.cell? ⟨B, 0, none⟩ = some (.int .i64 p.lo) ∧ w'.cell? ⟨B, 1, none⟩ = some (.int .i64 p.hi) ∧ w'.cell? ⟨B, 2, none⟩ = some (.slice p.a p.n p.cap)) (by kernel_rfl) (by kernel_rfl) (fun _ _ d _ _ h => by cases d <;> exact h) ⟨hb0.c0, hb0.c1, hb0.c2⟩ ?_
  repeat (first | (refine seq_read rfl (by rfl) _ (fun w' hS => by (try dsimp only at hS); go_simp; (try with_reducible rfl)) ?_; (try simp only [Act.put, List.setIfInBounds_toArray, List.set_cons_zero, List.set_cons_succ])) | (refine seq_skip rfl (by rfl) ?_; (try simp only [Act.put, List.setIfInBounds_toArray, List.set_cons_zero, List.set_cons_succ])))
  refine seq_do rfl (by rfl) (fun K hK => ?_)
  go_simp
  have hdr : Below w2.heap.size w2 w2.drew := Below.drew (Below.refl _ _)
  refine (HS.out _).mono ?_
  rintro e w3 ⟨rfl, hb3⟩
  have hb3 := BT hdr hb3
  have hb0 := hb0.grown hb3
  have hsl := hsl.below hb3 (by omega)
  have hB3 : Below w.heap.size w w3 := by rw [hBw]; exact hB2.trans (hb3.mono (by omega))
  refine hK _ _ ⟨hb0.c0, hb0.c1, hb0.c2⟩ ?_
  clear hK K HS hb3 hB2 hdr
  unfold sideV
  (try simp only [Act.put, List.setIfInBounds_toArray, List.set_cons_zero, List.set_cons_succ])
  repeat (first | (refine seq_read rfl (by rfl) _ (fun w' hS => by (try dsimp only at hS); go_simp; (try with_reducible rfl)) ?_; (try simp only [Act.put, List.setIfInBounds_toArray, List.set_cons_zero, List.set_cons_succ])) | (refine seq_skip rfl (by rfl) ?_; (try simp only [Act.put, List.setIfInBounds_toArray, List.set_cons_zero, List.set_cons_succ])))
  refine seq_last rfl (by rfl) (by kernel_rfl) (fun K hK => ?_)
  obtain ⟨x0, q0, z0⟩ := hsl.get 0 (by omega)
  obtain ⟨x1, q1, z1⟩ := hsl.get 1 (by omega)
  obtain ⟨x2, q2, z2⟩ := hsl.get 2 (by omega)
  obtain ⟨x3, q3, z3⟩ := hsl.get 3 (by omega)
  obtain ⟨x4, q4, z4⟩ := hsl.get 4 (by omega)
  obtain ⟨x5, q5, z5⟩ := hsl.get 5 (by omega)
  obtain ⟨x6, q6, z6⟩ := hsl.get 6 (by omega)
  obtain ⟨x7, q7, z7⟩ := hsl.get 7 (by omega)
  obtain ⟨x8, q8, z8⟩ := hsl.get 8 (by omega)
  obtain ⟨x9, q9, z9⟩ := hsl.get 9 (by omega)
  obtain ⟨x10, q10, z10⟩ := hsl.get 10 (by omega)
  go_simp
  refine hK _ _ ?_
  clear hK K
  first | show Exit.inBlock _ _ Exit.normal _ _ | show Exit.then _ _ Exit.normal _ _ | skip
  have hfin := (BC (BC (BC (BC (BC (BC (BC (BC (BC (BC (BC hB3 (B + 1) 0 (by omega) (.int .i64 p.lo)) (B + 1) 1 (by omega) (.int .i64 p.hi)) (B + 1) 2 (by omega) (.slice p.a p.n p.cap)) (B + 1) 3 (by omega) (.int .i64 p.lo)) (B + 1) 4 (by omega) (.int .i64 p.hi)) (B + 1) 5 (by omega) (.slice p.a p.n p.cap)) (B + 1) 6 (by omega) (.func (.func 133) #[] #[])) (B + 1) 7 (by omega) (.int .i64 p.lo)) (B + 1) 8 (by omega) (.int .i64 p.hi)) (B + 1) 9 (by omega) (.slice p.a p.n p.cap)) (B + 1) 10 (by omega) (.func (.func 134) #[] #[]))
  go_wp2_with fail
  exact bodyPost_ret (v := .agg (lookV p)) (by simp [results, Tryz.results36, go_sem, lookV, sideV, q0, q1, q2, q3, q4, q5, q6, q7, q8, q9, q10]) rfl ⟨rfl, hfin⟩
end Go.Proofs.YtdkegkacpdkjgaaGreat
