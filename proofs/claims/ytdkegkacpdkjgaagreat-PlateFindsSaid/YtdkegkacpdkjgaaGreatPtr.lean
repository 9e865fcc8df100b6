/- Plate: all truths, or the refusal of a plate that has none. -/
import Derived.Test.YtdkegkacpdkjgaaGreatPin2
namespace Go.Proofs.YtdkegkacpdkjgaaGreat
open Go.RowKit Go.Shelf Go.Maps

def truV (p : Pl) (mb : Nat) : Array Value := (sideV p 133 ++ sideV p 134) ++ #[.map (some mb)]
/-- All truths of a plate. -/
def trA (p : Pl) (ss : List St) : List Scl := trL p ss (knownTo ss p.n)
def TruOut (p : Pl) (ss : List St) (w : World) (e : Ending) (w' : World) : Prop :=
  ∃ mb, (e = .returned (.agg (truV p mb)) ∧ w'.ownsMap Tryz.prog 3 quadElem mb (trA p ss).length (mapD (trA p ss))) ∧ w.heap.size ≤ mb ∧ Below w.heap.size w w'
theorem BoxL.all {X : World} {B : Nat} {p : Pl} (k : BoxL X B p) : X.cell? ⟨B, 0, none⟩ = some (.int .i64 p.lo) ∧ X.cell? ⟨B, 1, none⟩ = some (.int .i64 p.hi) ∧ X.cell? ⟨B, 2, none⟩ = some (.slice p.a p.n p.cap) ∧ X.cell? ⟨B, 3, none⟩ = some (.int .i64 p.lo) ∧ X.cell? ⟨B, 4, none⟩ = some (.int .i64 p.hi) ∧ X.cell? ⟨B, 5, none⟩ = some (.slice p.a p.n p.cap) ∧ X.cell? ⟨B, 6, none⟩ = some (.func (.func 133) #[] #[]) ∧ X.cell? ⟨B, 7, none⟩ = some (.int .i64 p.lo) ∧ X.cell? ⟨B, 8, none⟩ = some (.int .i64 p.hi) ∧ X.cell? ⟨B, 9, none⟩ = some (.slice p.a p.n p.cap) ∧ X.cell? ⟨B, 10, none⟩ = some (.func (.func 134) #[] #[]) := ⟨k.c0, k.c1, k.c2, k.c3, k.c4, k.c5, k.c6, k.c7, k.c8, k.c9, k.c10⟩
set_option maxRecDepth 100000 in
set_option maxHeartbeats 4000000 in
theorem truths_ok (p : Pl) (ss : List St) (w : World) (h : PlAt p ss w) (hok : PlOk p ss) (hne : trA p ss ≠ []) :
    Calls Tryz.prog 37 #[.agg (lookV p)] w (TruOut p ss w) := by
  have HKN := Lib.hid (fun Y hY => known_any p ss Y (h.below (w' := Y) hY (Nat.le_refl _)) (by have := hok.n10; omega))
  have HSC := Lib.hid (scales_any p (knownTo ss p.n))
  have HCL := Lib.hid (fun X B C hX hnx hb hc => collect_any p ss (knownTo ss p.n) w X w.heap.size B C h hok (Nat.le_refl _) hX hnx hb hc)
  have HA : Hid (trA p ss = trL p ss (knownTo ss p.n)) := rfl
  have HSZ := Lib.hid (mapD_size (trL p ss (knownTo ss p.n)))
  have hb0 := boxL_new w p 70
  have hst := @store_fn Tryz.prog
  have HNE := Lib.hid hne
  clear h hok hne
  generalize knownTo ss p.n = KN at *
  unfold lookV sideV at HKN HSC hb0 ⊢
  go_enter Tryz.func37, Tryz.ntmps37
  go_wp2_with fail
  obtain ⟨W, hW⟩ : ∃ W, (w.alloc (.cells #[.int .i64 p.lo, .int .i64 p.hi, .slice p.a p.n p.cap, .int .i64 p.lo, .int .i64 p.hi, .slice p.a p.n p.cap, .func (.func 133) #[] #[], .int .i64 p.lo, .int .i64 p.hi, .slice p.a p.n p.cap, .func (.func 134) #[] #[]] 70)).alloc (.cells #[.int .i64 0, .int .i64 0, .slice none 0 0, .nilFunc, .int .i64 0, .int .i64 0, .slice none 0 0, .nilFunc, .map none] 74) = W := ⟨_, rfl⟩
  have hsl : Slots (w.heap.size + 1) 9 W := by
    rw [← hW]; intro o ho
    have : o = 0 ∨ o = 1 ∨ o = 2 ∨ o = 3 ∨ o = 4 ∨ o = 5 ∨ o = 6 ∨ o = 7 ∨ o = 8 := by omega
    rcases this with rfl | rfl | rfl | rfl | rfl | rfl | rfl | rfl | rfl <;> simp [go_sem]
  have hB0 : Below w.heap.size w W := by rw [← hW]; exact BA (BA (Below.refl _ _) _) _
  have hTlt : w.heap.size + 1 < W.heap.size := by rw [← hW]; simp
  have hb0 : BoxL W w.heap.size p := by
    rw [← hW]
    simp only [List.append_toArray, List.cons_append, List.nil_append] at hb0
    exact hb0.grown hb0.lt (newB _ _)
  rw [hW]
  clear hW
  have hS : Hid (∀ X, Below W.heap.size W X → X.cell? ⟨w.heap.size, 0, none⟩ = some (.int .i64 p.lo) ∧ X.cell? ⟨w.heap.size, 1, none⟩ = some (.int .i64 p.hi) ∧ X.cell? ⟨w.heap.size, 2, none⟩ = some (.slice p.a p.n p.cap) ∧ X.cell? ⟨w.heap.size, 3, none⟩ = some (.int .i64 p.lo) ∧ X.cell? ⟨w.heap.size, 4, none⟩ = some (.int .i64 p.hi) ∧ X.cell? ⟨w.heap.size, 5, none⟩ = some (.slice p.a p.n p.cap) ∧ X.cell? ⟨w.heap.size, 6, none⟩ = some (.func (.func 133) #[] #[]) ∧ X.cell? ⟨w.heap.size, 7, none⟩ = some (.int .i64 p.lo) ∧ X.cell? ⟨w.heap.size, 8, none⟩ = some (.int .i64 p.hi) ∧ X.cell? ⟨w.heap.size, 9, none⟩ = some (.slice p.a p.n p.cap) ∧ X.cell? ⟨w.heap.size, 10, none⟩ = some (.func (.func 134) #[] #[])) := fun X hX => (hb0.grown hb0.lt hX).all
  refine wp_region_seq [(0, true), (1, true), (2, false), (3, false), (4, false), (5, true)] (fun X => X.cell? ⟨w.heap.size, 0, none⟩ = some (.int .i64 p.lo) ∧ X.cell? ⟨w.heap.size, 1, none⟩ = some (.int .i64 p.hi) ∧ X.cell? ⟨w.heap.size, 2, none⟩ = some (.slice p.a p.n p.cap) ∧ X.cell? ⟨w.heap.size, 3, none⟩ = some (.int .i64 p.lo) ∧ X.cell? ⟨w.heap.size, 4, none⟩ = some (.int .i64 p.hi) ∧ X.cell? ⟨w.heap.size, 5, none⟩ = some (.slice p.a p.n p.cap) ∧ X.cell? ⟨w.heap.size, 6, none⟩ = some (.func (.func 133) #[] #[]) ∧ X.cell? ⟨w.heap.size, 7, none⟩ = some (.int .i64 p.lo) ∧ X.cell? ⟨w.heap.size, 8, none⟩ = some (.int .i64 p.hi) ∧ X.cell? ⟨w.heap.size, 9, none⟩ = some (.slice p.a p.n p.cap) ∧ X.cell? ⟨w.heap.size, 10, none⟩ = some (.func (.func 134) #[] #[])) (by kernel_rfl) (by kernel_rfl) (fun _ _ d _ _ h => by cases d <;> exact h) hb0.all ?_
  repeat (first | (refine seq_read rfl (by rfl) _ (fun w' hS => by (try dsimp only at hS); go_simp; (try with_reducible rfl)) ?_; (try simp only [Act.put, List.setIfInBounds_toArray, List.set_cons_zero, List.set_cons_succ])) | (refine seq_skip rfl (by rfl) ?_; (try simp only [Act.put, List.setIfInBounds_toArray, List.set_cons_zero, List.set_cons_succ])))
  refine seq_do rfl (by rfl) (fun K hK => ?_)
  go_simp
  have hx0 : Below W.heap.size W W.drew := Below.drew (Below.refl _ _)
  refine (HKN.out W.drew (BT hB0 hx0)).mono ?_
  rintro e X1 ⟨rfl, hx1⟩
  have hx1 := BT hx0 hx1
  refine hK _ _ (hS.out _ hx1) ?_
  clear hK K
  (try simp only [Act.put, List.setIfInBounds_toArray, List.set_cons_zero, List.set_cons_succ])
  repeat (first | (refine seq_read rfl (by rfl) _ (fun w' hS => by (try dsimp only at hS); go_simp; (try with_reducible rfl)) ?_; (try simp only [Act.put, List.setIfInBounds_toArray, List.set_cons_zero, List.set_cons_succ])) | (refine seq_skip rfl (by rfl) ?_; (try simp only [Act.put, List.setIfInBounds_toArray, List.set_cons_zero, List.set_cons_succ])))
  refine seq_do rfl (by rfl) (fun K hK => ?_)
  go_simp
  refine (HSC.out X1).mono ?_
  rintro e X2 ⟨rfl, hx2e⟩
  simp only [List.append_toArray, List.cons_append, List.nil_append] at hx2e
  have HX2 := Lib.hid hx2e
  clear hx2e
  have hbB : BoxL X2 X1.heap.size p := by
    have := boxL_new X1 p 70
    unfold lookV sideV at this
    simp only [List.append_toArray, List.cons_append, List.nil_append] at this
    rw [HX2.out]; exact this.grown this.lt (newB _ _)
  have hcC : X2.cell? ⟨X1.heap.size + 1, 0, none⟩ = some (.int .i64 KN) := by
    have := (cell_new_l (X1.alloc (.cells #[.int .i64 p.lo, .int .i64 p.hi, .slice p.a p.n p.cap, .int .i64 p.lo, .int .i64 p.hi, .slice p.a p.n p.cap, .func (.func 133) #[] #[], .int .i64 p.lo, .int .i64 p.hi, .slice p.a p.n p.cap, .func (.func 134) #[] #[]] 70)) (.int .i64 KN) 101).1
    rw [World.size_alloc] at this
    rw [HX2.out]; exact this
  have hx2 : Below X1.heap.size X1 X2 := by rw [HX2.out]; exact BA (newB _ _) _
  clear HX2
  have hx2 := BT hx1 hx2
  refine hK _ _ (hS.out _ hx2) ?_
  clear hK K
  (try simp only [Act.put, List.setIfInBounds_toArray, List.set_cons_zero, List.set_cons_succ])
  repeat (first | (refine seq_read rfl (by rfl) _ (fun w' hS => by (try dsimp only at hS); go_simp; (try with_reducible rfl)) ?_; (try simp only [Act.put, List.setIfInBounds_toArray, List.set_cons_zero, List.set_cons_succ])) | (refine seq_skip rfl (by rfl) ?_; (try simp only [Act.put, List.setIfInBounds_toArray, List.set_cons_zero, List.set_cons_succ])))
  refine seq_do rfl (by rfl) (fun K hK => ?_)
  go_simp
  refine (HCL.out X2 X1.heap.size (X1.heap.size + 1) (BT hB0 hx2) (BT hB0 hx2).size hbB hcC).mono ?_
  rintro e X3 ⟨rfl, ho, hy3⟩
  have hx3 := BT hx2 hy3
  clear hy3
  refine hK _ _ (hS.out _ hx3) ?_
  clear hK K
  (try simp only [Act.put, List.setIfInBounds_toArray, List.set_cons_zero, List.set_cons_succ])
  repeat (first | (refine seq_read rfl (by rfl) _ (fun w' hS => by (try dsimp only at hS); go_simp; (try with_reducible rfl)) ?_; (try simp only [Act.put, List.setIfInBounds_toArray, List.set_cons_zero, List.set_cons_succ])) | (refine seq_skip rfl (by rfl) ?_; (try simp only [Act.put, List.setIfInBounds_toArray, List.set_cons_zero, List.set_cons_succ])))
  apply seq_end
  first | show Exit.inBlock _ _ Exit.normal _ _ | show Exit.then _ _ Exit.normal _ _ | skip
  have hT2 : w.heap.size + 1 < X3.heap.size := Nat.lt_of_lt_of_le hTlt hx3.size
  have hmb : w.heap.size + 1 < X2.heap.size := Nat.lt_of_lt_of_le hTlt hx2.size
  have hb3 := hb0.grown hb0.lt hx3
  have hsl3 := hsl.below hx3 hTlt
  have hB3 := BT hB0 hx3
  clear hS hsl hb0 hx0 hx1 hx2 hx3 hbB hcC HKN HSC HCL hB0 hTlt
  generalize X2.heap.size = mb at *
  have HSP := Lib.hid (decide_eq_true ((HSZ.out).2 (by rw [← HA.out]; exact HNE.out)))
  clear HSZ HNE
  go_wp2_with (at_len; refine wpList_len_own _ rfl _ 72 rfl 3 81 mapQ _ mb _ _ rfl ho ?_)
  rw [HSP.out]
  refine (insist_yes 10 X3).mono ?_
  rintro e X5 ⟨rfl, hx5⟩
  have hB5 := BT hB3 hx5
  have hsl5 := hsl3.below hx5 hT2
  have ho := ho.kept (gB0 hx5 none) (by simp)
  obtain ⟨b0, b1, b2, b3, b4, b5, b6, b7, b8, b9, b10⟩ := hb3.grown hb3.lt hx5
  obtain ⟨x0, q0, z0⟩ := hsl5.get 0 (by omega)
  obtain ⟨x1, q1, z1⟩ := hsl5.get 1 (by omega)
  obtain ⟨x2, q2, z2⟩ := hsl5.get 2 (by omega)
  obtain ⟨x3, q3, z3⟩ := hsl5.get 3 (by omega)
  obtain ⟨x4, q4, z4⟩ := hsl5.get 4 (by omega)
  obtain ⟨x5, q5, z5⟩ := hsl5.get 5 (by omega)
  obtain ⟨x6, q6, z6⟩ := hsl5.get 6 (by omega)
  obtain ⟨x7, q7, z7⟩ := hsl5.get 7 (by omega)
  obtain ⟨x8, q8, z8⟩ := hsl5.get 8 (by omega)
  clear hsl3 hsl5 hb3
  go_wp2_with fail
  have hfin := (BC (BC (BC (BC (BC (BC (BC (BC (BC hB5 (w.heap.size + 1) 0 (by omega) (.int .i64 p.lo)) (w.heap.size + 1) 1 (by omega) (.int .i64 p.hi)) (w.heap.size + 1) 2 (by omega) (.slice p.a p.n p.cap)) (w.heap.size + 1) 3 (by omega) (.func (.func 133) #[] #[])) (w.heap.size + 1) 4 (by omega) (.int .i64 p.lo)) (w.heap.size + 1) 5 (by omega) (.int .i64 p.hi)) (w.heap.size + 1) 6 (by omega) (.slice p.a p.n p.cap)) (w.heap.size + 1) 7 (by omega) (.func (.func 134) #[] #[])) (w.heap.size + 1) 8 (by omega) (.map (some mb)))
  rw [← HA.out] at ho
  exact bodyPost_ret (v := .agg (truV p mb)) (by simp [results, Tryz.results37, go_sem, truV, sideV, q0, q1, q2, q3, q4, q5, q6, q7, q8]) rfl ⟨mb, ⟨rfl, (((((((((ho.setCell (a := ⟨w.heap.size + 1, 0, none⟩) (Nat.ne_of_gt hmb) _).setCell (a := ⟨w.heap.size + 1, 1, none⟩) (Nat.ne_of_gt hmb) _).setCell (a := ⟨w.heap.size + 1, 2, none⟩) (Nat.ne_of_gt hmb) _).setCell (a := ⟨w.heap.size + 1, 3, none⟩) (Nat.ne_of_gt hmb) _).setCell (a := ⟨w.heap.size + 1, 4, none⟩) (Nat.ne_of_gt hmb) _).setCell (a := ⟨w.heap.size + 1, 5, none⟩) (Nat.ne_of_gt hmb) _).setCell (a := ⟨w.heap.size + 1, 6, none⟩) (Nat.ne_of_gt hmb) _).setCell (a := ⟨w.heap.size + 1, 7, none⟩) (Nat.ne_of_gt hmb) _).setCell (a := ⟨w.heap.size + 1, 8, none⟩) (Nat.ne_of_gt hmb) _)⟩, by omega, hfin⟩
set_option maxRecDepth 100000 in
set_option maxHeartbeats 4000000 in
theorem truths_no (p : Pl) (ss : List St) (w : World) (h : PlAt p ss w) (hok : PlOk p ss) (hne : trA p ss = []) :
    Calls Tryz.prog 37 #[.agg (lookV p)] w (Pan 10 w) := by
  have HKN := Lib.hid (fun Y hY => known_any p ss Y (h.below (w' := Y) hY (Nat.le_refl _)) (by have := hok.n10; omega))
  have HSC := Lib.hid (scales_any p (knownTo ss p.n))
  have HCL := Lib.hid (fun X B C hX hnx hb hc => collect_any p ss (knownTo ss p.n) w X w.heap.size B C h hok (Nat.le_refl _) hX hnx hb hc)
  have HA : Hid (trA p ss = trL p ss (knownTo ss p.n)) := rfl
  have HSZ := Lib.hid (mapD_size (trL p ss (knownTo ss p.n)))
  have hb0 := boxL_new w p 70
  have hst := @store_fn Tryz.prog
  have HNE := Lib.hid hne
  clear h hok hne
  generalize knownTo ss p.n = KN at *
  unfold lookV sideV at HKN HSC hb0 ⊢
  go_enter Tryz.func37, Tryz.ntmps37
  go_wp2_with fail
  obtain ⟨W, hW⟩ : ∃ W, (w.alloc (.cells #[.int .i64 p.lo, .int .i64 p.hi, .slice p.a p.n p.cap, .int .i64 p.lo, .int .i64 p.hi, .slice p.a p.n p.cap, .func (.func 133) #[] #[], .int .i64 p.lo, .int .i64 p.hi, .slice p.a p.n p.cap, .func (.func 134) #[] #[]] 70)).alloc (.cells #[.int .i64 0, .int .i64 0, .slice none 0 0, .nilFunc, .int .i64 0, .int .i64 0, .slice none 0 0, .nilFunc, .map none] 74) = W := ⟨_, rfl⟩
  have hsl : Slots (w.heap.size + 1) 9 W := by
    rw [← hW]; intro o ho
    have : o = 0 ∨ o = 1 ∨ o = 2 ∨ o = 3 ∨ o = 4 ∨ o = 5 ∨ o = 6 ∨ o = 7 ∨ o = 8 := by omega
    rcases this with rfl | rfl | rfl | rfl | rfl | rfl | rfl | rfl | rfl <;> simp [go_sem]
  have hB0 : Below w.heap.size w W := by rw [← hW]; exact BA (BA (Below.refl _ _) _) _
  have hTlt : w.heap.size + 1 < W.heap.size := by rw [← hW]; simp
  have hb0 : BoxL W w.heap.size p := by
    rw [← hW]
    simp only [List.append_toArray, List.cons_append, List.nil_append] at hb0
    exact hb0.grown hb0.lt (newB _ _)
  rw [hW]
  clear hW
  have hS : Hid (∀ X, Below W.heap.size W X → X.cell? ⟨w.heap.size, 0, none⟩ = some (.int .i64 p.lo) ∧ X.cell? ⟨w.heap.size, 1, none⟩ = some (.int .i64 p.hi) ∧ X.cell? ⟨w.heap.size, 2, none⟩ = some (.slice p.a p.n p.cap) ∧ X.cell? ⟨w.heap.size, 3, none⟩ = some (.int .i64 p.lo) ∧ X.cell? ⟨w.heap.size, 4, none⟩ = some (.int .i64 p.hi) ∧ X.cell? ⟨w.heap.size, 5, none⟩ = some (.slice p.a p.n p.cap) ∧ X.cell? ⟨w.heap.size, 6, none⟩ = some (.func (.func 133) #[] #[]) ∧ X.cell? ⟨w.heap.size, 7, none⟩ = some (.int .i64 p.lo) ∧ X.cell? ⟨w.heap.size, 8, none⟩ = some (.int .i64 p.hi) ∧ X.cell? ⟨w.heap.size, 9, none⟩ = some (.slice p.a p.n p.cap) ∧ X.cell? ⟨w.heap.size, 10, none⟩ = some (.func (.func 134) #[] #[])) := fun X hX => (hb0.grown hb0.lt hX).all
  refine wp_region_seq [(0, true), (1, true), (2, false), (3, false), (4, false), (5, true)] (fun X => X.cell? ⟨w.heap.size, 0, none⟩ = some (.int .i64 p.lo) ∧ X.cell? ⟨w.heap.size, 1, none⟩ = some (.int .i64 p.hi) ∧ X.cell? ⟨w.heap.size, 2, none⟩ = some (.slice p.a p.n p.cap) ∧ X.cell? ⟨w.heap.size, 3, none⟩ = some (.int .i64 p.lo) ∧ X.cell? ⟨w.heap.size, 4, none⟩ = some (.int .i64 p.hi) ∧ X.cell? ⟨w.heap.size, 5, none⟩ = some (.slice p.a p.n p.cap) ∧ X.cell? ⟨w.heap.size, 6, none⟩ = some (.func (.func 133) #[] #[]) ∧ X.cell? ⟨w.heap.size, 7, none⟩ = some (.int .i64 p.lo) ∧ X.cell? ⟨w.heap.size, 8, none⟩ = some (.int .i64 p.hi) ∧ X.cell? ⟨w.heap.size, 9, none⟩ = some (.slice p.a p.n p.cap) ∧ X.cell? ⟨w.heap.size, 10, none⟩ = some (.func (.func 134) #[] #[])) (by kernel_rfl) (by kernel_rfl) (fun _ _ d _ _ h => by cases d <;> exact h) hb0.all ?_
  repeat (first | (refine seq_read rfl (by rfl) _ (fun w' hS => by (try dsimp only at hS); go_simp; (try with_reducible rfl)) ?_; (try simp only [Act.put, List.setIfInBounds_toArray, List.set_cons_zero, List.set_cons_succ])) | (refine seq_skip rfl (by rfl) ?_; (try simp only [Act.put, List.setIfInBounds_toArray, List.set_cons_zero, List.set_cons_succ])))
  refine seq_do rfl (by rfl) (fun K hK => ?_)
  go_simp
  have hx0 : Below W.heap.size W W.drew := Below.drew (Below.refl _ _)
  refine (HKN.out W.drew (BT hB0 hx0)).mono ?_
  rintro e X1 ⟨rfl, hx1⟩
  have hx1 := BT hx0 hx1
  refine hK _ _ (hS.out _ hx1) ?_
  clear hK K
  (try simp only [Act.put, List.setIfInBounds_toArray, List.set_cons_zero, List.set_cons_succ])
  repeat (first | (refine seq_read rfl (by rfl) _ (fun w' hS => by (try dsimp only at hS); go_simp; (try with_reducible rfl)) ?_; (try simp only [Act.put, List.setIfInBounds_toArray, List.set_cons_zero, List.set_cons_succ])) | (refine seq_skip rfl (by rfl) ?_; (try simp only [Act.put, List.setIfInBounds_toArray, List.set_cons_zero, List.set_cons_succ])))
  refine seq_do rfl (by rfl) (fun K hK => ?_)
  go_simp
  refine (HSC.out X1).mono ?_
  rintro e X2 ⟨rfl, hx2e⟩
  simp only [List.append_toArray, List.cons_append, List.nil_append] at hx2e
  have HX2 := Lib.hid hx2e
  clear hx2e
  have hbB : BoxL X2 X1.heap.size p := by
    have := boxL_new X1 p 70
    unfold lookV sideV at this
    simp only [List.append_toArray, List.cons_append, List.nil_append] at this
    rw [HX2.out]; exact this.grown this.lt (newB _ _)
  have hcC : X2.cell? ⟨X1.heap.size + 1, 0, none⟩ = some (.int .i64 KN) := by
    have := (cell_new_l (X1.alloc (.cells #[.int .i64 p.lo, .int .i64 p.hi, .slice p.a p.n p.cap, .int .i64 p.lo, .int .i64 p.hi, .slice p.a p.n p.cap, .func (.func 133) #[] #[], .int .i64 p.lo, .int .i64 p.hi, .slice p.a p.n p.cap, .func (.func 134) #[] #[]] 70)) (.int .i64 KN) 101).1
    rw [World.size_alloc] at this
    rw [HX2.out]; exact this
  have hx2 : Below X1.heap.size X1 X2 := by rw [HX2.out]; exact BA (newB _ _) _
  clear HX2
  have hx2 := BT hx1 hx2
  refine hK _ _ (hS.out _ hx2) ?_
  clear hK K
  (try simp only [Act.put, List.setIfInBounds_toArray, List.set_cons_zero, List.set_cons_succ])
  repeat (first | (refine seq_read rfl (by rfl) _ (fun w' hS => by (try dsimp only at hS); go_simp; (try with_reducible rfl)) ?_; (try simp only [Act.put, List.setIfInBounds_toArray, List.set_cons_zero, List.set_cons_succ])) | (refine seq_skip rfl (by rfl) ?_; (try simp only [Act.put, List.setIfInBounds_toArray, List.set_cons_zero, List.set_cons_succ])))
  refine seq_do rfl (by rfl) (fun K hK => ?_)
  go_simp
  refine (HCL.out X2 X1.heap.size (X1.heap.size + 1) (BT hB0 hx2) (BT hB0 hx2).size hbB hcC).mono ?_
  rintro e X3 ⟨rfl, ho, hy3⟩
  have hx3 := BT hx2 hy3
  clear hy3
  refine hK _ _ (hS.out _ hx3) ?_
  clear hK K
  (try simp only [Act.put, List.setIfInBounds_toArray, List.set_cons_zero, List.set_cons_succ])
  repeat (first | (refine seq_read rfl (by rfl) _ (fun w' hS => by (try dsimp only at hS); go_simp; (try with_reducible rfl)) ?_; (try simp only [Act.put, List.setIfInBounds_toArray, List.set_cons_zero, List.set_cons_succ])) | (refine seq_skip rfl (by rfl) ?_; (try simp only [Act.put, List.setIfInBounds_toArray, List.set_cons_zero, List.set_cons_succ])))
  apply seq_end
  first | show Exit.inBlock _ _ Exit.normal _ _ | show Exit.then _ _ Exit.normal _ _ | skip
  have hT2 : w.heap.size + 1 < X3.heap.size := Nat.lt_of_lt_of_le hTlt hx3.size
  have hmb : w.heap.size + 1 < X2.heap.size := Nat.lt_of_lt_of_le hTlt hx2.size
  have hb3 := hb0.grown hb0.lt hx3
  have hsl3 := hsl.below hx3 hTlt
  have hB3 := BT hB0 hx3
  clear hS hsl hb0 hx0 hx1 hx2 hx3 hbB hcC HKN HSC HCL hB0 hTlt
  generalize X2.heap.size = mb at *
  have HSP := Lib.hid (decide_eq_false (fun hh => (HSZ.out).1 hh (by rw [← HA.out]; exact HNE.out)))
  clear HSZ HNE
  go_wp2_with (at_len; refine wpList_len_own _ rfl _ 72 rfl 3 81 mapQ _ mb _ _ rfl ho ?_)
  rw [HSP.out]
  refine (insist_no 10 X3).mono ?_
  rintro e X5 ⟨rfl, hx5⟩
  exact ⟨rfl, rfl, BT hB3 hx5⟩
end Go.Proofs.YtdkegkacpdkjgaaGreat
