/- Plate: PlateNames' walk. -/
import Derived.Test.YtdkegkacpdkjgaaPsr
namespace Go.Proofs.Ytdkegkacpdkjgaa
open Go.RowKit

theorem exStar0C (S : Nat) (w : World) (hm : PlAt (exP S) exS w) : Calls Try.prog 10 #[.agg #[.int .i64 590, .int .i64 610, .slice (some ⟨S, 0, none⟩) 3 3], .int .i64 0] w (Ret (.tuple #[.agg #[.int .i64 5600, .int .i64 5602], .agg #[.int .i64 7200, .int .i64 7203], .int .i64 0]) w) := by
  have h := star_any 0 (exP S) exS w hm
  rw [exStar0] at h
  exact h
theorem exClash0C (S : Nat) (w : World) (hm : PlAt (exP S) exS w) : Calls Try.prog 12 #[.agg #[.int .i64 590, .int .i64 610, .slice (some ⟨S, 0, none⟩) 3 3]] w (Ret (.tuple #[.int .i64 0, .int .i64 0]) w) := by
  have h := clash_any (exP S) exS w hm
  rw [exClash0] at h
  exact h
theorem exDrop0C (S : Nat) (w : World) (hm : PlAt (exP S) exS w) : Calls Try.prog 13 #[.agg #[.int .i64 590, .int .i64 610, .slice (some ⟨S, 0, none⟩) 3 3]] w (Ret (.tuple #[.int .i64 0, .int .i64 0]) w) := by
  have h := drop_any (exP S) exS w hm
  rw [exDrop0] at h
  exact h
theorem exScaleQC (S : Nat) (w : World) (hm : PlAt (exP S) exQ w) : Calls Try.prog 14 #[.agg #[.int .i64 590, .int .i64 610, .slice (some ⟨S, 0, none⟩) 3 3]] w (Ret (.tuple #[.agg #[.int .i64 0, .int .i64 0], .int .i64 10]) w) := by
  have h := scale_any (exP S) exQ w hm
  rw [exScaleQ] at h
  exact h
set_option maxRecDepth 100000 in
set_option maxHeartbeats 8000000 in
theorem names_any (w : World) : Calls Try.prog 3 #[] w (Ret (.bool true) w) := by
  have hB : Below w.heap.size w w := Below.refl _ _
  go_enter Try.func3, Try.ntmps3
  go_wp2_with fail
  refine (sample_any w).mono ?_
  rintro e X1 ⟨S, rfl, hP, -, -, hX⟩
  replace hB := BT hB hX
  clear hX
  go_wp2_with fail
  refine (exStar0C S X1 hP).mono ?_
  rintro e Y1 ⟨rfl, hX⟩
  clear hP
  replace hB := BT hB hX
  clear hX
  obtain ⟨Z1, hZ⟩ : ∃ Z, (Y1.alloc (.cells #[.int .i64 5600, .int .i64 5602] 23)).alloc (.cells #[.int .i64 7200, .int .i64 7203] 23) = Z := ⟨_, rfl⟩
  have hx : Below Y1.heap.size Y1 Z1 := by rw [← hZ]; exact BA (newB _ _) _
  have t10 : Duo Z1 Y1.heap.size 5600 5602 := by rw [← hZ]; exact (duo_new _ _ _ _).grown (newB _ _)
  have t11 : Duo Z1 (Y1.heap.size + 1) 7200 7203 := by rw [← hZ]; have := duo_new (Y1.alloc (.cells #[.int .i64 5600, .int .i64 5602] 23)) 7200 7203 23; rw [World.size_alloc] at this; exact this
  replace hB := BT hB hx
  clear hx
  go_wp2_with fail
  clear hZ
  generalize Y1.heap.size = B1 at *
  refine (sample_any Z1).mono ?_
  rintro e X2 ⟨S, rfl, hP, -, -, hX⟩
  replace t10 := t10.grown hX
  replace t11 := t11.grown hX
  replace hB := BT hB hX
  clear hX
  go_wp2_with fail
  refine (exClash0C S X2 hP).mono ?_
  rintro e Y2 ⟨rfl, hX⟩
  clear hP
  replace t10 := t10.grown hX
  replace t11 := t11.grown hX
  replace hB := BT hB hX
  clear hX
  go_wp2_with fail
  refine (sample_any Y2).mono ?_
  rintro e X3 ⟨S, rfl, hP, -, -, hX⟩
  replace t10 := t10.grown hX
  replace t11 := t11.grown hX
  replace hB := BT hB hX
  clear hX
  go_wp2_with fail
  refine (exDrop0C S X3 hP).mono ?_
  rintro e Y3 ⟨rfl, hX⟩
  clear hP
  replace t10 := t10.grown hX
  replace t11 := t11.grown hX
  replace hB := BT hB hX
  clear hX
  go_wp2_with fail
  refine (other_any Y3).mono ?_
  rintro e X4 ⟨S, rfl, hP, -, -, hX⟩
  replace t10 := t10.grown hX
  replace t11 := t11.grown hX
  replace hB := BT hB hX
  clear hX
  go_wp2_with fail
  refine (exScaleQC S X4 hP).mono ?_
  rintro e Y4 ⟨rfl, hX⟩
  clear hP
  replace t10 := t10.grown hX
  replace t11 := t11.grown hX
  replace hB := BT hB hX
  clear hX
  go_wp2_with fail
  obtain ⟨Z4, hZ⟩ : ∃ Z, Y4.alloc (.cells #[.int .i64 0, .int .i64 0] 23) = Z := ⟨_, rfl⟩
  have hx : Below Y4.heap.size Y4 Z4 := by rw [← hZ]; exact newB _ _
  have t40 : Duo Z4 Y4.heap.size 0 0 := by rw [← hZ]; exact duo_new _ _ _ _
  replace t10 := t10.grown hx
  replace t11 := t11.grown hx
  replace hB := BT hB hx
  clear hx
  rw [hZ]
  clear hZ
  generalize Y4.heap.size = B4 at *
  have hI : Hid (∀ V, Below Z4.heap.size Z4 V → V.cell? ⟨B1, 0, none⟩ = some (.int .i64 5600) ∧ V.cell? ⟨B1, 1, none⟩ = some (.int .i64 5602) ∧ V.cell? ⟨B1 + 1, 0, none⟩ = some (.int .i64 7200) ∧ V.cell? ⟨B1 + 1, 1, none⟩ = some (.int .i64 7203) ∧ V.cell? ⟨B4, 0, none⟩ = some (.int .i64 0) ∧ V.cell? ⟨B4, 1, none⟩ = some (.int .i64 0)) := fun V hV => ⟨(t10.grown hV).c0, (t10.grown hV).c1, (t11.grown hV).c0, (t11.grown hV).c1, (t40.grown hV).c0, (t40.grown hV).c1⟩
  have hb0 : Below Z4.heap.size Z4 Z4.drew := Below.drew (Below.refl _ Z4)
  refine wp_region_seq [(0, true), (1, false), (2, true), (3, true), (4, true), (5, false), (6, true), (7, true), (8, true), (9, true), (10, false), (11, true), (12, true), (13, true), (14, true), (15, true), (16, true), (17, true), (18, true), (19, true), (20, true), (21, true), (22, true), (23, true), (24, true), (25, true), (26, true), (27, true), (28, true), (29, true), (30, true), (31, true), (32, true), (33, true), (34, true), (35, true), (36, true), (37, true)] (fun V => V.cell? ⟨B1, 0, none⟩ = some (.int .i64 5600) ∧ V.cell? ⟨B1, 1, none⟩ = some (.int .i64 5602) ∧ V.cell? ⟨B1 + 1, 0, none⟩ = some (.int .i64 7200) ∧ V.cell? ⟨B1 + 1, 1, none⟩ = some (.int .i64 7203) ∧ V.cell? ⟨B4, 0, none⟩ = some (.int .i64 0) ∧ V.cell? ⟨B4, 1, none⟩ = some (.int .i64 0)) (by kernel_rfl) (by kernel_rfl) (fun _ _ d _ _ h => by cases d <;> exact h) (hI.out _ hb0) ?_
  repeat (first | (refine seq_read rfl (by rfl) _ (fun w' hS => by (try dsimp only at hS); go_simp; (try with_reducible rfl)) ?_; (try simp only [Act.put, List.setIfInBounds_toArray, List.set_cons_zero, List.set_cons_succ])) | (refine seq_skip rfl (by rfl) ?_; (try simp only [Act.put, List.setIfInBounds_toArray, List.set_cons_zero, List.set_cons_succ])))
  refine seq_do rfl (by rfl) (fun K hK => ?_)
  go_simp
  refine (alive_any Z4.drew).mono ?_
  rintro e L0 ⟨rfl, hL0⟩
  have hL0 := BT hb0 hL0
  refine hK _ _ (hI.out _ hL0) ?_
  clear hK K
  (try simp only [Act.put, List.setIfInBounds_toArray, List.set_cons_zero, List.set_cons_succ])
  repeat (first | (refine seq_read rfl (by rfl) _ (fun w' hS => by (try dsimp only at hS); go_simp; (try with_reducible rfl)) ?_; (try simp only [Act.put, List.setIfInBounds_toArray, List.set_cons_zero, List.set_cons_succ])) | (refine seq_skip rfl (by rfl) ?_; (try simp only [Act.put, List.setIfInBounds_toArray, List.set_cons_zero, List.set_cons_succ])))
  refine seq_do rfl (by rfl) (fun K hK => ?_)
  go_simp
  refine (spanL_any 5600 5602 L0).mono ?_
  rintro e L1 ⟨rfl, hL1⟩
  have hL1 := BT hL0 hL1
  refine hK _ _ (hI.out _ hL1) ?_
  clear hK K
  (try simp only [Act.put, List.setIfInBounds_toArray, List.set_cons_zero, List.set_cons_succ])
  repeat (first | (refine seq_read rfl (by rfl) _ (fun w' hS => by (try dsimp only at hS); go_simp; (try with_reducible rfl)) ?_; (try simp only [Act.put, List.setIfInBounds_toArray, List.set_cons_zero, List.set_cons_succ])) | (refine seq_skip rfl (by rfl) ?_; (try simp only [Act.put, List.setIfInBounds_toArray, List.set_cons_zero, List.set_cons_succ])))
  refine seq_do rfl (by rfl) (fun K hK => ?_)
  go_simp
  refine (spanL_any 7200 7203 L1).mono ?_
  rintro e L2 ⟨rfl, hL2⟩
  have hL2 := BT hL1 hL2
  refine hK _ _ (hI.out _ hL2) ?_
  clear hK K
  (try simp only [Act.put, List.setIfInBounds_toArray, List.set_cons_zero, List.set_cons_succ])
  repeat (first | (refine seq_read rfl (by rfl) _ (fun w' hS => by (try dsimp only at hS); go_simp; (try with_reducible rfl)) ?_; (try simp only [Act.put, List.setIfInBounds_toArray, List.set_cons_zero, List.set_cons_succ])) | (refine seq_skip rfl (by rfl) ?_; (try simp only [Act.put, List.setIfInBounds_toArray, List.set_cons_zero, List.set_cons_succ])))
  apply seq_end
  first | show Exit.inBlock _ _ Exit.normal _ _ | show Exit.then _ _ Exit.normal _ _ | skip
  replace t10 := t10.grown hL2
  replace t11 := t11.grown hL2
  replace t40 := t40.grown hL2
  replace hB := BT hB hL2
  clear hI hb0 hL0 hL1 hL2
  go_wp2_with fail
  go_ret
  exact ⟨rfl, hB⟩
end Go.Proofs.Ytdkegkacpdkjgaa
