/- Plate: the examples hold: what the statements call alive. -/
import Derived.Test.YtdkegkacpdkjgaaGreatPsq
namespace Go.Proofs.YtdkegkacpdkjgaaGreat
open Go.RowKit

structure Duo (X : World) (B : Nat) (a b : Int) : Prop where
  c0 : X.cell? ⟨B, 0, none⟩ = some (.int .i64 a)
  c1 : X.cell? ⟨B, 1, none⟩ = some (.int .i64 b)
theorem Duo.grown {X X' : World} {B : Nat} {a b : Int} (h : Duo X B a b) (hb : Below X.heap.size X X') : Duo X' B a b := ⟨cellB h.c0 hb, cellB h.c1 hb⟩
theorem duo_new (w : World) (a b : Int) (t : TypeId) : Duo (w.alloc (.cells #[.int .i64 a, .int .i64 b] t)) w.heap.size a b := ⟨by simp [go_sem], by simp [go_sem]⟩
theorem exScaleC (S : Nat) (w : World) (hm : PlAt (exP S) exS w) : Calls Tryz.prog 8 #[.agg #[.int .i64 590, .int .i64 610, .slice (some ⟨S, 0, none⟩) 3 3]] w (Ret (.tuple #[.agg #[.int .i64 599, .int .i64 601], .int .i64 0]) w) := by
  have h := scale_any (exP S) exS w hm
  rw [exScale] at h
  exact h
theorem exZeroC (S : Nat) (w : World) (hm : PlAt (exP S) exS w) : Calls Tryz.prog 10 #[.agg #[.int .i64 590, .int .i64 610, .slice (some ⟨S, 0, none⟩) 3 3]] w (Ret (.tuple #[.agg #[.int .i64 4998, .int .i64 5003], .agg #[.int .i64 5999, .int .i64 6003], .int .i64 0]) w) := by
  have h := zero_any (exP S) exS w hm
  rw [exZero] at h
  exact h
theorem exStarC (S : Nat) (w : World) (hm : PlAt (exP S) exS w) : Calls Tryz.prog 12 #[.agg #[.int .i64 590, .int .i64 610, .slice (some ⟨S, 0, none⟩) 3 3], .int .i64 2] w (Ret (.tuple #[.agg #[.int .i64 6200, .int .i64 6201], .agg #[.int .i64 6900, .int .i64 6902], .int .i64 0]) w) := by
  have h := star_any 2 (exP S) exS w hm
  rw [exStar] at h
  exact h
theorem exApartC (S : Nat) (w : World) (hm : PlAt (exP S) exS w) : Calls Tryz.prog 14 #[.agg #[.int .i64 590, .int .i64 610, .slice (some ⟨S, 0, none⟩) 3 3], .int .i64 0, .int .i64 2] w (Ret (.tuple #[.agg #[.int .i64 599, .int .i64 600], .agg #[.int .i64 (-301), .int .i64 (-300)], .int .i64 0]) w) := by
  have h := apart2_any 0 2 (exP S) exS w hm
  rw [exApart] at h
  exact h
theorem exFindC (S : Nat) (w : World) (hm : PlAt (exP S) exS w) : Calls Tryz.prog 17 #[.agg #[.int .i64 590, .int .i64 610, .slice (some ⟨S, 0, none⟩) 3 3], .int .i64 6200, .int .i64 6900] w (Ret (.tuple #[.agg #[.int .i64 1999, .int .i64 2001], .agg #[.int .i64 1496, .int .i64 1501], .int .i64 0]) w) := by
  have h := find2_any 6200 6900 (exP S) exS w hm
  rw [exFind] at h
  exact h
theorem exClashC (S : Nat) (w : World) (hm : PlAt (exP S) exQ w) : Calls Tryz.prog 19 #[.agg #[.int .i64 590, .int .i64 610, .slice (some ⟨S, 0, none⟩) 3 3]] w (Ret (.tuple #[.int .i64 7, .int .i64 0]) w) := by
  have h := clash_any (exP S) exQ w hm
  rw [exClash] at h
  exact h
theorem exDropC (S : Nat) (w : World) (hm : PlAt (exP S) exQ w) : Calls Tryz.prog 21 #[.agg #[.int .i64 590, .int .i64 610, .slice (some ⟨S, 0, none⟩) 3 3]] w (Ret (.tuple #[.int .i64 1, .int .i64 0]) w) := by
  have h := drop_any (exP S) exQ w hm
  rw [exDrop] at h
  exact h
theorem exPoorC (S : Nat) (w : World) (hm : PlAt (exP S) exS w) : Calls Tryz.prog 23 #[.agg #[.int .i64 590, .int .i64 610, .slice (some ⟨S, 0, none⟩) 3 3]] w (Ret (.tuple #[.int .i64 0, .int .i64 5, .int .i64 0]) w) := by
  have h := poor_any (exP S) exS w hm
  rw [exPoor] at h
  exact h
set_option maxRecDepth 100000 in
set_option maxHeartbeats 8000000 in
theorem alive_any (w : World) : Calls Tryz.prog 7 #[] w (Ret (.bool true) w) := by
  have hB : Below w.heap.size w w := Below.refl _ _
  go_enter Tryz.func7, Tryz.ntmps7
  go_wp2_with fail
  refine (sample_any w).mono ?_
  rintro e X1 ⟨S, rfl, hP, -, -, hX⟩
  replace hB := BT hB hX
  clear hX
  go_wp2_with fail
  refine (exScaleC S X1 hP).mono ?_
  rintro e Y1 ⟨rfl, hX⟩
  clear hP
  replace hB := BT hB hX
  clear hX
  obtain ⟨Z1, hZ⟩ : ∃ Z, Y1.alloc (.cells #[.int .i64 599, .int .i64 601] 23) = Z := ⟨_, rfl⟩
  have hx : Below Y1.heap.size Y1 Z1 := by rw [← hZ]; exact newB _ _
  have t10 : Duo Z1 Y1.heap.size 599 601 := by rw [← hZ]; exact duo_new _ _ _ _
  replace hB := BT hB hx
  clear hx
  go_wp2_with fail
  clear hZ
  generalize Y1.heap.size = B1 at *
  refine (sample_any Z1).mono ?_
  rintro e X2 ⟨S, rfl, hP, -, -, hX⟩
  replace t10 := t10.grown hX
  replace hB := BT hB hX
  clear hX
  go_wp2_with fail
  refine (exZeroC S X2 hP).mono ?_
  rintro e Y2 ⟨rfl, hX⟩
  clear hP
  replace t10 := t10.grown hX
  replace hB := BT hB hX
  clear hX
  obtain ⟨Z2, hZ⟩ : ∃ Z, (Y2.alloc (.cells #[.int .i64 4998, .int .i64 5003] 23)).alloc (.cells #[.int .i64 5999, .int .i64 6003] 23) = Z := ⟨_, rfl⟩
  have hx : Below Y2.heap.size Y2 Z2 := by rw [← hZ]; exact BA (newB _ _) _
  have t20 : Duo Z2 Y2.heap.size 4998 5003 := by rw [← hZ]; exact (duo_new _ _ _ _).grown (newB _ _)
  have t21 : Duo Z2 (Y2.heap.size + 1) 5999 6003 := by rw [← hZ]; have := duo_new (Y2.alloc (.cells #[.int .i64 4998, .int .i64 5003] 23)) 5999 6003 23; rw [World.size_alloc] at this; exact this
  replace t10 := t10.grown hx
  replace hB := BT hB hx
  clear hx
  go_wp2_with fail
  clear hZ
  generalize Y2.heap.size = B2 at *
  refine (sample_any Z2).mono ?_
  rintro e X3 ⟨S, rfl, hP, -, -, hX⟩
  replace t10 := t10.grown hX
  replace t20 := t20.grown hX
  replace t21 := t21.grown hX
  replace hB := BT hB hX
  clear hX
  go_wp2_with fail
  refine (exStarC S X3 hP).mono ?_
  rintro e Y3 ⟨rfl, hX⟩
  clear hP
  replace t10 := t10.grown hX
  replace t20 := t20.grown hX
  replace t21 := t21.grown hX
  replace hB := BT hB hX
  clear hX
  obtain ⟨Z3, hZ⟩ : ∃ Z, (Y3.alloc (.cells #[.int .i64 6200, .int .i64 6201] 23)).alloc (.cells #[.int .i64 6900, .int .i64 6902] 23) = Z := ⟨_, rfl⟩
  have hx : Below Y3.heap.size Y3 Z3 := by rw [← hZ]; exact BA (newB _ _) _
  have t30 : Duo Z3 Y3.heap.size 6200 6201 := by rw [← hZ]; exact (duo_new _ _ _ _).grown (newB _ _)
  have t31 : Duo Z3 (Y3.heap.size + 1) 6900 6902 := by rw [← hZ]; have := duo_new (Y3.alloc (.cells #[.int .i64 6200, .int .i64 6201] 23)) 6900 6902 23; rw [World.size_alloc] at this; exact this
  replace t10 := t10.grown hx
  replace t20 := t20.grown hx
  replace t21 := t21.grown hx
  replace hB := BT hB hx
  clear hx
  go_wp2_with fail
  clear hZ
  generalize Y3.heap.size = B3 at *
  refine (sample_any Z3).mono ?_
  rintro e X4 ⟨S, rfl, hP, -, -, hX⟩
  replace t10 := t10.grown hX
  replace t20 := t20.grown hX
  replace t21 := t21.grown hX
  replace t30 := t30.grown hX
  replace t31 := t31.grown hX
  replace hB := BT hB hX
  clear hX
  go_wp2_with fail
  refine (exApartC S X4 hP).mono ?_
  rintro e Y4 ⟨rfl, hX⟩
  clear hP
  replace t10 := t10.grown hX
  replace t20 := t20.grown hX
  replace t21 := t21.grown hX
  replace t30 := t30.grown hX
  replace t31 := t31.grown hX
  replace hB := BT hB hX
  clear hX
  obtain ⟨Z4, hZ⟩ : ∃ Z, (Y4.alloc (.cells #[.int .i64 599, .int .i64 600] 23)).alloc (.cells #[.int .i64 (-301), .int .i64 (-300)] 23) = Z := ⟨_, rfl⟩
  have hx : Below Y4.heap.size Y4 Z4 := by rw [← hZ]; exact BA (newB _ _) _
  have t40 : Duo Z4 Y4.heap.size 599 600 := by rw [← hZ]; exact (duo_new _ _ _ _).grown (newB _ _)
  have t41 : Duo Z4 (Y4.heap.size + 1) (-301) (-300) := by rw [← hZ]; have := duo_new (Y4.alloc (.cells #[.int .i64 599, .int .i64 600] 23)) (-301) (-300) 23; rw [World.size_alloc] at this; exact this
  replace t10 := t10.grown hx
  replace t20 := t20.grown hx
  replace t21 := t21.grown hx
  replace t30 := t30.grown hx
  replace t31 := t31.grown hx
  replace hB := BT hB hx
  clear hx
  go_wp2_with fail
  clear hZ
  generalize Y4.heap.size = B4 at *
  refine (sample_any Z4).mono ?_
  rintro e X5 ⟨S, rfl, hP, -, -, hX⟩
  replace t10 := t10.grown hX
  replace t20 := t20.grown hX
  replace t21 := t21.grown hX
  replace t30 := t30.grown hX
  replace t31 := t31.grown hX
  replace t40 := t40.grown hX
  replace t41 := t41.grown hX
  replace hB := BT hB hX
  clear hX
  go_wp2_with fail
  refine (exFindC S X5 hP).mono ?_
  rintro e Y5 ⟨rfl, hX⟩
  clear hP
  replace t10 := t10.grown hX
  replace t20 := t20.grown hX
  replace t21 := t21.grown hX
  replace t30 := t30.grown hX
  replace t31 := t31.grown hX
  replace t40 := t40.grown hX
  replace t41 := t41.grown hX
  replace hB := BT hB hX
  clear hX
  obtain ⟨Z5, hZ⟩ : ∃ Z, (Y5.alloc (.cells #[.int .i64 1999, .int .i64 2001] 23)).alloc (.cells #[.int .i64 1496, .int .i64 1501] 23) = Z := ⟨_, rfl⟩
  have hx : Below Y5.heap.size Y5 Z5 := by rw [← hZ]; exact BA (newB _ _) _
  have t50 : Duo Z5 Y5.heap.size 1999 2001 := by rw [← hZ]; exact (duo_new _ _ _ _).grown (newB _ _)
  have t51 : Duo Z5 (Y5.heap.size + 1) 1496 1501 := by rw [← hZ]; have := duo_new (Y5.alloc (.cells #[.int .i64 1999, .int .i64 2001] 23)) 1496 1501 23; rw [World.size_alloc] at this; exact this
  replace t10 := t10.grown hx
  replace t20 := t20.grown hx
  replace t21 := t21.grown hx
  replace t30 := t30.grown hx
  replace t31 := t31.grown hx
  replace t40 := t40.grown hx
  replace t41 := t41.grown hx
  replace hB := BT hB hx
  clear hx
  go_wp2_with fail
  clear hZ
  generalize Y5.heap.size = B5 at *
  refine (other_any Z5).mono ?_
  rintro e X6 ⟨S, rfl, hP, -, -, hX⟩
  replace t10 := t10.grown hX
  replace t20 := t20.grown hX
  replace t21 := t21.grown hX
  replace t30 := t30.grown hX
  replace t31 := t31.grown hX
  replace t40 := t40.grown hX
  replace t41 := t41.grown hX
  replace t50 := t50.grown hX
  replace t51 := t51.grown hX
  replace hB := BT hB hX
  clear hX
  go_wp2_with fail
  refine (exClashC S X6 hP).mono ?_
  rintro e Y6 ⟨rfl, hX⟩
  clear hP
  replace t10 := t10.grown hX
  replace t20 := t20.grown hX
  replace t21 := t21.grown hX
  replace t30 := t30.grown hX
  replace t31 := t31.grown hX
  replace t40 := t40.grown hX
  replace t41 := t41.grown hX
  replace t50 := t50.grown hX
  replace t51 := t51.grown hX
  replace hB := BT hB hX
  clear hX
  go_wp2_with fail
  refine (other_any Y6).mono ?_
  rintro e X7 ⟨S, rfl, hP, -, -, hX⟩
  replace t10 := t10.grown hX
  replace t20 := t20.grown hX
  replace t21 := t21.grown hX
  replace t30 := t30.grown hX
  replace t31 := t31.grown hX
  replace t40 := t40.grown hX
  replace t41 := t41.grown hX
  replace t50 := t50.grown hX
  replace t51 := t51.grown hX
  replace hB := BT hB hX
  clear hX
  go_wp2_with fail
  refine (exDropC S X7 hP).mono ?_
  rintro e Y7 ⟨rfl, hX⟩
  clear hP
  replace t10 := t10.grown hX
  replace t20 := t20.grown hX
  replace t21 := t21.grown hX
  replace t30 := t30.grown hX
  replace t31 := t31.grown hX
  replace t40 := t40.grown hX
  replace t41 := t41.grown hX
  replace t50 := t50.grown hX
  replace t51 := t51.grown hX
  replace hB := BT hB hX
  clear hX
  go_wp2_with fail
  refine (sample_any Y7).mono ?_
  rintro e X8 ⟨S, rfl, hP, -, -, hX⟩
  replace t10 := t10.grown hX
  replace t20 := t20.grown hX
  replace t21 := t21.grown hX
  replace t30 := t30.grown hX
  replace t31 := t31.grown hX
  replace t40 := t40.grown hX
  replace t41 := t41.grown hX
  replace t50 := t50.grown hX
  replace t51 := t51.grown hX
  replace hB := BT hB hX
  clear hX
  go_wp2_with fail
  refine (exPoorC S X8 hP).mono ?_
  rintro e Y8 ⟨rfl, hX⟩
  clear hP
  replace t10 := t10.grown hX
  replace t20 := t20.grown hX
  replace t21 := t21.grown hX
  replace t30 := t30.grown hX
  replace t31 := t31.grown hX
  replace t40 := t40.grown hX
  replace t41 := t41.grown hX
  replace t50 := t50.grown hX
  replace t51 := t51.grown hX
  replace hB := BT hB hX
  clear hX
  go_wp2_with fail
  have hI : Hid (∀ V, Below Y8.heap.size Y8 V → V.cell? ⟨B1, 0, none⟩ = some (.int .i64 599) ∧ V.cell? ⟨B1, 1, none⟩ = some (.int .i64 601) ∧ V.cell? ⟨B2, 0, none⟩ = some (.int .i64 4998) ∧ V.cell? ⟨B2, 1, none⟩ = some (.int .i64 5003) ∧ V.cell? ⟨B2 + 1, 0, none⟩ = some (.int .i64 5999) ∧ V.cell? ⟨B2 + 1, 1, none⟩ = some (.int .i64 6003) ∧ V.cell? ⟨B3, 0, none⟩ = some (.int .i64 6200) ∧ V.cell? ⟨B3, 1, none⟩ = some (.int .i64 6201) ∧ V.cell? ⟨B3 + 1, 0, none⟩ = some (.int .i64 6900) ∧ V.cell? ⟨B3 + 1, 1, none⟩ = some (.int .i64 6902) ∧ V.cell? ⟨B4, 0, none⟩ = some (.int .i64 599) ∧ V.cell? ⟨B4, 1, none⟩ = some (.int .i64 600) ∧ V.cell? ⟨B4 + 1, 0, none⟩ = some (.int .i64 (-301)) ∧ V.cell? ⟨B4 + 1, 1, none⟩ = some (.int .i64 (-300)) ∧ V.cell? ⟨B5, 0, none⟩ = some (.int .i64 1999) ∧ V.cell? ⟨B5, 1, none⟩ = some (.int .i64 2001) ∧ V.cell? ⟨B5 + 1, 0, none⟩ = some (.int .i64 1496) ∧ V.cell? ⟨B5 + 1, 1, none⟩ = some (.int .i64 1501)) := fun V hV => ⟨(t10.grown hV).c0, (t10.grown hV).c1, (t20.grown hV).c0, (t20.grown hV).c1, (t21.grown hV).c0, (t21.grown hV).c1, (t30.grown hV).c0, (t30.grown hV).c1, (t31.grown hV).c0, (t31.grown hV).c1, (t40.grown hV).c0, (t40.grown hV).c1, (t41.grown hV).c0, (t41.grown hV).c1, (t50.grown hV).c0, (t50.grown hV).c1, (t51.grown hV).c0, (t51.grown hV).c1⟩
  have hb0 : Below Y8.heap.size Y8 Y8.drew := Below.drew (Below.refl _ Y8)
  refine wp_region_seq [(0, true), (1, false), (2, true), (3, true), (4, true), (5, true), (6, true), (7, true), (8, true), (9, false), (10, true), (11, true), (12, true), (13, true), (14, false), (15, true), (16, true), (17, true), (18, true), (19, true), (20, true), (21, true), (22, true), (23, false), (24, true), (25, true), (26, true), (27, true), (28, false), (29, true), (30, true), (31, true), (32, true), (33, true), (34, true), (35, true), (36, true), (37, false), (38, true), (39, true), (40, true), (41, true), (42, false), (43, true), (44, true), (45, true), (46, true), (47, true), (48, true)] (fun V => V.cell? ⟨B1, 0, none⟩ = some (.int .i64 599) ∧ V.cell? ⟨B1, 1, none⟩ = some (.int .i64 601) ∧ V.cell? ⟨B2, 0, none⟩ = some (.int .i64 4998) ∧ V.cell? ⟨B2, 1, none⟩ = some (.int .i64 5003) ∧ V.cell? ⟨B2 + 1, 0, none⟩ = some (.int .i64 5999) ∧ V.cell? ⟨B2 + 1, 1, none⟩ = some (.int .i64 6003) ∧ V.cell? ⟨B3, 0, none⟩ = some (.int .i64 6200) ∧ V.cell? ⟨B3, 1, none⟩ = some (.int .i64 6201) ∧ V.cell? ⟨B3 + 1, 0, none⟩ = some (.int .i64 6900) ∧ V.cell? ⟨B3 + 1, 1, none⟩ = some (.int .i64 6902) ∧ V.cell? ⟨B4, 0, none⟩ = some (.int .i64 599) ∧ V.cell? ⟨B4, 1, none⟩ = some (.int .i64 600) ∧ V.cell? ⟨B4 + 1, 0, none⟩ = some (.int .i64 (-301)) ∧ V.cell? ⟨B4 + 1, 1, none⟩ = some (.int .i64 (-300)) ∧ V.cell? ⟨B5, 0, none⟩ = some (.int .i64 1999) ∧ V.cell? ⟨B5, 1, none⟩ = some (.int .i64 2001) ∧ V.cell? ⟨B5 + 1, 0, none⟩ = some (.int .i64 1496) ∧ V.cell? ⟨B5 + 1, 1, none⟩ = some (.int .i64 1501)) (by kernel_rfl) (by kernel_rfl) (fun _ _ d _ _ h => by cases d <;> exact h) (hI.out _ hb0) ?_
  repeat (first | (refine seq_read rfl (by rfl) _ (fun w' hS => by (try dsimp only at hS); go_simp; (try with_reducible rfl)) ?_; (try simp only [Act.put, List.setIfInBounds_toArray, List.set_cons_zero, List.set_cons_succ])) | (refine seq_skip rfl (by rfl) ?_; (try simp only [Act.put, List.setIfInBounds_toArray, List.set_cons_zero, List.set_cons_succ])))
  refine seq_do rfl (by rfl) (fun K hK => ?_)
  go_simp
  refine (spanL_any 599 601 Y8.drew).mono ?_
  rintro e L0 ⟨rfl, hL0⟩
  have hL0 := BT hb0 hL0
  refine hK _ _ (hI.out _ hL0) ?_
  clear hK K
  (try simp only [Act.put, List.setIfInBounds_toArray, List.set_cons_zero, List.set_cons_succ])
  repeat (first | (refine seq_read rfl (by rfl) _ (fun w' hS => by (try dsimp only at hS); go_simp; (try with_reducible rfl)) ?_; (try simp only [Act.put, List.setIfInBounds_toArray, List.set_cons_zero, List.set_cons_succ])) | (refine seq_skip rfl (by rfl) ?_; (try simp only [Act.put, List.setIfInBounds_toArray, List.set_cons_zero, List.set_cons_succ])))
  refine seq_do rfl (by rfl) (fun K hK => ?_)
  go_simp
  refine (spanL_any 4998 5003 L0).mono ?_
  rintro e L1 ⟨rfl, hL1⟩
  have hL1 := BT hL0 hL1
  refine hK _ _ (hI.out _ hL1) ?_
  clear hK K
  (try simp only [Act.put, List.setIfInBounds_toArray, List.set_cons_zero, List.set_cons_succ])
  repeat (first | (refine seq_read rfl (by rfl) _ (fun w' hS => by (try dsimp only at hS); go_simp; (try with_reducible rfl)) ?_; (try simp only [Act.put, List.setIfInBounds_toArray, List.set_cons_zero, List.set_cons_succ])) | (refine seq_skip rfl (by rfl) ?_; (try simp only [Act.put, List.setIfInBounds_toArray, List.set_cons_zero, List.set_cons_succ])))
  refine seq_do rfl (by rfl) (fun K hK => ?_)
  go_simp
  refine (spanL_any 5999 6003 L1).mono ?_
  rintro e L2 ⟨rfl, hL2⟩
  have hL2 := BT hL1 hL2
  refine hK _ _ (hI.out _ hL2) ?_
  clear hK K
  (try simp only [Act.put, List.setIfInBounds_toArray, List.set_cons_zero, List.set_cons_succ])
  repeat (first | (refine seq_read rfl (by rfl) _ (fun w' hS => by (try dsimp only at hS); go_simp; (try with_reducible rfl)) ?_; (try simp only [Act.put, List.setIfInBounds_toArray, List.set_cons_zero, List.set_cons_succ])) | (refine seq_skip rfl (by rfl) ?_; (try simp only [Act.put, List.setIfInBounds_toArray, List.set_cons_zero, List.set_cons_succ])))
  refine seq_do rfl (by rfl) (fun K hK => ?_)
  go_simp
  refine (spanL_any 6200 6201 L2).mono ?_
  rintro e L3 ⟨rfl, hL3⟩
  have hL3 := BT hL2 hL3
  refine hK _ _ (hI.out _ hL3) ?_
  clear hK K
  (try simp only [Act.put, List.setIfInBounds_toArray, List.set_cons_zero, List.set_cons_succ])
  repeat (first | (refine seq_read rfl (by rfl) _ (fun w' hS => by (try dsimp only at hS); go_simp; (try with_reducible rfl)) ?_; (try simp only [Act.put, List.setIfInBounds_toArray, List.set_cons_zero, List.set_cons_succ])) | (refine seq_skip rfl (by rfl) ?_; (try simp only [Act.put, List.setIfInBounds_toArray, List.set_cons_zero, List.set_cons_succ])))
  refine seq_do rfl (by rfl) (fun K hK => ?_)
  go_simp
  refine (spanL_any 6900 6902 L3).mono ?_
  rintro e L4 ⟨rfl, hL4⟩
  have hL4 := BT hL3 hL4
  refine hK _ _ (hI.out _ hL4) ?_
  clear hK K
  (try simp only [Act.put, List.setIfInBounds_toArray, List.set_cons_zero, List.set_cons_succ])
  repeat (first | (refine seq_read rfl (by rfl) _ (fun w' hS => by (try dsimp only at hS); go_simp; (try with_reducible rfl)) ?_; (try simp only [Act.put, List.setIfInBounds_toArray, List.set_cons_zero, List.set_cons_succ])) | (refine seq_skip rfl (by rfl) ?_; (try simp only [Act.put, List.setIfInBounds_toArray, List.set_cons_zero, List.set_cons_succ])))
  refine seq_do rfl (by rfl) (fun K hK => ?_)
  go_simp
  refine (spanL_any 599 600 L4).mono ?_
  rintro e L5 ⟨rfl, hL5⟩
  have hL5 := BT hL4 hL5
  refine hK _ _ (hI.out _ hL5) ?_
  clear hK K
  (try simp only [Act.put, List.setIfInBounds_toArray, List.set_cons_zero, List.set_cons_succ])
  repeat (first | (refine seq_read rfl (by rfl) _ (fun w' hS => by (try dsimp only at hS); go_simp; (try with_reducible rfl)) ?_; (try simp only [Act.put, List.setIfInBounds_toArray, List.set_cons_zero, List.set_cons_succ])) | (refine seq_skip rfl (by rfl) ?_; (try simp only [Act.put, List.setIfInBounds_toArray, List.set_cons_zero, List.set_cons_succ])))
  refine seq_do rfl (by rfl) (fun K hK => ?_)
  go_simp
  refine (spanL_any (-301) (-300) L5).mono ?_
  rintro e L6 ⟨rfl, hL6⟩
  have hL6 := BT hL5 hL6
  refine hK _ _ (hI.out _ hL6) ?_
  clear hK K
  (try simp only [Act.put, List.setIfInBounds_toArray, List.set_cons_zero, List.set_cons_succ])
  repeat (first | (refine seq_read rfl (by rfl) _ (fun w' hS => by (try dsimp only at hS); go_simp; (try with_reducible rfl)) ?_; (try simp only [Act.put, List.setIfInBounds_toArray, List.set_cons_zero, List.set_cons_succ])) | (refine seq_skip rfl (by rfl) ?_; (try simp only [Act.put, List.setIfInBounds_toArray, List.set_cons_zero, List.set_cons_succ])))
  apply seq_end
  first | show Exit.inBlock _ _ Exit.normal _ _ | show Exit.then _ _ Exit.normal _ _ | skip
  replace t10 := t10.grown hL6
  replace t20 := t20.grown hL6
  replace t21 := t21.grown hL6
  replace t30 := t30.grown hL6
  replace t31 := t31.grown hL6
  replace t40 := t40.grown hL6
  replace t41 := t41.grown hL6
  replace t50 := t50.grown hL6
  replace t51 := t51.grown hL6
  replace hB := BT hB hL6
  clear hI hb0 hL0 hL1 hL2 hL3 hL4 hL5 hL6
  go_wp2_with fail
  have hI : Hid (∀ V, Below L6.heap.size L6 V → V.cell? ⟨B1, 0, none⟩ = some (.int .i64 599) ∧ V.cell? ⟨B1, 1, none⟩ = some (.int .i64 601) ∧ V.cell? ⟨B2, 0, none⟩ = some (.int .i64 4998) ∧ V.cell? ⟨B2, 1, none⟩ = some (.int .i64 5003) ∧ V.cell? ⟨B2 + 1, 0, none⟩ = some (.int .i64 5999) ∧ V.cell? ⟨B2 + 1, 1, none⟩ = some (.int .i64 6003) ∧ V.cell? ⟨B3, 0, none⟩ = some (.int .i64 6200) ∧ V.cell? ⟨B3, 1, none⟩ = some (.int .i64 6201) ∧ V.cell? ⟨B3 + 1, 0, none⟩ = some (.int .i64 6900) ∧ V.cell? ⟨B3 + 1, 1, none⟩ = some (.int .i64 6902) ∧ V.cell? ⟨B4, 0, none⟩ = some (.int .i64 599) ∧ V.cell? ⟨B4, 1, none⟩ = some (.int .i64 600) ∧ V.cell? ⟨B4 + 1, 0, none⟩ = some (.int .i64 (-301)) ∧ V.cell? ⟨B4 + 1, 1, none⟩ = some (.int .i64 (-300)) ∧ V.cell? ⟨B5, 0, none⟩ = some (.int .i64 1999) ∧ V.cell? ⟨B5, 1, none⟩ = some (.int .i64 2001) ∧ V.cell? ⟨B5 + 1, 0, none⟩ = some (.int .i64 1496) ∧ V.cell? ⟨B5 + 1, 1, none⟩ = some (.int .i64 1501)) := fun V hV => ⟨(t10.grown hV).c0, (t10.grown hV).c1, (t20.grown hV).c0, (t20.grown hV).c1, (t21.grown hV).c0, (t21.grown hV).c1, (t30.grown hV).c0, (t30.grown hV).c1, (t31.grown hV).c0, (t31.grown hV).c1, (t40.grown hV).c0, (t40.grown hV).c1, (t41.grown hV).c0, (t41.grown hV).c1, (t50.grown hV).c0, (t50.grown hV).c1, (t51.grown hV).c0, (t51.grown hV).c1⟩
  have hb0 : Below L6.heap.size L6 L6.drew := Below.drew (Below.refl _ L6)
  refine wp_region_seq [(0, true), (1, false), (2, true), (3, true), (4, true), (5, false), (6, true), (7, true), (8, true), (9, true), (10, true), (11, true), (12, true), (13, true), (14, true), (15, true), (16, true), (17, true), (18, true), (19, true), (20, true), (21, true), (22, true), (23, true), (24, true), (25, true), (26, true), (27, true), (28, true), (29, true), (30, true), (31, true), (32, true), (33, true), (34, true), (35, true), (36, true), (37, true), (38, true), (39, true), (40, true)] (fun V => V.cell? ⟨B1, 0, none⟩ = some (.int .i64 599) ∧ V.cell? ⟨B1, 1, none⟩ = some (.int .i64 601) ∧ V.cell? ⟨B2, 0, none⟩ = some (.int .i64 4998) ∧ V.cell? ⟨B2, 1, none⟩ = some (.int .i64 5003) ∧ V.cell? ⟨B2 + 1, 0, none⟩ = some (.int .i64 5999) ∧ V.cell? ⟨B2 + 1, 1, none⟩ = some (.int .i64 6003) ∧ V.cell? ⟨B3, 0, none⟩ = some (.int .i64 6200) ∧ V.cell? ⟨B3, 1, none⟩ = some (.int .i64 6201) ∧ V.cell? ⟨B3 + 1, 0, none⟩ = some (.int .i64 6900) ∧ V.cell? ⟨B3 + 1, 1, none⟩ = some (.int .i64 6902) ∧ V.cell? ⟨B4, 0, none⟩ = some (.int .i64 599) ∧ V.cell? ⟨B4, 1, none⟩ = some (.int .i64 600) ∧ V.cell? ⟨B4 + 1, 0, none⟩ = some (.int .i64 (-301)) ∧ V.cell? ⟨B4 + 1, 1, none⟩ = some (.int .i64 (-300)) ∧ V.cell? ⟨B5, 0, none⟩ = some (.int .i64 1999) ∧ V.cell? ⟨B5, 1, none⟩ = some (.int .i64 2001) ∧ V.cell? ⟨B5 + 1, 0, none⟩ = some (.int .i64 1496) ∧ V.cell? ⟨B5 + 1, 1, none⟩ = some (.int .i64 1501)) (by kernel_rfl) (by kernel_rfl) (fun _ _ d _ _ h => by cases d <;> exact h) (hI.out _ hb0) ?_
  repeat (first | (refine seq_read rfl (by rfl) _ (fun w' hS => by (try dsimp only at hS); go_simp; (try with_reducible rfl)) ?_; (try simp only [Act.put, List.setIfInBounds_toArray, List.set_cons_zero, List.set_cons_succ])) | (refine seq_skip rfl (by rfl) ?_; (try simp only [Act.put, List.setIfInBounds_toArray, List.set_cons_zero, List.set_cons_succ])))
  refine seq_do rfl (by rfl) (fun K hK => ?_)
  go_simp
  refine (spanL_any 1999 2001 L6.drew).mono ?_
  rintro e M0 ⟨rfl, hM0⟩
  have hM0 := BT hb0 hM0
  refine hK _ _ (hI.out _ hM0) ?_
  clear hK K
  (try simp only [Act.put, List.setIfInBounds_toArray, List.set_cons_zero, List.set_cons_succ])
  repeat (first | (refine seq_read rfl (by rfl) _ (fun w' hS => by (try dsimp only at hS); go_simp; (try with_reducible rfl)) ?_; (try simp only [Act.put, List.setIfInBounds_toArray, List.set_cons_zero, List.set_cons_succ])) | (refine seq_skip rfl (by rfl) ?_; (try simp only [Act.put, List.setIfInBounds_toArray, List.set_cons_zero, List.set_cons_succ])))
  refine seq_do rfl (by rfl) (fun K hK => ?_)
  go_simp
  refine (spanL_any 1496 1501 M0).mono ?_
  rintro e M1 ⟨rfl, hM1⟩
  have hM1 := BT hM0 hM1
  refine hK _ _ (hI.out _ hM1) ?_
  clear hK K
  (try simp only [Act.put, List.setIfInBounds_toArray, List.set_cons_zero, List.set_cons_succ])
  repeat (first | (refine seq_read rfl (by rfl) _ (fun w' hS => by (try dsimp only at hS); go_simp; (try with_reducible rfl)) ?_; (try simp only [Act.put, List.setIfInBounds_toArray, List.set_cons_zero, List.set_cons_succ])) | (refine seq_skip rfl (by rfl) ?_; (try simp only [Act.put, List.setIfInBounds_toArray, List.set_cons_zero, List.set_cons_succ])))
  apply seq_end
  first | show Exit.inBlock _ _ Exit.normal _ _ | show Exit.then _ _ Exit.normal _ _ | skip
  replace t10 := t10.grown hM1
  replace t20 := t20.grown hM1
  replace t21 := t21.grown hM1
  replace t30 := t30.grown hM1
  replace t31 := t31.grown hM1
  replace t40 := t40.grown hM1
  replace t41 := t41.grown hM1
  replace t50 := t50.grown hM1
  replace t51 := t51.grown hM1
  replace hB := BT hB hM1
  clear hI hb0 hM0 hM1
  go_wp2_with fail
  go_ret
  exact ⟨rfl, hB⟩
end Go.Proofs.YtdkegkacpdkjgaaGreat
