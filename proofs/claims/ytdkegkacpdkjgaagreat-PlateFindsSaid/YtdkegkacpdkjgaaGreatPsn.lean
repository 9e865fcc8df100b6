/- Plate: the examples' plates are made. -/
import Derived.Test.YtdkegkacpdkjgaaGreatPsm
namespace Go.Proofs.YtdkegkacpdkjgaaGreat
open Go.RowKit

theorem spanL_any (lo hi : Int) (w : World) : Calls Tryz.prog 33 #[.int .i64 lo, .int .i64 hi] w (Ret (.agg #[.int .i64 lo, .int .i64 hi]) w) := by
  go_enter Tryz.func33, Tryz.ntmps33
  go_wp2
  exact bodyPost_ret (v := .agg #[.int .i64 lo, .int .i64 hi]) (by simp [results, Tryz.results33, go_sem]) rfl ⟨rfl, (by (repeat (first | assumption | exact Below.refl _ _ | refine BA ?_ _ | refine BC ?_ _ _ (by first | omega | (simp; done) | (simp; omega)) _ | refine Below.drew ?_ | refine BT ?_ (by assumption))))⟩
set_option maxRecDepth 100000 in
set_option maxHeartbeats 4000000 in
theorem starL_any (a b c d : Int) (w : World) : Calls Tryz.prog 96 #[.int .i64 a, .int .i64 b, .int .i64 c, .int .i64 d] w (Ret (.agg #[.int .i64 a, .int .i64 b, .int .i64 c, .int .i64 d, .bool false, .int .i64 0, .int .i64 0, .int .i64 0, .int .i64 0]) w) := by
  obtain ⟨W0, hW0⟩ : ∃ X, w.alloc (.cells #[.int .i64 0, .int .i64 0, .int .i64 0, .int .i64 0, .bool false, .int .i64 0, .int .i64 0, .int .i64 0, .int .i64 0] 60) = X := ⟨_, rfl⟩
  have hs : Slots w.heap.size 9 W0 := by
    rw [← hW0]
    intro o ho
    have : o = 0 ∨ o = 1 ∨ o = 2 ∨ o = 3 ∨ o = 4 ∨ o = 5 ∨ o = 6 ∨ o = 7 ∨ o = 8 := by omega
    rcases this with rfl | rfl | rfl | rfl | rfl | rfl | rfl | rfl | rfl <;> simp [go_sem]
  have hl : w.heap.size < W0.heap.size := by rw [← hW0]; simp
  have hB : Below w.heap.size w W0 := by rw [← hW0]; exact newB _ _
  go_enter Tryz.func96, Tryz.ntmps96
  go_wp2_with fail
  clear hW0
  refine (spanL_any a b W0).mono ?_
  rintro e X ⟨rfl, hX⟩
  go_wp2_with fail
  refine (spanL_any c d X).mono ?_
  rintro e Y ⟨rfl, hY⟩
  have hXY := BT hX hY
  have hs := hs.below hXY hl
  have hB := BT hB hXY
  clear hX hY hXY
  obtain ⟨qx0, q0, qz0⟩ := hs.get 0 (by omega)
  obtain ⟨qx1, q1, qz1⟩ := hs.get 1 (by omega)
  obtain ⟨qx2, q2, qz2⟩ := hs.get 2 (by omega)
  obtain ⟨qx3, q3, qz3⟩ := hs.get 3 (by omega)
  obtain ⟨qx4, q4, qz4⟩ := hs.get 4 (by omega)
  obtain ⟨qx5, q5, qz5⟩ := hs.get 5 (by omega)
  obtain ⟨qx6, q6, qz6⟩ := hs.get 6 (by omega)
  obtain ⟨qx7, q7, qz7⟩ := hs.get 7 (by omega)
  obtain ⟨qx8, q8, qz8⟩ := hs.get 8 (by omega)
  have hfin := (BC (BC (BC (BC (BC (BC (BC (BC (BC hB (w.heap.size) 0 (by omega) (.int .i64 a)) (w.heap.size) 1 (by omega) (.int .i64 b)) (w.heap.size) 2 (by omega) (.int .i64 c)) (w.heap.size) 3 (by omega) (.int .i64 d)) (w.heap.size) 4 (by omega) (.bool false)) (w.heap.size) 5 (by omega) (.int .i64 0)) (w.heap.size) 6 (by omega) (.int .i64 0)) (w.heap.size) 7 (by omega) (.int .i64 0)) (w.heap.size) 8 (by omega) (.int .i64 0))
  go_wp2_with fail
  exact bodyPost_ret (v := .agg #[.int .i64 a, .int .i64 b, .int .i64 c, .int .i64 d, .bool false, .int .i64 0, .int .i64 0, .int .i64 0, .int .i64 0]) (by simp [results, Tryz.results96, go_sem, q0, q1, q2, q3, q4, q5, q6, q7, q8]) rfl ⟨rfl, hfin⟩
set_option maxRecDepth 100000 in
set_option maxHeartbeats 4000000 in
theorem knownL_any (x0 x1 y0 y1 e0 e1 n0 n1 a b c d : Int) (k : Bool) (w : World) : Calls Tryz.prog 95 #[.agg #[.int .i64 x0, .int .i64 x1, .int .i64 y0, .int .i64 y1, .bool k, .int .i64 e0, .int .i64 e1, .int .i64 n0, .int .i64 n1], .int .i64 a, .int .i64 b, .int .i64 c, .int .i64 d] w (Ret (.agg #[.int .i64 x0, .int .i64 x1, .int .i64 y0, .int .i64 y1, .bool true, .int .i64 a, .int .i64 b, .int .i64 c, .int .i64 d]) w) := by
  obtain ⟨W0, hW0⟩ : ∃ X, (w.alloc (.cells #[.int .i64 x0, .int .i64 x1, .int .i64 y0, .int .i64 y1, .bool k, .int .i64 e0, .int .i64 e1, .int .i64 n0, .int .i64 n1] 60)).alloc (.cells #[.int .i64 0, .int .i64 0, .int .i64 0, .int .i64 0, .bool false, .int .i64 0, .int .i64 0, .int .i64 0, .int .i64 0] 60) = X := ⟨_, rfl⟩
  have hs : Slots (w.heap.size + 1) 9 W0 := by
    rw [← hW0]
    intro o ho
    have : o = 0 ∨ o = 1 ∨ o = 2 ∨ o = 3 ∨ o = 4 ∨ o = 5 ∨ o = 6 ∨ o = 7 ∨ o = 8 := by omega
    rcases this with rfl | rfl | rfl | rfl | rfl | rfl | rfl | rfl | rfl <;> simp [go_sem]
  have ht : Slots w.heap.size 9 W0 := by
    rw [← hW0]
    intro o ho
    have : o = 0 ∨ o = 1 ∨ o = 2 ∨ o = 3 ∨ o = 4 ∨ o = 5 ∨ o = 6 ∨ o = 7 ∨ o = 8 := by omega
    rcases this with rfl | rfl | rfl | rfl | rfl | rfl | rfl | rfl | rfl <;> simp [go_sem]
  have c0 : W0.cell? ⟨w.heap.size, 0, none⟩ = some (.int .i64 x0) := by rw [← hW0]; simp [go_sem]
  have c1 : W0.cell? ⟨w.heap.size, 1, none⟩ = some (.int .i64 x1) := by rw [← hW0]; simp [go_sem]
  have c2 : W0.cell? ⟨w.heap.size, 2, none⟩ = some (.int .i64 y0) := by rw [← hW0]; simp [go_sem]
  have c3 : W0.cell? ⟨w.heap.size, 3, none⟩ = some (.int .i64 y1) := by rw [← hW0]; simp [go_sem]
  have hl : w.heap.size + 1 < W0.heap.size := by rw [← hW0]; simp
  have hB : Below w.heap.size w W0 := by rw [← hW0]; exact BA (newB _ _) _
  go_enter Tryz.func95, Tryz.ntmps95
  go_wp2_with fail
  clear hW0
  refine (spanL_any a b W0).mono ?_
  rintro e X ⟨rfl, hX⟩
  go_wp2_with fail
  refine (spanL_any c d X).mono ?_
  rintro e Y ⟨rfl, hY⟩
  have hXY := BT hX hY
  have hs := hs.below hXY hl
  have ht := ht.below hXY (by omega)
  have c0 := cellB c0 hXY
  have c1 := cellB c1 hXY
  have c2 := cellB c2 hXY
  have c3 := cellB c3 hXY
  have hB := BT hB hXY
  clear hX hY hXY
  obtain ⟨qx0, q0, qz0⟩ := hs.get 0 (by omega)
  obtain ⟨qx1, q1, qz1⟩ := hs.get 1 (by omega)
  obtain ⟨qx2, q2, qz2⟩ := hs.get 2 (by omega)
  obtain ⟨qx3, q3, qz3⟩ := hs.get 3 (by omega)
  obtain ⟨qx4, q4, qz4⟩ := hs.get 4 (by omega)
  obtain ⟨qx5, q5, qz5⟩ := hs.get 5 (by omega)
  obtain ⟨qx6, q6, qz6⟩ := hs.get 6 (by omega)
  obtain ⟨qx7, q7, qz7⟩ := hs.get 7 (by omega)
  obtain ⟨qx8, q8, qz8⟩ := hs.get 8 (by omega)
  obtain ⟨px0, p0, pz0⟩ := ht.get 0 (by omega)
  obtain ⟨px1, p1, pz1⟩ := ht.get 1 (by omega)
  obtain ⟨px2, p2, pz2⟩ := ht.get 2 (by omega)
  obtain ⟨px3, p3, pz3⟩ := ht.get 3 (by omega)
  obtain ⟨px4, p4, pz4⟩ := ht.get 4 (by omega)
  obtain ⟨px5, p5, pz5⟩ := ht.get 5 (by omega)
  obtain ⟨px6, p6, pz6⟩ := ht.get 6 (by omega)
  obtain ⟨px7, p7, pz7⟩ := ht.get 7 (by omega)
  obtain ⟨px8, p8, pz8⟩ := ht.get 8 (by omega)
  clear p0 p1 p2 p3
  have hfin0 := (BC (BC (BC (BC (BC hB w.heap.size 4 (by omega) (.bool true)) w.heap.size 5 (by omega) (.int .i64 a)) w.heap.size 6 (by omega) (.int .i64 b)) w.heap.size 7 (by omega) (.int .i64 c)) w.heap.size 8 (by omega) (.int .i64 d))
  have hfin := (BC (BC (BC (BC (BC (BC (BC (BC (BC hfin0 (w.heap.size + 1) 0 (by omega) (.int .i64 x0)) (w.heap.size + 1) 1 (by omega) (.int .i64 x1)) (w.heap.size + 1) 2 (by omega) (.int .i64 y0)) (w.heap.size + 1) 3 (by omega) (.int .i64 y1)) (w.heap.size + 1) 4 (by omega) (.bool true)) (w.heap.size + 1) 5 (by omega) (.int .i64 a)) (w.heap.size + 1) 6 (by omega) (.int .i64 b)) (w.heap.size + 1) 7 (by omega) (.int .i64 c)) (w.heap.size + 1) 8 (by omega) (.int .i64 d))
  go_wp2_with fail
  exact bodyPost_ret (v := .agg #[.int .i64 x0, .int .i64 x1, .int .i64 y0, .int .i64 y1, .bool true, .int .i64 a, .int .i64 b, .int .i64 c, .int .i64 d]) (by simp [results, Tryz.results95, go_sem, q0, q1, q2, q3, q4, q5, q6, q7, q8]) rfl ⟨rfl, hfin⟩
end Go.Proofs.YtdkegkacpdkjgaaGreat
