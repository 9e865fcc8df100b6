/- Plate: the plate of the examples. -/
import Derived.Test.YtdkegkacpdkjgaaGreatPsn
namespace Go.Proofs.YtdkegkacpdkjgaaGreat
open Go.RowKit

def SamOut (ss : List St) (w : World) (e : Ending) (w' : World) : Prop :=
  ∃ S, e = .returned (.agg #[.int .i64 590, .int .i64 610, .slice (some ⟨S, 0, none⟩) 3 3]) ∧ PlAt (exP S) ss w' ∧ Slots S 27 w' ∧ w.heap.size ≤ S ∧ Below w.heap.size w w'
def exC : Array Value := #[.int .i64 1000, .int .i64 1002, .int .i64 2000, .int .i64 2001, .bool true, .int .i64 5600, .int .i64 5602, .int .i64 7200, .int .i64 7203, .int .i64 3000, .int .i64 3001, .int .i64 500, .int .i64 502, .bool true, .int .i64 6800, .int .i64 6801, .int .i64 6300, .int .i64 6302, .int .i64 2000, .int .i64 2001, .int .i64 1500, .int .i64 1500, .bool false, .int .i64 0, .int .i64 0, .int .i64 0, .int .i64 0]
theorem ex_row (Z : World) (T : TypeId) : PlAt (exP Z.heap.size) exS (Z.alloc (.cells exC T)) ∧ Slots Z.heap.size 27 (Z.alloc (.cells exC T)) := by
  refine ⟨⟨rfl, by show 3 ≤ 1000000000; omega, .inr ⟨Z.heap.size, 0, rfl, by simp, fun i hi => ?_⟩⟩, fun o ho => ?_⟩
  · have hi3 : i < 3 := hi
    rcases i with _ | _ | _ | i
    · constructor <;> (rw [World.cell?_alloc_new]; rfl)
    · constructor <;> (rw [World.cell?_alloc_new]; rfl)
    · constructor <;> (rw [World.cell?_alloc_new]; rfl)
    · omega
  · refine ⟨?_, World.frozen?_alloc_new _ _ _ _⟩
    rw [World.cell?_alloc_new]
    have h27 : exC.size = 27 := rfl
    rw [Array.getElem?_eq_getElem (by omega)]
    rfl
set_option maxRecDepth 100000 in
set_option maxHeartbeats 4000000 in
theorem sample_any (w : World) : Calls Tryz.prog 31 #[] w (SamOut exS w) := by
  obtain ⟨W0, hW0⟩ : ∃ X, w.alloc (.cells #[.int .i64 0, .int .i64 0, .slice none 0 0] 26) = X := ⟨_, rfl⟩
  have hs : Slots w.heap.size 3 W0 := by
    rw [← hW0]
    intro o ho
    have : o = 0 ∨ o = 1 ∨ o = 2 := by omega
    rcases this with rfl | rfl | rfl <;> simp [go_sem]
  have hl : w.heap.size < W0.heap.size := by rw [← hW0]; simp
  have hB : Below w.heap.size w W0 := by rw [← hW0]; exact newB _ _
  go_enter Tryz.func31, Tryz.ntmps31
  go_wp2_with fail
  clear hW0
  refine (spanL_any _ _ W0).mono ?_
  rintro e X1 ⟨rfl, h1⟩
  go_wp2_with fail
  refine (starL_any _ _ _ _ X1).mono ?_
  rintro e X2 ⟨rfl, h2⟩
  have h2 := BT h1 h2
  go_wp2_with fail
  refine (knownL_any _ _ _ _ _ _ _ _ _ _ _ _ _ X2).mono ?_
  rintro e X3 ⟨rfl, h3⟩
  have h3 := BT h2 h3
  go_wp2_with fail
  refine (starL_any _ _ _ _ X3).mono ?_
  rintro e X4 ⟨rfl, h4⟩
  have h4 := BT h3 h4
  go_wp2_with fail
  refine (knownL_any _ _ _ _ _ _ _ _ _ _ _ _ _ X4).mono ?_
  rintro e X5 ⟨rfl, h5⟩
  have h5 := BT h4 h5
  go_wp2_with fail
  refine (starL_any _ _ _ _ X5).mono ?_
  rintro e X6 ⟨rfl, h6⟩
  have h6 := BT h5 h6
  have hs := hs.below h6 hl
  have hB := BT hB h6
  have hl := Nat.lt_of_lt_of_le hl h6.size
  clear h1 h2 h3 h4 h5 h6
  obtain ⟨x0, q0, z0⟩ := hs.get 0 (by omega)
  obtain ⟨x1, q1, z1⟩ := hs.get 1 (by omega)
  obtain ⟨x2, q2, z2⟩ := hs.get 2 (by omega)
  obtain ⟨Z, hZ⟩ : ∃ Z, ((X6.setCell ⟨w.heap.size, 0, none⟩ (.int .i64 590)).setCell ⟨w.heap.size, 1, none⟩ (.int .i64 610)).setCell ⟨w.heap.size, 2, none⟩ (.slice (some ⟨X6.heap.size, 0, none⟩) 3 3) = Z := ⟨_, rfl⟩
  have hsz : Z.heap.size = X6.heap.size := by rw [← hZ]; simp [World.setCell]
  have hBZ : Below w.heap.size w Z := by rw [← hZ]; exact (BC (BC (BC hB (w.heap.size) 0 (by omega) (.int .i64 590)) (w.heap.size) 1 (by omega) (.int .i64 610)) (w.heap.size) 2 (by omega) (.slice (some ⟨X6.heap.size, 0, none⟩) 3 3))
  have hr := ex_row Z 60
  rw [hsz] at hr
  have hBA := BA hBZ (.cells exC 60)
  have hle : w.heap.size ≤ X6.heap.size := by omega
  have d0 : (Z.alloc (.cells exC 60)).cell? ⟨w.heap.size, 0, none⟩ = some (.int .i64 590) := by rw [cellB (v := .int .i64 590) (by rw [← hZ]; simp [go_sem, q0]) (newB Z _)]
  have d1 : (Z.alloc (.cells exC 60)).cell? ⟨w.heap.size, 1, none⟩ = some (.int .i64 610) := by rw [cellB (v := .int .i64 610) (by rw [← hZ]; simp [go_sem, q1]) (newB Z _)]
  have d2 : (Z.alloc (.cells exC 60)).cell? ⟨w.heap.size, 2, none⟩ = some (.slice (some ⟨X6.heap.size, 0, none⟩) 3 3) := by rw [cellB (v := .slice (some ⟨X6.heap.size, 0, none⟩) 3 3) (by rw [← hZ]; simp [go_sem, q2]) (newB Z _)]
  go_wp2_with fail
  exact bodyPost_ret (v := .agg #[.int .i64 590, .int .i64 610, .slice (some ⟨X6.heap.size, 0, none⟩) 3 3]) (by simp only [exC] at d0 d1 d2; simp [results, Tryz.results31, go_sem, d0, d1, d2]) rfl ⟨X6.heap.size, rfl, hr.1, hr.2, hle, hBA⟩
end Go.Proofs.YtdkegkacpdkjgaaGreat
