/- Plate: both directions of a plate. -/
import Derived.Test.YtdkegkacpdkjgaaGreatPst
namespace Go.Proofs.YtdkegkacpdkjgaaGreat
open Go.RowKit

set_option maxHeartbeats 1000000 in
theorem side1_any (s : St) (w : World) : Calls Tryz.prog 133 #[.agg s.cells] w (Ret (.tuple #[.agg #[.int .i64 s.x0, .int .i64 s.x1], .agg #[.int .i64 s.e0, .int .i64 s.e1]]) w) := by
  unfold St.cells
  go_enter Tryz.func133, Tryz.ntmps133
  go_wp2
  go_region
  go_wp2
  exact bodyPost_ret (v := .tuple #[.agg #[.int .i64 s.x0, .int .i64 s.x1], .agg #[.int .i64 s.e0, .int .i64 s.e1]]) (by simp [results, Tryz.results133, go_sem]) rfl ⟨rfl, (by (repeat (first | assumption | exact Below.refl _ _ | refine BA ?_ _ | refine BC ?_ _ _ (by (first | omega | (simp; done) | (simp; omega))) _ | refine Below.drew ?_)))⟩
set_option maxHeartbeats 1000000 in
theorem side2_any (s : St) (w : World) : Calls Tryz.prog 134 #[.agg s.cells] w (Ret (.tuple #[.agg #[.int .i64 s.y0, .int .i64 s.y1], .agg #[.int .i64 s.n0, .int .i64 s.n1]]) w) := by
  unfold St.cells
  go_enter Tryz.func134, Tryz.ntmps134
  go_wp2
  go_region
  go_wp2
  exact bodyPost_ret (v := .tuple #[.agg #[.int .i64 s.y0, .int .i64 s.y1], .agg #[.int .i64 s.n0, .int .i64 s.n1]]) (by simp [results, Tryz.results134, go_sem]) rfl ⟨rfl, (by (repeat (first | assumption | exact Below.refl _ _ | refine BA ?_ _ | refine BC ?_ _ _ (by (first | omega | (simp; done) | (simp; omega))) _ | refine Below.drew ?_)))⟩

/-- A direction of a plate as a value. -/
def sideV (p : Pl) (d : Nat) : Array Value := #[.int .i64 p.lo, .int .i64 p.hi, .slice p.a p.n p.cap, .func (.func d) #[] #[]]
theorem store_fn {P : Program} {w : World} (a : Addr) (fn : Fn) (f c : Array Value) (m : Mode) : (store a (.func fn f c) m).run P w = stored P w a (.func fn f c) m := run_store P w a _ m rfl
set_option maxHeartbeats 1000000 in
theorem sidesOf_any (p : Pl) (w : World) : Calls Tryz.prog 100 #[p.val] w (Ret (.agg (sideV p 133 ++ sideV p 134)) w) := by
  unfold Pl.val
  have hst := @store_fn Tryz.prog
  go_enter Tryz.func100, Tryz.ntmps100
  go_wp2
  exact bodyPost_ret (v := .agg (sideV p 133 ++ sideV p 134)) (by simp [results, Tryz.results100, go_sem, sideV]) rfl ⟨rfl, (by (repeat (first | assumption | exact Below.refl _ _ | refine BA ?_ _ | refine BC ?_ _ _ (by (first | omega | (simp; done) | (simp; omega))) _ | refine Below.drew ?_)))⟩
end Go.Proofs.YtdkegkacpdkjgaaGreat
