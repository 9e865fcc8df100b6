/- Plate: Poor. -/
import Derived.Test.YtdkegkacpdkjgaaGreatPpo
import Derived.Test.YtdkegkacpdkjgaaGreatPpu
namespace Go.Proofs.YtdkegkacpdkjgaaGreat
open Go.RowKit Go.Maps

def repW : Except Int Value → Value
  | .ok v => (match v with | .agg x => .tuple #[x.getD 0 .nilIface, x.getD 1 .nilIface, .int .i64 0] | v => v)
  | .error c => .tuple #[.int .i64 0, .int .i64 0, .int .i64 c]
theorem poor_two (p : Pl) (ss : List St) : isTwo (poorR p ss) := by
  unfold poorR poorV
  (repeat' split) <;> first | exact err_two _ | (intro v h; cases h; exact ⟨_, _, rfl⟩)
theorem repW_eq {r : Except Int Value} (h : isTwo r) : ∃ a b e : Int, repS r = .tuple #[.agg #[.int .i64 a, .int .i64 b], .int .i64 e] ∧ repW r = .tuple #[.int .i64 a, .int .i64 b, .int .i64 e] := by
  cases r with
  | error c => exact ⟨0, 0, c, rfl, rfl⟩
  | ok v => obtain ⟨a, b, rfl⟩ := h v rfl; exact ⟨a, b, 0, rfl, rfl⟩
theorem repW_any (F : Nat) (caps : Array Value) (r : Except Int Value) (hr : isTwo r) (w : World) (hcall : ∀ w : World, (callFunc F caps).run Tryz.prog w = .ok (.enter F caps) w) (h : ∀ Y, Below w.heap.size w Y → Calls Tryz.prog F caps Y (Out r Y)) :
    Calls Tryz.prog 78 #[.func (.func F) #[] caps] w (Ret (repS r) w) := by
  cases r with
  | error c => exact answerW_err F caps c w hcall h
  | ok v =>
    obtain ⟨a, b, rfl⟩ := hr v rfl
    exact answerW_ok F caps a b w hcall h
set_option maxRecDepth 100000 in
set_option maxHeartbeats 4000000 in
theorem poor_any (p : Pl) (ss : List St) (w : World) (hm : PlAt p ss w) :
    Calls Tryz.prog 23 #[p.val] w (Ret (repW (poorR p ss)) w) := by
  have hmf : ∀ (fn : Fn) (first cap : Array Value) (w : World), (Instr.makeFunc fn first cap).run Tryz.prog w = .ok (.func fn first cap) w := fun _ _ _ _ => rfl
  have hst := @store_fn Tryz.prog
  obtain ⟨W0, hW0⟩ : ∃ X, w.alloc (.cells #[.int .i64 p.lo, .int .i64 p.hi, .slice p.a p.n p.cap] 26) = X := ⟨_, rfl⟩
  have hB : Below w.heap.size w W0 := by rw [← hW0]; exact newB _ _
  have hP : PlAt p ss W0 := hm.below hB (Nat.le_refl _)
  have hQ : BoxP W0 w.heap.size p := by rw [← hW0]; constructor <;> simp [go_sem]
  have hcl : ∀ Y, Below W0.heap.size W0 Y → Calls Tryz.prog 79 #[.pointer (some ⟨w.heap.size, 0, none⟩)] Y (Out (poorR p ss) Y) := fun Y hY => poorT_any w.heap.size p ss Y (hQ.grown hY) (hP.below hY (Nat.le_refl _))
  have hA := Lib.hid (repW_any 79 #[.pointer (some ⟨w.heap.size, 0, none⟩)] (poorR p ss) (poor_two p ss) W0 (fun w => enters_of Tryz.func79 (by kernel_rfl) rfl _ w) hcl)
  obtain ⟨va, vb, ve, hrep, hrep2⟩ := repW_eq (poor_two p ss)
  rw [hrep] at hA
  rw [hrep2]
  clear hrep hrep2 hcl hP hQ hm
  unfold Pl.val
  go_enter Tryz.func23, Tryz.ntmps23
  go_wp2_with fail
  clear hW0
  refine hA.out.mono ?_
  rintro e X ⟨rfl, hX⟩
  have hB9 := BT hB hX
  clear hA hX hB
  go_wp2_with fail
  go_region
  go_wp2
  exact bodyPost_ret (v := .tuple #[.int .i64 va, .int .i64 vb, .int .i64 ve]) (by simp [results, Tryz.results23, go_sem]) rfl ⟨rfl, (by (repeat (first | assumption | exact Below.refl _ _ | refine BA ?_ _ | refine BC ?_ _ _ (by first | omega | (simp; done) | (simp; omega)) _ | refine Below.drew ?_ | refine BT ?_ (by assumption))))⟩
end Go.Proofs.YtdkegkacpdkjgaaGreat
