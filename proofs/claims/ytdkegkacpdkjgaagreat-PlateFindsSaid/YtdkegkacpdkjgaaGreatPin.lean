/- Plate: insist; what is asked along both directions. -/
import Derived.Test.YtdkegkacpdkjgaaGreatPan
namespace Go.Proofs.YtdkegkacpdkjgaaGreat
open Go.RowKit

theorem insist_yes (c : Int) (w : World) : Calls Tryz.prog 62 #[.bool true, .int .i64 c] w (Ret (.tuple #[]) w) := by
  go_enter Tryz.func62, Tryz.ntmps62
  go_wp2
  go_end0
  exact ⟨rfl, Below.refl _ _⟩
theorem insist_no (c : Int) (w : World) : Calls Tryz.prog 62 #[.bool false, .int .i64 c] w (Pan c w) := by
  go_enter Tryz.func62, Tryz.ntmps62
  go_wp2
  exact ⟨rfl, rfl, Below.refl _ _⟩
set_option maxRecDepth 100000 in
set_option maxHeartbeats 1000000 in
theorem both_ok (F : Nat) (caps : Array Value) (v0 v1 v2 v3 : Int) (w : World) (hcall : ∀ w : World, (callFunc F caps).run Tryz.prog w = .ok (.enter F caps) w) (h : ∀ Y, Below w.heap.size w Y → Calls Tryz.prog F caps Y (Ret (.agg #[.int .i64 v0, .int .i64 v1, .int .i64 v2, .int .i64 v3]) Y)) :
    Calls Tryz.prog 40 #[.func (.func F) #[] caps] w (Ret (.tuple #[.agg #[.int .i64 v0, .int .i64 v1], .agg #[.int .i64 v2, .int .i64 v3], .int .i64 0]) w) := by
  have H := Lib.hid h; clear h
  go_enter Tryz.func40, Tryz.ntmps40
  go_wp2_with (go_at_call 104; refine (answerB_ok F caps v0 v1 v2 v3 _ hcall (fun Y hY => H.out Y (BT (by (repeat (first | exact Below.refl _ _ | refine BA ?_ _))) hY))).mono ?_; rintro e w1 ⟨rfl, hb1⟩)
  have hBo : Below w.heap.size w ((w.alloc (Obj.cells #[Value.int IntKind.i64 0, Value.int IntKind.i64 0] 23)).alloc (Obj.cells #[Value.int IntKind.i64 0, Value.int IntKind.i64 0] 23)) := by (repeat (first | exact Below.refl _ _ | refine BA ?_ _))
  have hB1 := BT hBo hb1
  have hsz := hb1.size
  simp at hsz
  have c00 : w1.cell? ⟨w.heap.size , 0, none⟩ = some (.int .i64 0) := by
    rw [hb1.cell (p := ⟨w.heap.size , 0, none⟩) (by simp; try omega)]; simp [go_sem]
  have f00 : w1.frozen? ⟨w.heap.size , 0, none⟩ = false := by
    rw [hb1.frozen (p := ⟨w.heap.size , 0, none⟩) (by simp; try omega)]
    rw [World.frozen?_alloc_old _ _ _ (by simp)]; simp
  have c01 : w1.cell? ⟨w.heap.size , 1, none⟩ = some (.int .i64 0) := by
    rw [hb1.cell (p := ⟨w.heap.size , 1, none⟩) (by simp; try omega)]; simp [go_sem]
  have f01 : w1.frozen? ⟨w.heap.size , 1, none⟩ = false := by
    rw [hb1.frozen (p := ⟨w.heap.size , 1, none⟩) (by simp; try omega)]
    rw [World.frozen?_alloc_old _ _ _ (by simp)]; simp
  have c10 : w1.cell? ⟨w.heap.size + 1, 0, none⟩ = some (.int .i64 0) := by
    rw [hb1.cell (p := ⟨w.heap.size + 1, 0, none⟩) (by simp; try omega)]; simp [go_sem]
  have f10 : w1.frozen? ⟨w.heap.size + 1, 0, none⟩ = false := by
    rw [hb1.frozen (p := ⟨w.heap.size + 1, 0, none⟩) (by simp; try omega)]
    rw [show w.heap.size + 1 = (w.alloc (Obj.cells #[Value.int IntKind.i64 0, Value.int IntKind.i64 0] 23)).heap.size by simp]; exact World.frozen?_alloc_new _ _ _ _
  have c11 : w1.cell? ⟨w.heap.size + 1, 1, none⟩ = some (.int .i64 0) := by
    rw [hb1.cell (p := ⟨w.heap.size + 1, 1, none⟩) (by simp; try omega)]; simp [go_sem]
  have f11 : w1.frozen? ⟨w.heap.size + 1, 1, none⟩ = false := by
    rw [hb1.frozen (p := ⟨w.heap.size + 1, 1, none⟩) (by simp; try omega)]
    rw [show w.heap.size + 1 = (w.alloc (Obj.cells #[Value.int IntKind.i64 0, Value.int IntKind.i64 0] 23)).heap.size by simp]; exact World.frozen?_alloc_new _ _ _ _
  clear H hb1
  obtain ⟨W, hW⟩ : ∃ W, w1.alloc (Obj.cells #[Value.int IntKind.i64 v0, Value.int IntKind.i64 v1, Value.int IntKind.i64 v2, Value.int IntKind.i64 v3] 81) = W := ⟨_, rfl⟩
  have hB3 : Below w1.heap.size w1 W := by rw [← hW]; exact BA (Below.refl _ _) _
  have hB2 : Below w.heap.size w W := BT hB1 hB3
  have c00 := (hB3.cell (p := ⟨w.heap.size , 0, none⟩) (show w.heap.size  < w1.heap.size by omega)).trans c00
  have f00 := (hB3.frozen (p := ⟨w.heap.size , 0, none⟩) (show w.heap.size  < w1.heap.size by omega)).trans f00
  have c01 := (hB3.cell (p := ⟨w.heap.size , 1, none⟩) (show w.heap.size  < w1.heap.size by omega)).trans c01
  have f01 := (hB3.frozen (p := ⟨w.heap.size , 1, none⟩) (show w.heap.size  < w1.heap.size by omega)).trans f01
  have c10 := (hB3.cell (p := ⟨w.heap.size + 1, 0, none⟩) (show w.heap.size + 1 < w1.heap.size by omega)).trans c10
  have f10 := (hB3.frozen (p := ⟨w.heap.size + 1, 0, none⟩) (show w.heap.size + 1 < w1.heap.size by omega)).trans f10
  have c11 := (hB3.cell (p := ⟨w.heap.size + 1, 1, none⟩) (show w.heap.size + 1 < w1.heap.size by omega)).trans c11
  have f11 := (hB3.frozen (p := ⟨w.heap.size + 1, 1, none⟩) (show w.heap.size + 1 < w1.heap.size by omega)).trans f11
  have d0 : W.cell? ⟨w1.heap.size, 0, none⟩ = some (.int .i64 v0) := by rw [← hW]; simp [go_sem]
  have d1 : W.cell? ⟨w1.heap.size, 1, none⟩ = some (.int .i64 v1) := by rw [← hW]; simp [go_sem]
  have d2 : W.cell? ⟨w1.heap.size, 2, none⟩ = some (.int .i64 v2) := by rw [← hW]; simp [go_sem]
  have d3 : W.cell? ⟨w1.heap.size, 3, none⟩ = some (.int .i64 v3) := by rw [← hW]; simp [go_sem]
  rw [hW]
  have hn0 : ¬ w.heap.size = w1.heap.size := by omega
  have hn1 : ¬ w.heap.size + 1 = w1.heap.size := by omega
  clear hW hB3
  go_region
  go_wp2
  exact bodyPost_ret (v := .tuple #[.agg #[.int .i64 v0, .int .i64 v1], .agg #[.int .i64 v2, .int .i64 v3], .int .i64 0]) (by simp [results, Tryz.results40, go_sem, c00, c01, c10, c11]) rfl ⟨rfl, (by (repeat (first | assumption | exact Below.refl _ _ | refine BC ?_ _ _ (by omega) _ | refine Below.drew ?_)))⟩
set_option maxRecDepth 100000 in
set_option maxHeartbeats 1000000 in
theorem both_err (F : Nat) (caps : Array Value) (c : Int) (w : World) (hcall : ∀ w : World, (callFunc F caps).run Tryz.prog w = .ok (.enter F caps) w) (h : ∀ Y, Below w.heap.size w Y → Calls Tryz.prog F caps Y (Pan c Y)) :
    Calls Tryz.prog 40 #[.func (.func F) #[] caps] w (Ret (.tuple #[.agg #[.int .i64 0, .int .i64 0], .agg #[.int .i64 0, .int .i64 0], .int .i64 c]) w) := by
  have H := Lib.hid h; clear h
  go_enter Tryz.func40, Tryz.ntmps40
  go_wp2_with (go_at_call 104; refine (answerB_err F caps c _ hcall (fun Y hY => H.out Y (BT (by (repeat (first | exact Below.refl _ _ | refine BA ?_ _))) hY))).mono ?_; rintro e w1 ⟨rfl, hb1⟩)
  have hBo : Below w.heap.size w ((w.alloc (Obj.cells #[Value.int IntKind.i64 0, Value.int IntKind.i64 0] 23)).alloc (Obj.cells #[Value.int IntKind.i64 0, Value.int IntKind.i64 0] 23)) := by (repeat (first | exact Below.refl _ _ | refine BA ?_ _))
  have hB1 := BT hBo hb1
  have hsz := hb1.size
  simp at hsz
  have c00 : w1.cell? ⟨w.heap.size , 0, none⟩ = some (.int .i64 0) := by
    rw [hb1.cell (p := ⟨w.heap.size , 0, none⟩) (by simp; try omega)]; simp [go_sem]
  have f00 : w1.frozen? ⟨w.heap.size , 0, none⟩ = false := by
    rw [hb1.frozen (p := ⟨w.heap.size , 0, none⟩) (by simp; try omega)]
    rw [World.frozen?_alloc_old _ _ _ (by simp)]; simp
  have c01 : w1.cell? ⟨w.heap.size , 1, none⟩ = some (.int .i64 0) := by
    rw [hb1.cell (p := ⟨w.heap.size , 1, none⟩) (by simp; try omega)]; simp [go_sem]
  have f01 : w1.frozen? ⟨w.heap.size , 1, none⟩ = false := by
    rw [hb1.frozen (p := ⟨w.heap.size , 1, none⟩) (by simp; try omega)]
    rw [World.frozen?_alloc_old _ _ _ (by simp)]; simp
  have c10 : w1.cell? ⟨w.heap.size + 1, 0, none⟩ = some (.int .i64 0) := by
    rw [hb1.cell (p := ⟨w.heap.size + 1, 0, none⟩) (by simp; try omega)]; simp [go_sem]
  have f10 : w1.frozen? ⟨w.heap.size + 1, 0, none⟩ = false := by
    rw [hb1.frozen (p := ⟨w.heap.size + 1, 0, none⟩) (by simp; try omega)]
    rw [show w.heap.size + 1 = (w.alloc (Obj.cells #[Value.int IntKind.i64 0, Value.int IntKind.i64 0] 23)).heap.size by simp]; exact World.frozen?_alloc_new _ _ _ _
  have c11 : w1.cell? ⟨w.heap.size + 1, 1, none⟩ = some (.int .i64 0) := by
    rw [hb1.cell (p := ⟨w.heap.size + 1, 1, none⟩) (by simp; try omega)]; simp [go_sem]
  have f11 : w1.frozen? ⟨w.heap.size + 1, 1, none⟩ = false := by
    rw [hb1.frozen (p := ⟨w.heap.size + 1, 1, none⟩) (by simp; try omega)]
    rw [show w.heap.size + 1 = (w.alloc (Obj.cells #[Value.int IntKind.i64 0, Value.int IntKind.i64 0] 23)).heap.size by simp]; exact World.frozen?_alloc_new _ _ _ _
  clear H hb1
  obtain ⟨W, hW⟩ : ∃ W, w1.alloc (Obj.cells #[Value.int IntKind.i64 0, Value.int IntKind.i64 0, Value.int IntKind.i64 0, Value.int IntKind.i64 0] 81) = W := ⟨_, rfl⟩
  have hB3 : Below w1.heap.size w1 W := by rw [← hW]; exact BA (Below.refl _ _) _
  have hB2 : Below w.heap.size w W := BT hB1 hB3
  have c00 := (hB3.cell (p := ⟨w.heap.size , 0, none⟩) (show w.heap.size  < w1.heap.size by omega)).trans c00
  have f00 := (hB3.frozen (p := ⟨w.heap.size , 0, none⟩) (show w.heap.size  < w1.heap.size by omega)).trans f00
  have c01 := (hB3.cell (p := ⟨w.heap.size , 1, none⟩) (show w.heap.size  < w1.heap.size by omega)).trans c01
  have f01 := (hB3.frozen (p := ⟨w.heap.size , 1, none⟩) (show w.heap.size  < w1.heap.size by omega)).trans f01
  have c10 := (hB3.cell (p := ⟨w.heap.size + 1, 0, none⟩) (show w.heap.size + 1 < w1.heap.size by omega)).trans c10
  have f10 := (hB3.frozen (p := ⟨w.heap.size + 1, 0, none⟩) (show w.heap.size + 1 < w1.heap.size by omega)).trans f10
  have c11 := (hB3.cell (p := ⟨w.heap.size + 1, 1, none⟩) (show w.heap.size + 1 < w1.heap.size by omega)).trans c11
  have f11 := (hB3.frozen (p := ⟨w.heap.size + 1, 1, none⟩) (show w.heap.size + 1 < w1.heap.size by omega)).trans f11
  have d0 : W.cell? ⟨w1.heap.size, 0, none⟩ = some (.int .i64 0) := by rw [← hW]; simp [go_sem]
  have d1 : W.cell? ⟨w1.heap.size, 1, none⟩ = some (.int .i64 0) := by rw [← hW]; simp [go_sem]
  have d2 : W.cell? ⟨w1.heap.size, 2, none⟩ = some (.int .i64 0) := by rw [← hW]; simp [go_sem]
  have d3 : W.cell? ⟨w1.heap.size, 3, none⟩ = some (.int .i64 0) := by rw [← hW]; simp [go_sem]
  rw [hW]
  have hn0 : ¬ w.heap.size = w1.heap.size := by omega
  have hn1 : ¬ w.heap.size + 1 = w1.heap.size := by omega
  clear hW hB3
  go_region
  go_wp2
  exact bodyPost_ret (v := .tuple #[.agg #[.int .i64 0, .int .i64 0], .agg #[.int .i64 0, .int .i64 0], .int .i64 c]) (by simp [results, Tryz.results40, go_sem, c00, c01, c10, c11]) rfl ⟨rfl, (by (repeat (first | assumption | exact Below.refl _ _ | refine BC ?_ _ _ (by omega) _ | refine Below.drew ?_)))⟩
end Go.Proofs.YtdkegkacpdkjgaaGreat
