/- What is asked, or the error of a refusal. -/
import Derived.Test.YtdkegkacpdkjgaaGreatPle
import Derived.Recover
import Derived.WalkSpells
namespace Go.Proofs.YtdkegkacpdkjgaaGreat
open Go.RowKit

set_option maxRecDepth 100000 in
theorem refusal_any (c : Int) (w : World) : Calls Tryz.prog 98 #[.iface 29 (.int .i64 c)] w (Ret (.int .i64 c) w) := by
  have hta : ∀ w : World, (Instr.typeAssert (.iface 29 (.int .i64 c)) 20 29 true).run Tryz.prog w = .ok (.tuple #[.int .i64 c, .bool true]) w := fun _ => by kernel_rfl
  go_enter Tryz.func98, Tryz.ntmps98
  go_wp2
  go_ret
  exact ⟨rfl, Below.refl _ _⟩

theorem catch_idle (p : Addr) (w : World) :
    CallsD Tryz.prog 97 #[.pointer (some p)] .returning w fun e u' w' => e = .returned (.tuple #[]) ∧ u' = .returning ∧ w' = w := by
  have hne : ∀ w : World, (binOp .neq 20 .nilIface .nilIface).run Tryz.prog w = .ok (.bool false) w := fun _ => by kernel_rfl
  refine callsD_of_wpS Tryz.func97 rfl fun c₀ cs hu => ?_
  apply wpS_seq
  apply wpS_region
  simp [wpOpsS, go_sem, recoverD, hu, Tryz.ntmps97, Exit.thenS]
  change Code.wpS _ _ _ { tmps := #[.pointer (some p), .nilIface, .nilIface, undef, undef, undef, undef], defers := [] } _ _
  refine wpS_of_wp ?_
  go_wp2
  cases c₀
  simp_all [bodyPostS, results, Tryz.results97]
theorem catch_pan (p : Addr) (v c : Int) (w : World) (hc : w.cell? p = some (.int .i64 v)) (hz : w.frozen? p = false) :
    CallsD Tryz.prog 97 #[.pointer (some p)] (.panicking [{ v := .iface 29 (.int .i64 c), recovered := false }]) w fun e u' w' =>
      e = .returned (.tuple #[]) ∧ u' = .panicking [{ v := .iface 29 (.int .i64 c), recovered := true }] ∧ ∃ w1, Below w.heap.size w w1 ∧ w' = w1.setCell p (.int .i64 c) := by
  have hlt := World.block_lt_of_cell? w _ hc
  have hne : ∀ w : World, (binOp .neq 20 (.iface 29 (.int .i64 c)) .nilIface).run Tryz.prog w = .ok (.bool true) w := fun _ => by kernel_rfl
  refine callsD_of_wpS Tryz.func97 rfl fun c₀ cs hu => ?_
  apply wpS_seq
  apply wpS_region
  simp [wpOpsS, go_sem, recoverD, hu, Tryz.ntmps97, Exit.thenS]
  change Code.wpS _ _ _ { tmps := #[.pointer (some p), .iface 29 (.int .i64 c), .iface 29 (.int .i64 c), undef, undef, undef, undef], defers := [] } _ _
  refine wpS_of_wp ?_
  go_wp2_with (go_at_call 98; refine (refusal_any _ _).mono ?_; rintro e w1 ⟨rfl, hb1⟩; have hc1 := (hb1.cell hlt).trans hc; have hz1 := (hb1.frozen hlt).trans hz)
  cases c₀
  simp_all [bodyPostS, results, Tryz.results97]
  exact ⟨w1, hb1, rfl⟩

theorem catch_idleI (p : Addr) (w : World) :
    CallsD Tryz.prog 118 #[.pointer (some p)] .returning w fun e u' w' => e = .returned (.tuple #[]) ∧ u' = .returning ∧ w' = w := by
  have hne : ∀ w : World, (binOp .neq 20 .nilIface .nilIface).run Tryz.prog w = .ok (.bool false) w := fun _ => by kernel_rfl
  refine callsD_of_wpS Tryz.func118 rfl fun c₀ cs hu => ?_
  apply wpS_seq
  apply wpS_region
  simp [wpOpsS, go_sem, recoverD, hu, Tryz.ntmps118, Exit.thenS]
  change Code.wpS _ _ _ { tmps := #[.pointer (some p), .nilIface, .nilIface, undef, undef, undef, undef], defers := [] } _ _
  refine wpS_of_wp ?_
  go_wp2
  cases c₀
  simp_all [bodyPostS, results, Tryz.results118]
theorem catch_panI (p : Addr) (v c : Int) (w : World) (hc : w.cell? p = some (.int .i64 v)) (hz : w.frozen? p = false) :
    CallsD Tryz.prog 118 #[.pointer (some p)] (.panicking [{ v := .iface 29 (.int .i64 c), recovered := false }]) w fun e u' w' =>
      e = .returned (.tuple #[]) ∧ u' = .panicking [{ v := .iface 29 (.int .i64 c), recovered := true }] ∧ ∃ w1, Below w.heap.size w w1 ∧ w' = w1.setCell p (.int .i64 c) := by
  have hlt := World.block_lt_of_cell? w _ hc
  have hne : ∀ w : World, (binOp .neq 20 (.iface 29 (.int .i64 c)) .nilIface).run Tryz.prog w = .ok (.bool true) w := fun _ => by kernel_rfl
  refine callsD_of_wpS Tryz.func118 rfl fun c₀ cs hu => ?_
  apply wpS_seq
  apply wpS_region
  simp [wpOpsS, go_sem, recoverD, hu, Tryz.ntmps118, Exit.thenS]
  change Code.wpS _ _ _ { tmps := #[.pointer (some p), .iface 29 (.int .i64 c), .iface 29 (.int .i64 c), undef, undef, undef, undef], defers := [] } _ _
  refine wpS_of_wp ?_
  go_wp2_with (go_at_call 98; refine (refusal_any _ _).mono ?_; rintro e w1 ⟨rfl, hb1⟩; have hc1 := (hb1.cell hlt).trans hc; have hz1 := (hb1.frozen hlt).trans hz)
  cases c₀
  simp_all [bodyPostS, results, Tryz.results118]
  exact ⟨w1, hb1, rfl⟩
theorem catch_idleB (p : Addr) (w : World) :
    CallsD Tryz.prog 138 #[.pointer (some p)] .returning w fun e u' w' => e = .returned (.tuple #[]) ∧ u' = .returning ∧ w' = w := by
  have hne : ∀ w : World, (binOp .neq 20 .nilIface .nilIface).run Tryz.prog w = .ok (.bool false) w := fun _ => by kernel_rfl
  refine callsD_of_wpS Tryz.func138 rfl fun c₀ cs hu => ?_
  apply wpS_seq
  apply wpS_region
  simp [wpOpsS, go_sem, recoverD, hu, Tryz.ntmps138, Exit.thenS]
  change Code.wpS _ _ _ { tmps := #[.pointer (some p), .nilIface, .nilIface, undef, undef, undef, undef], defers := [] } _ _
  refine wpS_of_wp ?_
  go_wp2
  cases c₀
  simp_all [bodyPostS, results, Tryz.results138]
theorem catch_panB (p : Addr) (v c : Int) (w : World) (hc : w.cell? p = some (.int .i64 v)) (hz : w.frozen? p = false) :
    CallsD Tryz.prog 138 #[.pointer (some p)] (.panicking [{ v := .iface 29 (.int .i64 c), recovered := false }]) w fun e u' w' =>
      e = .returned (.tuple #[]) ∧ u' = .panicking [{ v := .iface 29 (.int .i64 c), recovered := true }] ∧ ∃ w1, Below w.heap.size w w1 ∧ w' = w1.setCell p (.int .i64 c) := by
  have hlt := World.block_lt_of_cell? w _ hc
  have hne : ∀ w : World, (binOp .neq 20 (.iface 29 (.int .i64 c)) .nilIface).run Tryz.prog w = .ok (.bool true) w := fun _ => by kernel_rfl
  refine callsD_of_wpS Tryz.func138 rfl fun c₀ cs hu => ?_
  apply wpS_seq
  apply wpS_region
  simp [wpOpsS, go_sem, recoverD, hu, Tryz.ntmps138, Exit.thenS]
  change Code.wpS _ _ _ { tmps := #[.pointer (some p), .iface 29 (.int .i64 c), .iface 29 (.int .i64 c), undef, undef, undef, undef], defers := [] } _ _
  refine wpS_of_wp ?_
  go_wp2_with (go_at_call 98; refine (refusal_any _ _).mono ?_; rintro e w1 ⟨rfl, hb1⟩; have hc1 := (hb1.cell hlt).trans hc; have hz1 := (hb1.frozen hlt).trans hz)
  cases c₀
  simp_all [bodyPostS, results, Tryz.results138]
  exact ⟨w1, hb1, rfl⟩

theorem catch_idleW (p : Addr) (w : World) :
    CallsD Tryz.prog 123 #[.pointer (some p)] .returning w fun e u' w' => e = .returned (.tuple #[]) ∧ u' = .returning ∧ w' = w := by
  have hne : ∀ w : World, (binOp .neq 20 .nilIface .nilIface).run Tryz.prog w = .ok (.bool false) w := fun _ => by kernel_rfl
  refine callsD_of_wpS Tryz.func123 rfl fun c₀ cs hu => ?_
  apply wpS_seq
  apply wpS_region
  simp [wpOpsS, go_sem, recoverD, hu, Tryz.ntmps123, Exit.thenS]
  change Code.wpS _ _ _ { tmps := #[.pointer (some p), .nilIface, .nilIface, undef, undef, undef, undef], defers := [] } _ _
  refine wpS_of_wp ?_
  go_wp2
  cases c₀
  simp_all [bodyPostS, results, Tryz.results123]
theorem catch_panW (p : Addr) (v c : Int) (w : World) (hc : w.cell? p = some (.int .i64 v)) (hz : w.frozen? p = false) :
    CallsD Tryz.prog 123 #[.pointer (some p)] (.panicking [{ v := .iface 29 (.int .i64 c), recovered := false }]) w fun e u' w' =>
      e = .returned (.tuple #[]) ∧ u' = .panicking [{ v := .iface 29 (.int .i64 c), recovered := true }] ∧ ∃ w1, Below w.heap.size w w1 ∧ w' = w1.setCell p (.int .i64 c) := by
  have hlt := World.block_lt_of_cell? w _ hc
  have hne : ∀ w : World, (binOp .neq 20 (.iface 29 (.int .i64 c)) .nilIface).run Tryz.prog w = .ok (.bool true) w := fun _ => by kernel_rfl
  refine callsD_of_wpS Tryz.func123 rfl fun c₀ cs hu => ?_
  apply wpS_seq
  apply wpS_region
  simp [wpOpsS, go_sem, recoverD, hu, Tryz.ntmps123, Exit.thenS]
  change Code.wpS _ _ _ { tmps := #[.pointer (some p), .iface 29 (.int .i64 c), .iface 29 (.int .i64 c), undef, undef, undef, undef], defers := [] } _ _
  refine wpS_of_wp ?_
  go_wp2_with (go_at_call 98; refine (refusal_any _ _).mono ?_; rintro e w1 ⟨rfl, hb1⟩; have hc1 := (hb1.cell hlt).trans hc; have hz1 := (hb1.frozen hlt).trans hz)
  cases c₀
  simp_all [bodyPostS, results, Tryz.results123]
  exact ⟨w1, hb1, rfl⟩


set_option maxRecDepth 100000 in
set_option maxHeartbeats 1000000 in
theorem answer_ok (F : Nat) (caps : Array Value) (v0 v1 : Int) (w : World) (hcall : ∀ w : World, (callFunc F caps).run Tryz.prog w = .ok (.enter F caps) w) (h : ∀ Y, Below w.heap.size w Y → Calls Tryz.prog F caps Y (Ret (.agg #[.int .i64 v0, .int .i64 v1]) Y)) :
    Calls Tryz.prog 34 #[.func (.func F) #[] caps] w (Ret (.tuple #[.agg #[.int .i64 v0, .int .i64 v1], .int .i64 0]) w) := by
  have H := Lib.hid h; clear h
  have hmf : ∀ (fn : Fn) (first cap : Array Value) (w : World), (Instr.makeFunc fn first cap).run Tryz.prog w = .ok (.func fn first cap) w := fun _ _ _ _ => rfl
  go_enter_defers Tryz.func34, Tryz.ntmps34
  go_wp2_with fail
  obtain ⟨W, hW⟩ : ∃ W, (w.alloc (Obj.cells #[Value.int IntKind.i64 0, Value.int IntKind.i64 0] 23)).alloc (Obj.cells #[Value.int IntKind.i64 0] 29) = W := ⟨_, rfl⟩
  have s0 : W.heap.size = w.heap.size + 2 := by rw [← hW]; simp
  have c0 : W.cell? ⟨w.heap.size, 0, none⟩ = some (.int .i64 0) := by rw [← hW]; simp [go_sem]
  have c1 : W.cell? ⟨w.heap.size, 1, none⟩ = some (.int .i64 0) := by rw [← hW]; simp [go_sem]
  have f0 : W.frozen? ⟨w.heap.size, 0, none⟩ = false := by rw [← hW, World.frozen?_alloc_old _ _ _ (by simp)]; simp
  have f1 : W.frozen? ⟨w.heap.size, 1, none⟩ = false := by rw [← hW, World.frozen?_alloc_old _ _ _ (by simp)]; simp
  have d0 : W.cell? ⟨w.heap.size + 1, 0, none⟩ = some (.int .i64 0) := by rw [← hW]; simp [go_sem]
  have g0 : W.frozen? ⟨w.heap.size + 1, 0, none⟩ = false := by rw [← hW, show w.heap.size + 1 = (w.alloc (Obj.cells #[Value.int IntKind.i64 0, Value.int IntKind.i64 0] 23)).heap.size by simp]; exact World.frozen?_alloc_new _ _ _ _
  have hBW : Below w.heap.size w W := by rw [← hW]; (repeat (first | assumption | exact Below.refl _ _ | refine BA ?_ _ | refine BC ?_ _ _ (by omega) _ | refine Below.drew ?_ | refine BT ?_ (by assumption)))
  rw [hW]
  clear hW
  refine (H.out W hBW).mono ?_
  rintro e w1 ⟨rfl, hb1⟩
  have z0 : w.heap.size < W.heap.size := by omega
  have z1 : w.heap.size + 1 < W.heap.size := by omega
  have c0 := (hb1.cell (p := ⟨w.heap.size, 0, none⟩) z0).trans c0
  have c1 := (hb1.cell (p := ⟨w.heap.size, 1, none⟩) z0).trans c1
  have f0 := (hb1.frozen (p := ⟨w.heap.size, 0, none⟩) z0).trans f0
  have f1 := (hb1.frozen (p := ⟨w.heap.size, 1, none⟩) z0).trans f1
  have d0 := (hb1.cell (p := ⟨w.heap.size + 1, 0, none⟩) z1).trans d0
  have g0 := (hb1.frozen (p := ⟨w.heap.size + 1, 0, none⟩) z1).trans g0
  have hB := BT hBW hb1
  clear H
  go_wp2
  refine leaves_cons (f := 97) (args := #[.pointer (some ⟨w.heap.size + 1, 0, none⟩)]) (by simp) (by simp [go_sem]) ?_
  refine (catch_idle ⟨w.heap.size + 1, 0, none⟩ _).mono ?_
  rintro e u' w'' ⟨rfl, rfl, rfl⟩
  refine ⟨.tuple #[.agg #[.int .i64 v0, .int .i64 v1], .int .i64 0], by simp [results, Tryz.results34, go_sem, c0, c1, d0], rfl, ?_⟩
  (repeat (first | assumption | exact Below.refl _ _ | refine BA ?_ _ | refine BC ?_ _ _ (by omega) _ | refine Below.drew ?_ | refine BT ?_ (by assumption)))
set_option maxRecDepth 100000 in
set_option maxRecDepth 100000 in
set_option maxHeartbeats 1000000 in
theorem answer_err (F : Nat) (caps : Array Value) (c : Int) (w : World) (hcall : ∀ w : World, (callFunc F caps).run Tryz.prog w = .ok (.enter F caps) w) (h : ∀ Y, Below w.heap.size w Y → Calls Tryz.prog F caps Y (Pan c Y)) :
    Calls Tryz.prog 34 #[.func (.func F) #[] caps] w (Ret (.tuple #[.agg #[.int .i64 0, .int .i64 0], .int .i64 c]) w) := by
  have H := Lib.hid h; clear h
  have hmf : ∀ (fn : Fn) (first cap : Array Value) (w : World), (Instr.makeFunc fn first cap).run Tryz.prog w = .ok (.func fn first cap) w := fun _ _ _ _ => rfl
  go_enter_defers Tryz.func34, Tryz.ntmps34
  go_wp2_with fail
  obtain ⟨W, hW⟩ : ∃ W, (w.alloc (Obj.cells #[Value.int IntKind.i64 0, Value.int IntKind.i64 0] 23)).alloc (Obj.cells #[Value.int IntKind.i64 0] 29) = W := ⟨_, rfl⟩
  have s0 : W.heap.size = w.heap.size + 2 := by rw [← hW]; simp
  have c0 : W.cell? ⟨w.heap.size, 0, none⟩ = some (.int .i64 0) := by rw [← hW]; simp [go_sem]
  have c1 : W.cell? ⟨w.heap.size, 1, none⟩ = some (.int .i64 0) := by rw [← hW]; simp [go_sem]
  have f0 : W.frozen? ⟨w.heap.size, 0, none⟩ = false := by rw [← hW, World.frozen?_alloc_old _ _ _ (by simp)]; simp
  have f1 : W.frozen? ⟨w.heap.size, 1, none⟩ = false := by rw [← hW, World.frozen?_alloc_old _ _ _ (by simp)]; simp
  have d0 : W.cell? ⟨w.heap.size + 1, 0, none⟩ = some (.int .i64 0) := by rw [← hW]; simp [go_sem]
  have g0 : W.frozen? ⟨w.heap.size + 1, 0, none⟩ = false := by rw [← hW, show w.heap.size + 1 = (w.alloc (Obj.cells #[Value.int IntKind.i64 0, Value.int IntKind.i64 0] 23)).heap.size by simp]; exact World.frozen?_alloc_new _ _ _ _
  have hBW : Below w.heap.size w W := by rw [← hW]; (repeat (first | assumption | exact Below.refl _ _ | refine BA ?_ _ | refine BC ?_ _ _ (by omega) _ | refine Below.drew ?_ | refine BT ?_ (by assumption)))
  rw [hW]
  clear hW
  refine (H.out W hBW).mono ?_
  rintro e w1 ⟨rfl, hb1⟩
  have z0 : w.heap.size < W.heap.size := by omega
  have z1 : w.heap.size + 1 < W.heap.size := by omega
  have c0 := (hb1.cell (p := ⟨w.heap.size, 0, none⟩) z0).trans c0
  have c1 := (hb1.cell (p := ⟨w.heap.size, 1, none⟩) z0).trans c1
  have f0 := (hb1.frozen (p := ⟨w.heap.size, 0, none⟩) z0).trans f0
  have f1 := (hb1.frozen (p := ⟨w.heap.size, 1, none⟩) z0).trans f1
  have d0 := (hb1.cell (p := ⟨w.heap.size + 1, 0, none⟩) z1).trans d0
  have g0 := (hb1.frozen (p := ⟨w.heap.size + 1, 0, none⟩) z1).trans g0
  have hB := BT hBW hb1
  refine leaves_cons (f := 97) (args := #[.pointer (some ⟨w.heap.size + 1, 0, none⟩)]) (by simp) (by simp [go_sem]) ?_
  refine (catch_pan ⟨w.heap.size + 1, 0, none⟩ 0 c _ d0 g0).mono ?_
  rintro e u' w'' ⟨rfl, rfl, w2, hb2, rfl⟩
  have e0 := (hb2.cell (p := ⟨w.heap.size, 0, none⟩) (World.block_lt_of_cell? _ _ c0)).trans c0
  have e1 := (hb2.cell (p := ⟨w.heap.size, 1, none⟩) (World.block_lt_of_cell? _ _ c1)).trans c1
  have d2 := (hb2.cell (p := ⟨w.heap.size + 1, 0, none⟩) (World.block_lt_of_cell? _ _ d0)).trans d0
  refine ⟨.tuple #[.agg #[.int .i64 0, .int .i64 0], .int .i64 c], by simp [results, Tryz.results34, go_sem, e0, e1, d2], rfl, ?_⟩
  (repeat (first | assumption | exact Below.refl _ _ | refine BA ?_ _ | refine BC ?_ _ _ (by omega) _ | refine Below.drew ?_ | refine BT ?_ (by assumption)))
set_option maxRecDepth 100000 in
set_option maxHeartbeats 1000000 in
theorem answerB_ok (F : Nat) (caps : Array Value) (v0 v1 v2 v3 : Int) (w : World) (hcall : ∀ w : World, (callFunc F caps).run Tryz.prog w = .ok (.enter F caps) w) (h : ∀ Y, Below w.heap.size w Y → Calls Tryz.prog F caps Y (Ret (.agg #[.int .i64 v0, .int .i64 v1, .int .i64 v2, .int .i64 v3]) Y)) :
    Calls Tryz.prog 104 #[.func (.func F) #[] caps] w (Ret (.tuple #[.agg #[.int .i64 v0, .int .i64 v1, .int .i64 v2, .int .i64 v3], .int .i64 0]) w) := by
  have H := Lib.hid h; clear h
  have hmf : ∀ (fn : Fn) (first cap : Array Value) (w : World), (Instr.makeFunc fn first cap).run Tryz.prog w = .ok (.func fn first cap) w := fun _ _ _ _ => rfl
  go_enter_defers Tryz.func104, Tryz.ntmps104
  go_wp2_with fail
  obtain ⟨W, hW⟩ : ∃ W, (w.alloc (Obj.cells #[Value.int IntKind.i64 0, Value.int IntKind.i64 0, Value.int IntKind.i64 0, Value.int IntKind.i64 0] 81)).alloc (Obj.cells #[Value.int IntKind.i64 0] 29) = W := ⟨_, rfl⟩
  have s0 : W.heap.size = w.heap.size + 2 := by rw [← hW]; simp
  have c0 : W.cell? ⟨w.heap.size, 0, none⟩ = some (.int .i64 0) := by rw [← hW]; simp [go_sem]
  have c1 : W.cell? ⟨w.heap.size, 1, none⟩ = some (.int .i64 0) := by rw [← hW]; simp [go_sem]
  have c2 : W.cell? ⟨w.heap.size, 2, none⟩ = some (.int .i64 0) := by rw [← hW]; simp [go_sem]
  have c3 : W.cell? ⟨w.heap.size, 3, none⟩ = some (.int .i64 0) := by rw [← hW]; simp [go_sem]
  have f0 : W.frozen? ⟨w.heap.size, 0, none⟩ = false := by rw [← hW, World.frozen?_alloc_old _ _ _ (by simp)]; simp
  have f1 : W.frozen? ⟨w.heap.size, 1, none⟩ = false := by rw [← hW, World.frozen?_alloc_old _ _ _ (by simp)]; simp
  have f2 : W.frozen? ⟨w.heap.size, 2, none⟩ = false := by rw [← hW, World.frozen?_alloc_old _ _ _ (by simp)]; simp
  have f3 : W.frozen? ⟨w.heap.size, 3, none⟩ = false := by rw [← hW, World.frozen?_alloc_old _ _ _ (by simp)]; simp
  have d0 : W.cell? ⟨w.heap.size + 1, 0, none⟩ = some (.int .i64 0) := by rw [← hW]; simp [go_sem]
  have g0 : W.frozen? ⟨w.heap.size + 1, 0, none⟩ = false := by rw [← hW, show w.heap.size + 1 = (w.alloc (Obj.cells #[Value.int IntKind.i64 0, Value.int IntKind.i64 0, Value.int IntKind.i64 0, Value.int IntKind.i64 0] 81)).heap.size by simp]; exact World.frozen?_alloc_new _ _ _ _
  have hBW : Below w.heap.size w W := by rw [← hW]; (repeat (first | assumption | exact Below.refl _ _ | refine BA ?_ _ | refine BC ?_ _ _ (by omega) _ | refine Below.drew ?_ | refine BT ?_ (by assumption)))
  rw [hW]
  clear hW
  refine (H.out W hBW).mono ?_
  rintro e w1 ⟨rfl, hb1⟩
  have z0 : w.heap.size < W.heap.size := by omega
  have z1 : w.heap.size + 1 < W.heap.size := by omega
  have c0 := (hb1.cell (p := ⟨w.heap.size, 0, none⟩) z0).trans c0
  have c1 := (hb1.cell (p := ⟨w.heap.size, 1, none⟩) z0).trans c1
  have c2 := (hb1.cell (p := ⟨w.heap.size, 2, none⟩) z0).trans c2
  have c3 := (hb1.cell (p := ⟨w.heap.size, 3, none⟩) z0).trans c3
  have f0 := (hb1.frozen (p := ⟨w.heap.size, 0, none⟩) z0).trans f0
  have f1 := (hb1.frozen (p := ⟨w.heap.size, 1, none⟩) z0).trans f1
  have f2 := (hb1.frozen (p := ⟨w.heap.size, 2, none⟩) z0).trans f2
  have f3 := (hb1.frozen (p := ⟨w.heap.size, 3, none⟩) z0).trans f3
  have d0 := (hb1.cell (p := ⟨w.heap.size + 1, 0, none⟩) z1).trans d0
  have g0 := (hb1.frozen (p := ⟨w.heap.size + 1, 0, none⟩) z1).trans g0
  have hB := BT hBW hb1
  clear H
  go_wp2
  refine leaves_cons (f := 138) (args := #[.pointer (some ⟨w.heap.size + 1, 0, none⟩)]) (by simp) (by simp [go_sem]) ?_
  refine (catch_idleB ⟨w.heap.size + 1, 0, none⟩ _).mono ?_
  rintro e u' w'' ⟨rfl, rfl, rfl⟩
  refine ⟨.tuple #[.agg #[.int .i64 v0, .int .i64 v1, .int .i64 v2, .int .i64 v3], .int .i64 0], by simp [results, Tryz.results104, go_sem, c0, c1, c2, c3, d0], rfl, ?_⟩
  (repeat (first | assumption | exact Below.refl _ _ | refine BA ?_ _ | refine BC ?_ _ _ (by omega) _ | refine Below.drew ?_ | refine BT ?_ (by assumption)))
set_option maxRecDepth 100000 in
set_option maxRecDepth 100000 in
set_option maxHeartbeats 1000000 in
theorem answerB_err (F : Nat) (caps : Array Value) (c : Int) (w : World) (hcall : ∀ w : World, (callFunc F caps).run Tryz.prog w = .ok (.enter F caps) w) (h : ∀ Y, Below w.heap.size w Y → Calls Tryz.prog F caps Y (Pan c Y)) :
    Calls Tryz.prog 104 #[.func (.func F) #[] caps] w (Ret (.tuple #[.agg #[.int .i64 0, .int .i64 0, .int .i64 0, .int .i64 0], .int .i64 c]) w) := by
  have H := Lib.hid h; clear h
  have hmf : ∀ (fn : Fn) (first cap : Array Value) (w : World), (Instr.makeFunc fn first cap).run Tryz.prog w = .ok (.func fn first cap) w := fun _ _ _ _ => rfl
  go_enter_defers Tryz.func104, Tryz.ntmps104
  go_wp2_with fail
  obtain ⟨W, hW⟩ : ∃ W, (w.alloc (Obj.cells #[Value.int IntKind.i64 0, Value.int IntKind.i64 0, Value.int IntKind.i64 0, Value.int IntKind.i64 0] 81)).alloc (Obj.cells #[Value.int IntKind.i64 0] 29) = W := ⟨_, rfl⟩
  have s0 : W.heap.size = w.heap.size + 2 := by rw [← hW]; simp
  have c0 : W.cell? ⟨w.heap.size, 0, none⟩ = some (.int .i64 0) := by rw [← hW]; simp [go_sem]
  have c1 : W.cell? ⟨w.heap.size, 1, none⟩ = some (.int .i64 0) := by rw [← hW]; simp [go_sem]
  have c2 : W.cell? ⟨w.heap.size, 2, none⟩ = some (.int .i64 0) := by rw [← hW]; simp [go_sem]
  have c3 : W.cell? ⟨w.heap.size, 3, none⟩ = some (.int .i64 0) := by rw [← hW]; simp [go_sem]
  have f0 : W.frozen? ⟨w.heap.size, 0, none⟩ = false := by rw [← hW, World.frozen?_alloc_old _ _ _ (by simp)]; simp
  have f1 : W.frozen? ⟨w.heap.size, 1, none⟩ = false := by rw [← hW, World.frozen?_alloc_old _ _ _ (by simp)]; simp
  have f2 : W.frozen? ⟨w.heap.size, 2, none⟩ = false := by rw [← hW, World.frozen?_alloc_old _ _ _ (by simp)]; simp
  have f3 : W.frozen? ⟨w.heap.size, 3, none⟩ = false := by rw [← hW, World.frozen?_alloc_old _ _ _ (by simp)]; simp
  have d0 : W.cell? ⟨w.heap.size + 1, 0, none⟩ = some (.int .i64 0) := by rw [← hW]; simp [go_sem]
  have g0 : W.frozen? ⟨w.heap.size + 1, 0, none⟩ = false := by rw [← hW, show w.heap.size + 1 = (w.alloc (Obj.cells #[Value.int IntKind.i64 0, Value.int IntKind.i64 0, Value.int IntKind.i64 0, Value.int IntKind.i64 0] 81)).heap.size by simp]; exact World.frozen?_alloc_new _ _ _ _
  have hBW : Below w.heap.size w W := by rw [← hW]; (repeat (first | assumption | exact Below.refl _ _ | refine BA ?_ _ | refine BC ?_ _ _ (by omega) _ | refine Below.drew ?_ | refine BT ?_ (by assumption)))
  rw [hW]
  clear hW
  refine (H.out W hBW).mono ?_
  rintro e w1 ⟨rfl, hb1⟩
  have z0 : w.heap.size < W.heap.size := by omega
  have z1 : w.heap.size + 1 < W.heap.size := by omega
  have c0 := (hb1.cell (p := ⟨w.heap.size, 0, none⟩) z0).trans c0
  have c1 := (hb1.cell (p := ⟨w.heap.size, 1, none⟩) z0).trans c1
  have c2 := (hb1.cell (p := ⟨w.heap.size, 2, none⟩) z0).trans c2
  have c3 := (hb1.cell (p := ⟨w.heap.size, 3, none⟩) z0).trans c3
  have f0 := (hb1.frozen (p := ⟨w.heap.size, 0, none⟩) z0).trans f0
  have f1 := (hb1.frozen (p := ⟨w.heap.size, 1, none⟩) z0).trans f1
  have f2 := (hb1.frozen (p := ⟨w.heap.size, 2, none⟩) z0).trans f2
  have f3 := (hb1.frozen (p := ⟨w.heap.size, 3, none⟩) z0).trans f3
  have d0 := (hb1.cell (p := ⟨w.heap.size + 1, 0, none⟩) z1).trans d0
  have g0 := (hb1.frozen (p := ⟨w.heap.size + 1, 0, none⟩) z1).trans g0
  have hB := BT hBW hb1
  refine leaves_cons (f := 138) (args := #[.pointer (some ⟨w.heap.size + 1, 0, none⟩)]) (by simp) (by simp [go_sem]) ?_
  refine (catch_panB ⟨w.heap.size + 1, 0, none⟩ 0 c _ d0 g0).mono ?_
  rintro e u' w'' ⟨rfl, rfl, w2, hb2, rfl⟩
  have e0 := (hb2.cell (p := ⟨w.heap.size, 0, none⟩) (World.block_lt_of_cell? _ _ c0)).trans c0
  have e1 := (hb2.cell (p := ⟨w.heap.size, 1, none⟩) (World.block_lt_of_cell? _ _ c1)).trans c1
  have e2 := (hb2.cell (p := ⟨w.heap.size, 2, none⟩) (World.block_lt_of_cell? _ _ c2)).trans c2
  have e3 := (hb2.cell (p := ⟨w.heap.size, 3, none⟩) (World.block_lt_of_cell? _ _ c3)).trans c3
  have d2 := (hb2.cell (p := ⟨w.heap.size + 1, 0, none⟩) (World.block_lt_of_cell? _ _ d0)).trans d0
  refine ⟨.tuple #[.agg #[.int .i64 0, .int .i64 0, .int .i64 0, .int .i64 0], .int .i64 c], by simp [results, Tryz.results104, go_sem, e0, e1, e2, e3, d2], rfl, ?_⟩
  (repeat (first | assumption | exact Below.refl _ _ | refine BA ?_ _ | refine BC ?_ _ _ (by omega) _ | refine Below.drew ?_ | refine BT ?_ (by assumption)))
set_option maxRecDepth 100000 in
set_option maxHeartbeats 1000000 in
theorem answerW_ok (F : Nat) (caps : Array Value) (v0 v1 : Int) (w : World) (hcall : ∀ w : World, (callFunc F caps).run Tryz.prog w = .ok (.enter F caps) w) (h : ∀ Y, Below w.heap.size w Y → Calls Tryz.prog F caps Y (Ret (.agg #[.int .i64 v0, .int .i64 v1]) Y)) :
    Calls Tryz.prog 78 #[.func (.func F) #[] caps] w (Ret (.tuple #[.agg #[.int .i64 v0, .int .i64 v1], .int .i64 0]) w) := by
  have H := Lib.hid h; clear h
  have hmf : ∀ (fn : Fn) (first cap : Array Value) (w : World), (Instr.makeFunc fn first cap).run Tryz.prog w = .ok (.func fn first cap) w := fun _ _ _ _ => rfl
  go_enter_defers Tryz.func78, Tryz.ntmps78
  go_wp2_with fail
  obtain ⟨W, hW⟩ : ∃ W, (w.alloc (Obj.cells #[Value.int IntKind.i64 0, Value.int IntKind.i64 0] 107)).alloc (Obj.cells #[Value.int IntKind.i64 0] 29) = W := ⟨_, rfl⟩
  have s0 : W.heap.size = w.heap.size + 2 := by rw [← hW]; simp
  have c0 : W.cell? ⟨w.heap.size, 0, none⟩ = some (.int .i64 0) := by rw [← hW]; simp [go_sem]
  have c1 : W.cell? ⟨w.heap.size, 1, none⟩ = some (.int .i64 0) := by rw [← hW]; simp [go_sem]
  have f0 : W.frozen? ⟨w.heap.size, 0, none⟩ = false := by rw [← hW, World.frozen?_alloc_old _ _ _ (by simp)]; simp
  have f1 : W.frozen? ⟨w.heap.size, 1, none⟩ = false := by rw [← hW, World.frozen?_alloc_old _ _ _ (by simp)]; simp
  have d0 : W.cell? ⟨w.heap.size + 1, 0, none⟩ = some (.int .i64 0) := by rw [← hW]; simp [go_sem]
  have g0 : W.frozen? ⟨w.heap.size + 1, 0, none⟩ = false := by rw [← hW, show w.heap.size + 1 = (w.alloc (Obj.cells #[Value.int IntKind.i64 0, Value.int IntKind.i64 0] 107)).heap.size by simp]; exact World.frozen?_alloc_new _ _ _ _
  have hBW : Below w.heap.size w W := by rw [← hW]; (repeat (first | assumption | exact Below.refl _ _ | refine BA ?_ _ | refine BC ?_ _ _ (by omega) _ | refine Below.drew ?_ | refine BT ?_ (by assumption)))
  rw [hW]
  clear hW
  refine (H.out W hBW).mono ?_
  rintro e w1 ⟨rfl, hb1⟩
  have z0 : w.heap.size < W.heap.size := by omega
  have z1 : w.heap.size + 1 < W.heap.size := by omega
  have c0 := (hb1.cell (p := ⟨w.heap.size, 0, none⟩) z0).trans c0
  have c1 := (hb1.cell (p := ⟨w.heap.size, 1, none⟩) z0).trans c1
  have f0 := (hb1.frozen (p := ⟨w.heap.size, 0, none⟩) z0).trans f0
  have f1 := (hb1.frozen (p := ⟨w.heap.size, 1, none⟩) z0).trans f1
  have d0 := (hb1.cell (p := ⟨w.heap.size + 1, 0, none⟩) z1).trans d0
  have g0 := (hb1.frozen (p := ⟨w.heap.size + 1, 0, none⟩) z1).trans g0
  have hB := BT hBW hb1
  clear H
  go_wp2
  refine leaves_cons (f := 123) (args := #[.pointer (some ⟨w.heap.size + 1, 0, none⟩)]) (by simp) (by simp [go_sem]) ?_
  refine (catch_idleW ⟨w.heap.size + 1, 0, none⟩ _).mono ?_
  rintro e u' w'' ⟨rfl, rfl, rfl⟩
  refine ⟨.tuple #[.agg #[.int .i64 v0, .int .i64 v1], .int .i64 0], by simp [results, Tryz.results78, go_sem, c0, c1, d0], rfl, ?_⟩
  (repeat (first | assumption | exact Below.refl _ _ | refine BA ?_ _ | refine BC ?_ _ _ (by omega) _ | refine Below.drew ?_ | refine BT ?_ (by assumption)))
set_option maxRecDepth 100000 in
set_option maxRecDepth 100000 in
set_option maxHeartbeats 1000000 in
theorem answerW_err (F : Nat) (caps : Array Value) (c : Int) (w : World) (hcall : ∀ w : World, (callFunc F caps).run Tryz.prog w = .ok (.enter F caps) w) (h : ∀ Y, Below w.heap.size w Y → Calls Tryz.prog F caps Y (Pan c Y)) :
    Calls Tryz.prog 78 #[.func (.func F) #[] caps] w (Ret (.tuple #[.agg #[.int .i64 0, .int .i64 0], .int .i64 c]) w) := by
  have H := Lib.hid h; clear h
  have hmf : ∀ (fn : Fn) (first cap : Array Value) (w : World), (Instr.makeFunc fn first cap).run Tryz.prog w = .ok (.func fn first cap) w := fun _ _ _ _ => rfl
  go_enter_defers Tryz.func78, Tryz.ntmps78
  go_wp2_with fail
  obtain ⟨W, hW⟩ : ∃ W, (w.alloc (Obj.cells #[Value.int IntKind.i64 0, Value.int IntKind.i64 0] 107)).alloc (Obj.cells #[Value.int IntKind.i64 0] 29) = W := ⟨_, rfl⟩
  have s0 : W.heap.size = w.heap.size + 2 := by rw [← hW]; simp
  have c0 : W.cell? ⟨w.heap.size, 0, none⟩ = some (.int .i64 0) := by rw [← hW]; simp [go_sem]
  have c1 : W.cell? ⟨w.heap.size, 1, none⟩ = some (.int .i64 0) := by rw [← hW]; simp [go_sem]
  have f0 : W.frozen? ⟨w.heap.size, 0, none⟩ = false := by rw [← hW, World.frozen?_alloc_old _ _ _ (by simp)]; simp
  have f1 : W.frozen? ⟨w.heap.size, 1, none⟩ = false := by rw [← hW, World.frozen?_alloc_old _ _ _ (by simp)]; simp
  have d0 : W.cell? ⟨w.heap.size + 1, 0, none⟩ = some (.int .i64 0) := by rw [← hW]; simp [go_sem]
  have g0 : W.frozen? ⟨w.heap.size + 1, 0, none⟩ = false := by rw [← hW, show w.heap.size + 1 = (w.alloc (Obj.cells #[Value.int IntKind.i64 0, Value.int IntKind.i64 0] 107)).heap.size by simp]; exact World.frozen?_alloc_new _ _ _ _
  have hBW : Below w.heap.size w W := by rw [← hW]; (repeat (first | assumption | exact Below.refl _ _ | refine BA ?_ _ | refine BC ?_ _ _ (by omega) _ | refine Below.drew ?_ | refine BT ?_ (by assumption)))
  rw [hW]
  clear hW
  refine (H.out W hBW).mono ?_
  rintro e w1 ⟨rfl, hb1⟩
  have z0 : w.heap.size < W.heap.size := by omega
  have z1 : w.heap.size + 1 < W.heap.size := by omega
  have c0 := (hb1.cell (p := ⟨w.heap.size, 0, none⟩) z0).trans c0
  have c1 := (hb1.cell (p := ⟨w.heap.size, 1, none⟩) z0).trans c1
  have f0 := (hb1.frozen (p := ⟨w.heap.size, 0, none⟩) z0).trans f0
  have f1 := (hb1.frozen (p := ⟨w.heap.size, 1, none⟩) z0).trans f1
  have d0 := (hb1.cell (p := ⟨w.heap.size + 1, 0, none⟩) z1).trans d0
  have g0 := (hb1.frozen (p := ⟨w.heap.size + 1, 0, none⟩) z1).trans g0
  have hB := BT hBW hb1
  refine leaves_cons (f := 123) (args := #[.pointer (some ⟨w.heap.size + 1, 0, none⟩)]) (by simp) (by simp [go_sem]) ?_
  refine (catch_panW ⟨w.heap.size + 1, 0, none⟩ 0 c _ d0 g0).mono ?_
  rintro e u' w'' ⟨rfl, rfl, w2, hb2, rfl⟩
  have e0 := (hb2.cell (p := ⟨w.heap.size, 0, none⟩) (World.block_lt_of_cell? _ _ c0)).trans c0
  have e1 := (hb2.cell (p := ⟨w.heap.size, 1, none⟩) (World.block_lt_of_cell? _ _ c1)).trans c1
  have d2 := (hb2.cell (p := ⟨w.heap.size + 1, 0, none⟩) (World.block_lt_of_cell? _ _ d0)).trans d0
  refine ⟨.tuple #[.agg #[.int .i64 0, .int .i64 0], .int .i64 c], by simp [results, Tryz.results78, go_sem, e0, e1, d2], rfl, ?_⟩
  (repeat (first | assumption | exact Below.refl _ _ | refine BA ?_ _ | refine BC ?_ _ _ (by omega) _ | refine Below.drew ?_ | refine BT ?_ (by assumption)))
set_option maxRecDepth 100000 in
set_option maxHeartbeats 1000000 in
theorem answerI_ok (F : Nat) (caps : Array Value) (v : Int) (w : World) (hcall : ∀ w : World, (callFunc F caps).run Tryz.prog w = .ok (.enter F caps) w) (h : ∀ Y, Below w.heap.size w Y → Calls Tryz.prog F caps Y (Ret (.int .i64 v) Y)) :
    Calls Tryz.prog 67 #[.func (.func F) #[] caps] w (Ret (.tuple #[.int .i64 v, .int .i64 0]) w) := by
  have H := Lib.hid h; clear h
  have hmf : ∀ (fn : Fn) (first cap : Array Value) (w : World), (Instr.makeFunc fn first cap).run Tryz.prog w = .ok (.func fn first cap) w := fun _ _ _ _ => rfl
  go_enter_defers Tryz.func67, Tryz.ntmps67
  go_wp2_with fail
  obtain ⟨W, hW⟩ : ∃ W, w.alloc (Obj.cells #[Value.int IntKind.i64 0] 29) = W := ⟨_, rfl⟩
  have s0 : W.heap.size = w.heap.size + 1 := by rw [← hW]; simp
  have d0 : W.cell? ⟨w.heap.size, 0, none⟩ = some (.int .i64 0) := by rw [← hW]; simp [go_sem]
  have g0 : W.frozen? ⟨w.heap.size, 0, none⟩ = false := by rw [← hW]; exact World.frozen?_alloc_new _ _ _ _
  have hBW : Below w.heap.size w W := by rw [← hW]; (repeat (first | assumption | exact Below.refl _ _ | refine BA ?_ _ | refine BC ?_ _ _ (by omega) _ | refine Below.drew ?_ | refine BT ?_ (by assumption)))
  rw [hW]
  clear hW
  refine (H.out W hBW).mono ?_
  rintro e w1 ⟨rfl, hb1⟩
  have z1 : w.heap.size < W.heap.size := by omega
  have d0 := (hb1.cell (p := ⟨w.heap.size, 0, none⟩) z1).trans d0
  have g0 := (hb1.frozen (p := ⟨w.heap.size, 0, none⟩) z1).trans g0
  have hB := BT hBW hb1
  clear H
  go_wp2
  refine leaves_cons (f := 118) (args := #[.pointer (some ⟨w.heap.size, 0, none⟩)]) (by simp) (by simp [go_sem]) ?_
  refine (catch_idleI ⟨w.heap.size, 0, none⟩ _).mono ?_
  rintro e u' w'' ⟨rfl, rfl, rfl⟩
  refine ⟨.tuple #[.int .i64 v, .int .i64 0], by simp [results, Tryz.results67, go_sem, d0], rfl, ?_⟩
  (repeat (first | assumption | exact Below.refl _ _ | refine BA ?_ _ | refine BC ?_ _ _ (by omega) _ | refine Below.drew ?_ | refine BT ?_ (by assumption)))
set_option maxRecDepth 100000 in
set_option maxHeartbeats 1000000 in
theorem answerI_err (F : Nat) (caps : Array Value) (c : Int) (w : World) (hcall : ∀ w : World, (callFunc F caps).run Tryz.prog w = .ok (.enter F caps) w) (h : ∀ Y, Below w.heap.size w Y → Calls Tryz.prog F caps Y (Pan c Y)) :
    Calls Tryz.prog 67 #[.func (.func F) #[] caps] w (Ret (.tuple #[.int .i64 0, .int .i64 c]) w) := by
  have H := Lib.hid h; clear h
  have hmf : ∀ (fn : Fn) (first cap : Array Value) (w : World), (Instr.makeFunc fn first cap).run Tryz.prog w = .ok (.func fn first cap) w := fun _ _ _ _ => rfl
  go_enter_defers Tryz.func67, Tryz.ntmps67
  go_wp2_with fail
  obtain ⟨W, hW⟩ : ∃ W, w.alloc (Obj.cells #[Value.int IntKind.i64 0] 29) = W := ⟨_, rfl⟩
  have s0 : W.heap.size = w.heap.size + 1 := by rw [← hW]; simp
  have d0 : W.cell? ⟨w.heap.size, 0, none⟩ = some (.int .i64 0) := by rw [← hW]; simp [go_sem]
  have g0 : W.frozen? ⟨w.heap.size, 0, none⟩ = false := by rw [← hW]; exact World.frozen?_alloc_new _ _ _ _
  have hBW : Below w.heap.size w W := by rw [← hW]; (repeat (first | assumption | exact Below.refl _ _ | refine BA ?_ _ | refine BC ?_ _ _ (by omega) _ | refine Below.drew ?_ | refine BT ?_ (by assumption)))
  rw [hW]
  clear hW
  refine (H.out W hBW).mono ?_
  rintro e w1 ⟨rfl, hb1⟩
  have z1 : w.heap.size < W.heap.size := by omega
  have d0 := (hb1.cell (p := ⟨w.heap.size, 0, none⟩) z1).trans d0
  have g0 := (hb1.frozen (p := ⟨w.heap.size, 0, none⟩) z1).trans g0
  have hB := BT hBW hb1
  refine leaves_cons (f := 118) (args := #[.pointer (some ⟨w.heap.size, 0, none⟩)]) (by simp) (by simp [go_sem]) ?_
  refine (catch_panI ⟨w.heap.size, 0, none⟩ 0 c _ d0 g0).mono ?_
  rintro e u' w'' ⟨rfl, rfl, w2, hb2, rfl⟩
  have d2 := (hb2.cell (p := ⟨w.heap.size, 0, none⟩) (World.block_lt_of_cell? _ _ d0)).trans d0
  refine ⟨.tuple #[.int .i64 0, .int .i64 c], by simp [results, Tryz.results67, go_sem, d2], rfl, ?_⟩
  (repeat (first | assumption | exact Below.refl _ _ | refine BA ?_ _ | refine BC ?_ _ _ (by omega) _ | refine Below.drew ?_ | refine BT ?_ (by assumption)))
end Go.Proofs.YtdkegkacpdkjgaaGreat
