/- Plate: what the package's functions answer. -/
import Derived.Test.YtdkegkacpdkjgaaGreatPfd
import Derived.Test.YtdkegkacpdkjgaaGreatPcd
import Derived.Test.YtdkegkacpdkjgaaGreatPsf
import Derived.Test.YtdkegkacpdkjgaaGreatPin
namespace Go.Proofs.YtdkegkacpdkjgaaGreat
open Go.RowKit Go.Maps

/-- An answer along both directions; a span; a number. -/
def repB : Except Int Value → Value
  | .ok v => (match v with | .agg x => .tuple #[.agg #[x.getD 0 .nilIface, x.getD 1 .nilIface], .agg #[x.getD 2 .nilIface, x.getD 3 .nilIface], .int .i64 0] | v => v)
  | .error c => .tuple #[.agg #[.int .i64 0, .int .i64 0], .agg #[.int .i64 0, .int .i64 0], .int .i64 c]
def repS : Except Int Value → Value
  | .ok v => .tuple #[v, .int .i64 0]
  | .error c => .tuple #[.agg #[.int .i64 0, .int .i64 0], .int .i64 c]
def repI : Except Int Value → Value
  | .ok v => .tuple #[v, .int .i64 0]
  | .error c => .tuple #[.int .i64 0, .int .i64 c]
def isOne (r : Except Int Value) : Prop := ∀ v, r = .ok v → ∃ a : Int, v = .int .i64 a
theorem repB_eq {r : Except Int Value} (h : isFour r) : ∃ a b c d e : Int, repB r = .tuple #[.agg #[.int .i64 a, .int .i64 b], .agg #[.int .i64 c, .int .i64 d], .int .i64 e] := by
  cases r with
  | error c => exact ⟨0, 0, 0, 0, c, rfl⟩
  | ok v => obtain ⟨a, b, c, d, rfl⟩ := h v rfl; exact ⟨a, b, c, d, 0, rfl⟩
theorem repS_eq {r : Except Int Value} (h : isTwo r) : ∃ a b e : Int, repS r = .tuple #[.agg #[.int .i64 a, .int .i64 b], .int .i64 e] := by
  cases r with
  | error c => exact ⟨0, 0, c, rfl⟩
  | ok v => obtain ⟨a, b, rfl⟩ := h v rfl; exact ⟨a, b, 0, rfl⟩
theorem repI_eq {r : Except Int Value} (h : isOne r) : ∃ a e : Int, repI r = .tuple #[.int .i64 a, .int .i64 e] := by
  cases r with
  | error c => exact ⟨0, c, rfl⟩
  | ok v => obtain ⟨a, rfl⟩ := h v rfl; exact ⟨a, 0, rfl⟩
theorem repB_any (F : Nat) (caps : Array Value) (r : Except Int Value) (hr : isFour r) (w : World) (hcall : ∀ w : World, (callFunc F caps).run Tryz.prog w = .ok (.enter F caps) w) (h : ∀ Y, Below w.heap.size w Y → Calls Tryz.prog F caps Y (Out r Y)) :
    Calls Tryz.prog 40 #[.func (.func F) #[] caps] w (Ret (repB r) w) := by
  cases r with
  | error c => exact both_err F caps c w hcall h
  | ok v =>
    obtain ⟨a, b, c, d, rfl⟩ := hr v rfl
    exact both_ok F caps a b c d w hcall h
theorem repS_any (F : Nat) (caps : Array Value) (r : Except Int Value) (hr : isTwo r) (w : World) (hcall : ∀ w : World, (callFunc F caps).run Tryz.prog w = .ok (.enter F caps) w) (h : ∀ Y, Below w.heap.size w Y → Calls Tryz.prog F caps Y (Out r Y)) :
    Calls Tryz.prog 34 #[.func (.func F) #[] caps] w (Ret (repS r) w) := by
  cases r with
  | error c => exact answer_err F caps c w hcall h
  | ok v =>
    obtain ⟨a, b, rfl⟩ := hr v rfl
    exact answer_ok F caps a b w hcall h
theorem repI_any (F : Nat) (caps : Array Value) (r : Except Int Value) (hr : isOne r) (w : World) (hcall : ∀ w : World, (callFunc F caps).run Tryz.prog w = .ok (.enter F caps) w) (h : ∀ Y, Below w.heap.size w Y → Calls Tryz.prog F caps Y (Out r Y)) :
    Calls Tryz.prog 67 #[.func (.func F) #[] caps] w (Ret (repI r) w) := by
  cases r with
  | error c => exact answerI_err F caps c w hcall h
  | ok v =>
    obtain ⟨a, rfl⟩ := hr v rfl
    exact answerI_ok F caps a w hcall h
theorem err_four (c : Int) : isFour (.error c) := fun v h => by cases h
theorem err_two (c : Int) : isTwo (.error c) := fun v h => by cases h
theorem err_one (c : Int) : isOne (.error c) := fun v h => by cases h
theorem zero_four (p : Pl) (ss : List St) : isFour (zeroR p ss) := by unfold zeroR tellK; (repeat' split) <;> first | exact err_four _ | exact along_four _ _
theorem star_four (p : Pl) (ss : List St) (i : Int) : isFour (starR p ss i) := by unfold starR tellK; (repeat' split) <;> first | exact err_four _ | exact along_four _ _
theorem apart_four (p : Pl) (ss : List St) (i j : Int) : isFour (apartR p ss i j) := by unfold apartR tellR; (repeat' split) <;> first | exact err_four _ | exact along_four _ _
theorem find_four (p : Pl) (ss : List St) (i j : Int) : isFour (findR p ss i j) := by unfold findR tellK; (repeat' split) <;> first | exact err_four _ | exact along_four _ _
theorem scaleR_two (p : Pl) (ss : List St) : isTwo (scaleR p ss) := by unfold scaleR; (repeat' split) <;> first | exact err_two _ | exact scale_two _
theorem clash_one (p : Pl) (ss : List St) : isOne (clashR p ss) := by
  unfold clashR; (repeat' split) <;> first | exact err_one _ | (intro v h; cases h; exact ⟨_, rfl⟩)
theorem drop_one (p : Pl) (ss : List St) : isOne (dropR p ss) := by
  unfold dropR; (repeat' split) <;> first | exact err_one _ | (intro v h; cases h; exact ⟨_, rfl⟩)
set_option maxRecDepth 100000 in
set_option maxHeartbeats 4000000 in
theorem clash_any  (p : Pl) (ss : List St) (w : World) (hm : PlAt p ss w) :
    Calls Tryz.prog 19 #[p.val] w (Ret (repI (clashR p ss)) w) := by
  have hmf : ∀ (fn : Fn) (first cap : Array Value) (w : World), (Instr.makeFunc fn first cap).run Tryz.prog w = .ok (.func fn first cap) w := fun _ _ _ _ => rfl
  have hst := @store_fn Tryz.prog
  obtain ⟨W0, hW0⟩ : ∃ X, w.alloc (.cells #[.int .i64 p.lo, .int .i64 p.hi, .slice p.a p.n p.cap] 26) = X := ⟨_, rfl⟩
  have hB : Below w.heap.size w W0 := by rw [← hW0]; exact newB _ _
  have hP : PlAt p ss W0 := hm.below hB (Nat.le_refl _)
  have hQ : BoxP W0 w.heap.size p := by rw [← hW0]; constructor <;> simp [go_sem]
  have hcl : ∀ Y, Below W0.heap.size W0 Y → Calls Tryz.prog 68 #[.pointer (some ⟨w.heap.size, 0, none⟩)] Y (Out (clashR p ss) Y) := fun Y hY => clashT_any (w.heap.size) p ss Y (hQ.grown hY) (hP.below hY (Nat.le_refl _)) 
  have hA := Lib.hid (repI_any 68 #[.pointer (some ⟨w.heap.size, 0, none⟩)] (clashR p ss) (clash_one p ss) W0 (fun w => enters_of Tryz.func68 (by kernel_rfl) rfl _ w) hcl)
  obtain ⟨va, ve, hrep⟩ := repI_eq (clash_one p ss)
  rw [hrep] at hA
  rw [hrep]
  clear hrep hcl hP hQ hm 
  unfold Pl.val
  go_enter Tryz.func19, Tryz.ntmps19
  go_wp2_with fail
  clear hW0
  refine hA.out.mono ?_
  rintro e X ⟨rfl, hX⟩
  have hB9 := BT hB hX
  clear hA hX hB 
  go_wp2_with fail
  exact bodyPost_ret (v := .tuple #[.int .i64 va, .int .i64 ve]) (by simp [results, Tryz.results19, go_sem]) rfl ⟨rfl, hB9⟩
set_option maxRecDepth 100000 in
set_option maxHeartbeats 4000000 in
theorem drop_any  (p : Pl) (ss : List St) (w : World) (hm : PlAt p ss w) :
    Calls Tryz.prog 21 #[p.val] w (Ret (repI (dropR p ss)) w) := by
  have hmf : ∀ (fn : Fn) (first cap : Array Value) (w : World), (Instr.makeFunc fn first cap).run Tryz.prog w = .ok (.func fn first cap) w := fun _ _ _ _ => rfl
  have hst := @store_fn Tryz.prog
  obtain ⟨W0, hW0⟩ : ∃ X, w.alloc (.cells #[.int .i64 p.lo, .int .i64 p.hi, .slice p.a p.n p.cap] 26) = X := ⟨_, rfl⟩
  have hB : Below w.heap.size w W0 := by rw [← hW0]; exact newB _ _
  have hP : PlAt p ss W0 := hm.below hB (Nat.le_refl _)
  have hQ : BoxP W0 w.heap.size p := by rw [← hW0]; constructor <;> simp [go_sem]
  have hcl : ∀ Y, Below W0.heap.size W0 Y → Calls Tryz.prog 76 #[.pointer (some ⟨w.heap.size, 0, none⟩)] Y (Out (dropR p ss) Y) := fun Y hY => dropT_any (w.heap.size) p ss Y (hQ.grown hY) (hP.below hY (Nat.le_refl _)) 
  have hA := Lib.hid (repI_any 76 #[.pointer (some ⟨w.heap.size, 0, none⟩)] (dropR p ss) (drop_one p ss) W0 (fun w => enters_of Tryz.func76 (by kernel_rfl) rfl _ w) hcl)
  obtain ⟨va, ve, hrep⟩ := repI_eq (drop_one p ss)
  rw [hrep] at hA
  rw [hrep]
  clear hrep hcl hP hQ hm 
  unfold Pl.val
  go_enter Tryz.func21, Tryz.ntmps21
  go_wp2_with fail
  clear hW0
  refine hA.out.mono ?_
  rintro e X ⟨rfl, hX⟩
  have hB9 := BT hB hX
  clear hA hX hB 
  go_wp2_with fail
  exact bodyPost_ret (v := .tuple #[.int .i64 va, .int .i64 ve]) (by simp [results, Tryz.results21, go_sem]) rfl ⟨rfl, hB9⟩
set_option maxRecDepth 100000 in
set_option maxHeartbeats 4000000 in
theorem scale_any  (p : Pl) (ss : List St) (w : World) (hm : PlAt p ss w) :
    Calls Tryz.prog 8 #[p.val] w (Ret (repS (scaleR p ss)) w) := by
  have hmf : ∀ (fn : Fn) (first cap : Array Value) (w : World), (Instr.makeFunc fn first cap).run Tryz.prog w = .ok (.func fn first cap) w := fun _ _ _ _ => rfl
  have hst := @store_fn Tryz.prog
  obtain ⟨W0, hW0⟩ : ∃ X, (w.alloc (.cells #[.int .i64 p.lo, .int .i64 p.hi, .slice p.a p.n p.cap] 26)).alloc (.cells #[.int .i64 0, .int .i64 0] 23) = X := ⟨_, rfl⟩
  have hB : Below w.heap.size w W0 := by rw [← hW0]; exact BA (newB _ _) _
  have hP : PlAt p ss W0 := hm.below hB (Nat.le_refl _)
  have hQ : BoxP W0 w.heap.size p := by rw [← hW0]; constructor <;> simp [go_sem]
  have hs0 : Slots (w.heap.size + 1) 2 W0 := by
    rw [← hW0]; intro o ho
    have : o = 0 ∨ o = 1 := by omega
    rcases this with rfl | rfl <;> simp [go_sem]
  have hl0 : w.heap.size + 1 < W0.heap.size := by rw [← hW0]; simp
  have hcl : ∀ Y, Below W0.heap.size W0 Y → Calls Tryz.prog 35 #[.pointer (some ⟨w.heap.size, 0, none⟩)] Y (Out (scaleR p ss) Y) := fun Y hY => scaleT_any (w.heap.size) p ss Y (hQ.grown hY) (hP.below hY (Nat.le_refl _)) 
  have hA := Lib.hid (repS_any 35 #[.pointer (some ⟨w.heap.size, 0, none⟩)] (scaleR p ss) (scaleR_two p ss) W0 (fun w => enters_of Tryz.func35 (by kernel_rfl) rfl _ w) hcl)
  obtain ⟨va, vb, ve, hrep⟩ := repS_eq (scaleR_two p ss)
  rw [hrep] at hA
  rw [hrep]
  clear hrep hcl hP hQ hm 
  unfold Pl.val
  go_enter Tryz.func8, Tryz.ntmps8
  go_wp2_with fail
  clear hW0
  refine hA.out.mono ?_
  rintro e X ⟨rfl, hX⟩
  have hB9 := BT hB hX
  have ht0 := hs0.below hX hl0
  obtain ⟨x00, q00, z00⟩ := ht0.get 0 (by omega)
  obtain ⟨x01, q01, z01⟩ := ht0.get 1 (by omega)
  have hfin := (BC (BC hB9 (w.heap.size + 1) 0 (by omega) (.int .i64 va)) (w.heap.size + 1) 1 (by omega) (.int .i64 vb))
  clear hA hX hB hs0 ht0
  go_wp2_with fail
  exact bodyPost_ret (v := .tuple #[.agg #[.int .i64 va, .int .i64 vb], .int .i64 ve]) (by simp [results, Tryz.results8, go_sem, q00, q01]) rfl ⟨rfl, hfin⟩
set_option maxRecDepth 100000 in
set_option maxHeartbeats 4000000 in
theorem zero_any  (p : Pl) (ss : List St) (w : World) (hm : PlAt p ss w) :
    Calls Tryz.prog 10 #[p.val] w (Ret (repB (zeroR p ss)) w) := by
  have hmf : ∀ (fn : Fn) (first cap : Array Value) (w : World), (Instr.makeFunc fn first cap).run Tryz.prog w = .ok (.func fn first cap) w := fun _ _ _ _ => rfl
  have hst := @store_fn Tryz.prog
  obtain ⟨W0, hW0⟩ : ∃ X, ((w.alloc (.cells #[.int .i64 p.lo, .int .i64 p.hi, .slice p.a p.n p.cap] 26)).alloc (.cells #[.int .i64 0, .int .i64 0] 23)).alloc (.cells #[.int .i64 0, .int .i64 0] 23) = X := ⟨_, rfl⟩
  have hB : Below w.heap.size w W0 := by rw [← hW0]; exact BA (BA (newB _ _) _) _
  have hP : PlAt p ss W0 := hm.below hB (Nat.le_refl _)
  have hQ : BoxP W0 w.heap.size p := by rw [← hW0]; constructor <;> simp [go_sem]
  have hs0 : Slots (w.heap.size + 1) 2 W0 := by
    rw [← hW0]; intro o ho
    have : o = 0 ∨ o = 1 := by omega
    rcases this with rfl | rfl <;> simp [go_sem]
  have hl0 : w.heap.size + 1 < W0.heap.size := by rw [← hW0]; simp
  have hs1 : Slots (w.heap.size + 1 + 1) 2 W0 := by
    rw [← hW0]; intro o ho
    have : o = 0 ∨ o = 1 := by omega
    rcases this with rfl | rfl <;> simp [go_sem]
  have hl1 : w.heap.size + 1 + 1 < W0.heap.size := by rw [← hW0]; simp
  have hcl : ∀ Y, Below W0.heap.size W0 Y → Calls Tryz.prog 41 #[.pointer (some ⟨w.heap.size, 0, none⟩)] Y (Out (zeroR p ss) Y) := fun Y hY => zeroT_any (w.heap.size) p ss Y (hQ.grown hY) (hP.below hY (Nat.le_refl _)) 
  have hA := Lib.hid (repB_any 41 #[.pointer (some ⟨w.heap.size, 0, none⟩)] (zeroR p ss) (zero_four p ss) W0 (fun w => enters_of Tryz.func41 (by kernel_rfl) rfl _ w) hcl)
  obtain ⟨va, vb, vc, vd, ve, hrep⟩ := repB_eq (zero_four p ss)
  rw [hrep] at hA
  rw [hrep]
  clear hrep hcl hP hQ hm 
  unfold Pl.val
  go_enter Tryz.func10, Tryz.ntmps10
  go_wp2_with fail
  clear hW0
  refine hA.out.mono ?_
  rintro e X ⟨rfl, hX⟩
  have hB9 := BT hB hX
  have ht0 := hs0.below hX hl0
  obtain ⟨x00, q00, z00⟩ := ht0.get 0 (by omega)
  obtain ⟨x01, q01, z01⟩ := ht0.get 1 (by omega)
  have ht1 := hs1.below hX hl1
  obtain ⟨x10, q10, z10⟩ := ht1.get 0 (by omega)
  obtain ⟨x11, q11, z11⟩ := ht1.get 1 (by omega)
  have hfin := (BC (BC (BC (BC hB9 (w.heap.size + 1) 0 (by omega) (.int .i64 va)) (w.heap.size + 1) 1 (by omega) (.int .i64 vb)) (w.heap.size + 1 + 1) 0 (by omega) (.int .i64 vc)) (w.heap.size + 1 + 1) 1 (by omega) (.int .i64 vd))
  clear hA hX hB hs0 ht0 hs1 ht1
  go_wp2_with fail
  exact bodyPost_ret (v := .tuple #[.agg #[.int .i64 va, .int .i64 vb], .agg #[.int .i64 vc, .int .i64 vd], .int .i64 ve]) (by simp [results, Tryz.results10, go_sem, q00, q01, q10, q11]) rfl ⟨rfl, hfin⟩
set_option maxRecDepth 100000 in
set_option maxHeartbeats 4000000 in
theorem star_any (i : Int) (p : Pl) (ss : List St) (w : World) (hm : PlAt p ss w) :
    Calls Tryz.prog 12 #[p.val, .int .i64 i] w (Ret (repB (starR p ss i)) w) := by
  have hmf : ∀ (fn : Fn) (first cap : Array Value) (w : World), (Instr.makeFunc fn first cap).run Tryz.prog w = .ok (.func fn first cap) w := fun _ _ _ _ => rfl
  have hst := @store_fn Tryz.prog
  obtain ⟨W0, hW0⟩ : ∃ X, (((w.alloc (.cells #[.int .i64 p.lo, .int .i64 p.hi, .slice p.a p.n p.cap] 26)).alloc (.cells #[.int .i64 i] 3)).alloc (.cells #[.int .i64 0, .int .i64 0] 23)).alloc (.cells #[.int .i64 0, .int .i64 0] 23) = X := ⟨_, rfl⟩
  have hB : Below w.heap.size w W0 := by rw [← hW0]; exact BA (BA (BA (newB _ _) _) _) _
  have hP : PlAt p ss W0 := hm.below hB (Nat.le_refl _)
  have hQ : BoxP W0 w.heap.size p := by rw [← hW0]; constructor <;> simp [go_sem]
  have hi0 : W0.cell? ⟨w.heap.size + 1, 0, none⟩ = some (.int .i64 i) := by rw [← hW0]; simp [go_sem]
  have hs0 : Slots (w.heap.size + 1 + 1) 2 W0 := by
    rw [← hW0]; intro o ho
    have : o = 0 ∨ o = 1 := by omega
    rcases this with rfl | rfl <;> simp [go_sem]
  have hl0 : w.heap.size + 1 + 1 < W0.heap.size := by rw [← hW0]; simp
  have hs1 : Slots (w.heap.size + 1 + 1 + 1) 2 W0 := by
    rw [← hW0]; intro o ho
    have : o = 0 ∨ o = 1 := by omega
    rcases this with rfl | rfl <;> simp [go_sem]
  have hl1 : w.heap.size + 1 + 1 + 1 < W0.heap.size := by rw [← hW0]; simp
  have hcl : ∀ Y, Below W0.heap.size W0 Y → Calls Tryz.prog 49 #[.pointer (some ⟨w.heap.size, 0, none⟩), .pointer (some ⟨w.heap.size + 1, 0, none⟩)] Y (Out (starR p ss i) Y) := fun Y hY => starT_any (w.heap.size) (w.heap.size + 1) i p ss Y (hQ.grown hY) (hP.below hY (Nat.le_refl _)) (cellB hi0 hY)
  have hA := Lib.hid (repB_any 49 #[.pointer (some ⟨w.heap.size, 0, none⟩), .pointer (some ⟨w.heap.size + 1, 0, none⟩)] (starR p ss i) (star_four p ss i) W0 (fun w => enters_of Tryz.func49 (by kernel_rfl) rfl _ w) hcl)
  obtain ⟨va, vb, vc, vd, ve, hrep⟩ := repB_eq (star_four p ss i)
  rw [hrep] at hA
  rw [hrep]
  clear hrep hcl hP hQ hm hi0
  unfold Pl.val
  go_enter Tryz.func12, Tryz.ntmps12
  go_wp2_with fail
  clear hW0
  refine hA.out.mono ?_
  rintro e X ⟨rfl, hX⟩
  have hB9 := BT hB hX
  have ht0 := hs0.below hX hl0
  obtain ⟨x00, q00, z00⟩ := ht0.get 0 (by omega)
  obtain ⟨x01, q01, z01⟩ := ht0.get 1 (by omega)
  have ht1 := hs1.below hX hl1
  obtain ⟨x10, q10, z10⟩ := ht1.get 0 (by omega)
  obtain ⟨x11, q11, z11⟩ := ht1.get 1 (by omega)
  have hfin := (BC (BC (BC (BC hB9 (w.heap.size + 1 + 1) 0 (by omega) (.int .i64 va)) (w.heap.size + 1 + 1) 1 (by omega) (.int .i64 vb)) (w.heap.size + 1 + 1 + 1) 0 (by omega) (.int .i64 vc)) (w.heap.size + 1 + 1 + 1) 1 (by omega) (.int .i64 vd))
  clear hA hX hB hs0 ht0 hs1 ht1
  go_wp2_with fail
  exact bodyPost_ret (v := .tuple #[.agg #[.int .i64 va, .int .i64 vb], .agg #[.int .i64 vc, .int .i64 vd], .int .i64 ve]) (by simp [results, Tryz.results12, go_sem, q00, q01, q10, q11]) rfl ⟨rfl, hfin⟩
set_option maxRecDepth 100000 in
set_option maxHeartbeats 4000000 in
theorem apart2_any (i : Int) (j : Int) (p : Pl) (ss : List St) (w : World) (hm : PlAt p ss w) :
    Calls Tryz.prog 14 #[p.val, .int .i64 i, .int .i64 j] w (Ret (repB (apartR p ss i j)) w) := by
  have hmf : ∀ (fn : Fn) (first cap : Array Value) (w : World), (Instr.makeFunc fn first cap).run Tryz.prog w = .ok (.func fn first cap) w := fun _ _ _ _ => rfl
  have hst := @store_fn Tryz.prog
  obtain ⟨W0, hW0⟩ : ∃ X, ((((w.alloc (.cells #[.int .i64 p.lo, .int .i64 p.hi, .slice p.a p.n p.cap] 26)).alloc (.cells #[.int .i64 i] 3)).alloc (.cells #[.int .i64 j] 3)).alloc (.cells #[.int .i64 0, .int .i64 0] 23)).alloc (.cells #[.int .i64 0, .int .i64 0] 23) = X := ⟨_, rfl⟩
  have hB : Below w.heap.size w W0 := by rw [← hW0]; exact BA (BA (BA (BA (newB _ _) _) _) _) _
  have hP : PlAt p ss W0 := hm.below hB (Nat.le_refl _)
  have hQ : BoxP W0 w.heap.size p := by rw [← hW0]; constructor <;> simp [go_sem]
  have hi0 : W0.cell? ⟨w.heap.size + 1, 0, none⟩ = some (.int .i64 i) := by rw [← hW0]; simp [go_sem]
  have hi1 : W0.cell? ⟨w.heap.size + 1 + 1, 0, none⟩ = some (.int .i64 j) := by rw [← hW0]; simp [go_sem]
  have hs0 : Slots (w.heap.size + 1 + 1 + 1) 2 W0 := by
    rw [← hW0]; intro o ho
    have : o = 0 ∨ o = 1 := by omega
    rcases this with rfl | rfl <;> simp [go_sem]
  have hl0 : w.heap.size + 1 + 1 + 1 < W0.heap.size := by rw [← hW0]; simp
  have hs1 : Slots (w.heap.size + 1 + 1 + 1 + 1) 2 W0 := by
    rw [← hW0]; intro o ho
    have : o = 0 ∨ o = 1 := by omega
    rcases this with rfl | rfl <;> simp [go_sem]
  have hl1 : w.heap.size + 1 + 1 + 1 + 1 < W0.heap.size := by rw [← hW0]; simp
  have hcl : ∀ Y, Below W0.heap.size W0 Y → Calls Tryz.prog 55 #[.pointer (some ⟨w.heap.size, 0, none⟩), .pointer (some ⟨w.heap.size + 1, 0, none⟩), .pointer (some ⟨w.heap.size + 1 + 1, 0, none⟩)] Y (Out (apartR p ss i j) Y) := fun Y hY => apartT_any (w.heap.size) (w.heap.size + 1) (w.heap.size + 1 + 1) i j p ss Y (hQ.grown hY) (hP.below hY (Nat.le_refl _)) (cellB hi0 hY) (cellB hi1 hY)
  have hA := Lib.hid (repB_any 55 #[.pointer (some ⟨w.heap.size, 0, none⟩), .pointer (some ⟨w.heap.size + 1, 0, none⟩), .pointer (some ⟨w.heap.size + 1 + 1, 0, none⟩)] (apartR p ss i j) (apart_four p ss i j) W0 (fun w => enters_of Tryz.func55 (by kernel_rfl) rfl _ w) hcl)
  obtain ⟨va, vb, vc, vd, ve, hrep⟩ := repB_eq (apart_four p ss i j)
  rw [hrep] at hA
  rw [hrep]
  clear hrep hcl hP hQ hm hi0 hi1
  unfold Pl.val
  go_enter Tryz.func14, Tryz.ntmps14
  go_wp2_with fail
  clear hW0
  refine hA.out.mono ?_
  rintro e X ⟨rfl, hX⟩
  have hB9 := BT hB hX
  have ht0 := hs0.below hX hl0
  obtain ⟨x00, q00, z00⟩ := ht0.get 0 (by omega)
  obtain ⟨x01, q01, z01⟩ := ht0.get 1 (by omega)
  have ht1 := hs1.below hX hl1
  obtain ⟨x10, q10, z10⟩ := ht1.get 0 (by omega)
  obtain ⟨x11, q11, z11⟩ := ht1.get 1 (by omega)
  have hfin := (BC (BC (BC (BC hB9 (w.heap.size + 1 + 1 + 1) 0 (by omega) (.int .i64 va)) (w.heap.size + 1 + 1 + 1) 1 (by omega) (.int .i64 vb)) (w.heap.size + 1 + 1 + 1 + 1) 0 (by omega) (.int .i64 vc)) (w.heap.size + 1 + 1 + 1 + 1) 1 (by omega) (.int .i64 vd))
  clear hA hX hB hs0 ht0 hs1 ht1
  go_wp2_with fail
  exact bodyPost_ret (v := .tuple #[.agg #[.int .i64 va, .int .i64 vb], .agg #[.int .i64 vc, .int .i64 vd], .int .i64 ve]) (by simp [results, Tryz.results14, go_sem, q00, q01, q10, q11]) rfl ⟨rfl, hfin⟩
set_option maxRecDepth 100000 in
set_option maxHeartbeats 4000000 in
theorem find2_any (i : Int) (j : Int) (p : Pl) (ss : List St) (w : World) (hm : PlAt p ss w) :
    Calls Tryz.prog 17 #[p.val, .int .i64 i, .int .i64 j] w (Ret (repB (findR p ss i j)) w) := by
  have hmf : ∀ (fn : Fn) (first cap : Array Value) (w : World), (Instr.makeFunc fn first cap).run Tryz.prog w = .ok (.func fn first cap) w := fun _ _ _ _ => rfl
  have hst := @store_fn Tryz.prog
  obtain ⟨W0, hW0⟩ : ∃ X, ((((w.alloc (.cells #[.int .i64 p.lo, .int .i64 p.hi, .slice p.a p.n p.cap] 26)).alloc (.cells #[.int .i64 i] 3)).alloc (.cells #[.int .i64 j] 3)).alloc (.cells #[.int .i64 0, .int .i64 0] 23)).alloc (.cells #[.int .i64 0, .int .i64 0] 23) = X := ⟨_, rfl⟩
  have hB : Below w.heap.size w W0 := by rw [← hW0]; exact BA (BA (BA (BA (newB _ _) _) _) _) _
  have hP : PlAt p ss W0 := hm.below hB (Nat.le_refl _)
  have hQ : BoxP W0 w.heap.size p := by rw [← hW0]; constructor <;> simp [go_sem]
  have hi0 : W0.cell? ⟨w.heap.size + 1, 0, none⟩ = some (.int .i64 i) := by rw [← hW0]; simp [go_sem]
  have hi1 : W0.cell? ⟨w.heap.size + 1 + 1, 0, none⟩ = some (.int .i64 j) := by rw [← hW0]; simp [go_sem]
  have hs0 : Slots (w.heap.size + 1 + 1 + 1) 2 W0 := by
    rw [← hW0]; intro o ho
    have : o = 0 ∨ o = 1 := by omega
    rcases this with rfl | rfl <;> simp [go_sem]
  have hl0 : w.heap.size + 1 + 1 + 1 < W0.heap.size := by rw [← hW0]; simp
  have hs1 : Slots (w.heap.size + 1 + 1 + 1 + 1) 2 W0 := by
    rw [← hW0]; intro o ho
    have : o = 0 ∨ o = 1 := by omega
    rcases this with rfl | rfl <;> simp [go_sem]
  have hl1 : w.heap.size + 1 + 1 + 1 + 1 < W0.heap.size := by rw [← hW0]; simp
  have hcl : ∀ Y, Below W0.heap.size W0 Y → Calls Tryz.prog 60 #[.pointer (some ⟨w.heap.size, 0, none⟩), .pointer (some ⟨w.heap.size + 1, 0, none⟩), .pointer (some ⟨w.heap.size + 1 + 1, 0, none⟩)] Y (Out (findR p ss i j) Y) := fun Y hY => findT_any (w.heap.size) (w.heap.size + 1) (w.heap.size + 1 + 1) i j p ss Y (hQ.grown hY) (hP.below hY (Nat.le_refl _)) (cellB hi0 hY) (cellB hi1 hY)
  have hA := Lib.hid (repB_any 60 #[.pointer (some ⟨w.heap.size, 0, none⟩), .pointer (some ⟨w.heap.size + 1, 0, none⟩), .pointer (some ⟨w.heap.size + 1 + 1, 0, none⟩)] (findR p ss i j) (find_four p ss i j) W0 (fun w => enters_of Tryz.func60 (by kernel_rfl) rfl _ w) hcl)
  obtain ⟨va, vb, vc, vd, ve, hrep⟩ := repB_eq (find_four p ss i j)
  rw [hrep] at hA
  rw [hrep]
  clear hrep hcl hP hQ hm hi0 hi1
  unfold Pl.val
  go_enter Tryz.func17, Tryz.ntmps17
  go_wp2_with fail
  clear hW0
  refine hA.out.mono ?_
  rintro e X ⟨rfl, hX⟩
  have hB9 := BT hB hX
  have ht0 := hs0.below hX hl0
  obtain ⟨x00, q00, z00⟩ := ht0.get 0 (by omega)
  obtain ⟨x01, q01, z01⟩ := ht0.get 1 (by omega)
  have ht1 := hs1.below hX hl1
  obtain ⟨x10, q10, z10⟩ := ht1.get 0 (by omega)
  obtain ⟨x11, q11, z11⟩ := ht1.get 1 (by omega)
  have hfin := (BC (BC (BC (BC hB9 (w.heap.size + 1 + 1 + 1) 0 (by omega) (.int .i64 va)) (w.heap.size + 1 + 1 + 1) 1 (by omega) (.int .i64 vb)) (w.heap.size + 1 + 1 + 1 + 1) 0 (by omega) (.int .i64 vc)) (w.heap.size + 1 + 1 + 1 + 1) 1 (by omega) (.int .i64 vd))
  clear hA hX hB hs0 ht0 hs1 ht1
  go_wp2_with fail
  exact bodyPost_ret (v := .tuple #[.agg #[.int .i64 va, .int .i64 vb], .agg #[.int .i64 vc, .int .i64 vd], .int .i64 ve]) (by simp [results, Tryz.results17, go_sem, q00, q01, q10, q11]) rfl ⟨rfl, hfin⟩
end Go.Proofs.YtdkegkacpdkjgaaGreat
