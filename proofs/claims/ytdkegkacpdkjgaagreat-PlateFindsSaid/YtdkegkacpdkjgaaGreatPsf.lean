/- Plate: the closures behind Scale and Find. -/
import Derived.Test.YtdkegkacpdkjgaaGreatPcl
namespace Go.Proofs.YtdkegkacpdkjgaaGreat
open Go.RowKit Go.Maps

def scaleV (k : Int × Int × Bool) : Except Int Value := if k.2.2 then .ok (.agg #[.int .i64 k.1, .int .i64 k.2.1]) else .error 4
def scaleF (_ : Bool) (x : Scl) : Int × Int := (x.sc, x.sc)
def scaleR (p : Pl) (ss : List St) : Except Int Value := if plB p ss then (if trA p ss = [] then .error 10 else scaleV (kepL (scaleF false) (trA p ss))) else .error 1
def isTwo (r : Except Int Value) : Prop := ∀ v, r = .ok v → ∃ a b : Int, v = .agg #[.int .i64 a, .int .i64 b]
theorem scale_two (k : Int × Int × Bool) : isTwo (scaleV k) := by
  intro v hv
  unfold scaleV at hv
  repeat (split at hv)
  all_goals first | (cases hv; done) | (cases hv; exact ⟨_, _, rfl⟩)
set_option maxRecDepth 100000 in
set_option maxHeartbeats 8000000 in
theorem scaleS_any (p : Pl) (mb n : Nat) (xs : List Scl) (ha : Apart xs) (w : World) (hown : w.ownsMap Tryz.prog 3 quadElem mb n (mapD xs)) :
    Calls Tryz.prog 38 #[.agg (truV p mb)] w (Out (scaleV (kepL (scaleF false) xs)) w) := by
  have hAL : Hid (∀ Y, Y.ownsMap Tryz.prog 3 quadElem mb n (mapD xs) → Calls Tryz.prog 43 #[.agg (truV p mb), .func (.func 103) #[] #[]] Y (Out (alongR (kepL (scaleF false) xs) (kepL (scaleF true) xs)) Y)) := fun Y hY =>
    along_any p mb n xs ha 103 #[] scaleF Y (enters_of Tryz.func103 (by kernel_rfl) rfl) hY (fun d x _ Z _ => scaleC_any d x.sc (x.lo d) (x.hi d) p Z)
  have hsame : kepL (scaleF true) xs = kepL (scaleF false) xs := rfl
  rw [hsame] at hAL
  generalize kepL (scaleF false) xs = k at *
  obtain ⟨l, m, t⟩ := k
  have hst := @store_fn Tryz.prog
  unfold truV sideV at hAL ⊢
  simp only [List.append_toArray, List.cons_append, List.nil_append] at hAL ⊢
  obtain ⟨W0, hW0⟩ : ∃ X, (w.alloc (.cells #[.int .i64 p.lo, .int .i64 p.hi, .slice p.a p.n p.cap, .func (.func 133) #[] #[], .int .i64 p.lo, .int .i64 p.hi, .slice p.a p.n p.cap, .func (.func 134) #[] #[], .map (some mb)] 74)).alloc (.cells #[.int .i64 0, .int .i64 0] 23) = X := ⟨_, rfl⟩
  have hsl : Slots (w.heap.size + 1) 2 W0 := by
    rw [← hW0]; intro o ho
    have : o = 0 ∨ o = 1 := by omega
    rcases this with rfl | rfl <;> simp [go_sem]
  have hTlt : w.heap.size + 1 < W0.heap.size := by rw [← hW0]; simp
  have hB : Below w.heap.size w W0 := by rw [← hW0]; exact BA (newB _ _) _
  have hO : W0.ownsMap Tryz.prog 3 quadElem mb n (mapD xs) := by rw [← hW0]; exact (hown.alloc _).alloc _
  have hQ : BoxT W0 w.heap.size p ∧ W0.cell? ⟨w.heap.size, 8, none⟩ = some (.map (some mb)) := by
    rw [← hW0]; exact ⟨(boxT_new w p mb).1.grown (newB _ _), cellB (boxT_new w p mb).2 (newB _ _)⟩
  clear hown
  obtain ⟨⟨t0, t1, t2, t3, t4, t5, t6, t7⟩, t8⟩ := hQ
  go_enter Tryz.func38, Tryz.ntmps38
  go_wp2_with fail
  clear hW0 t0 t1 t2 t3 t4 t5 t6 t7 t8
  have hA := hAL.out W0 hO
  unfold alongR at hA
  unfold scaleV
  dsimp only at hA ⊢
  cases t
  · refine hA.mono ?_
    rintro e X ⟨rfl, hX⟩
    exact ⟨rfl, rfl, BT hB hX⟩
  · refine hA.mono ?_
    rintro e X ⟨rfl, hX⟩
    have hsl9 := hsl.below hX hTlt
    have hB9 := BT hB hX
    have hT9 := Nat.lt_of_lt_of_le hTlt hX.size
    clear hX hsl hA hAL hB hO
    obtain ⟨x0, q0, z0⟩ := hsl9.get 0 (by omega)
    obtain ⟨x1, q1, z1⟩ := hsl9.get 1 (by omega)
    obtain ⟨X2, hX2⟩ : ∃ Y, X.alloc (.cells #[.int .i64 l, .int .i64 m, .int .i64 l, .int .i64 m] 81) = Y := ⟨_, rfl⟩
    have hx : Below X.heap.size X X2 := by rw [← hX2]; exact newB _ _
    have hqq : Quad X2 X.heap.size l m l m := by rw [← hX2]; exact quad_new _ _ _ _ _ _
    obtain ⟨m0, m1, _, _, _, _, _, _⟩ := hqq
    have u0 := cellB q0 hx
    have u1 := cellB q1 hx
    have y0 := frozenB q0 z0 hx
    have y1 := frozenB q1 z1 hx
    have hBA := BT hB9 hx
    have hfin := (BC (BC hBA (w.heap.size + 1) 0 (by omega) (.int .i64 l)) (w.heap.size + 1) 1 (by omega) (.int .i64 m))
    clear q0 q1 z0 z1 hsl9 hx
    go_wp2_with fail
    exact bodyPost_ret (v := .agg #[.int .i64 l, .int .i64 m]) (by simp [results, Tryz.results38, go_sem, u0, u1]) rfl ⟨rfl, hfin⟩
set_option maxRecDepth 100000 in
set_option maxHeartbeats 8000000 in
theorem scaleT_any (B : Nat) (p : Pl) (ss : List St) (w : World) (hbp : BoxP w B p) (hm : PlAt p ss w) :
    Calls Tryz.prog 35 #[.pointer (some ⟨B, 0, none⟩)] w (Out (scaleR p ss) w) := by
  have hmf : ∀ (fn : Fn) (first cap : Array Value) (w : World), (Instr.makeFunc fn first cap).run Tryz.prog w = .ok (.func fn first cap) w := fun _ _ _ _ => rfl
  have hst := @store_fn Tryz.prog
  obtain ⟨R, hR⟩ : ∃ R, scaleR p ss = R := ⟨_, rfl⟩
  rw [hR]
  unfold scaleR at hR
  have HR := Lib.hid hR
  clear hR
  go_enter Tryz.func35, Tryz.ntmps35
  obtain ⟨W0, hW0⟩ : ∃ X, w.alloc (.cells #[.int .i64 0, .int .i64 0] 23) = X := ⟨_, rfl⟩
  have hsl : Slots w.heap.size 2 W0 := by
    rw [← hW0]; intro o ho
    have : o = 0 ∨ o = 1 := by omega
    rcases this with rfl | rfl <;> simp [go_sem]
  have hTlt : w.heap.size < W0.heap.size := by rw [← hW0]; simp
  have hB : Below w.heap.size w W0 := by rw [← hW0]; exact newB _ _
  have hx0 : Below w.heap.size w W0 := hB
  have hbp_ := hbp.grown hx0
  clear hbp
  have hbp := hbp_
  clear hbp_
  have hm_ := hm.below hx0 (Nat.le_refl _)
  clear hm
  have hm := hm_
  clear hm_
  clear hx0
  obtain ⟨b0, b1, b2⟩ := id hbp
  go_wp2_with fail
  clear hW0 b0 b1 b2
  cases hv : plB p ss
  · have hRe : R = .error 1 := by rw [← HR.out, hv]; rfl
    refine (lookAt_no p ss W0 hm hv).mono ?_
    rintro e X ⟨rfl, hX⟩
    rw [hRe]
    exact ⟨rfl, rfl, BT hB hX⟩
  have hok := plOk hm hv
  have HR1 := Lib.hid HR.out
  rw [hv, if_pos rfl] at HR1
  refine (lookAt_ok p ss W0 hm hv).mono ?_
  rintro e X1 ⟨rfl, hx1⟩
  have hbp_ := hbp.grown hx1
  clear hbp
  have hbp := hbp_
  clear hbp_
  have hm_ := hm.below hx1 (Nat.le_refl _)
  clear hm
  have hm := hm_
  clear hm_
  have hsl_ := hsl.below hx1 hTlt
  clear hsl
  have hsl := hsl_
  clear hsl_
  have hTlt_ := Nat.lt_of_lt_of_le hTlt hx1.size
  clear hTlt
  have hTlt := hTlt_
  clear hTlt_
  have hB_ := BT hB hx1
  clear hB
  have hB := hB_
  clear hB_
  clear hx1
  unfold lookV sideV
  simp only [List.append_toArray, List.cons_append, List.nil_append]
  clear HR hv
  obtain ⟨XL, hXL⟩ : ∃ X, X1.alloc (.cells #[.int .i64 p.lo, .int .i64 p.hi, .slice p.a p.n p.cap, .int .i64 p.lo, .int .i64 p.hi, .slice p.a p.n p.cap, .func (.func 133) #[] #[], .int .i64 p.lo, .int .i64 p.hi, .slice p.a p.n p.cap, .func (.func 134) #[] #[]] 70) = X := ⟨_, rfl⟩
  have hL : BoxL XL X1.heap.size p := by rw [← hXL]; exact boxL_newE X1 p
  have hxL : Below X1.heap.size X1 XL := by rw [← hXL]; exact newB _ _
  have hbp_ := hbp.grown hxL
  clear hbp
  have hbp := hbp_
  clear hbp_
  have hm_ := hm.below hxL (Nat.le_refl _)
  clear hm
  have hm := hm_
  clear hm_
  have hsl_ := hsl.below hxL hTlt
  clear hsl
  have hsl := hsl_
  clear hsl_
  have hTlt_ := Nat.lt_of_lt_of_le hTlt hxL.size
  clear hTlt
  have hTlt := hTlt_
  clear hTlt_
  have hB_ := BT hB hxL
  clear hB
  have hB := hB_
  clear hB_
  clear hxL
  obtain ⟨b0, b1, b2, b3, b4, b5, b6, b7, b8, b9, b10⟩ := id hL
  go_wp2_with fail
  clear hXL b0 b1 b2 b3 b4 b5 b6 b7 b8 b9 b10 
  generalize X1.heap.size = G at *
  by_cases ht : trA p ss = []
  · have hRe : R = .error 10 := by rw [← HR1.out, if_pos ht]
    refine (truths_no p ss XL hm hok ht).mono ?_
    rintro e X ⟨rfl, hX⟩
    rw [hRe]
    exact ⟨rfl, rfl, BT hB hX⟩
  have HR2 := Lib.hid HR1.out
  rw [if_neg ht] at HR2
  clear HR1
  refine (truths_ok p ss XL hm hok ht).mono ?_
  rintro e X2 ⟨mb, ⟨rfl, hO⟩, hmb, hx2⟩
  have hbp_ := hbp.grown hx2
  clear hbp
  have hbp := hbp_
  clear hbp_
  have hm_ := hm.below hx2 (Nat.le_refl _)
  clear hm
  have hm := hm_
  clear hm_
  have hsl_ := hsl.below hx2 hTlt
  clear hsl
  have hsl := hsl_
  clear hsl_
  have hTlt_ := Nat.lt_of_lt_of_le hTlt hx2.size
  clear hTlt
  have hTlt := hTlt_
  clear hTlt_
  have hB_ := BT hB hx2
  clear hB
  have hB := hB_
  clear hB_
  have hL_ := hL.grown hL.lt hx2
  clear hL
  have hL := hL_
  clear hL_
  clear hx2
  unfold truV sideV
  simp only [List.append_toArray, List.cons_append, List.nil_append]
  have hA := scaleS_any p mb (trA p ss).length (trA p ss) (trL_apart p ss _) X2 hO
  have h2 := scale_two (kepL (scaleF false) (trA p ss))
  unfold truV sideV at hA
  simp only [List.append_toArray, List.cons_append, List.nil_append] at hA
  generalize scaleV (kepL (scaleF false) (trA p ss)) = r at *
  go_wp2_with fail
  cases r with
  | error c =>
    refine hA.mono ?_
    rintro e X ⟨rfl, hX⟩
    rw [← HR2.out]
    exact ⟨rfl, rfl, BT hB hX⟩
  | ok v =>
    obtain ⟨va, vb, rfl⟩ := h2 v rfl
    refine hA.mono ?_
    rintro e X ⟨rfl, hX⟩
    have hsl9 := hsl.below hX hTlt
    have hB9 := BT hB hX
    obtain ⟨x0, q0, z0⟩ := hsl9.get 0 (by omega)
    obtain ⟨x1, q1, z1⟩ := hsl9.get 1 (by omega)
    have hfin := (BC (BC hB9 (w.heap.size) 0 (by omega) (.int .i64 va)) (w.heap.size) 1 (by omega) (.int .i64 vb))
    clear hX hsl9 hB9 hA
    go_wp2_with fail
    rw [← HR2.out]
    exact bodyPost_ret (v := .agg #[.int .i64 va, .int .i64 vb]) (by simp [results, Tryz.results35, go_sem, q0, q1]) rfl ⟨rfl, hfin⟩
end Go.Proofs.YtdkegkacpdkjgaaGreat
