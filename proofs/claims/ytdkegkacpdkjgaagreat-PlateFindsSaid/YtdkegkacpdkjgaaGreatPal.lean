/- Plate: what is asked along both directions. -/
import Derived.Test.YtdkegkacpdkjgaaGreatPea
namespace Go.Proofs.YtdkegkacpdkjgaaGreat
open Go.RowKit Go.Maps

def alongR (k0 k1 : Int × Int × Bool) : Except Int Value := if k0.2.2 then (if k1.2.2 then .ok (.agg #[.int .i64 k0.1, .int .i64 k0.2.1, .int .i64 k1.1, .int .i64 k1.2.1]) else .error 4) else .error 4

theorem kepAt_new (w : World) (T : TypeId) : KepAt (w.alloc (.cells #[.int .i64 0, .int .i64 0, .bool false] T)) w.heap.size (0, 0, false) := ⟨by simp [go_sem], by simp [go_sem], by simp [go_sem], by simp, by simp, by simp⟩
theorem BoxT.below {X X' : World} {B M : Nat} {p : Pl} (k : BoxT X B p) (hM : B < M) (hb : Below M X X') : BoxT X' B p :=
  ⟨(hb.cell (p := ⟨B, 0, none⟩) hM).trans k.c0, (hb.cell (p := ⟨B, 1, none⟩) hM).trans k.c1, (hb.cell (p := ⟨B, 2, none⟩) hM).trans k.c2, (hb.cell (p := ⟨B, 3, none⟩) hM).trans k.c3, (hb.cell (p := ⟨B, 4, none⟩) hM).trans k.c4, (hb.cell (p := ⟨B, 5, none⟩) hM).trans k.c5, (hb.cell (p := ⟨B, 6, none⟩) hM).trans k.c6, (hb.cell (p := ⟨B, 7, none⟩) hM).trans k.c7⟩
set_option maxRecDepth 100000 in
set_option maxHeartbeats 8000000 in
theorem along_any (p : Pl) (mb n : Nat) (xs : List Scl) (ha : Apart xs) (F : Nat) (caps : Array Value) (f : Bool → Scl → Int × Int) (w : World)
    (hcall : ∀ args (w : World), (callFunc F args).run Tryz.prog w = .ok (.enter F args) w)
    (hown : w.ownsMap Tryz.prog 3 quadElem mb n (mapD xs))
    (hask : ∀ d, ∀ x ∈ xs, ∀ Y, Below w.heap.size w Y → Calls Tryz.prog F (#[.agg (viewV p d x.sc (x.lo d) (x.hi d))] ++ caps) Y (Ret (.agg #[.int .i64 (f d x).1, .int .i64 (f d x).2]) Y)) :
    Calls Tryz.prog 43 #[.agg (truV p mb), .func (.func F) #[] caps] w (Out (alongR (kepL (f false) xs) (kepL (f true) xs)) w) := by
  have HA := Lib.hid hask
  have hml := hown.lt
  have HE : Hid (∀ (d : Bool) (W : World) (K : Nat), Below w.heap.size w W → W.ownsMap Tryz.prog 3 quadElem mb n (mapD xs) → KepAt W K (0, 0, false) → w.heap.size ≤ K → Calls Tryz.prog 105 #[.agg (truV p mb), .int .i64 (dirI d), .func (.func F) #[] caps, .func (.func 106) #[.pointer (some ⟨K, 0, none⟩)] #[]] W (EachOut K mb n (mapD xs) (kepL (f d) xs) W)) := fun d W K hW ho hk hK =>
    each_any p mb n K xs ha d F caps (f d) W hcall ho hk (by omega) (fun x hx Y hY => HA.out d x hx Y (hW.trans (hY.mono hK)))
  have HE0 := Lib.hid (HE.out false)
  have HE1 := Lib.hid (HE.out true)
  have hd0 : dirI false = 0 := rfl
  have hd1 : dirI true = 1 := rfl
  rw [hd0] at HE0
  rw [hd1] at HE1
  have HR : Hid (∀ k0 k1, alongR k0 k1 = if k0.2.2 then (if k1.2.2 then .ok (.agg #[.int .i64 k0.1, .int .i64 k0.2.1, .int .i64 k1.1, .int .i64 k1.2.1]) else .error 4) else .error 4) := fun _ _ => rfl
  generalize kepL (f false) xs = k0 at *
  generalize kepL (f true) xs = k1 at *
  have HRR := Lib.hid (HR.out k0 k1)
  generalize alongR k0 k1 = R at *
  obtain ⟨l0, m0, t0⟩ := k0
  obtain ⟨l1, m1, t1⟩ := k1
  dsimp only at HRR
  have hst := @store_fn Tryz.prog
  clear HE HA hask ha HR hd0 hd1
  unfold truV sideV at HE0 HE1 ⊢
  simp only [List.append_toArray, List.cons_append, List.nil_append] at HE0 HE1 ⊢
  have hmf : ∀ (fn : Fn) (first cap : Array Value) (w : World), (Instr.makeFunc fn first cap).run Tryz.prog w = .ok (.func fn first cap) w := fun _ _ _ _ => rfl
  go_enter Tryz.func43, Tryz.ntmps43
  go_wp2_with fail
  obtain ⟨W0, hW0⟩ : ∃ X, ((w.alloc (.cells #[.int .i64 p.lo, .int .i64 p.hi, .slice p.a p.n p.cap, .func (.func 133) #[] #[], .int .i64 p.lo, .int .i64 p.hi, .slice p.a p.n p.cap, .func (.func 134) #[] #[], .map (some mb)] 74)).alloc (.cells #[.int .i64 0, .int .i64 0, .int .i64 0, .int .i64 0] 81)).alloc (.cells #[.int .i64 0, .int .i64 0, .int .i64 0, .int .i64 0] 81) = X := ⟨_, rfl⟩
  have s0 : W0.heap.size = w.heap.size + 1 + 1 + 1 := by rw [← hW0]; simp
  have hB0 : Below w.heap.size w W0 := by rw [← hW0]; exact BA (BA (BA (Below.refl _ _) _) _) _
  have hbx : BoxT W0 w.heap.size p ∧ W0.cell? ⟨w.heap.size, 8, none⟩ = some (.map (some mb)) := by rw [← hW0]; exact ⟨⟨by simp [go_sem], by simp [go_sem], by simp [go_sem], by simp [go_sem], by simp [go_sem], by simp [go_sem], by simp [go_sem], by simp [go_sem]⟩, by simp [go_sem]⟩
  have hqr : Quad W0 (w.heap.size + 1) 0 0 0 0 := by
    have := (quad_new (w.alloc (.cells #[.int .i64 p.lo, .int .i64 p.hi, .slice p.a p.n p.cap, .func (.func 133) #[] #[], .int .i64 p.lo, .int .i64 p.hi, .slice p.a p.n p.cap, .func (.func 134) #[] #[], .map (some mb)] 74)) 0 0 0 0 81).grown (newB _ (.cells #[.int .i64 0, .int .i64 0, .int .i64 0, .int .i64 0] 81))
    rw [World.size_alloc] at this; rw [← hW0]; exact this
  have hqt : Quad W0 (w.heap.size + 1 + 1) 0 0 0 0 := by
    have := quad_new ((w.alloc (.cells #[.int .i64 p.lo, .int .i64 p.hi, .slice p.a p.n p.cap, .func (.func 133) #[] #[], .int .i64 p.lo, .int .i64 p.hi, .slice p.a p.n p.cap, .func (.func 134) #[] #[], .map (some mb)] 74)).alloc (.cells #[.int .i64 0, .int .i64 0, .int .i64 0, .int .i64 0] 81)) 0 0 0 0 81
    rw [World.size_alloc, World.size_alloc] at this; rw [← hW0]; exact this
  have ho0 : W0.ownsMap Tryz.prog 3 quadElem mb n (mapD xs) := by rw [← hW0]; exact ((hown.alloc _).alloc _).alloc _
  rw [hW0]
  have hK0 : w.heap.size ≤ W0.heap.size := by omega
  have hK2 : w.heap.size + 1 + 1 < W0.heap.size := by omega
  clear hW0 hown s0
  refine wp_loop_rounds 3 ?_
  rw [rounds_succ]
  obtain ⟨c0, c1, c2, c3, c4, c5, c6, c7⟩ := hbx.1.grown (newB W0 (.cells #[.int .i64 0, .int .i64 0, .bool false] 136))
  have c8 := cellB hbx.2 (newB W0 (.cells #[.int .i64 0, .int .i64 0, .bool false] 136))
  go_wp2_with fail
  clear c0 c1 c2 c3 c4 c5 c6 c7 c8
  have ho1 := ho0.alloc (.cells #[.int .i64 0, .int .i64 0, .bool false] 136)
  have hk1 := kepAt_new W0 136
  have hB1 := BA hB0 (.cells #[.int .i64 0, .int .i64 0, .bool false] 136)
  have hb1 : Below W0.heap.size W0 (W0.alloc (.cells #[.int .i64 0, .int .i64 0, .bool false] 136)) := newB _ _
  refine (HE0.out _ W0.heap.size hB1 ho1 hk1 hK0).mono ?_
  rintro e X ⟨rfl, hkX, hBX, hoX⟩
  have hb2 := hb1.trans hBX
  have hKX : W0.heap.size ≤ X.heap.size := hb2.size
  clear ho0 ho1 hk1 hB1 hb1 hBX HE0
  generalize W0.heap.size = K at *
  obtain ⟨x0, x1, x2, _, _, _⟩ := hkX
  dsimp only at x0 x1 x2
  go_wp2_with fail
  cases t0
  · refine (insist_no 4 X).mono ?_
    rintro e X2 ⟨rfl, hx2⟩
    have hRn : R = .error 4 := HRR.out
    have hfin := (hB0.trans (hb2.mono hK0)).trans (hx2.mono (by omega))
    rw [hRn]
    exact ⟨rfl, rfl, hfin⟩
  refine (insist_yes 4 X).mono ?_
  rintro e X2 ⟨rfl, hx2⟩
  have x0 := cellB x0 hx2
  have x1 := cellB x1 hx2
  have ho0 := hoX.kept (gB hx2 none) (by simp)
  have hb3 := hb2.trans (hx2.mono hKX)
  have hB0 := hB0.trans (hb3.mono hK0)
  have hqt := hqt.below hK2 hb3
  have hqr := hqr.below (by omega) hb3
  have hbx := And.intro (hbx.1.below (by omega) hb3) ((hb3.cell (p := ⟨w.heap.size, 8, none⟩) (show w.heap.size < K by omega)).trans hbx.2)
  have hqc := hqt
  obtain ⟨q0, q1, q2, q3, z0, z1, z2, z3⟩ := hqc
  clear hx2 hb2 hb3 hoX x2 hK0 hK2
  go_upto_region 9 with fail
  have ho0 := (ho0.setCell (a := ⟨w.heap.size + 1 + 1, 0, none⟩) (by simp; omega) (.int .i64 l0)).setCell (a := ⟨w.heap.size + 1 + 1, 1, none⟩) (by simp; omega) (.int .i64 m0)
  have hqt := hqt.set01 l0 m0
  have hf : Below (w.heap.size + 1 + 1) X2 ((X2.setCell ⟨w.heap.size + 1 + 1, 0, none⟩ (.int .i64 l0)).setCell ⟨w.heap.size + 1 + 1, 1, none⟩ (.int .i64 m0)) := ((Below.refl _ X2).setCell (p := ⟨w.heap.size + 1 + 1, 0, none⟩) (Nat.le_refl _) _).setCell (p := ⟨w.heap.size + 1 + 1, 1, none⟩) (Nat.le_refl _) _
  clear q0 q1 q2 q3 z0 z1 z2 z3 x0 x1
  generalize (X2.setCell ⟨w.heap.size + 1 + 1, 0, none⟩ (.int .i64 l0)).setCell ⟨w.heap.size + 1 + 1, 1, none⟩ (.int .i64 m0) = W2 at *
  have hB0 := hB0.trans (hf.mono (by omega))
  have hqr := hqr.below (by omega) hf
  have hbx := And.intro (hbx.1.below (by omega) hf) ((hf.cell (p := ⟨w.heap.size, 8, none⟩) (show w.heap.size < w.heap.size + 1 + 1 by omega)).trans hbx.2)
  have hK0 : w.heap.size ≤ W2.heap.size := hB0.size
  have hK2 : w.heap.size + 1 + 1 < W2.heap.size := hqt.lt
  clear hf hKX
  generalize K = K' at *
  go_wp2_with fail
  rw [rounds_succ]
  obtain ⟨c0, c1, c2, c3, c4, c5, c6, c7⟩ := hbx.1.grown (newB W2 (.cells #[.int .i64 0, .int .i64 0, .bool false] 136))
  have c8 := cellB hbx.2 (newB W2 (.cells #[.int .i64 0, .int .i64 0, .bool false] 136))
  go_wp2_with fail
  clear c0 c1 c2 c3 c4 c5 c6 c7 c8
  have ho1 := ho0.alloc (.cells #[.int .i64 0, .int .i64 0, .bool false] 136)
  have hk1 := kepAt_new W2 136
  have hB1 := BA hB0 (.cells #[.int .i64 0, .int .i64 0, .bool false] 136)
  have hb1 : Below W2.heap.size W2 (W2.alloc (.cells #[.int .i64 0, .int .i64 0, .bool false] 136)) := newB _ _
  refine (HE1.out _ W2.heap.size hB1 ho1 hk1 hK0).mono ?_
  rintro e X ⟨rfl, hkX, hBX, hoX⟩
  have hb2 := hb1.trans hBX
  have hKX : W2.heap.size ≤ X.heap.size := hb2.size
  clear ho0 ho1 hk1 hB1 hb1 hBX HE1
  generalize W2.heap.size = K at *
  obtain ⟨x0, x1, x2, _, _, _⟩ := hkX
  dsimp only at x0 x1 x2
  go_wp2_with fail
  cases t1
  · refine (insist_no 4 X).mono ?_
    rintro e X2 ⟨rfl, hx2⟩
    have hRn : R = .error 4 := HRR.out
    have hfin := (hB0.trans (hb2.mono hK0)).trans (hx2.mono (by omega))
    rw [hRn]
    exact ⟨rfl, rfl, hfin⟩
  refine (insist_yes 4 X).mono ?_
  rintro e X2 ⟨rfl, hx2⟩
  have x0 := cellB x0 hx2
  have x1 := cellB x1 hx2
  have ho0 := hoX.kept (gB hx2 none) (by simp)
  have hb3 := hb2.trans (hx2.mono hKX)
  have hB0 := hB0.trans (hb3.mono hK0)
  have hqt := hqt.below hK2 hb3
  have hqr := hqr.below (by omega) hb3
  have hbx := And.intro (hbx.1.below (by omega) hb3) ((hb3.cell (p := ⟨w.heap.size, 8, none⟩) (show w.heap.size < K by omega)).trans hbx.2)
  have hqc := hqt
  obtain ⟨q0, q1, q2, q3, z0, z1, z2, z3⟩ := hqc
  clear hx2 hb2 hb3 hoX x2 hK0 hK2
  go_upto_region 9 with fail
  have ho0 := (ho0.setCell (a := ⟨w.heap.size + 1 + 1, 2, none⟩) (by simp; omega) (.int .i64 l1)).setCell (a := ⟨w.heap.size + 1 + 1, 3, none⟩) (by simp; omega) (.int .i64 m1)
  have hqt := hqt.set23 l1 m1
  have hf : Below (w.heap.size + 1 + 1) X2 ((X2.setCell ⟨w.heap.size + 1 + 1, 2, none⟩ (.int .i64 l1)).setCell ⟨w.heap.size + 1 + 1, 3, none⟩ (.int .i64 m1)) := ((Below.refl _ X2).setCell (p := ⟨w.heap.size + 1 + 1, 2, none⟩) (Nat.le_refl _) _).setCell (p := ⟨w.heap.size + 1 + 1, 3, none⟩) (Nat.le_refl _) _
  clear q0 q1 q2 q3 z0 z1 z2 z3 x0 x1
  generalize (X2.setCell ⟨w.heap.size + 1 + 1, 2, none⟩ (.int .i64 l1)).setCell ⟨w.heap.size + 1 + 1, 3, none⟩ (.int .i64 m1) = W3 at *
  have hB0 := hB0.trans (hf.mono (by omega))
  have hqr := hqr.below (by omega) hf
  have hbx := And.intro (hbx.1.below (by omega) hf) ((hf.cell (p := ⟨w.heap.size, 8, none⟩) (show w.heap.size < w.heap.size + 1 + 1 by omega)).trans hbx.2)
  have hK0 : w.heap.size ≤ W3.heap.size := hB0.size
  have hK2 : w.heap.size + 1 + 1 < W3.heap.size := hqt.lt
  clear hf hKX
  generalize K = K' at *
  go_wp2_with fail
  rw [rounds_succ]
  obtain ⟨q0, q1, q2, q3, z0, z1, z2, z3⟩ := hqt
  obtain ⟨r0, r1, r2, r3, y0, y1, y2, y3⟩ := hqr
  have hRn : R = .ok (.agg #[.int .i64 l0, .int .i64 m0, .int .i64 l1, .int .i64 m1]) := HRR.out
  have HRn := Lib.hid hRn
  clear HRR hRn x0 x1 hbx ho0
  go_wp2_with fail
  have hfin := (BC (BC (BC (BC hB0 (w.heap.size + 1) 0 (by omega) (.int .i64 l0)) (w.heap.size + 1) 1 (by omega) (.int .i64 m0)) (w.heap.size + 1) 2 (by omega) (.int .i64 l1)) (w.heap.size + 1) 3 (by omega) (.int .i64 m1))
  rw [HRn.out]
  exact bodyPost_ret (v := .agg #[.int .i64 l0, .int .i64 m0, .int .i64 l1, .int .i64 m1]) (by simp [results, Tryz.results43, go_sem, r0, r1, r2, r3]) rfl ⟨rfl, hfin⟩
end Go.Proofs.YtdkegkacpdkjgaaGreat
