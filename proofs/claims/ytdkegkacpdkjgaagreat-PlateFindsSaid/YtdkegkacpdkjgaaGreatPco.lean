/- Plate: where the corner can be with a scale. -/
import Derived.Test.YtdkegkacpdkjgaaGreatPcb
import Derived.Test.YtdkegkacpdkjgaaGreatPkn
namespace Go.Proofs.YtdkegkacpdkjgaaGreat
open Go.RowKit



/-- Four numbers lie in a variable that can be written. -/
structure Quad (X : World) (C : Nat) (a b c d : Int) : Prop where
  c0 : X.cell? ⟨C, 0, none⟩ = some (.int .i64 a)
  c1 : X.cell? ⟨C, 1, none⟩ = some (.int .i64 b)
  c2 : X.cell? ⟨C, 2, none⟩ = some (.int .i64 c)
  c3 : X.cell? ⟨C, 3, none⟩ = some (.int .i64 d)
  f0 : X.frozen? ⟨C, 0, none⟩ = false
  f1 : X.frozen? ⟨C, 1, none⟩ = false
  f2 : X.frozen? ⟨C, 2, none⟩ = false
  f3 : X.frozen? ⟨C, 3, none⟩ = false
theorem Quad.lt {X : World} {C : Nat} {a b c d : Int} (h : Quad X C a b c d) : C < X.heap.size := World.block_lt_of_cell? _ _ h.c0
theorem Quad.grown {X X' : World} {C : Nat} {a b c d : Int} (h : Quad X C a b c d) (hb : Below X.heap.size X X') : Quad X' C a b c d :=
  ⟨cellB h.c0 hb, cellB h.c1 hb, cellB h.c2 hb, cellB h.c3 hb, frozenB h.c0 h.f0 hb, frozenB h.c1 h.f1 hb, frozenB h.c2 h.f2 hb, frozenB h.c3 h.f3 hb⟩
theorem Quad.below {X X' : World} {C M : Nat} {a b c d : Int} (h : Quad X C a b c d) (hM : C < M) (hb : Below M X X') : Quad X' C a b c d :=
  ⟨(hb.cell (p := ⟨C, 0, none⟩) hM).trans h.c0, (hb.cell (p := ⟨C, 1, none⟩) hM).trans h.c1, (hb.cell (p := ⟨C, 2, none⟩) hM).trans h.c2, (hb.cell (p := ⟨C, 3, none⟩) hM).trans h.c3, (hb.frozen (p := ⟨C, 0, none⟩) hM).trans h.f0, (hb.frozen (p := ⟨C, 1, none⟩) hM).trans h.f1, (hb.frozen (p := ⟨C, 2, none⟩) hM).trans h.f2, (hb.frozen (p := ⟨C, 3, none⟩) hM).trans h.f3⟩
theorem quad_new (w : World) (a b c d : Int) (T : TypeId) : Quad (w.alloc (.cells #[.int .i64 a, .int .i64 b, .int .i64 c, .int .i64 d] T)) w.heap.size a b c d :=
  ⟨by simp [go_sem], by simp [go_sem], by simp [go_sem], by simp [go_sem], by simp, by simp, by simp, by simp⟩
theorem Quad.set01 {X : World} {C : Nat} {a b c d : Int} (h : Quad X C a b c d) (x y : Int) : Quad ((X.setCell ⟨C, 0, none⟩ (.int .i64 x)).setCell ⟨C, 1, none⟩ (.int .i64 y)) C x y c d := by
  obtain ⟨c0, c1, c2, c3, f0, f1, f2, f3⟩ := h
  constructor <;> simp [go_sem, c0, c1, c2, c3, f0, f1, f2, f3]
theorem Quad.set23 {X : World} {C : Nat} {a b c d : Int} (h : Quad X C a b c d) (x y : Int) : Quad ((X.setCell ⟨C, 2, none⟩ (.int .i64 x)).setCell ⟨C, 3, none⟩ (.int .i64 y)) C a b x y := by
  obtain ⟨c0, c1, c2, c3, f0, f1, f2, f3⟩ := h
  constructor <;> simp [go_sem, c0, c1, c2, c3, f0, f1, f2, f3]

/-- A plate that is looked at lies in a variable. -/
structure BoxL (X : World) (B : Nat) (p : Pl) : Prop where
  c0 : X.cell? ⟨B, 0, none⟩ = some (.int .i64 p.lo)
  c1 : X.cell? ⟨B, 1, none⟩ = some (.int .i64 p.hi)
  c2 : X.cell? ⟨B, 2, none⟩ = some (.slice p.a p.n p.cap)
  c3 : X.cell? ⟨B, 3, none⟩ = some (.int .i64 p.lo)
  c4 : X.cell? ⟨B, 4, none⟩ = some (.int .i64 p.hi)
  c5 : X.cell? ⟨B, 5, none⟩ = some (.slice p.a p.n p.cap)
  c6 : X.cell? ⟨B, 6, none⟩ = some (.func (.func 133) #[] #[])
  c7 : X.cell? ⟨B, 7, none⟩ = some (.int .i64 p.lo)
  c8 : X.cell? ⟨B, 8, none⟩ = some (.int .i64 p.hi)
  c9 : X.cell? ⟨B, 9, none⟩ = some (.slice p.a p.n p.cap)
  c10 : X.cell? ⟨B, 10, none⟩ = some (.func (.func 134) #[] #[])
theorem BoxL.grown {X X' : World} {B : Nat} {p : Pl} (k : BoxL X B p) {M : Nat} (hM : B < M) (hb : Below M X X') : BoxL X' B p :=
  ⟨(hb.cell (p := ⟨B, 0, none⟩) hM).trans k.c0, (hb.cell (p := ⟨B, 1, none⟩) hM).trans k.c1, (hb.cell (p := ⟨B, 2, none⟩) hM).trans k.c2, (hb.cell (p := ⟨B, 3, none⟩) hM).trans k.c3, (hb.cell (p := ⟨B, 4, none⟩) hM).trans k.c4, (hb.cell (p := ⟨B, 5, none⟩) hM).trans k.c5, (hb.cell (p := ⟨B, 6, none⟩) hM).trans k.c6, (hb.cell (p := ⟨B, 7, none⟩) hM).trans k.c7, (hb.cell (p := ⟨B, 8, none⟩) hM).trans k.c8, (hb.cell (p := ⟨B, 9, none⟩) hM).trans k.c9, (hb.cell (p := ⟨B, 10, none⟩) hM).trans k.c10⟩
theorem boxL_new (w : World) (p : Pl) (T : TypeId) : BoxL (w.alloc (.cells (lookV p) T)) w.heap.size p := by
  constructor <;> simp [go_sem, lookV, sideV]
theorem BoxL.lt {X : World} {B : Nat} {p : Pl} (k : BoxL X B p) : B < X.heap.size := World.block_lt_of_cell? _ _ k.c0

set_option maxRecDepth 100000 in
set_option maxHeartbeats 8000000 in
theorem corners_any (sc : Int) (set : Int) (p : Pl) (ss : List St) (w : World) (h : PlAt p ss w) (hok : PlOk p ss) (hs0 : 0 ≤ sc) (hs1 : sc ≤ 1000) :
    Calls Tryz.prog 137 #[.agg (lookV p), .int .i64 sc, .int .i64 set] w (Ret (corV ss sc (setI set) p.n) w) := by
  have HP := Lib.hid h
  have HOK := Lib.hid hok
  have hn10 := hok.n10
  have HCB : Hid (∀ (d : Bool) (i : Nat) Y, i < p.n → Below w.heap.size w Y → Calls Tryz.prog 150 #[.agg (sideV p (dirF d)), .int .i64 sc, .int .i64 i] Y (Ret (.agg #[.int .i64 (cbS sc (ss.getD i default) d).1, .int .i64 (cbS sc (ss.getD i default) d).2]) Y)) := fun d i Y hi hY =>
    cornerBy_any d sc p ss i Y (HP.out.below hY (Nat.le_refl _)) HOK.out (by rw [HOK.out.nl]; exact hi) hs0 hs1
  have HR : Hid (corV ss sc (setI set) p.n = if corB ss sc (setI set) p.n then .tuple #[.agg #[.int .i64 (corS ss sc (setI set) false p.n).1, .int .i64 (corS ss sc (setI set) false p.n).2, .int .i64 (corS ss sc (setI set) true p.n).1, .int .i64 (corS ss sc (setI set) true p.n).2], .bool true] else .tuple #[.agg #[.int .i64 0, .int .i64 0, .int .i64 0, .int .i64 0], .bool false]) := rfl
  generalize corV ss sc (setI set) p.n = R at *
  clear h hok
  have hix0 : ∀ (a b c d e f g h : Value) (w : World), (Instr.index 68 (.agg #[a, b, c, d, e, f, g, h]) (.int .i64 0)).run Tryz.prog w = .ok (.agg #[a, b, c, d]) w := fun _ _ _ _ _ _ _ _ _ => by kernel_rfl
  have hix1 : ∀ (a b c d e f g h : Value) (w : World), (Instr.index 68 (.agg #[a, b, c, d, e, f, g, h]) (.int .i64 1)).run Tryz.prog w = .ok (.agg #[e, f, g, h]) w := fun _ _ _ _ _ _ _ _ _ => by kernel_rfl
  have HBX := boxL_new w p 70
  have hst := @store_fn Tryz.prog
  unfold lookV sideV at HBX ⊢
  unfold sideV at HCB
  go_enter Tryz.func137, Tryz.ntmps137
  go_wp2_with fail
  obtain ⟨W0, hW0⟩ : ∃ W, (w.alloc (.cells #[.int .i64 p.lo, .int .i64 p.hi, .slice p.a p.n p.cap, .int .i64 p.lo, .int .i64 p.hi, .slice p.a p.n p.cap, .func (.func 133) #[] #[], .int .i64 p.lo, .int .i64 p.hi, .slice p.a p.n p.cap, .func (.func 134) #[] #[]] 70)).alloc (.cells #[.int .i64 0, .int .i64 0, .int .i64 0, .int .i64 0] 81) = W := ⟨_, rfl⟩
  have hQ0 : Quad W0 (w.heap.size + 1) 0 0 0 0 := by rw [← hW0]; have := quad_new (w.alloc (.cells #[.int .i64 p.lo, .int .i64 p.hi, .slice p.a p.n p.cap, .int .i64 p.lo, .int .i64 p.hi, .slice p.a p.n p.cap, .func (.func 133) #[] #[], .int .i64 p.lo, .int .i64 p.hi, .slice p.a p.n p.cap, .func (.func 134) #[] #[]] 70)) 0 0 0 0 81; simpa using this
  have hB0 : Below w.heap.size w W0 := by rw [← hW0]; exact BA (BA (Below.refl _ _) _) _
  have HBX : BoxL W0 w.heap.size p := by rw [← hW0]; exact HBX.grown (World.block_lt_of_cell? _ _ HBX.c0) (newB _ _)
  rw [hW0]
  clear hW0
  go_step3
  go_wp2_with fail
  refine (anywhere_any W0).mono ?_
  rintro e X1 ⟨rfl, h1⟩
  go_wp2_with fail
  refine (anywhere_any X1).mono ?_
  rintro e X2 ⟨rfl, h2⟩
  have h2 := BT h1 h2
  have hQ0 := hQ0.grown h2
  have HBX := HBX.grown HBX.lt h2
  have hB0 := BT hB0 h2
  clear h1 h2
  obtain ⟨W, hW⟩ : ∃ W, X2.alloc (.cells #[.int .i64 (-67108864), .int .i64 67108864, .int .i64 (-67108864), .int .i64 67108864] 81) = W := ⟨_, rfl⟩
  have hQC : Quad W X2.heap.size (-67108864) 67108864 (-67108864) 67108864 := by rw [← hW]; exact quad_new _ _ _ _ _ _
  have hB0 : Below w.heap.size w W := by rw [← hW]; exact BA hB0 _
  have hQ0 : Quad W (w.heap.size + 1) 0 0 0 0 := by rw [← hW]; exact hQ0.grown (newB _ _)
  have hC1 : w.heap.size + 1 < X2.heap.size := hQ0.lt |> fun _ => by have := ‹Quad X2 (w.heap.size + 1) 0 0 0 0›.lt; exact this
  have HBX : BoxL W w.heap.size p := by rw [← hW]; exact HBX.grown HBX.lt (newB _ _)
  have hq0 := Lib.hid hQ0
  have hWW : X2.heap.size < W.heap.size := hQC.lt
  have HB0 := Lib.hid hB0
  have HBX := Lib.hid HBX
  have HQC := Lib.hid hQC
  obtain ⟨b0, b1, b2, b3, b4, b5, b6, b7, b8, b9, b10⟩ := HBX.out
  clear hQ0 hQC hB0
  go_wp2_with fail
  go_step3
  go_wp2_with fail
  clear hW b0 b1 b2 b3 b4 b5 b6 b7 b8 b9 b10
  generalize X2.heap.size = C at *
  have g0 : Hid (corB ss sc (setI set) 0 = true) := rfl
  have g1 : Hid (∀ d, corS ss sc (setI set) d 0 = (-67108864, 67108864)) := fun _ => rfl
  have HG : Hid (∀ d k, corS ss sc (setI set) d (k + 1) = if setI set k then (max (corS ss sc (setI set) d k).1 (cbS sc (ss.getD k default) d).1, min (corS ss sc (setI set) d k).2 (cbS sc (ss.getD k default) d).2) else corS ss sc (setI set) d k) := fun _ _ => rfl
  have HV : Hid (∀ k, corB ss sc (setI set) k = (decide ((corS ss sc (setI set) false k).1 ≤ (corS ss sc (setI set) false k).2) && decide ((corS ss sc (setI set) true k).1 ≤ (corS ss sc (setI set) true k).2))) := fun _ => rfl
  have HCUT : Hid (∀ k, k ≤ p.n → corB ss sc (setI set) k = false → corB ss sc (setI set) p.n = false) := fun k hk h => corB_cut ss sc (setI set) hk h
  generalize corB ss sc (setI set) = V at *
  generalize hGF : corS ss sc (setI set) = G at *
  clear hGF
  go_loopw [19] (fun i wr => ∃ k : Nat, k ≤ p.n ∧ i = .int .i64 k ∧ Hid (V k = true) ∧ Quad wr C (G false k).1 (G false k).2 (G true k).1 (G true k).2 ∧ Below C W wr) (fun i _ => p.n - (intOf i).toNat)
  case atStart => exact ⟨0, by omega, rfl, g0, by rw [g1.out, g1.out]; exact HQC.out, Below.refl _ _⟩
  case round =>
    obtain ⟨k, hk, rfl, hVk, hQ, hB⟩ := hrel
    have hk0 : (0 : Int) ≤ (k : Int) := by omega
    have hk1 : (k : Int) ≤ 12 := by omega
    by_cases hlt : k < p.n
    · have hBk := HBX.out.grown (by omega) hB
      have hBw : Below w.heap.size w wr := HB0.out.trans (hB.mono (by omega))
      have hG0 := HG.out false k
      have hG1 := HG.out true k
      have hcb := Lib.hid (fun d Y => HCB.out d k Y hlt)
      have hVs := HV.out (k + 1)
      cases hs : setI set k
      · rw [hs] at hG0 hG1
        have hg0 : Hid (G false (k + 1) = G false k) := hG0
        have hg1 : Hid (G true (k + 1) = G true k) := hG1
        have hv1 : Hid (V (k + 1) = true) := by
          show _ = _
          rw [hVs, hg0.out, hg1.out, ← HV.out]; exact hVk.out
        have HS := Lib.hid hs
        clear hs hG0 hG1 hVs hcb
        go_wp2_with fail
        refine (has_set set k _ (by omega)).mono ?_
        rintro e Y ⟨rfl, hY⟩
        rw [HS.out]
        have hq := Lib.hid (hQ.grown hY)
        have hb := hB.trans (hY.mono (show C ≤ wr.heap.size by have := hB.size; omega))
        clear hQ hB hY
        go_wp2_with fail
        go_roundw
        case rel => exact ⟨k + 1, by omega, by go_num, hv1, by rw [hg0.out, hg1.out]; exact hq.out, hb⟩
        case measure => simp [intOf]; omega
      · rw [hs] at hG0 hG1
        have HS := Lib.hid hs
        have hg0 : Hid (G false (k + 1) = (max (G false k).1 (cbS sc (ss.getD k default) false).1, min (G false k).2 (cbS sc (ss.getD k default) false).2)) := hG0
        have hg1 : Hid (G true (k + 1) = (max (G true k).1 (cbS sc (ss.getD k default) true).1, min (G true k).2 (cbS sc (ss.getD k default) true).2)) := hG1
        have HVs := Lib.hid hVs
        have hcb0 := Lib.hid (hcb.out false)
        have hcb1 := Lib.hid (hcb.out true)
        have hd0 : dirF false = 133 := rfl
        have hd1 : dirF true = 134 := rfl
        rw [hd0] at hcb0
        rw [hd1] at hcb1
        clear hs hG0 hG1 hVs hcb hd0 hd1
        have hQk := Lib.hid hQ
        generalize hP1 : G false (k + 1) = p1 at *
        have HP1 := Lib.hid hP1
        clear hP1
        generalize hQ1 : G true (k + 1) = q1 at *
        have HQ1 := Lib.hid hQ1
        clear hQ1
        generalize G false k = p0 at *
        generalize G true k = q0 at *
        generalize cbS sc (ss.getD k default) false = u at *
        generalize cbS sc (ss.getD k default) true = v at *
        go_wp2_with fail
        refine (has_set set k _ (by omega)).mono ?_
        rintro e Y ⟨rfl, hY⟩
        rw [HS.out]
        have hq := Lib.hid (hQ.grown hY)
        have hb := hB.trans (hY.mono (show C ≤ wr.heap.size by have := hB.size; omega))
        have hbx := HBX.out.grown (by omega) hb
        obtain ⟨b0, b1, b2, b3, b4, b5, b6, b7, b8, b9, b10⟩ := hbx
        clear hQ hB hY hBk hBw
        go_wp2_with fail
        refine wp_loop_rounds 3 ?_
        rw [rounds_succ]
        go_wp2_with fail
        have hyc : C < Y.heap.size := hq.out.lt
        obtain ⟨Z, hZ⟩ : ∃ Z, Y.alloc (.cells #[.int .i64 p.lo, .int .i64 p.hi, .slice p.a p.n p.cap, .func (.func 133) #[] #[]] 67) = Z := ⟨_, rfl⟩
        have hbz : BoxD Z Y.heap.size p 133 := by rw [← hZ]; exact boxD_new Y p 133 _
        have hnz : Below Y.heap.size Y Z := by rw [← hZ]; exact newB _ _
        rw [hZ]
        clear hZ b0 b1 b2 b3 b4 b5 b6 b7 b8 b9 b10
        have hq := Lib.hid (hq.out.grown hnz)
        have hb := hb.trans (hnz.mono (by omega))
        clear hnz
        obtain ⟨c0, c1, c2, c3, f0, f1, f2, f3⟩ := hq.out
        obtain ⟨z0, z1, z2, z3⟩ := hbz
        generalize Y.heap.size = D at *
        have hS : Hid (∀ X, Below Z.heap.size Z X → X.cell? ⟨C, 0, none⟩ = some (.int .i64 p0.1) ∧ X.cell? ⟨C, 1, none⟩ = some (.int .i64 p0.2) ∧ X.cell? ⟨D, 0, none⟩ = some (.int .i64 p.lo) ∧ X.cell? ⟨D, 1, none⟩ = some (.int .i64 p.hi) ∧ X.cell? ⟨D, 2, none⟩ = some (.slice p.a p.n p.cap) ∧ X.cell? ⟨D, 3, none⟩ = some (.func (.func 133) #[] #[])) := fun X hX => ⟨cellB c0 hX, cellB c1 hX, cellB z0 hX, cellB z1 hX, cellB z2 hX, cellB z3 hX⟩
        refine wp_region_seq [(0, true), (1, true), (2, true), (3, true), (4, true), (5, true), (6, true), (7, false), (8, false), (9, true), (10, false)] (fun X => X.cell? ⟨C, 0, none⟩ = some (.int .i64 p0.1) ∧ X.cell? ⟨C, 1, none⟩ = some (.int .i64 p0.2) ∧ X.cell? ⟨D, 0, none⟩ = some (.int .i64 p.lo) ∧ X.cell? ⟨D, 1, none⟩ = some (.int .i64 p.hi) ∧ X.cell? ⟨D, 2, none⟩ = some (.slice p.a p.n p.cap) ∧ X.cell? ⟨D, 3, none⟩ = some (.func (.func 133) #[] #[])) (by kernel_rfl) (by kernel_rfl) (fun _ _ d _ _ h => by cases d <;> exact h) ⟨c0, c1, z0, z1, z2, z3⟩ ?_
        clear c0 c1 c2 c3 f0 f1 f2 f3 z0 z1 z2 z3
        repeat (first | (refine seq_read rfl (by rfl) _ (fun w' hS => by (try dsimp only at hS); go_simp; (try with_reducible rfl)) ?_; (try simp only [Act.put, List.setIfInBounds_toArray, List.set_cons_zero, List.set_cons_succ])) | (refine seq_skip rfl (by rfl) ?_; (try simp only [Act.put, List.setIfInBounds_toArray, List.set_cons_zero, List.set_cons_succ])))
        refine seq_do rfl (by rfl) (fun K hK => ?_)
        go_simp
        have hx0 : Below Z.heap.size Z Z.drew := Below.drew (Below.refl _ _)
        refine (hcb0.out Z.drew (HB0.out.trans ((hb.trans (hx0.mono (by have := hb.size; omega))).mono (by omega)))).mono ?_
        rintro e X1 ⟨rfl, hx1⟩
        have hx1 := BT hx0 hx1
        refine hK _ _ (hS.out _ hx1) ?_
        clear hK K
        (try simp only [Act.put, List.setIfInBounds_toArray, List.set_cons_zero, List.set_cons_succ])
        repeat (first | (refine seq_read rfl (by rfl) _ (fun w' hS => by (try dsimp only at hS); go_simp; (try with_reducible rfl)) ?_; (try simp only [Act.put, List.setIfInBounds_toArray, List.set_cons_zero, List.set_cons_succ])) | (refine seq_skip rfl (by rfl) ?_; (try simp only [Act.put, List.setIfInBounds_toArray, List.set_cons_zero, List.set_cons_succ])))
        refine seq_do rfl (by rfl) (fun K hK => ?_)
        go_simp
        refine (join_any p0.1 p0.2 u.1 u.2 X1).mono ?_
        rintro e X2 ⟨rfl, hx2⟩
        have hx2 := BT hx1 hx2
        refine hK _ _ (hS.out _ hx2) ?_
        clear hK K hx0 hx1
        (try simp only [Act.put, List.setIfInBounds_toArray, List.set_cons_zero, List.set_cons_succ])
        repeat (first | (refine seq_read rfl (by rfl) _ (fun w' hS => by (try dsimp only at hS); go_simp; (try with_reducible rfl)) ?_; (try simp only [Act.put, List.setIfInBounds_toArray, List.set_cons_zero, List.set_cons_succ])) | (refine seq_skip rfl (by rfl) ?_; (try simp only [Act.put, List.setIfInBounds_toArray, List.set_cons_zero, List.set_cons_succ])))
        refine seq_last rfl (by rfl) (by kernel_rfl) (fun K hK => ?_)
        have hq2 := hq.out.grown hx2
        obtain ⟨c0, c1, c2, c3, f0, f1, f2, f3⟩ := hq2
        go_simp
        refine hK _ _ ?_
        clear hK K c0 c1 c2 c3 f0 f1 f2 f3 hS
        first | show Exit.inBlock _ _ Exit.normal _ _ | show Exit.then _ _ Exit.normal _ _ | skip
        have hq := hq.out.grown hx2
        have hb := hb.trans (hx2.mono (by have := hb.size; omega))
        clear hx2
        have hq := hq.set01 (max p0.1 u.1) (min p0.2 u.2)
        have hb := (hb.setCell (p := ⟨C, 0, none⟩) (Nat.le_refl _) (.int .i64 (max p0.1 u.1))).setCell (p := ⟨C, 1, none⟩) (Nat.le_refl _) (.int .i64 (min p0.2 u.2))
        have hgl : Hid (max p0.1 u.1 = p1.1) := by show _ = _; rw [hg0.out]
        have hgr : Hid (min p0.2 u.2 = p1.2) := by show _ = _; rw [hg0.out]
        rw [hgl.out, hgr.out] at hq hb ⊢
        clear hgl hgr
        generalize (X2.setCell ⟨C, 0, none⟩ (.int .i64 p1.1)).setCell ⟨C, 1, none⟩ (.int .i64 p1.2) = X3 at *
        have hq := Lib.hid hq
        obtain ⟨c0, c1, c2, c3, f0, f1, f2, f3⟩ := hq.out
        cases hd : decide (p1.1 ≤ p1.2)
        · have hvk : V (k + 1) = false := by rw [HVs.out, hd, Bool.false_and]
          have hr : Hid (R = .tuple #[.agg #[.int .i64 0, .int .i64 0, .int .i64 0, .int .i64 0], .bool false]) := by
            show _ = _; rw [HR.out, HCUT.out (k + 1) (by omega) hvk]; rfl
          have HD := Lib.hid hd
          clear hd hvk
          go_wp2_with fail
          have hS : Hid (∀ X, Below X3.heap.size X3 X → X.cell? ⟨C, 0, none⟩ = some (.int .i64 p1.1) ∧ X.cell? ⟨C, 1, none⟩ = some (.int .i64 p1.2)) := fun X hX => ⟨cellB c0 hX, cellB c1 hX⟩
          refine wp_region_seq [(0, true), (1, true), (2, true), (3, true), (4, true), (5, true), (6, true), (7, true), (8, false), (9, false), (10, true)] (fun X => X.cell? ⟨C, 0, none⟩ = some (.int .i64 p1.1) ∧ X.cell? ⟨C, 1, none⟩ = some (.int .i64 p1.2)) (by kernel_rfl) (by kernel_rfl) (fun _ _ d _ _ h => by cases d <;> exact h) ⟨c0, c1⟩ ?_
          clear c0 c1 c2 c3 f0 f1 f2 f3
          repeat (first | (refine seq_read rfl (by rfl) _ (fun w' hS => by (try dsimp only at hS); go_simp; (try with_reducible rfl)) ?_; (try simp only [Act.put, List.setIfInBounds_toArray, List.set_cons_zero, List.set_cons_succ])) | (refine seq_skip rfl (by rfl) ?_; (try simp only [Act.put, List.setIfInBounds_toArray, List.set_cons_zero, List.set_cons_succ])))
          refine seq_do rfl (by rfl) (fun K hK => ?_)
          go_simp
          have hx0 : Below X3.heap.size X3 X3.drew := Below.drew (Below.refl _ _)
          refine hK _ _ (hS.out _ (BA hx0 _)) ?_
          clear hK K
          (try simp only [Act.put, List.setIfInBounds_toArray, List.set_cons_zero, List.set_cons_succ])
          repeat (first | (refine seq_read rfl (by rfl) _ (fun w' hS => by (try dsimp only at hS); go_simp; (try with_reducible rfl)) ?_; (try simp only [Act.put, List.setIfInBounds_toArray, List.set_cons_zero, List.set_cons_succ])) | (refine seq_skip rfl (by rfl) ?_; (try simp only [Act.put, List.setIfInBounds_toArray, List.set_cons_zero, List.set_cons_succ])))
          refine seq_do rfl (by rfl) (fun K hK => ?_)
          go_simp
          refine (rising2_any _ p1.1 p1.2 _ (by go_cell) (by go_cell)).mono ?_
          rintro e X4 ⟨rfl, hx4⟩
          have hx4 := BT (BA hx0 _) hx4
          refine hK _ _ (hS.out _ hx4) ?_
          clear hK K hS
          (try simp only [Act.put, List.setIfInBounds_toArray, List.set_cons_zero, List.set_cons_succ])
          rw [HD.out]
          repeat (first | (refine seq_read rfl (by rfl) _ (fun w' hS => by (try dsimp only at hS); go_simp; (try with_reducible rfl)) ?_; (try simp only [Act.put, List.setIfInBounds_toArray, List.set_cons_zero, List.set_cons_succ])) | (refine seq_skip rfl (by rfl) ?_; (try simp only [Act.put, List.setIfInBounds_toArray, List.set_cons_zero, List.set_cons_succ])))
          apply seq_end
          first | show Exit.inBlock _ _ Exit.normal _ _ | show Exit.then _ _ Exit.normal _ _ | skip
          have hb9 := hb.trans (hx4.mono (by have := hb.size; omega))
          obtain ⟨c0, c1, c2, c3, f0, f1, f2, f3⟩ := hq0.out.below hC1 hb9
          have hbf := Lib.hid (HB0.out.trans (hb9.mono (by omega)))
          clear hx0 hx4 hb hb9
          go_wp2_with fail
          rw [hr.out, Exit.noGoto_ret]
          have hfin := (BC (BC (BC (BC hbf.out (w.heap.size + 1) 0 (by omega) (.int .i64 0)) (w.heap.size + 1) 1 (by omega) (.int .i64 0)) (w.heap.size + 1) 2 (by omega) (.int .i64 0)) (w.heap.size + 1) 3 (by omega) (.int .i64 0))
          exact bodyPost_ret (v := .tuple #[.agg #[.int .i64 0, .int .i64 0, .int .i64 0, .int .i64 0], .bool false]) (by simp [results, Tryz.results137, go_sem, c0, c1, c2, c3]) rfl ⟨rfl, hfin⟩
        have HD := Lib.hid hd
        have HE0 := Lib.hid hd
        clear hd
        go_wp2_with fail
        have hS : Hid (∀ X, Below X3.heap.size X3 X → X.cell? ⟨C, 0, none⟩ = some (.int .i64 p1.1) ∧ X.cell? ⟨C, 1, none⟩ = some (.int .i64 p1.2)) := fun X hX => ⟨cellB c0 hX, cellB c1 hX⟩
        refine wp_region_seq [(0, true), (1, true), (2, true), (3, true), (4, true), (5, true), (6, true), (7, true), (8, false), (9, false), (10, true)] (fun X => X.cell? ⟨C, 0, none⟩ = some (.int .i64 p1.1) ∧ X.cell? ⟨C, 1, none⟩ = some (.int .i64 p1.2)) (by kernel_rfl) (by kernel_rfl) (fun _ _ d _ _ h => by cases d <;> exact h) ⟨c0, c1⟩ ?_
        clear c0 c1 c2 c3 f0 f1 f2 f3
        repeat (first | (refine seq_read rfl (by rfl) _ (fun w' hS => by (try dsimp only at hS); go_simp; (try with_reducible rfl)) ?_; (try simp only [Act.put, List.setIfInBounds_toArray, List.set_cons_zero, List.set_cons_succ])) | (refine seq_skip rfl (by rfl) ?_; (try simp only [Act.put, List.setIfInBounds_toArray, List.set_cons_zero, List.set_cons_succ])))
        refine seq_do rfl (by rfl) (fun K hK => ?_)
        go_simp
        have hx0 : Below X3.heap.size X3 X3.drew := Below.drew (Below.refl _ _)
        refine hK _ _ (hS.out _ (BA hx0 _)) ?_
        clear hK K
        (try simp only [Act.put, List.setIfInBounds_toArray, List.set_cons_zero, List.set_cons_succ])
        repeat (first | (refine seq_read rfl (by rfl) _ (fun w' hS => by (try dsimp only at hS); go_simp; (try with_reducible rfl)) ?_; (try simp only [Act.put, List.setIfInBounds_toArray, List.set_cons_zero, List.set_cons_succ])) | (refine seq_skip rfl (by rfl) ?_; (try simp only [Act.put, List.setIfInBounds_toArray, List.set_cons_zero, List.set_cons_succ])))
        refine seq_do rfl (by rfl) (fun K hK => ?_)
        go_simp
        refine (rising2_any _ p1.1 p1.2 _ (by go_cell) (by go_cell)).mono ?_
        rintro e X4 ⟨rfl, hx4⟩
        have hx4 := BT (BA hx0 _) hx4
        refine hK _ _ (hS.out _ hx4) ?_
        clear hK K hS
        (try simp only [Act.put, List.setIfInBounds_toArray, List.set_cons_zero, List.set_cons_succ])
        rw [HD.out]
        repeat (first | (refine seq_read rfl (by rfl) _ (fun w' hS => by (try dsimp only at hS); go_simp; (try with_reducible rfl)) ?_; (try simp only [Act.put, List.setIfInBounds_toArray, List.set_cons_zero, List.set_cons_succ])) | (refine seq_skip rfl (by rfl) ?_; (try simp only [Act.put, List.setIfInBounds_toArray, List.set_cons_zero, List.set_cons_succ])))
        apply seq_end
        first | show Exit.inBlock _ _ Exit.normal _ _ | show Exit.then _ _ Exit.normal _ _ | skip
        have hb := hb.trans (hx4.mono (by have := hb.size; omega))
        have hq := Lib.hid (hq.out.grown hx4)
        have hbx := HBX.out.grown (by omega) hb
        obtain ⟨b0, b1, b2, b3, b4, b5, b6, b7, b8, b9, b10⟩ := hbx
        clear hx0 hx4 HD
        go_wp2_with fail
        rw [rounds_succ]
        go_wp2_with fail
        generalize D = D1 at *
        have hyc : C < X4.heap.size := hq.out.lt
        obtain ⟨Z2, hZ⟩ : ∃ Z, X4.alloc (.cells #[.int .i64 p.lo, .int .i64 p.hi, .slice p.a p.n p.cap, .func (.func 134) #[] #[]] 67) = Z := ⟨_, rfl⟩
        have hbz : BoxD Z2 X4.heap.size p 134 := by rw [← hZ]; exact boxD_new X4 p 134 _
        have hnz : Below X4.heap.size X4 Z2 := by rw [← hZ]; exact newB _ _
        rw [hZ]
        clear hZ b0 b1 b2 b3 b4 b5 b6 b7 b8 b9 b10
        have hq := Lib.hid (hq.out.grown hnz)
        have hb := hb.trans (hnz.mono (by omega))
        clear hnz
        obtain ⟨c0, c1, c2, c3, f0, f1, f2, f3⟩ := hq.out
        obtain ⟨z0, z1, z2, z3⟩ := hbz
        generalize X4.heap.size = D at *
        have hS : Hid (∀ X, Below Z2.heap.size Z2 X → X.cell? ⟨C, 2, none⟩ = some (.int .i64 q0.1) ∧ X.cell? ⟨C, 3, none⟩ = some (.int .i64 q0.2) ∧ X.cell? ⟨D, 0, none⟩ = some (.int .i64 p.lo) ∧ X.cell? ⟨D, 1, none⟩ = some (.int .i64 p.hi) ∧ X.cell? ⟨D, 2, none⟩ = some (.slice p.a p.n p.cap) ∧ X.cell? ⟨D, 3, none⟩ = some (.func (.func 134) #[] #[])) := fun X hX => ⟨cellB c2 hX, cellB c3 hX, cellB z0 hX, cellB z1 hX, cellB z2 hX, cellB z3 hX⟩
        refine wp_region_seq [(0, true), (1, true), (2, true), (3, true), (4, true), (5, true), (6, true), (7, false), (8, false), (9, true), (10, false)] (fun X => X.cell? ⟨C, 2, none⟩ = some (.int .i64 q0.1) ∧ X.cell? ⟨C, 3, none⟩ = some (.int .i64 q0.2) ∧ X.cell? ⟨D, 0, none⟩ = some (.int .i64 p.lo) ∧ X.cell? ⟨D, 1, none⟩ = some (.int .i64 p.hi) ∧ X.cell? ⟨D, 2, none⟩ = some (.slice p.a p.n p.cap) ∧ X.cell? ⟨D, 3, none⟩ = some (.func (.func 134) #[] #[])) (by kernel_rfl) (by kernel_rfl) (fun _ _ d _ _ h => by cases d <;> exact h) ⟨c2, c3, z0, z1, z2, z3⟩ ?_
        clear c0 c1 c2 c3 f0 f1 f2 f3 z0 z1 z2 z3
        repeat (first | (refine seq_read rfl (by rfl) _ (fun w' hS => by (try dsimp only at hS); go_simp; (try with_reducible rfl)) ?_; (try simp only [Act.put, List.setIfInBounds_toArray, List.set_cons_zero, List.set_cons_succ])) | (refine seq_skip rfl (by rfl) ?_; (try simp only [Act.put, List.setIfInBounds_toArray, List.set_cons_zero, List.set_cons_succ])))
        refine seq_do rfl (by rfl) (fun K hK => ?_)
        go_simp
        have hx0 : Below Z2.heap.size Z2 Z2.drew := Below.drew (Below.refl _ _)
        refine (hcb1.out Z2.drew (HB0.out.trans ((hb.trans (hx0.mono (by have := hb.size; omega))).mono (by omega)))).mono ?_
        rintro e X1 ⟨rfl, hx1⟩
        have hx1 := BT hx0 hx1
        refine hK _ _ (hS.out _ hx1) ?_
        clear hK K
        (try simp only [Act.put, List.setIfInBounds_toArray, List.set_cons_zero, List.set_cons_succ])
        repeat (first | (refine seq_read rfl (by rfl) _ (fun w' hS => by (try dsimp only at hS); go_simp; (try with_reducible rfl)) ?_; (try simp only [Act.put, List.setIfInBounds_toArray, List.set_cons_zero, List.set_cons_succ])) | (refine seq_skip rfl (by rfl) ?_; (try simp only [Act.put, List.setIfInBounds_toArray, List.set_cons_zero, List.set_cons_succ])))
        refine seq_do rfl (by rfl) (fun K hK => ?_)
        go_simp
        refine (join_any q0.1 q0.2 v.1 v.2 X1).mono ?_
        rintro e X2 ⟨rfl, hx2⟩
        have hx2 := BT hx1 hx2
        refine hK _ _ (hS.out _ hx2) ?_
        clear hK K hx0 hx1
        (try simp only [Act.put, List.setIfInBounds_toArray, List.set_cons_zero, List.set_cons_succ])
        repeat (first | (refine seq_read rfl (by rfl) _ (fun w' hS => by (try dsimp only at hS); go_simp; (try with_reducible rfl)) ?_; (try simp only [Act.put, List.setIfInBounds_toArray, List.set_cons_zero, List.set_cons_succ])) | (refine seq_skip rfl (by rfl) ?_; (try simp only [Act.put, List.setIfInBounds_toArray, List.set_cons_zero, List.set_cons_succ])))
        refine seq_last rfl (by rfl) (by kernel_rfl) (fun K hK => ?_)
        have hq2 := hq.out.grown hx2
        obtain ⟨c0, c1, c2, c3, f0, f1, f2, f3⟩ := hq2
        go_simp
        refine hK _ _ ?_
        clear hK K c0 c1 c2 c3 f0 f1 f2 f3 hS
        first | show Exit.inBlock _ _ Exit.normal _ _ | show Exit.then _ _ Exit.normal _ _ | skip
        have hq := hq.out.grown hx2
        have hb := hb.trans (hx2.mono (by have := hb.size; omega))
        clear hx2
        have hq := hq.set23 (max q0.1 v.1) (min q0.2 v.2)
        have hb := (hb.setCell (p := ⟨C, 2, none⟩) (Nat.le_refl _) (.int .i64 (max q0.1 v.1))).setCell (p := ⟨C, 3, none⟩) (Nat.le_refl _) (.int .i64 (min q0.2 v.2))
        have hgl : Hid (max q0.1 v.1 = q1.1) := by show _ = _; rw [hg1.out]
        have hgr : Hid (min q0.2 v.2 = q1.2) := by show _ = _; rw [hg1.out]
        rw [hgl.out, hgr.out] at hq hb ⊢
        clear hgl hgr
        generalize (X2.setCell ⟨C, 2, none⟩ (.int .i64 q1.1)).setCell ⟨C, 3, none⟩ (.int .i64 q1.2) = X3 at *
        have hq := Lib.hid hq
        obtain ⟨c0, c1, c2, c3, f0, f1, f2, f3⟩ := hq.out
        cases hd : decide (q1.1 ≤ q1.2)
        · have hvk : V (k + 1) = false := by rw [HVs.out, hd, Bool.and_false]
          have hr : Hid (R = .tuple #[.agg #[.int .i64 0, .int .i64 0, .int .i64 0, .int .i64 0], .bool false]) := by
            show _ = _; rw [HR.out, HCUT.out (k + 1) (by omega) hvk]; rfl
          have HD := Lib.hid hd
          clear hd hvk
          go_wp2_with fail
          have hS : Hid (∀ X, Below X3.heap.size X3 X → X.cell? ⟨C, 2, none⟩ = some (.int .i64 q1.1) ∧ X.cell? ⟨C, 3, none⟩ = some (.int .i64 q1.2)) := fun X hX => ⟨cellB c2 hX, cellB c3 hX⟩
          refine wp_region_seq [(0, true), (1, true), (2, true), (3, true), (4, true), (5, true), (6, true), (7, true), (8, false), (9, false), (10, true)] (fun X => X.cell? ⟨C, 2, none⟩ = some (.int .i64 q1.1) ∧ X.cell? ⟨C, 3, none⟩ = some (.int .i64 q1.2)) (by kernel_rfl) (by kernel_rfl) (fun _ _ d _ _ h => by cases d <;> exact h) ⟨c2, c3⟩ ?_
          clear c0 c1 c2 c3 f0 f1 f2 f3
          repeat (first | (refine seq_read rfl (by rfl) _ (fun w' hS => by (try dsimp only at hS); go_simp; (try with_reducible rfl)) ?_; (try simp only [Act.put, List.setIfInBounds_toArray, List.set_cons_zero, List.set_cons_succ])) | (refine seq_skip rfl (by rfl) ?_; (try simp only [Act.put, List.setIfInBounds_toArray, List.set_cons_zero, List.set_cons_succ])))
          refine seq_do rfl (by rfl) (fun K hK => ?_)
          go_simp
          have hx0 : Below X3.heap.size X3 X3.drew := Below.drew (Below.refl _ _)
          refine hK _ _ (hS.out _ (BA hx0 _)) ?_
          clear hK K
          (try simp only [Act.put, List.setIfInBounds_toArray, List.set_cons_zero, List.set_cons_succ])
          repeat (first | (refine seq_read rfl (by rfl) _ (fun w' hS => by (try dsimp only at hS); go_simp; (try with_reducible rfl)) ?_; (try simp only [Act.put, List.setIfInBounds_toArray, List.set_cons_zero, List.set_cons_succ])) | (refine seq_skip rfl (by rfl) ?_; (try simp only [Act.put, List.setIfInBounds_toArray, List.set_cons_zero, List.set_cons_succ])))
          refine seq_do rfl (by rfl) (fun K hK => ?_)
          go_simp
          refine (rising2_any _ q1.1 q1.2 _ (by go_cell) (by go_cell)).mono ?_
          rintro e X4 ⟨rfl, hx4⟩
          have hx4 := BT (BA hx0 _) hx4
          refine hK _ _ (hS.out _ hx4) ?_
          clear hK K hS
          (try simp only [Act.put, List.setIfInBounds_toArray, List.set_cons_zero, List.set_cons_succ])
          rw [HD.out]
          repeat (first | (refine seq_read rfl (by rfl) _ (fun w' hS => by (try dsimp only at hS); go_simp; (try with_reducible rfl)) ?_; (try simp only [Act.put, List.setIfInBounds_toArray, List.set_cons_zero, List.set_cons_succ])) | (refine seq_skip rfl (by rfl) ?_; (try simp only [Act.put, List.setIfInBounds_toArray, List.set_cons_zero, List.set_cons_succ])))
          apply seq_end
          first | show Exit.inBlock _ _ Exit.normal _ _ | show Exit.then _ _ Exit.normal _ _ | skip
          have hb9 := hb.trans (hx4.mono (by have := hb.size; omega))
          obtain ⟨c0, c1, c2, c3, f0, f1, f2, f3⟩ := hq0.out.below hC1 hb9
          have hbf := Lib.hid (HB0.out.trans (hb9.mono (by omega)))
          clear hx0 hx4 hb hb9
          go_wp2_with fail
          rw [hr.out, Exit.noGoto_ret]
          have hfin := (BC (BC (BC (BC hbf.out (w.heap.size + 1) 0 (by omega) (.int .i64 0)) (w.heap.size + 1) 1 (by omega) (.int .i64 0)) (w.heap.size + 1) 2 (by omega) (.int .i64 0)) (w.heap.size + 1) 3 (by omega) (.int .i64 0))
          exact bodyPost_ret (v := .tuple #[.agg #[.int .i64 0, .int .i64 0, .int .i64 0, .int .i64 0], .bool false]) (by simp [results, Tryz.results137, go_sem, c0, c1, c2, c3]) rfl ⟨rfl, hfin⟩
        have HD := Lib.hid hd
        have HE2 := Lib.hid hd
        clear hd
        go_wp2_with fail
        have hS : Hid (∀ X, Below X3.heap.size X3 X → X.cell? ⟨C, 2, none⟩ = some (.int .i64 q1.1) ∧ X.cell? ⟨C, 3, none⟩ = some (.int .i64 q1.2)) := fun X hX => ⟨cellB c2 hX, cellB c3 hX⟩
        refine wp_region_seq [(0, true), (1, true), (2, true), (3, true), (4, true), (5, true), (6, true), (7, true), (8, false), (9, false), (10, true)] (fun X => X.cell? ⟨C, 2, none⟩ = some (.int .i64 q1.1) ∧ X.cell? ⟨C, 3, none⟩ = some (.int .i64 q1.2)) (by kernel_rfl) (by kernel_rfl) (fun _ _ d _ _ h => by cases d <;> exact h) ⟨c2, c3⟩ ?_
        clear c0 c1 c2 c3 f0 f1 f2 f3
        repeat (first | (refine seq_read rfl (by rfl) _ (fun w' hS => by (try dsimp only at hS); go_simp; (try with_reducible rfl)) ?_; (try simp only [Act.put, List.setIfInBounds_toArray, List.set_cons_zero, List.set_cons_succ])) | (refine seq_skip rfl (by rfl) ?_; (try simp only [Act.put, List.setIfInBounds_toArray, List.set_cons_zero, List.set_cons_succ])))
        refine seq_do rfl (by rfl) (fun K hK => ?_)
        go_simp
        have hx0 : Below X3.heap.size X3 X3.drew := Below.drew (Below.refl _ _)
        refine hK _ _ (hS.out _ (BA hx0 _)) ?_
        clear hK K
        (try simp only [Act.put, List.setIfInBounds_toArray, List.set_cons_zero, List.set_cons_succ])
        repeat (first | (refine seq_read rfl (by rfl) _ (fun w' hS => by (try dsimp only at hS); go_simp; (try with_reducible rfl)) ?_; (try simp only [Act.put, List.setIfInBounds_toArray, List.set_cons_zero, List.set_cons_succ])) | (refine seq_skip rfl (by rfl) ?_; (try simp only [Act.put, List.setIfInBounds_toArray, List.set_cons_zero, List.set_cons_succ])))
        refine seq_do rfl (by rfl) (fun K hK => ?_)
        go_simp
        refine (rising2_any _ q1.1 q1.2 _ (by go_cell) (by go_cell)).mono ?_
        rintro e X4 ⟨rfl, hx4⟩
        have hx4 := BT (BA hx0 _) hx4
        refine hK _ _ (hS.out _ hx4) ?_
        clear hK K hS
        (try simp only [Act.put, List.setIfInBounds_toArray, List.set_cons_zero, List.set_cons_succ])
        rw [HD.out]
        repeat (first | (refine seq_read rfl (by rfl) _ (fun w' hS => by (try dsimp only at hS); go_simp; (try with_reducible rfl)) ?_; (try simp only [Act.put, List.setIfInBounds_toArray, List.set_cons_zero, List.set_cons_succ])) | (refine seq_skip rfl (by rfl) ?_; (try simp only [Act.put, List.setIfInBounds_toArray, List.set_cons_zero, List.set_cons_succ])))
        apply seq_end
        first | show Exit.inBlock _ _ Exit.normal _ _ | show Exit.then _ _ Exit.normal _ _ | skip
        have hb := hb.trans (hx4.mono (by have := hb.size; omega))
        have hq := Lib.hid (hq.out.grown hx4)
        have hbx := HBX.out.grown (by omega) hb
        obtain ⟨b0, b1, b2, b3, b4, b5, b6, b7, b8, b9, b10⟩ := hbx
        clear hx0 hx4 HD
        go_wp2_with fail
        rw [rounds_succ]
        go_wp2_with fail
        exact ⟨⟨k + 1, by omega, by go_num, by show _ = _; rw [HVs.out, HE0.out, HE2.out]; rfl, by rw [HP1.out, HQ1.out]; exact hq.out, hb⟩, by simp [intOf]; omega⟩
    · obtain rfl : k = p.n := by omega
      have hr : Hid (R = .tuple #[.agg #[.int .i64 (G false p.n).1, .int .i64 (G false p.n).2, .int .i64 (G true p.n).1, .int .i64 (G true p.n).2], .bool true]) := by
        show _ = _; rw [HR.out, if_pos hVk.out]
      obtain ⟨a0, a1, a2, a3, x0, x1, x2, x3⟩ := hq0.out.below hC1 hB
      obtain ⟨c0, c1, c2, c3, f0, f1, f2, f3⟩ := hQ
      have hbf := Lib.hid (HB0.out.trans (hB.mono (by omega)))
      generalize G false p.n = P at *
      generalize G true p.n = Q at *
      clear hB hVk
      go_wp2_with fail
      rw [Exit.noGoto_ret]
      have hfin := (BC (BC (BC (BC hbf.out (w.heap.size + 1) 0 (by omega) (.int .i64 P.1)) (w.heap.size + 1) 1 (by omega) (.int .i64 P.2)) (w.heap.size + 1) 2 (by omega) (.int .i64 Q.1)) (w.heap.size + 1) 3 (by omega) (.int .i64 Q.2))
      exact bodyPost_ret (v := .tuple #[.agg #[.int .i64 P.1, .int .i64 P.2, .int .i64 Q.1, .int .i64 Q.2], .bool true]) (by simp [results, Tryz.results137, go_sem, a0, a1, a2, a3]) rfl ⟨by rw [hr.out], hfin⟩
end Go.Proofs.YtdkegkacpdkjgaaGreat
