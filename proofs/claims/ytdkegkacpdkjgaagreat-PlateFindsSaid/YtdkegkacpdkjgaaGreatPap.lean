/- Plate: how far apart two stars are, in all truths of a scale. -/
import Derived.Test.YtdkegkacpdkjgaaGreatPvw
namespace Go.Proofs.YtdkegkacpdkjgaaGreat
open Go.RowKit




/-- By how much the place of j is greater than that of i. -/
def apS (sc lo hi : Int) (si sj : St) (d : Bool) : Int × Int :=
  (max ((beyS sc sj d).1 - (beyS sc si d).2) ((plS sc lo hi sj d).1 - (plS sc lo hi si d).2), min ((beyS sc sj d).2 - (beyS sc si d).1) ((plS sc lo hi sj d).2 - (plS sc lo hi si d).1))
theorem pl_rng {s : St} {d : Bool} (h : StOk s d) {sc lo hi : Int} (h0 : 0 ≤ sc) (h1 : sc ≤ 1000) (hl : -100000000 ≤ lo ∧ lo ≤ 100000000) (hh : -100000000 ≤ hi ∧ hi ≤ 100000000) :
    -100000000 ≤ (plS sc lo hi s d).1 ∧ (plS sc lo hi s d).1 ≤ 200000000 ∧ -200000000 ≤ (plS sc lo hi s d).2 ∧ (plS sc lo hi s d).2 ≤ 100000000 := by
  have h2 := said_rng h
  have h3 := bey_rng h h0 h1
  unfold plS
  dsimp only
  omega
set_option maxRecDepth 100000 in
set_option maxHeartbeats 8000000 in
theorem apart_any (d : Bool) (sc lo hi : Int) (p : Pl) (ss : List St) (i j : Nat) (w : World) (h : PlAt p ss w) (hok : PlOk p ss) (hi' : i < ss.length) (hj' : j < ss.length) (hs0 : 0 ≤ sc) (hs1 : sc ≤ 1000) (hl : -100000000 ≤ lo ∧ lo ≤ 100000000) (hh : -100000000 ≤ hi ∧ hi ≤ 100000000) :
    Calls Tryz.prog 57 #[.agg (viewV p d sc lo hi), .int .i64 i, .int .i64 j] w (Ret (if i = j then .agg #[.int .i64 0, .int .i64 0] else .agg #[.int .i64 (apS sc lo hi (ss.getD i default) (ss.getD j default) d).1, .int .i64 (apS sc lo hi (ss.getD i default) (ss.getD j default) d).2]) w) := by
  have hso := hok.st i hi' d
  have hsj := hok.st j hj' d
  have ri := bey_rng hso hs0 hs1
  have rj := bey_rng hsj hs0 hs1
  have pi := pl_rng hso hs0 hs1 hl hh
  have pj := pl_rng hsj hs0 hs1 hl hh
  have HBI : Hid (∀ Y, Below w.heap.size w Y → Calls Tryz.prog 113 #[.agg (sideV p (dirF d)), .int .i64 sc, .int .i64 i] Y (Ret (.agg #[.int .i64 (beyS sc (ss.getD i default) d).1, .int .i64 (beyS sc (ss.getD i default) d).2]) Y)) := fun Y hY =>
    bey_any d sc p ss i Y (h.below hY (Nat.le_refl _)) hi' hs0 hs1 ⟨hso.a, by have := hso.b; have := hso.c; omega, by have := hso.a; have := hso.b; omega, hso.c⟩
  have HBJ : Hid (∀ Y, Below w.heap.size w Y → Calls Tryz.prog 113 #[.agg (sideV p (dirF d)), .int .i64 sc, .int .i64 j] Y (Ret (.agg #[.int .i64 (beyS sc (ss.getD j default) d).1, .int .i64 (beyS sc (ss.getD j default) d).2]) Y)) := fun Y hY =>
    bey_any d sc p ss j Y (h.below hY (Nat.le_refl _)) hj' hs0 hs1 ⟨hsj.a, by have := hsj.b; have := hsj.c; omega, by have := hsj.a; have := hsj.b; omega, hsj.c⟩
  have HPI : Hid (∀ Y, Below w.heap.size w Y → Calls Tryz.prog 52 #[.agg (viewV p d sc lo hi), .int .i64 i] Y (Ret (.agg #[.int .i64 (plS sc lo hi (ss.getD i default) d).1, .int .i64 (plS sc lo hi (ss.getD i default) d).2]) Y)) := fun Y hY => place_any d sc lo hi p ss i Y (h.below hY (Nat.le_refl _)) hok hi' hs0 hs1 hl hh
  have HPJ : Hid (∀ Y, Below w.heap.size w Y → Calls Tryz.prog 52 #[.agg (viewV p d sc lo hi), .int .i64 j] Y (Ret (.agg #[.int .i64 (plS sc lo hi (ss.getD j default) d).1, .int .i64 (plS sc lo hi (ss.getD j default) d).2]) Y)) := fun Y hY => place_any d sc lo hi p ss j Y (h.below hY (Nat.le_refl _)) hok hj' hs0 hs1 hl hh
  have HK : Hid (apS sc lo hi (ss.getD i default) (ss.getD j default) d = (max ((beyS sc (ss.getD j default) d).1 - (beyS sc (ss.getD i default) d).2) ((plS sc lo hi (ss.getD j default) d).1 - (plS sc lo hi (ss.getD i default) d).2), min ((beyS sc (ss.getD j default) d).2 - (beyS sc (ss.getD i default) d).1) ((plS sc lo hi (ss.getD j default) d).2 - (plS sc lo hi (ss.getD i default) d).1))) := rfl
  have hi0 : (0 : Int) ≤ (i : Int) := by omega
  have hj0 : (0 : Int) ≤ (j : Int) := by omega
  clear h hok hso hsj hi' hj' hl hh
  generalize apS sc lo hi (ss.getD i default) (ss.getD j default) d = r at *
  generalize plS sc lo hi (ss.getD i default) d = r' at *
  generalize plS sc lo hi (ss.getD j default) d = q at *
  generalize beyS sc (ss.getD i default) d = u at *
  generalize beyS sc (ss.getD j default) d = v at *
  obtain ⟨u0, u1⟩ := u
  obtain ⟨v0, v1⟩ := v
  obtain ⟨r0, r1⟩ := r'
  obtain ⟨q0, q1⟩ := q
  dsimp only at *
  have hst := @store_fn Tryz.prog
  unfold viewV at HPI HPJ ⊢
  generalize dirF d = f at *
  unfold sideV at HBI HBJ HPI HPJ ⊢
  simp only [List.append_toArray, List.cons_append, List.nil_append] at HPI HPJ ⊢
  by_cases hij : i = j
  · rw [if_pos hij]
    have hij2 : ((i : Int) == (j : Int)) = true := by rw [hij]; simp
    clear hij HBI HBJ HPI HPJ HK
    go_enter Tryz.func57, Tryz.ntmps57
    go_wp2_with fail
    obtain ⟨W, hW⟩ : ∃ W, (w.alloc (.cells #[.int .i64 p.lo, .int .i64 p.hi, .slice p.a p.n p.cap, .func (.func f) #[] #[], .int .i64 sc, .int .i64 lo, .int .i64 hi] 84)).alloc (.cells #[.int .i64 0, .int .i64 0] 23) = W := ⟨_, rfl⟩
    have hsl : Slots (w.heap.size + 1) 2 W := by
      rw [← hW]; intro o ho
      have : o = 0 ∨ o = 1 := by omega
      rcases this with rfl | rfl <;> simp [go_sem]
    have hB00 : Below w.heap.size w W := by rw [← hW]; exact BA (BA (Below.refl _ _) _) _
    have hTlt : w.heap.size + 1 < W.heap.size := by rw [← hW]; simp
    have HBX : BoxV W w.heap.size p f sc lo hi := by
      have : BoxV (w.alloc (.cells #[.int .i64 p.lo, .int .i64 p.hi, .slice p.a p.n p.cap, .func (.func f) #[] #[], .int .i64 sc, .int .i64 lo, .int .i64 hi] 84)) w.heap.size p f sc lo hi := ⟨by simp [go_sem], by simp [go_sem], by simp [go_sem], by simp [go_sem], by simp [go_sem], by simp [go_sem], by simp [go_sem]⟩
      rw [← hW]; exact this.grown (newB _ _)
    rw [hW]
    clear hW
    have hS : Hid (∀ X, Below W.heap.size W X → X.cell? ⟨w.heap.size, 0, none⟩ = some (.int .i64 p.lo) ∧ X.cell? ⟨w.heap.size, 1, none⟩ = some (.int .i64 p.hi) ∧ X.cell? ⟨w.heap.size, 2, none⟩ = some (.slice p.a p.n p.cap) ∧ X.cell? ⟨w.heap.size, 3, none⟩ = some (.func (.func f) #[] #[]) ∧ X.cell? ⟨w.heap.size, 4, none⟩ = some (.int .i64 sc) ∧ X.cell? ⟨w.heap.size, 5, none⟩ = some (.int .i64 lo) ∧ X.cell? ⟨w.heap.size, 6, none⟩ = some (.int .i64 hi)) := fun X hX => (HBX.grown hX).all
    go_wp2_with fail
    refine (only_any 0 W).mono ?_
    rintro e X ⟨rfl, hX⟩
    have hsl := hsl.below hX hTlt
    obtain ⟨x0, q0, z0⟩ := hsl.get 0 (by omega)
    obtain ⟨x1, q1, z1⟩ := hsl.get 1 (by omega)
    have hB3 := BT hB00 hX
    have hfin := (BC (BC hB3 (w.heap.size + 1) 0 (by omega) (.int .i64 0)) (w.heap.size + 1) 1 (by omega) (.int .i64 0))
    clear hX hsl hB3
    go_wp2_with fail
    exact bodyPost_ret (v := .agg #[.int .i64 0, .int .i64 0]) (by simp [results, Tryz.results57, go_sem, q0, q1]) rfl ⟨rfl, hfin⟩
  · rw [if_neg hij]
    have hij2 : ((i : Int) == (j : Int)) = false := by simp; omega
    clear hij
    go_enter Tryz.func57, Tryz.ntmps57
    go_upto_region 3 with fail
    obtain ⟨W, hW⟩ : ∃ W, (w.alloc (.cells #[.int .i64 p.lo, .int .i64 p.hi, .slice p.a p.n p.cap, .func (.func f) #[] #[], .int .i64 sc, .int .i64 lo, .int .i64 hi] 84)).alloc (.cells #[.int .i64 0, .int .i64 0] 23) = W := ⟨_, rfl⟩
    have hsl : Slots (w.heap.size + 1) 2 W := by
      rw [← hW]; intro o ho
      have : o = 0 ∨ o = 1 := by omega
      rcases this with rfl | rfl <;> simp [go_sem]
    have hB00 : Below w.heap.size w W := by rw [← hW]; exact BA (BA (Below.refl _ _) _) _
    have hTlt : w.heap.size + 1 < W.heap.size := by rw [← hW]; simp
    have hBX : BoxV W w.heap.size p f sc lo hi := by
      have : BoxV (w.alloc (.cells #[.int .i64 p.lo, .int .i64 p.hi, .slice p.a p.n p.cap, .func (.func f) #[] #[], .int .i64 sc, .int .i64 lo, .int .i64 hi] 84)) w.heap.size p f sc lo hi := ⟨by simp [go_sem], by simp [go_sem], by simp [go_sem], by simp [go_sem], by simp [go_sem], by simp [go_sem], by simp [go_sem]⟩
      rw [← hW]; exact this.grown (newB _ _)
    rw [hW]
    clear hW
    have HBX := Lib.hid hBX
    have HB00 := Lib.hid hB00
    have HSL := Lib.hid hsl
    have hWle : w.heap.size ≤ W.heap.size := hB00.size
    have hSG : Hid (∀ X, Below W.heap.size W X → X.cell? ⟨w.heap.size, 0, none⟩ = some (.int .i64 p.lo) ∧ X.cell? ⟨w.heap.size, 1, none⟩ = some (.int .i64 p.hi) ∧ X.cell? ⟨w.heap.size, 2, none⟩ = some (.slice p.a p.n p.cap) ∧ X.cell? ⟨w.heap.size, 3, none⟩ = some (.func (.func f) #[] #[]) ∧ X.cell? ⟨w.heap.size, 4, none⟩ = some (.int .i64 sc) ∧ X.cell? ⟨w.heap.size, 5, none⟩ = some (.int .i64 lo) ∧ X.cell? ⟨w.heap.size, 6, none⟩ = some (.int .i64 hi)) := fun X hX => (hBX.grown hX).all
    refine wp_region_tree (.read 0 (.read 1 (.read 2 (.read 3 (.read 4 (.read 6 (.read 7 (.read 8 (.read 9 (.read 10 (.two 5 (.two 11 (.two 12 (.one 13 (.one 14 (.leaf))) 13 (.one 12 (.one 14 (.leaf)))) 13 (.one 11 (.one 12 (.one 14 (.leaf))))) 13 (.one 5 (.one 11 (.one 12 (.one 14 (.leaf)))))))))))))))) (fun X => X.cell? ⟨w.heap.size, 0, none⟩ = some (.int .i64 p.lo) ∧ X.cell? ⟨w.heap.size, 1, none⟩ = some (.int .i64 p.hi) ∧ X.cell? ⟨w.heap.size, 2, none⟩ = some (.slice p.a p.n p.cap) ∧ X.cell? ⟨w.heap.size, 3, none⟩ = some (.func (.func f) #[] #[]) ∧ X.cell? ⟨w.heap.size, 4, none⟩ = some (.int .i64 sc) ∧ X.cell? ⟨w.heap.size, 5, none⟩ = some (.int .i64 lo) ∧ X.cell? ⟨w.heap.size, 6, none⟩ = some (.int .i64 hi)) (by kernel_rfl) (by kernel_rfl) (fun _ _ d _ _ h => by cases d <;> exact h) hBX.all ?_
    have hB0 : Below W.heap.size W W.drew := Below.drew (Below.refl _ _)
    clear hBX hB00 hsl
    generalize hTe : w.heap.size + 1 = T at *
    generalize hBe : w.heap.size = B at *
    have HBw := Lib.hid hBe
    clear hBe
    generalize W.drew = X0 at *
    repeat (first | (refine tr_read rfl (by rfl) _ (fun w' hS => by (try dsimp only at hS); go_simp; (try with_reducible rfl)) ?_; (try simp only [Act.put, List.setIfInBounds_toArray, List.set_cons_zero, List.set_cons_succ])) | (refine tr_skip rfl (by rfl) ?_; (try simp only [Act.put, List.setIfInBounds_toArray, List.set_cons_zero, List.set_cons_succ])))
    refine ⟨?_, ?_⟩
    · skip
      refine tr_step rfl (by rfl) (fun K hK => ?_)
      go_simp
      refine (HBJ.out X0 (HB00.out.trans (hB0.mono (by omega)))).mono ?_
      rintro e X1 ⟨rfl, hb1⟩
      have hB1 := BT hB0 hb1
      refine hK _ _ (hSG.out _ hB1) ?_
      clear hK K hB0 hb1
      (try simp only [Act.put, List.setIfInBounds_toArray, List.set_cons_zero, List.set_cons_succ])
      refine ⟨?_, ?_⟩
      · skip
        refine tr_step rfl (by rfl) (fun K hK => ?_)
        go_simp
        refine (HBI.out X1 (HB00.out.trans (hB1.mono (by omega)))).mono ?_
        rintro e X2 ⟨rfl, hb2⟩
        have hB2 := BT hB1 hb2
        refine hK _ _ (hSG.out _ hB2) ?_
        clear hK K hB1 hb2
        (try simp only [Act.put, List.setIfInBounds_toArray, List.set_cons_zero, List.set_cons_succ])
        refine ⟨?_, ?_⟩
        · skip
          refine tr_step rfl (by rfl) (fun K hK => ?_)
          go_simp
          refine (less_any v0 v1 u0 u1 X2 (by omega) (by omega)).mono ?_
          rintro e X3 ⟨rfl, hb3⟩
          have hB3 := BT hB2 hb3
          refine hK _ _ (hSG.out _ hB3) ?_
          clear hK K hB2 hb3
          (try simp only [Act.put, List.setIfInBounds_toArray, List.set_cons_zero, List.set_cons_succ])
          refine tr_step rfl (by rfl) (fun K hK => ?_)
          have hB4 := BA hB3 (.cells #[.int .i64 0, .int .i64 0] 23)
          have h13_4 := slots_new2 X3 23
          have hg13 := hB3.size
          go_simp
          generalize X3.heap.size = g13 at *
          generalize X3.alloc (.cells #[.int .i64 0, .int .i64 0] 23) = X4 at *
          refine hK _ _ (hSG.out _ hB4) ?_
          clear hK K hB3 
          (try simp only [Act.put, List.setIfInBounds_toArray, List.set_cons_zero, List.set_cons_succ])
          refine tr_last rfl (by rfl) (by kernel_rfl) (fun K hK => ?_)
          obtain ⟨u0_5, q0_5, f0_5⟩ := h13_4.get 0 (by omega)
          obtain ⟨u1_5, q1_5, f1_5⟩ := h13_4.get 1 (by omega)
          have hB5 := BC (BC hB4 g13 0 hg13 (.int .i64 (v0 - u1))) g13 1 hg13 (.int .i64 (v1 - u0))
          have h13_5 := two_set h13_4 (v0 - u1) (v1 - u0)
          go_simp
          clear q0_5 f0_5 q1_5 f1_5
          generalize (X4.setCell ⟨g13, 0, none⟩ (.int .i64 (v0 - u1))).setCell ⟨g13, 1, none⟩ (.int .i64 (v1 - u0)) = X5 at *
          refine hK _ _ ?_
          clear hK K hB4 h13_4
          (try simp only [Act.put, List.setIfInBounds_toArray, List.set_cons_zero, List.set_cons_succ])
          first | show Exit.inBlock _ _ Exit.normal _ _ | show Exit.then _ _ Exit.normal _ _ | skip
          obtain ⟨m0, m1⟩ := h13_5
          have hBX := HBX.out.grown hB5
          have hS4 : Hid (∀ Y, Below X5.heap.size X5 Y → Y.cell? ⟨B, 0, none⟩ = some (.int .i64 p.lo) ∧ Y.cell? ⟨B, 1, none⟩ = some (.int .i64 p.hi) ∧ Y.cell? ⟨B, 2, none⟩ = some (.slice p.a p.n p.cap) ∧ Y.cell? ⟨B, 3, none⟩ = some (.func (.func f) #[] #[]) ∧ Y.cell? ⟨B, 4, none⟩ = some (.int .i64 sc) ∧ Y.cell? ⟨B, 5, none⟩ = some (.int .i64 lo) ∧ Y.cell? ⟨B, 6, none⟩ = some (.int .i64 hi) ∧ Y.cell? ⟨g13, 0, none⟩ = some (.int .i64 (v0 - u1)) ∧ Y.cell? ⟨g13, 1, none⟩ = some (.int .i64 (v1 - u0))) := fun Y hY => by
            obtain ⟨a0, a1, a2, a3, a4, a5, a6⟩ := (hBX.grown hY).all
            exact ⟨a0, a1, a2, a3, a4, a5, a6, cellB m0 hY, cellB m1 hY⟩
          have hb00 := HB00.out.trans (hB5.mono hWle)
          have hXl : B ≤ X5.heap.size := Nat.le_trans hWle hB5.size
          go_wp2_with fail
          refine wp_region_seq [(0, true), (1, true), (2, true), (4, true), (5, true), (3, false), (6, false), (7, false), (8, false), (9, false)] (fun Y => Y.cell? ⟨B, 0, none⟩ = some (.int .i64 p.lo) ∧ Y.cell? ⟨B, 1, none⟩ = some (.int .i64 p.hi) ∧ Y.cell? ⟨B, 2, none⟩ = some (.slice p.a p.n p.cap) ∧ Y.cell? ⟨B, 3, none⟩ = some (.func (.func f) #[] #[]) ∧ Y.cell? ⟨B, 4, none⟩ = some (.int .i64 sc) ∧ Y.cell? ⟨B, 5, none⟩ = some (.int .i64 lo) ∧ Y.cell? ⟨B, 6, none⟩ = some (.int .i64 hi) ∧ Y.cell? ⟨g13, 0, none⟩ = some (.int .i64 (v0 - u1)) ∧ Y.cell? ⟨g13, 1, none⟩ = some (.int .i64 (v1 - u0))) (by kernel_rfl) (by kernel_rfl) (fun _ _ d _ _ h => by cases d <;> exact h) (hS4.out _ (Below.drew (Below.refl _ _))) ?_
          clear m0 m1
          repeat (first | (refine seq_read rfl (by rfl) _ (fun w' hS => by (try dsimp only at hS); go_simp; (try with_reducible rfl)) ?_; (try simp only [Act.put, List.setIfInBounds_toArray, List.set_cons_zero, List.set_cons_succ])) | (refine seq_skip rfl (by rfl) ?_; (try simp only [Act.put, List.setIfInBounds_toArray, List.set_cons_zero, List.set_cons_succ])))
          refine seq_do rfl (by rfl) (fun K hK => ?_)
          go_simp
          have hy0 : Below X5.heap.size X5 X5.drew := Below.drew (Below.refl _ _)
          refine (HPJ.out X5.drew (hb00.trans (hy0.mono hXl))).mono ?_
          rintro e y1 ⟨rfl, hy1⟩
          have hy1 := BT hy0 hy1
          refine hK _ _ (hS4.out _ hy1) ?_
          clear hK K
          (try simp only [Act.put, List.setIfInBounds_toArray, List.set_cons_zero, List.set_cons_succ])
          repeat (first | (refine seq_read rfl (by rfl) _ (fun w' hS => by (try dsimp only at hS); go_simp; (try with_reducible rfl)) ?_; (try simp only [Act.put, List.setIfInBounds_toArray, List.set_cons_zero, List.set_cons_succ])) | (refine seq_skip rfl (by rfl) ?_; (try simp only [Act.put, List.setIfInBounds_toArray, List.set_cons_zero, List.set_cons_succ])))
          refine seq_do rfl (by rfl) (fun K hK => ?_)
          go_simp
          refine (HPI.out y1 (hb00.trans (hy1.mono hXl))).mono ?_
          rintro e y2 ⟨rfl, hy2⟩
          have hy2 := BT hy1 hy2
          refine hK _ _ (hS4.out _ hy2) ?_
          clear hK K
          (try simp only [Act.put, List.setIfInBounds_toArray, List.set_cons_zero, List.set_cons_succ])
          repeat (first | (refine seq_read rfl (by rfl) _ (fun w' hS => by (try dsimp only at hS); go_simp; (try with_reducible rfl)) ?_; (try simp only [Act.put, List.setIfInBounds_toArray, List.set_cons_zero, List.set_cons_succ])) | (refine seq_skip rfl (by rfl) ?_; (try simp only [Act.put, List.setIfInBounds_toArray, List.set_cons_zero, List.set_cons_succ])))
          refine seq_do rfl (by rfl) (fun K hK => ?_)
          go_simp
          refine (less_any q0 q1 r0 r1 y2 (by omega) (by omega)).mono ?_
          rintro e y3 ⟨rfl, hy3⟩
          have hy3 := BT hy2 hy3
          refine hK _ _ (hS4.out _ hy3) ?_
          clear hK K
          (try simp only [Act.put, List.setIfInBounds_toArray, List.set_cons_zero, List.set_cons_succ])
          repeat (first | (refine seq_read rfl (by rfl) _ (fun w' hS => by (try dsimp only at hS); go_simp; (try with_reducible rfl)) ?_; (try simp only [Act.put, List.setIfInBounds_toArray, List.set_cons_zero, List.set_cons_succ])) | (refine seq_skip rfl (by rfl) ?_; (try simp only [Act.put, List.setIfInBounds_toArray, List.set_cons_zero, List.set_cons_succ])))
          refine seq_do rfl (by rfl) (fun K hK => ?_)
          go_simp
          refine (join_any (v0 - u1) (v1 - u0) (q0 - r1) (q1 - r0) y3).mono ?_
          rintro e y4 ⟨rfl, hy4⟩
          have hy4 := BT hy3 hy4
          refine hK _ _ (hS4.out _ hy4) ?_
          clear hK K
          (try simp only [Act.put, List.setIfInBounds_toArray, List.set_cons_zero, List.set_cons_succ])
          repeat (first | (refine seq_read rfl (by rfl) _ (fun w' hS => by (try dsimp only at hS); go_simp; (try with_reducible rfl)) ?_; (try simp only [Act.put, List.setIfInBounds_toArray, List.set_cons_zero, List.set_cons_succ])) | (refine seq_skip rfl (by rfl) ?_; (try simp only [Act.put, List.setIfInBounds_toArray, List.set_cons_zero, List.set_cons_succ])))
          refine seq_last rfl (by rfl) (by kernel_rfl) (fun K hK => ?_)
          have hsl := HSL.out.below (hB5.trans (hy4.mono hB5.size)) (by omega)
          obtain ⟨x0, z0, w0⟩ := hsl.get 0 (by omega)
          obtain ⟨x1, z1, w1⟩ := hsl.get 1 (by omega)
          go_simp
          refine hK _ _ ?_
          clear hK K
          first | show Exit.inBlock _ _ Exit.normal _ _ | show Exit.then _ _ Exit.normal _ _ | skip
          have hB9 := hb00.trans (hy4.mono hXl)
          have hTB : w.heap.size ≤ T := by rw [HBw.out]; omega
          have hB3 : Below w.heap.size w y4 := by rw [HBw.out]; exact hB9
          have hfin := (BC (BC hB3 (T) 0 (by omega) (.int .i64 (max (v0 - u1) (q0 - r1)))) (T) 1 (by omega) (.int .i64 (min (v1 - u0) (q1 - r0))))
          go_wp2_with fail
          exact bodyPost_ret (v := .agg #[.int .i64 (max (v0 - u1) (q0 - r1)), .int .i64 (min (v1 - u0) (q1 - r0))]) (by simp [results, Tryz.results57, go_sem, z0, z1]) rfl ⟨by rw [HK.out], hfin⟩
        · skip
          refine tr_step rfl (by rfl) (fun K hK => ?_)
          have hB6 := BA hB2 (.cells #[.int .i64 0, .int .i64 0] 23)
          have h13_6 := slots_new2 X2 23
          have hg13 := hB2.size
          go_simp
          generalize X2.heap.size = g13 at *
          generalize X2.alloc (.cells #[.int .i64 0, .int .i64 0] 23) = X6 at *
          refine hK _ _ (hSG.out _ hB6) ?_
          clear hK K hB2 
          (try simp only [Act.put, List.setIfInBounds_toArray, List.set_cons_zero, List.set_cons_succ])
          refine tr_step rfl (by rfl) (fun K hK => ?_)
          go_simp
          refine (less_any v0 v1 u0 u1 X6 (by omega) (by omega)).mono ?_
          rintro e X7 ⟨rfl, hb7⟩
          have hB7 := BT hB6 hb7
          have h13_7 := h13_6.below hb7 (h13_6.lt2)
          refine hK _ _ (hSG.out _ hB7) ?_
          clear hK K hB6 h13_6 hb7
          (try simp only [Act.put, List.setIfInBounds_toArray, List.set_cons_zero, List.set_cons_succ])
          refine tr_last rfl (by rfl) (by kernel_rfl) (fun K hK => ?_)
          obtain ⟨u0_8, q0_8, f0_8⟩ := h13_7.get 0 (by omega)
          obtain ⟨u1_8, q1_8, f1_8⟩ := h13_7.get 1 (by omega)
          have hB8 := BC (BC hB7 g13 0 hg13 (.int .i64 (v0 - u1))) g13 1 hg13 (.int .i64 (v1 - u0))
          have h13_8 := two_set h13_7 (v0 - u1) (v1 - u0)
          go_simp
          clear q0_8 f0_8 q1_8 f1_8
          generalize (X7.setCell ⟨g13, 0, none⟩ (.int .i64 (v0 - u1))).setCell ⟨g13, 1, none⟩ (.int .i64 (v1 - u0)) = X8 at *
          refine hK _ _ ?_
          clear hK K hB7 h13_7
          (try simp only [Act.put, List.setIfInBounds_toArray, List.set_cons_zero, List.set_cons_succ])
          first | show Exit.inBlock _ _ Exit.normal _ _ | show Exit.then _ _ Exit.normal _ _ | skip
          obtain ⟨m0, m1⟩ := h13_8
          have hBX := HBX.out.grown hB8
          have hS4 : Hid (∀ Y, Below X8.heap.size X8 Y → Y.cell? ⟨B, 0, none⟩ = some (.int .i64 p.lo) ∧ Y.cell? ⟨B, 1, none⟩ = some (.int .i64 p.hi) ∧ Y.cell? ⟨B, 2, none⟩ = some (.slice p.a p.n p.cap) ∧ Y.cell? ⟨B, 3, none⟩ = some (.func (.func f) #[] #[]) ∧ Y.cell? ⟨B, 4, none⟩ = some (.int .i64 sc) ∧ Y.cell? ⟨B, 5, none⟩ = some (.int .i64 lo) ∧ Y.cell? ⟨B, 6, none⟩ = some (.int .i64 hi) ∧ Y.cell? ⟨g13, 0, none⟩ = some (.int .i64 (v0 - u1)) ∧ Y.cell? ⟨g13, 1, none⟩ = some (.int .i64 (v1 - u0))) := fun Y hY => by
            obtain ⟨a0, a1, a2, a3, a4, a5, a6⟩ := (hBX.grown hY).all
            exact ⟨a0, a1, a2, a3, a4, a5, a6, cellB m0 hY, cellB m1 hY⟩
          have hb00 := HB00.out.trans (hB8.mono hWle)
          have hXl : B ≤ X8.heap.size := Nat.le_trans hWle hB8.size
          go_wp2_with fail
          refine wp_region_seq [(0, true), (1, true), (2, true), (4, true), (5, true), (3, false), (6, false), (7, false), (8, false), (9, false)] (fun Y => Y.cell? ⟨B, 0, none⟩ = some (.int .i64 p.lo) ∧ Y.cell? ⟨B, 1, none⟩ = some (.int .i64 p.hi) ∧ Y.cell? ⟨B, 2, none⟩ = some (.slice p.a p.n p.cap) ∧ Y.cell? ⟨B, 3, none⟩ = some (.func (.func f) #[] #[]) ∧ Y.cell? ⟨B, 4, none⟩ = some (.int .i64 sc) ∧ Y.cell? ⟨B, 5, none⟩ = some (.int .i64 lo) ∧ Y.cell? ⟨B, 6, none⟩ = some (.int .i64 hi) ∧ Y.cell? ⟨g13, 0, none⟩ = some (.int .i64 (v0 - u1)) ∧ Y.cell? ⟨g13, 1, none⟩ = some (.int .i64 (v1 - u0))) (by kernel_rfl) (by kernel_rfl) (fun _ _ d _ _ h => by cases d <;> exact h) (hS4.out _ (Below.drew (Below.refl _ _))) ?_
          clear m0 m1
          repeat (first | (refine seq_read rfl (by rfl) _ (fun w' hS => by (try dsimp only at hS); go_simp; (try with_reducible rfl)) ?_; (try simp only [Act.put, List.setIfInBounds_toArray, List.set_cons_zero, List.set_cons_succ])) | (refine seq_skip rfl (by rfl) ?_; (try simp only [Act.put, List.setIfInBounds_toArray, List.set_cons_zero, List.set_cons_succ])))
          refine seq_do rfl (by rfl) (fun K hK => ?_)
          go_simp
          have hy0 : Below X8.heap.size X8 X8.drew := Below.drew (Below.refl _ _)
          refine (HPJ.out X8.drew (hb00.trans (hy0.mono hXl))).mono ?_
          rintro e y1 ⟨rfl, hy1⟩
          have hy1 := BT hy0 hy1
          refine hK _ _ (hS4.out _ hy1) ?_
          clear hK K
          (try simp only [Act.put, List.setIfInBounds_toArray, List.set_cons_zero, List.set_cons_succ])
          repeat (first | (refine seq_read rfl (by rfl) _ (fun w' hS => by (try dsimp only at hS); go_simp; (try with_reducible rfl)) ?_; (try simp only [Act.put, List.setIfInBounds_toArray, List.set_cons_zero, List.set_cons_succ])) | (refine seq_skip rfl (by rfl) ?_; (try simp only [Act.put, List.setIfInBounds_toArray, List.set_cons_zero, List.set_cons_succ])))
          refine seq_do rfl (by rfl) (fun K hK => ?_)
          go_simp
          refine (HPI.out y1 (hb00.trans (hy1.mono hXl))).mono ?_
          rintro e y2 ⟨rfl, hy2⟩
          have hy2 := BT hy1 hy2
          refine hK _ _ (hS4.out _ hy2) ?_
          clear hK K
          (try simp only [Act.put, List.setIfInBounds_toArray, List.set_cons_zero, List.set_cons_succ])
          repeat (first | (refine seq_read rfl (by rfl) _ (fun w' hS => by (try dsimp only at hS); go_simp; (try with_reducible rfl)) ?_; (try simp only [Act.put, List.setIfInBounds_toArray, List.set_cons_zero, List.set_cons_succ])) | (refine seq_skip rfl (by rfl) ?_; (try simp only [Act.put, List.setIfInBounds_toArray, List.set_cons_zero, List.set_cons_succ])))
          refine seq_do rfl (by rfl) (fun K hK => ?_)
          go_simp
          refine (less_any q0 q1 r0 r1 y2 (by omega) (by omega)).mono ?_
          rintro e y3 ⟨rfl, hy3⟩
          have hy3 := BT hy2 hy3
          refine hK _ _ (hS4.out _ hy3) ?_
          clear hK K
          (try simp only [Act.put, List.setIfInBounds_toArray, List.set_cons_zero, List.set_cons_succ])
          repeat (first | (refine seq_read rfl (by rfl) _ (fun w' hS => by (try dsimp only at hS); go_simp; (try with_reducible rfl)) ?_; (try simp only [Act.put, List.setIfInBounds_toArray, List.set_cons_zero, List.set_cons_succ])) | (refine seq_skip rfl (by rfl) ?_; (try simp only [Act.put, List.setIfInBounds_toArray, List.set_cons_zero, List.set_cons_succ])))
          refine seq_do rfl (by rfl) (fun K hK => ?_)
          go_simp
          refine (join_any (v0 - u1) (v1 - u0) (q0 - r1) (q1 - r0) y3).mono ?_
          rintro e y4 ⟨rfl, hy4⟩
          have hy4 := BT hy3 hy4
          refine hK _ _ (hS4.out _ hy4) ?_
          clear hK K
          (try simp only [Act.put, List.setIfInBounds_toArray, List.set_cons_zero, List.set_cons_succ])
          repeat (first | (refine seq_read rfl (by rfl) _ (fun w' hS => by (try dsimp only at hS); go_simp; (try with_reducible rfl)) ?_; (try simp only [Act.put, List.setIfInBounds_toArray, List.set_cons_zero, List.set_cons_succ])) | (refine seq_skip rfl (by rfl) ?_; (try simp only [Act.put, List.setIfInBounds_toArray, List.set_cons_zero, List.set_cons_succ])))
          refine seq_last rfl (by rfl) (by kernel_rfl) (fun K hK => ?_)
          have hsl := HSL.out.below (hB8.trans (hy4.mono hB8.size)) (by omega)
          obtain ⟨x0, z0, w0⟩ := hsl.get 0 (by omega)
          obtain ⟨x1, z1, w1⟩ := hsl.get 1 (by omega)
          go_simp
          refine hK _ _ ?_
          clear hK K
          first | show Exit.inBlock _ _ Exit.normal _ _ | show Exit.then _ _ Exit.normal _ _ | skip
          have hB9 := hb00.trans (hy4.mono hXl)
          have hTB : w.heap.size ≤ T := by rw [HBw.out]; omega
          have hB3 : Below w.heap.size w y4 := by rw [HBw.out]; exact hB9
          have hfin := (BC (BC hB3 (T) 0 (by omega) (.int .i64 (max (v0 - u1) (q0 - r1)))) (T) 1 (by omega) (.int .i64 (min (v1 - u0) (q1 - r0))))
          go_wp2_with fail
          exact bodyPost_ret (v := .agg #[.int .i64 (max (v0 - u1) (q0 - r1)), .int .i64 (min (v1 - u0) (q1 - r0))]) (by simp [results, Tryz.results57, go_sem, z0, z1]) rfl ⟨by rw [HK.out], hfin⟩
      · skip
        refine tr_step rfl (by rfl) (fun K hK => ?_)
        have hB9 := BA hB1 (.cells #[.int .i64 0, .int .i64 0] 23)
        have h13_9 := slots_new2 X1 23
        have hg13 := hB1.size
        go_simp
        generalize X1.heap.size = g13 at *
        generalize X1.alloc (.cells #[.int .i64 0, .int .i64 0] 23) = X9 at *
        refine hK _ _ (hSG.out _ hB9) ?_
        clear hK K hB1 
        (try simp only [Act.put, List.setIfInBounds_toArray, List.set_cons_zero, List.set_cons_succ])
        refine tr_step rfl (by rfl) (fun K hK => ?_)
        go_simp
        refine (HBI.out X9 (HB00.out.trans (hB9.mono (by omega)))).mono ?_
        rintro e X10 ⟨rfl, hb10⟩
        have hB10 := BT hB9 hb10
        have h13_10 := h13_9.below hb10 (h13_9.lt2)
        refine hK _ _ (hSG.out _ hB10) ?_
        clear hK K hB9 h13_9 hb10
        (try simp only [Act.put, List.setIfInBounds_toArray, List.set_cons_zero, List.set_cons_succ])
        refine tr_step rfl (by rfl) (fun K hK => ?_)
        go_simp
        refine (less_any v0 v1 u0 u1 X10 (by omega) (by omega)).mono ?_
        rintro e X11 ⟨rfl, hb11⟩
        have hB11 := BT hB10 hb11
        have h13_11 := h13_10.below hb11 (h13_10.lt2)
        refine hK _ _ (hSG.out _ hB11) ?_
        clear hK K hB10 h13_10 hb11
        (try simp only [Act.put, List.setIfInBounds_toArray, List.set_cons_zero, List.set_cons_succ])
        refine tr_last rfl (by rfl) (by kernel_rfl) (fun K hK => ?_)
        obtain ⟨u0_12, q0_12, f0_12⟩ := h13_11.get 0 (by omega)
        obtain ⟨u1_12, q1_12, f1_12⟩ := h13_11.get 1 (by omega)
        have hB12 := BC (BC hB11 g13 0 hg13 (.int .i64 (v0 - u1))) g13 1 hg13 (.int .i64 (v1 - u0))
        have h13_12 := two_set h13_11 (v0 - u1) (v1 - u0)
        go_simp
        clear q0_12 f0_12 q1_12 f1_12
        generalize (X11.setCell ⟨g13, 0, none⟩ (.int .i64 (v0 - u1))).setCell ⟨g13, 1, none⟩ (.int .i64 (v1 - u0)) = X12 at *
        refine hK _ _ ?_
        clear hK K hB11 h13_11
        (try simp only [Act.put, List.setIfInBounds_toArray, List.set_cons_zero, List.set_cons_succ])
        first | show Exit.inBlock _ _ Exit.normal _ _ | show Exit.then _ _ Exit.normal _ _ | skip
        obtain ⟨m0, m1⟩ := h13_12
        have hBX := HBX.out.grown hB12
        have hS4 : Hid (∀ Y, Below X12.heap.size X12 Y → Y.cell? ⟨B, 0, none⟩ = some (.int .i64 p.lo) ∧ Y.cell? ⟨B, 1, none⟩ = some (.int .i64 p.hi) ∧ Y.cell? ⟨B, 2, none⟩ = some (.slice p.a p.n p.cap) ∧ Y.cell? ⟨B, 3, none⟩ = some (.func (.func f) #[] #[]) ∧ Y.cell? ⟨B, 4, none⟩ = some (.int .i64 sc) ∧ Y.cell? ⟨B, 5, none⟩ = some (.int .i64 lo) ∧ Y.cell? ⟨B, 6, none⟩ = some (.int .i64 hi) ∧ Y.cell? ⟨g13, 0, none⟩ = some (.int .i64 (v0 - u1)) ∧ Y.cell? ⟨g13, 1, none⟩ = some (.int .i64 (v1 - u0))) := fun Y hY => by
          obtain ⟨a0, a1, a2, a3, a4, a5, a6⟩ := (hBX.grown hY).all
          exact ⟨a0, a1, a2, a3, a4, a5, a6, cellB m0 hY, cellB m1 hY⟩
        have hb00 := HB00.out.trans (hB12.mono hWle)
        have hXl : B ≤ X12.heap.size := Nat.le_trans hWle hB12.size
        go_wp2_with fail
        refine wp_region_seq [(0, true), (1, true), (2, true), (4, true), (5, true), (3, false), (6, false), (7, false), (8, false), (9, false)] (fun Y => Y.cell? ⟨B, 0, none⟩ = some (.int .i64 p.lo) ∧ Y.cell? ⟨B, 1, none⟩ = some (.int .i64 p.hi) ∧ Y.cell? ⟨B, 2, none⟩ = some (.slice p.a p.n p.cap) ∧ Y.cell? ⟨B, 3, none⟩ = some (.func (.func f) #[] #[]) ∧ Y.cell? ⟨B, 4, none⟩ = some (.int .i64 sc) ∧ Y.cell? ⟨B, 5, none⟩ = some (.int .i64 lo) ∧ Y.cell? ⟨B, 6, none⟩ = some (.int .i64 hi) ∧ Y.cell? ⟨g13, 0, none⟩ = some (.int .i64 (v0 - u1)) ∧ Y.cell? ⟨g13, 1, none⟩ = some (.int .i64 (v1 - u0))) (by kernel_rfl) (by kernel_rfl) (fun _ _ d _ _ h => by cases d <;> exact h) (hS4.out _ (Below.drew (Below.refl _ _))) ?_
        clear m0 m1
        repeat (first | (refine seq_read rfl (by rfl) _ (fun w' hS => by (try dsimp only at hS); go_simp; (try with_reducible rfl)) ?_; (try simp only [Act.put, List.setIfInBounds_toArray, List.set_cons_zero, List.set_cons_succ])) | (refine seq_skip rfl (by rfl) ?_; (try simp only [Act.put, List.setIfInBounds_toArray, List.set_cons_zero, List.set_cons_succ])))
        refine seq_do rfl (by rfl) (fun K hK => ?_)
        go_simp
        have hy0 : Below X12.heap.size X12 X12.drew := Below.drew (Below.refl _ _)
        refine (HPJ.out X12.drew (hb00.trans (hy0.mono hXl))).mono ?_
        rintro e y1 ⟨rfl, hy1⟩
        have hy1 := BT hy0 hy1
        refine hK _ _ (hS4.out _ hy1) ?_
        clear hK K
        (try simp only [Act.put, List.setIfInBounds_toArray, List.set_cons_zero, List.set_cons_succ])
        repeat (first | (refine seq_read rfl (by rfl) _ (fun w' hS => by (try dsimp only at hS); go_simp; (try with_reducible rfl)) ?_; (try simp only [Act.put, List.setIfInBounds_toArray, List.set_cons_zero, List.set_cons_succ])) | (refine seq_skip rfl (by rfl) ?_; (try simp only [Act.put, List.setIfInBounds_toArray, List.set_cons_zero, List.set_cons_succ])))
        refine seq_do rfl (by rfl) (fun K hK => ?_)
        go_simp
        refine (HPI.out y1 (hb00.trans (hy1.mono hXl))).mono ?_
        rintro e y2 ⟨rfl, hy2⟩
        have hy2 := BT hy1 hy2
        refine hK _ _ (hS4.out _ hy2) ?_
        clear hK K
        (try simp only [Act.put, List.setIfInBounds_toArray, List.set_cons_zero, List.set_cons_succ])
        repeat (first | (refine seq_read rfl (by rfl) _ (fun w' hS => by (try dsimp only at hS); go_simp; (try with_reducible rfl)) ?_; (try simp only [Act.put, List.setIfInBounds_toArray, List.set_cons_zero, List.set_cons_succ])) | (refine seq_skip rfl (by rfl) ?_; (try simp only [Act.put, List.setIfInBounds_toArray, List.set_cons_zero, List.set_cons_succ])))
        refine seq_do rfl (by rfl) (fun K hK => ?_)
        go_simp
        refine (less_any q0 q1 r0 r1 y2 (by omega) (by omega)).mono ?_
        rintro e y3 ⟨rfl, hy3⟩
        have hy3 := BT hy2 hy3
        refine hK _ _ (hS4.out _ hy3) ?_
        clear hK K
        (try simp only [Act.put, List.setIfInBounds_toArray, List.set_cons_zero, List.set_cons_succ])
        repeat (first | (refine seq_read rfl (by rfl) _ (fun w' hS => by (try dsimp only at hS); go_simp; (try with_reducible rfl)) ?_; (try simp only [Act.put, List.setIfInBounds_toArray, List.set_cons_zero, List.set_cons_succ])) | (refine seq_skip rfl (by rfl) ?_; (try simp only [Act.put, List.setIfInBounds_toArray, List.set_cons_zero, List.set_cons_succ])))
        refine seq_do rfl (by rfl) (fun K hK => ?_)
        go_simp
        refine (join_any (v0 - u1) (v1 - u0) (q0 - r1) (q1 - r0) y3).mono ?_
        rintro e y4 ⟨rfl, hy4⟩
        have hy4 := BT hy3 hy4
        refine hK _ _ (hS4.out _ hy4) ?_
        clear hK K
        (try simp only [Act.put, List.setIfInBounds_toArray, List.set_cons_zero, List.set_cons_succ])
        repeat (first | (refine seq_read rfl (by rfl) _ (fun w' hS => by (try dsimp only at hS); go_simp; (try with_reducible rfl)) ?_; (try simp only [Act.put, List.setIfInBounds_toArray, List.set_cons_zero, List.set_cons_succ])) | (refine seq_skip rfl (by rfl) ?_; (try simp only [Act.put, List.setIfInBounds_toArray, List.set_cons_zero, List.set_cons_succ])))
        refine seq_last rfl (by rfl) (by kernel_rfl) (fun K hK => ?_)
        have hsl := HSL.out.below (hB12.trans (hy4.mono hB12.size)) (by omega)
        obtain ⟨x0, z0, w0⟩ := hsl.get 0 (by omega)
        obtain ⟨x1, z1, w1⟩ := hsl.get 1 (by omega)
        go_simp
        refine hK _ _ ?_
        clear hK K
        first | show Exit.inBlock _ _ Exit.normal _ _ | show Exit.then _ _ Exit.normal _ _ | skip
        have hB9 := hb00.trans (hy4.mono hXl)
        have hTB : w.heap.size ≤ T := by rw [HBw.out]; omega
        have hB3 : Below w.heap.size w y4 := by rw [HBw.out]; exact hB9
        have hfin := (BC (BC hB3 (T) 0 (by omega) (.int .i64 (max (v0 - u1) (q0 - r1)))) (T) 1 (by omega) (.int .i64 (min (v1 - u0) (q1 - r0))))
        go_wp2_with fail
        exact bodyPost_ret (v := .agg #[.int .i64 (max (v0 - u1) (q0 - r1)), .int .i64 (min (v1 - u0) (q1 - r0))]) (by simp [results, Tryz.results57, go_sem, z0, z1]) rfl ⟨by rw [HK.out], hfin⟩
    · skip
      refine tr_step rfl (by rfl) (fun K hK => ?_)
      have hB13 := BA hB0 (.cells #[.int .i64 0, .int .i64 0] 23)
      have h13_13 := slots_new2 X0 23
      have hg13 := hB0.size
      go_simp
      generalize X0.heap.size = g13 at *
      generalize X0.alloc (.cells #[.int .i64 0, .int .i64 0] 23) = X13 at *
      refine hK _ _ (hSG.out _ hB13) ?_
      clear hK K hB0 
      (try simp only [Act.put, List.setIfInBounds_toArray, List.set_cons_zero, List.set_cons_succ])
      refine tr_step rfl (by rfl) (fun K hK => ?_)
      go_simp
      refine (HBJ.out X13 (HB00.out.trans (hB13.mono (by omega)))).mono ?_
      rintro e X14 ⟨rfl, hb14⟩
      have hB14 := BT hB13 hb14
      have h13_14 := h13_13.below hb14 (h13_13.lt2)
      refine hK _ _ (hSG.out _ hB14) ?_
      clear hK K hB13 h13_13 hb14
      (try simp only [Act.put, List.setIfInBounds_toArray, List.set_cons_zero, List.set_cons_succ])
      refine tr_step rfl (by rfl) (fun K hK => ?_)
      go_simp
      refine (HBI.out X14 (HB00.out.trans (hB14.mono (by omega)))).mono ?_
      rintro e X15 ⟨rfl, hb15⟩
      have hB15 := BT hB14 hb15
      have h13_15 := h13_14.below hb15 (h13_14.lt2)
      refine hK _ _ (hSG.out _ hB15) ?_
      clear hK K hB14 h13_14 hb15
      (try simp only [Act.put, List.setIfInBounds_toArray, List.set_cons_zero, List.set_cons_succ])
      refine tr_step rfl (by rfl) (fun K hK => ?_)
      go_simp
      refine (less_any v0 v1 u0 u1 X15 (by omega) (by omega)).mono ?_
      rintro e X16 ⟨rfl, hb16⟩
      have hB16 := BT hB15 hb16
      have h13_16 := h13_15.below hb16 (h13_15.lt2)
      refine hK _ _ (hSG.out _ hB16) ?_
      clear hK K hB15 h13_15 hb16
      (try simp only [Act.put, List.setIfInBounds_toArray, List.set_cons_zero, List.set_cons_succ])
      refine tr_last rfl (by rfl) (by kernel_rfl) (fun K hK => ?_)
      obtain ⟨u0_17, q0_17, f0_17⟩ := h13_16.get 0 (by omega)
      obtain ⟨u1_17, q1_17, f1_17⟩ := h13_16.get 1 (by omega)
      have hB17 := BC (BC hB16 g13 0 hg13 (.int .i64 (v0 - u1))) g13 1 hg13 (.int .i64 (v1 - u0))
      have h13_17 := two_set h13_16 (v0 - u1) (v1 - u0)
      go_simp
      clear q0_17 f0_17 q1_17 f1_17
      generalize (X16.setCell ⟨g13, 0, none⟩ (.int .i64 (v0 - u1))).setCell ⟨g13, 1, none⟩ (.int .i64 (v1 - u0)) = X17 at *
      refine hK _ _ ?_
      clear hK K hB16 h13_16
      (try simp only [Act.put, List.setIfInBounds_toArray, List.set_cons_zero, List.set_cons_succ])
      first | show Exit.inBlock _ _ Exit.normal _ _ | show Exit.then _ _ Exit.normal _ _ | skip
      obtain ⟨m0, m1⟩ := h13_17
      have hBX := HBX.out.grown hB17
      have hS4 : Hid (∀ Y, Below X17.heap.size X17 Y → Y.cell? ⟨B, 0, none⟩ = some (.int .i64 p.lo) ∧ Y.cell? ⟨B, 1, none⟩ = some (.int .i64 p.hi) ∧ Y.cell? ⟨B, 2, none⟩ = some (.slice p.a p.n p.cap) ∧ Y.cell? ⟨B, 3, none⟩ = some (.func (.func f) #[] #[]) ∧ Y.cell? ⟨B, 4, none⟩ = some (.int .i64 sc) ∧ Y.cell? ⟨B, 5, none⟩ = some (.int .i64 lo) ∧ Y.cell? ⟨B, 6, none⟩ = some (.int .i64 hi) ∧ Y.cell? ⟨g13, 0, none⟩ = some (.int .i64 (v0 - u1)) ∧ Y.cell? ⟨g13, 1, none⟩ = some (.int .i64 (v1 - u0))) := fun Y hY => by
        obtain ⟨a0, a1, a2, a3, a4, a5, a6⟩ := (hBX.grown hY).all
        exact ⟨a0, a1, a2, a3, a4, a5, a6, cellB m0 hY, cellB m1 hY⟩
      have hb00 := HB00.out.trans (hB17.mono hWle)
      have hXl : B ≤ X17.heap.size := Nat.le_trans hWle hB17.size
      go_wp2_with fail
      refine wp_region_seq [(0, true), (1, true), (2, true), (4, true), (5, true), (3, false), (6, false), (7, false), (8, false), (9, false)] (fun Y => Y.cell? ⟨B, 0, none⟩ = some (.int .i64 p.lo) ∧ Y.cell? ⟨B, 1, none⟩ = some (.int .i64 p.hi) ∧ Y.cell? ⟨B, 2, none⟩ = some (.slice p.a p.n p.cap) ∧ Y.cell? ⟨B, 3, none⟩ = some (.func (.func f) #[] #[]) ∧ Y.cell? ⟨B, 4, none⟩ = some (.int .i64 sc) ∧ Y.cell? ⟨B, 5, none⟩ = some (.int .i64 lo) ∧ Y.cell? ⟨B, 6, none⟩ = some (.int .i64 hi) ∧ Y.cell? ⟨g13, 0, none⟩ = some (.int .i64 (v0 - u1)) ∧ Y.cell? ⟨g13, 1, none⟩ = some (.int .i64 (v1 - u0))) (by kernel_rfl) (by kernel_rfl) (fun _ _ d _ _ h => by cases d <;> exact h) (hS4.out _ (Below.drew (Below.refl _ _))) ?_
      clear m0 m1
      repeat (first | (refine seq_read rfl (by rfl) _ (fun w' hS => by (try dsimp only at hS); go_simp; (try with_reducible rfl)) ?_; (try simp only [Act.put, List.setIfInBounds_toArray, List.set_cons_zero, List.set_cons_succ])) | (refine seq_skip rfl (by rfl) ?_; (try simp only [Act.put, List.setIfInBounds_toArray, List.set_cons_zero, List.set_cons_succ])))
      refine seq_do rfl (by rfl) (fun K hK => ?_)
      go_simp
      have hy0 : Below X17.heap.size X17 X17.drew := Below.drew (Below.refl _ _)
      refine (HPJ.out X17.drew (hb00.trans (hy0.mono hXl))).mono ?_
      rintro e y1 ⟨rfl, hy1⟩
      have hy1 := BT hy0 hy1
      refine hK _ _ (hS4.out _ hy1) ?_
      clear hK K
      (try simp only [Act.put, List.setIfInBounds_toArray, List.set_cons_zero, List.set_cons_succ])
      repeat (first | (refine seq_read rfl (by rfl) _ (fun w' hS => by (try dsimp only at hS); go_simp; (try with_reducible rfl)) ?_; (try simp only [Act.put, List.setIfInBounds_toArray, List.set_cons_zero, List.set_cons_succ])) | (refine seq_skip rfl (by rfl) ?_; (try simp only [Act.put, List.setIfInBounds_toArray, List.set_cons_zero, List.set_cons_succ])))
      refine seq_do rfl (by rfl) (fun K hK => ?_)
      go_simp
      refine (HPI.out y1 (hb00.trans (hy1.mono hXl))).mono ?_
      rintro e y2 ⟨rfl, hy2⟩
      have hy2 := BT hy1 hy2
      refine hK _ _ (hS4.out _ hy2) ?_
      clear hK K
      (try simp only [Act.put, List.setIfInBounds_toArray, List.set_cons_zero, List.set_cons_succ])
      repeat (first | (refine seq_read rfl (by rfl) _ (fun w' hS => by (try dsimp only at hS); go_simp; (try with_reducible rfl)) ?_; (try simp only [Act.put, List.setIfInBounds_toArray, List.set_cons_zero, List.set_cons_succ])) | (refine seq_skip rfl (by rfl) ?_; (try simp only [Act.put, List.setIfInBounds_toArray, List.set_cons_zero, List.set_cons_succ])))
      refine seq_do rfl (by rfl) (fun K hK => ?_)
      go_simp
      refine (less_any q0 q1 r0 r1 y2 (by omega) (by omega)).mono ?_
      rintro e y3 ⟨rfl, hy3⟩
      have hy3 := BT hy2 hy3
      refine hK _ _ (hS4.out _ hy3) ?_
      clear hK K
      (try simp only [Act.put, List.setIfInBounds_toArray, List.set_cons_zero, List.set_cons_succ])
      repeat (first | (refine seq_read rfl (by rfl) _ (fun w' hS => by (try dsimp only at hS); go_simp; (try with_reducible rfl)) ?_; (try simp only [Act.put, List.setIfInBounds_toArray, List.set_cons_zero, List.set_cons_succ])) | (refine seq_skip rfl (by rfl) ?_; (try simp only [Act.put, List.setIfInBounds_toArray, List.set_cons_zero, List.set_cons_succ])))
      refine seq_do rfl (by rfl) (fun K hK => ?_)
      go_simp
      refine (join_any (v0 - u1) (v1 - u0) (q0 - r1) (q1 - r0) y3).mono ?_
      rintro e y4 ⟨rfl, hy4⟩
      have hy4 := BT hy3 hy4
      refine hK _ _ (hS4.out _ hy4) ?_
      clear hK K
      (try simp only [Act.put, List.setIfInBounds_toArray, List.set_cons_zero, List.set_cons_succ])
      repeat (first | (refine seq_read rfl (by rfl) _ (fun w' hS => by (try dsimp only at hS); go_simp; (try with_reducible rfl)) ?_; (try simp only [Act.put, List.setIfInBounds_toArray, List.set_cons_zero, List.set_cons_succ])) | (refine seq_skip rfl (by rfl) ?_; (try simp only [Act.put, List.setIfInBounds_toArray, List.set_cons_zero, List.set_cons_succ])))
      refine seq_last rfl (by rfl) (by kernel_rfl) (fun K hK => ?_)
      have hsl := HSL.out.below (hB17.trans (hy4.mono hB17.size)) (by omega)
      obtain ⟨x0, z0, w0⟩ := hsl.get 0 (by omega)
      obtain ⟨x1, z1, w1⟩ := hsl.get 1 (by omega)
      go_simp
      refine hK _ _ ?_
      clear hK K
      first | show Exit.inBlock _ _ Exit.normal _ _ | show Exit.then _ _ Exit.normal _ _ | skip
      have hB9 := hb00.trans (hy4.mono hXl)
      have hTB : w.heap.size ≤ T := by rw [HBw.out]; omega
      have hB3 : Below w.heap.size w y4 := by rw [HBw.out]; exact hB9
      have hfin := (BC (BC hB3 (T) 0 (by omega) (.int .i64 (max (v0 - u1) (q0 - r1)))) (T) 1 (by omega) (.int .i64 (min (v1 - u0) (q1 - r0))))
      go_wp2_with fail
      exact bodyPost_ret (v := .agg #[.int .i64 (max (v0 - u1) (q0 - r1)), .int .i64 (min (v1 - u0) (q1 - r0))]) (by simp [results, Tryz.results57, go_sem, z0, z1]) rfl ⟨by rw [HK.out], hfin⟩
end Go.Proofs.YtdkegkacpdkjgaaGreat
