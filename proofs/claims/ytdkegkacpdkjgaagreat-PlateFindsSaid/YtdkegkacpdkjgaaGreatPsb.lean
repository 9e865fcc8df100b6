/- Plate: what a direction of a plate says of a star: where it is, and by how much it is beyond the corner. -/
import Derived.Test.YtdkegkacpdkjgaaGreatTr
namespace Go.Proofs.YtdkegkacpdkjgaaGreat
open Go.RowKit

def dirF (d : Bool) : Nat := if d then 134 else 133
def St.on (s : St) (d : Bool) : Int × Int := if d then (s.y0, s.y1) else (s.x0, s.x1)
def St.sky (s : St) (d : Bool) : Int × Int := if d then (s.n0, s.n1) else (s.e0, s.e1)
theorem spans_any (d : Bool) (s : St) (w : World) : Calls Tryz.prog (dirF d) #[.agg s.cells] w (Ret (.tuple #[.agg #[.int .i64 (s.on d).1, .int .i64 (s.on d).2], .agg #[.int .i64 (s.sky d).1, .int .i64 (s.sky d).2]]) w) := by
  cases d
  · exact side1_any s w
  · exact side2_any s w
/-- Where a star is said to be: anywhere if it is not known. -/
def saidS (s : St) (d : Bool) : Int × Int := if s.k then s.sky d else (-67108864, 67108864)
/-- By how much it is beyond the corner, with a scale. -/
def beyS (sc : Int) (s : St) (d : Bool) : Int × Int := (sc * (s.on d).1 / 1000, sc * (s.on d).2 / 1000)

/-- What a star and a direction have in memory. -/
structure BoxD (X : World) (B : Nat) (p : Pl) (f : Nat) : Prop where
  c0 : X.cell? ⟨B, 0, none⟩ = some (.int .i64 p.lo)
  c1 : X.cell? ⟨B, 1, none⟩ = some (.int .i64 p.hi)
  c2 : X.cell? ⟨B, 2, none⟩ = some (.slice p.a p.n p.cap)
  c3 : X.cell? ⟨B, 3, none⟩ = some (.func (.func f) #[] #[])
theorem BoxD.grown {X X' : World} {B f : Nat} {p : Pl} (k : BoxD X B p f) (hb : Below X.heap.size X X') : BoxD X' B p f := ⟨cellB k.c0 hb, cellB k.c1 hb, cellB k.c2 hb, cellB k.c3 hb⟩
theorem boxD_new (w : World) (p : Pl) (f : Nat) (T : TypeId) : BoxD (w.alloc (.cells (sideV p f) T)) w.heap.size p f := ⟨by simp [go_sem, sideV], by simp [go_sem, sideV], by simp [go_sem, sideV], by simp [go_sem, sideV]⟩
theorem PlAt.star {p : Pl} {ss : List St} {w : World} (h : PlAt p ss w) {i : Nat} (hi : i < ss.length) : ∃ b o, p.a = some ⟨b, o, none⟩ ∧ b < w.heap.size ∧ StAt (ss.getD i default) b (o + i * 9) w := by
  rcases h.lk with h0 | ⟨b, o, ha, hb, hc⟩
  · rw [h0] at hi; cases hi
  · exact ⟨b, o, ha, hb, hc i hi⟩
def StarS (w' : World) (B b o q f n cap : Nat) (s : St) : Prop := w'.cell? ⟨B, 2, none⟩ = some (.slice (some ⟨b, o, none⟩) n cap) ∧ w'.cell? ⟨B, 3, none⟩ = some (.func (.func f) #[] #[]) ∧ w'.cell? ⟨b, q, none⟩ = some (.int .i64 s.x0) ∧ w'.cell? ⟨b, q + 1, none⟩ = some (.int .i64 s.x1) ∧ w'.cell? ⟨b, q + 2, none⟩ = some (.int .i64 s.y0) ∧ w'.cell? ⟨b, q + 3, none⟩ = some (.int .i64 s.y1) ∧ w'.cell? ⟨b, q + 4, none⟩ = some (.bool s.k) ∧ w'.cell? ⟨b, q + 5, none⟩ = some (.int .i64 s.e0) ∧ w'.cell? ⟨b, q + 6, none⟩ = some (.int .i64 s.e1) ∧ w'.cell? ⟨b, q + 7, none⟩ = some (.int .i64 s.n0) ∧ w'.cell? ⟨b, q + 8, none⟩ = some (.int .i64 s.n1)
theorem starS {w : World} {B b o q f n cap : Nat} {lo hi : Int} {s : St} (h : BoxD w B ⟨lo, hi, some ⟨b, o, none⟩, n, cap⟩ f) (k : StAt s b q w) : StarS w B b o q f n cap s := ⟨h.c2, h.c3, k.c0, k.c1, k.c2, k.c3, k.c4, k.c5, k.c6, k.c7, k.c8⟩
theorem StarS.grown {w w' : World} {B b o q f n cap : Nat} {s : St} (h : StarS w B b o q f n cap s) (hb : Below w.heap.size w w') : StarS w' B b o q f n cap s := by
  obtain ⟨a0, a1, a2, a3, a4, a5, a6, a7, a8, a9, a10⟩ := h
  exact ⟨cellB a0 hb, cellB a1 hb, cellB a2 hb, cellB a3 hb, cellB a4 hb, cellB a5 hb, cellB a6 hb, cellB a7 hb, cellB a8 hb, cellB a9 hb, cellB a10 hb⟩

set_option maxRecDepth 100000 in
set_option maxHeartbeats 4000000 in
theorem bey_any (d : Bool) (sc : Int) (p : Pl) (ss : List St) (i : Nat) (w : World) (h : PlAt p ss w) (hi : i < ss.length) (hs0 : 0 ≤ sc) (hs1 : sc ≤ 1000) (ho : 0 ≤ ((ss.getD i default).on d).1 ∧ ((ss.getD i default).on d).1 ≤ 32768 ∧ 0 ≤ ((ss.getD i default).on d).2 ∧ ((ss.getD i default).on d).2 ≤ 32768) :
    Calls Tryz.prog 113 #[.agg (sideV p (dirF d)), .int .i64 sc, .int .i64 i] w (Ret (.agg #[.int .i64 (beyS sc (ss.getD i default) d).1, .int .i64 (beyS sc (ss.getD i default) d).2]) w) := by
  obtain ⟨b, o, hpa, hb, hst⟩ := h.star hi
  have hil : (i : Int) < p.n := by have := h.nl; omega
  have hin : i < p.n := by have := h.nl; omega
  have hi0 : (0 : Int) ≤ (i : Int) := by omega
  have hbig := h.big
  clear h hi
  obtain ⟨lo, hi, a, n, cap⟩ := p
  dsimp only at hpa hil hin hbig
  subst hpa
  generalize ss.getD i default = s at *
  have hC := Lib.hid (spans_any d s)
  have HK : Hid (beyS sc s d = (sc * (s.on d).1 / 1000, sc * (s.on d).2 / 1000)) := rfl
  generalize beyS sc s d = r at *
  generalize s.on d = u at *
  generalize s.sky d = v at *
  obtain ⟨u0, u1⟩ := u
  obtain ⟨v0, v1⟩ := v
  dsimp only at *
  generalize hdf : dirF d = f at *
  have hdv : f = 133 ∨ f = 134 := by rw [← hdf]; unfold dirF; split <;> simp
  clear hdf
  have HBX := boxD_new w ⟨lo, hi, some ⟨b, o, none⟩, n, cap⟩ f 67
  unfold sideV at HBX ⊢
  obtain ⟨o1, o2, o3, o4⟩ := ho
  have n0 := Int.mul_le_mul hs1 o2 o1 (by omega : (0 : Int) ≤ 1000)
  have n1 := Int.mul_le_mul hs1 o4 o3 (by omega : (0 : Int) ≤ 1000)
  have n2 := Int.mul_nonneg hs0 o1
  have n3 := Int.mul_nonneg hs0 o3
  go_enter Tryz.func113, Tryz.ntmps113
  go_wp2_with fail
  obtain ⟨W, hW⟩ : ∃ W, (w.alloc (.cells #[.int .i64 lo, .int .i64 hi, .slice (some ⟨b, o, none⟩) n cap, .func (.func f) #[] #[]] 67)).alloc (.cells #[.int .i64 0, .int .i64 0] 23) = W := ⟨_, rfl⟩
  have hsl : Slots (w.heap.size + 1) 2 W := by
    rw [← hW]; intro o ho
    have : o = 0 ∨ o = 1 := by omega
    rcases this with rfl | rfl <;> simp [go_sem]
  have hB00 : Below w.heap.size w W := by rw [← hW]; exact BA (BA (Below.refl _ _) _) _
  have hTlt : w.heap.size + 1 < W.heap.size := by rw [← hW]; simp
  have HBX : BoxD W w.heap.size ⟨lo, hi, some ⟨b, o, none⟩, n, cap⟩ f := by rw [← hW]; exact HBX.grown (newB _ _)
  have hst : StAt s b (o + i * 9) W := hst.below hB00 hb
  rw [hW]
  clear hW
  have HR : Hid (Ending.returned (.agg #[.int .i64 (sc * u0 / 1000), .int .i64 (sc * u1 / 1000)]) = .returned (.agg #[.int .i64 r.1, .int .i64 r.2])) := by show _ = _; rw [HK.out]
  rcases hdv with rfl | rfl
  · have HSL : Hid (Slots (w.heap.size + 1) 2 W) := hsl
    have HB0 : Hid (Below w.heap.size w W) := hB00
    have hT : w.heap.size + 1 < W.heap.size := hTlt
    clear hsl hB00 hTlt
    have hSt : StarS W w.heap.size b o (o + i * 9) 133 n cap s := starS HBX hst
    have hSG : Hid (∀ X, Below W.heap.size W X → StarS X w.heap.size b o (o + i * 9) 133 n cap s) := fun X hX => hSt.grown hX
    clear HBX hst
    unfold StarS at hSt hSG
    refine wp_region_tree (.read 0 (.read 1 (.read 2 (.read 3 (.read 4 (.read 5 (.read 6 (.read 7 (.three 8 (.read 9 (.read 10 (.read 11 (.two 12 (.one 13 (.one 14 (.one 15 (.leaf)))) 13 (.one 12 (.one 14 (.one 15 (.leaf)))))))) 12 (.two 8 (.read 9 (.read 10 (.read 11 (.one 13 (.one 14 (.one 15 (.leaf))))))) 13 (.one 8 (.read 9 (.read 10 (.read 11 (.one 14 (.one 15 (.leaf)))))))) 13 (.two 8 (.read 9 (.read 10 (.read 11 (.one 12 (.one 14 (.one 15 (.leaf))))))) 12 (.one 8 (.read 9 (.read 10 (.read 11 (.one 14 (.one 15 (.leaf))))))))))))))))) (fun w' => w'.cell? ⟨w.heap.size, 2, none⟩ = some (.slice (some ⟨b, o, none⟩) n cap) ∧ w'.cell? ⟨w.heap.size, 3, none⟩ = some (.func (.func 133) #[] #[]) ∧ w'.cell? ⟨b, (o + i * 9), none⟩ = some (.int .i64 s.x0) ∧ w'.cell? ⟨b, (o + i * 9) + 1, none⟩ = some (.int .i64 s.x1) ∧ w'.cell? ⟨b, (o + i * 9) + 2, none⟩ = some (.int .i64 s.y0) ∧ w'.cell? ⟨b, (o + i * 9) + 3, none⟩ = some (.int .i64 s.y1) ∧ w'.cell? ⟨b, (o + i * 9) + 4, none⟩ = some (.bool s.k) ∧ w'.cell? ⟨b, (o + i * 9) + 5, none⟩ = some (.int .i64 s.e0) ∧ w'.cell? ⟨b, (o + i * 9) + 6, none⟩ = some (.int .i64 s.e1) ∧ w'.cell? ⟨b, (o + i * 9) + 7, none⟩ = some (.int .i64 s.n0) ∧ w'.cell? ⟨b, (o + i * 9) + 8, none⟩ = some (.int .i64 s.n1)) (by kernel_rfl) (by kernel_rfl) (fun _ _ d _ _ h => by cases d <;> exact h) hSt ?_
    have hB0 : Below W.heap.size W W.drew := Below.drew (Below.refl _ _)
    clear hSt
    generalize hTe : w.heap.size + 1 = T at *
    generalize hBe : w.heap.size = B at *
    have HBw := Lib.hid hBe
    clear hBe
    generalize W.drew = X0 at *
    repeat (first | (refine tr_read rfl (by rfl) _ (fun w' hS => by (try dsimp only at hS); go_simp; (try with_reducible rfl)) ?_; (try simp only [Act.put, List.setIfInBounds_toArray, List.set_cons_zero, List.set_cons_succ])) | (refine tr_skip rfl (by rfl) ?_; (try simp only [Act.put, List.setIfInBounds_toArray, List.set_cons_zero, List.set_cons_succ])))
    refine ⟨?_, ?_, ?_⟩
    · skip
      refine tr_step rfl (by rfl) (fun K hK => ?_)
      go_simp
      refine (hC.out X0).mono ?_
      rintro e X1 ⟨rfl, hb1⟩
      have hB1 := BT hB0 hb1
      refine hK _ _ (hSG.out _ hB1) ?_
      clear hK K hB0 hb1
      (try simp only [Act.put, List.setIfInBounds_toArray, List.set_cons_zero, List.set_cons_succ])
      repeat (first | (refine tr_read rfl (by rfl) _ (fun w' hS => by (try dsimp only at hS); go_simp; (try with_reducible rfl)) ?_; (try simp only [Act.put, List.setIfInBounds_toArray, List.set_cons_zero, List.set_cons_succ])) | (refine tr_skip rfl (by rfl) ?_; (try simp only [Act.put, List.setIfInBounds_toArray, List.set_cons_zero, List.set_cons_succ])))
      refine ⟨?_, ?_⟩
      · skip
        refine tr_step rfl (by rfl) (fun K hK => ?_)
        have hB2 := BA hB1 (.cells #[.int .i64 0, .int .i64 0] 23)
        have h12_2 := slots_new2 X1 23
        have hg12 := hB1.size
        go_simp
        generalize X1.heap.size = g12 at *
        generalize X1.alloc (.cells #[.int .i64 0, .int .i64 0] 23) = X2 at *
        refine hK _ _ (hSG.out _ hB2) ?_
        clear hK K hB1 
        (try simp only [Act.put, List.setIfInBounds_toArray, List.set_cons_zero, List.set_cons_succ])
        refine tr_step rfl (by rfl) (fun K hK => ?_)
        have hB3 := BA hB2 (.cells #[.int .i64 0, .int .i64 0] 23)
        have h12_3 := h12_2.below (newB X2 (.cells #[.int .i64 0, .int .i64 0] 23)) (h12_2.lt2)
        have hlt12_3 := h12_2.lt2
        have h13_3 := slots_new2 X2 23
        have hg13 := hB2.size
        go_simp
        generalize X2.heap.size = g13 at *
        generalize X2.alloc (.cells #[.int .i64 0, .int .i64 0] 23) = X3 at *
        refine hK _ _ (hSG.out _ hB3) ?_
        clear hK K hB2 h12_2
        (try simp only [Act.put, List.setIfInBounds_toArray, List.set_cons_zero, List.set_cons_succ])
        refine tr_step rfl (by rfl) (fun K hK => ?_)
        obtain ⟨u0_4, q0_4, f0_4⟩ := h12_3.get 0 (by omega)
        obtain ⟨u1_4, q1_4, f1_4⟩ := h12_3.get 1 (by omega)
        have hB4 := BC (BC hB3 g12 0 hg12 (.int .i64 (u0))) g12 1 hg12 (.int .i64 (u1))
        have h13_4 := (h13_3.set ⟨g12, 0, none⟩ (.int .i64 (u0))).set ⟨g12, 1, none⟩ (.int .i64 (u1))
        have h12_4 := two_set h12_3 (u0) (u1)
        go_simp
        clear q0_4 f0_4 q1_4 f1_4
        generalize (X3.setCell ⟨g12, 0, none⟩ (.int .i64 (u0))).setCell ⟨g12, 1, none⟩ (.int .i64 (u1)) = X4 at *
        refine hK _ _ (hSG.out _ hB4) ?_
        clear hK K hB3 h13_3 h12_3
        (try simp only [Act.put, List.setIfInBounds_toArray, List.set_cons_zero, List.set_cons_succ])
        refine tr_last rfl (by rfl) (by kernel_rfl) (fun K hK => ?_)
        obtain ⟨u0_5, q0_5, f0_5⟩ := h13_4.get 0 (by omega)
        obtain ⟨u1_5, q1_5, f1_5⟩ := h13_4.get 1 (by omega)
        have hB5 := BC (BC hB4 g13 0 hg13 (.int .i64 (v0))) g13 1 hg13 (.int .i64 (v1))
        have h12_5 := h12_4.far (g' := g13) (by omega) (v0) (v1)
        have h13_5 := two_set h13_4 (v0) (v1)
        go_simp
        clear q0_5 f0_5 q1_5 f1_5
        generalize (X4.setCell ⟨g13, 0, none⟩ (.int .i64 (v0))).setCell ⟨g13, 1, none⟩ (.int .i64 (v1)) = X5 at *
        refine hK _ _ ?_
        clear hK K hB4 h12_4 h13_4
        (try simp only [Act.put, List.setIfInBounds_toArray, List.set_cons_zero, List.set_cons_succ])
        first | show Exit.inBlock _ _ Exit.normal _ _ | show Exit.then _ _ Exit.normal _ _ | skip
        obtain ⟨m0, m1⟩ := h12_5
        have hsl := HSL.out.below hB5 (by omega)
        have hfb : Below w.heap.size w X5 := by rw [HBw.out]; exact HB0.out.trans (hB5.mono (by omega))
        have hTB : w.heap.size ≤ T := by rw [HBw.out]; omega
        obtain ⟨x0, q0, z0⟩ := hsl.get 0 (by omega)
        obtain ⟨x1, q1, z1⟩ := hsl.get 1 (by omega)
        clear h13_5 hsl
        go_wp2_with fail
        have hfin := (BC (BC hfb (T) 0 (by omega) (.int .i64 (sc * u0 / 1000))) (T) 1 (by omega) (.int .i64 (sc * u1 / 1000)))
        exact bodyPost_ret (v := .agg #[.int .i64 (sc * u0 / 1000), .int .i64 (sc * u1 / 1000)]) (by simp [results, Tryz.results113, go_sem, q0, q1]) rfl ⟨HR.out, hfin⟩
      · skip
        refine tr_step rfl (by rfl) (fun K hK => ?_)
        have hB6 := BA hB1 (.cells #[.int .i64 0, .int .i64 0] 23)
        have h13_6 := slots_new2 X1 23
        have hg13 := hB1.size
        go_simp
        generalize X1.heap.size = g13 at *
        generalize X1.alloc (.cells #[.int .i64 0, .int .i64 0] 23) = X6 at *
        refine hK _ _ (hSG.out _ hB6) ?_
        clear hK K hB1 
        (try simp only [Act.put, List.setIfInBounds_toArray, List.set_cons_zero, List.set_cons_succ])
        refine tr_step rfl (by rfl) (fun K hK => ?_)
        have hB7 := BA hB6 (.cells #[.int .i64 0, .int .i64 0] 23)
        have h13_7 := h13_6.below (newB X6 (.cells #[.int .i64 0, .int .i64 0] 23)) (h13_6.lt2)
        have hlt13_7 := h13_6.lt2
        have h12_7 := slots_new2 X6 23
        have hg12 := hB6.size
        go_simp
        generalize X6.heap.size = g12 at *
        generalize X6.alloc (.cells #[.int .i64 0, .int .i64 0] 23) = X7 at *
        refine hK _ _ (hSG.out _ hB7) ?_
        clear hK K hB6 h13_6
        (try simp only [Act.put, List.setIfInBounds_toArray, List.set_cons_zero, List.set_cons_succ])
        refine tr_step rfl (by rfl) (fun K hK => ?_)
        obtain ⟨u0_8, q0_8, f0_8⟩ := h12_7.get 0 (by omega)
        obtain ⟨u1_8, q1_8, f1_8⟩ := h12_7.get 1 (by omega)
        have hB8 := BC (BC hB7 g12 0 hg12 (.int .i64 (u0))) g12 1 hg12 (.int .i64 (u1))
        have h13_8 := (h13_7.set ⟨g12, 0, none⟩ (.int .i64 (u0))).set ⟨g12, 1, none⟩ (.int .i64 (u1))
        have h12_8 := two_set h12_7 (u0) (u1)
        go_simp
        clear q0_8 f0_8 q1_8 f1_8
        generalize (X7.setCell ⟨g12, 0, none⟩ (.int .i64 (u0))).setCell ⟨g12, 1, none⟩ (.int .i64 (u1)) = X8 at *
        refine hK _ _ (hSG.out _ hB8) ?_
        clear hK K hB7 h13_7 h12_7
        (try simp only [Act.put, List.setIfInBounds_toArray, List.set_cons_zero, List.set_cons_succ])
        refine tr_last rfl (by rfl) (by kernel_rfl) (fun K hK => ?_)
        obtain ⟨u0_9, q0_9, f0_9⟩ := h13_8.get 0 (by omega)
        obtain ⟨u1_9, q1_9, f1_9⟩ := h13_8.get 1 (by omega)
        have hB9 := BC (BC hB8 g13 0 hg13 (.int .i64 (v0))) g13 1 hg13 (.int .i64 (v1))
        have h12_9 := h12_8.far (g' := g13) (by omega) (v0) (v1)
        have h13_9 := two_set h13_8 (v0) (v1)
        go_simp
        clear q0_9 f0_9 q1_9 f1_9
        generalize (X8.setCell ⟨g13, 0, none⟩ (.int .i64 (v0))).setCell ⟨g13, 1, none⟩ (.int .i64 (v1)) = X9 at *
        refine hK _ _ ?_
        clear hK K hB8 h12_8 h13_8
        (try simp only [Act.put, List.setIfInBounds_toArray, List.set_cons_zero, List.set_cons_succ])
        first | show Exit.inBlock _ _ Exit.normal _ _ | show Exit.then _ _ Exit.normal _ _ | skip
        obtain ⟨m0, m1⟩ := h12_9
        have hsl := HSL.out.below hB9 (by omega)
        have hfb : Below w.heap.size w X9 := by rw [HBw.out]; exact HB0.out.trans (hB9.mono (by omega))
        have hTB : w.heap.size ≤ T := by rw [HBw.out]; omega
        obtain ⟨x0, q0, z0⟩ := hsl.get 0 (by omega)
        obtain ⟨x1, q1, z1⟩ := hsl.get 1 (by omega)
        clear h13_9 hsl
        go_wp2_with fail
        have hfin := (BC (BC hfb (T) 0 (by omega) (.int .i64 (sc * u0 / 1000))) (T) 1 (by omega) (.int .i64 (sc * u1 / 1000)))
        exact bodyPost_ret (v := .agg #[.int .i64 (sc * u0 / 1000), .int .i64 (sc * u1 / 1000)]) (by simp [results, Tryz.results113, go_sem, q0, q1]) rfl ⟨HR.out, hfin⟩
    · skip
      refine tr_step rfl (by rfl) (fun K hK => ?_)
      have hB10 := BA hB0 (.cells #[.int .i64 0, .int .i64 0] 23)
      have h12_10 := slots_new2 X0 23
      have hg12 := hB0.size
      go_simp
      generalize X0.heap.size = g12 at *
      generalize X0.alloc (.cells #[.int .i64 0, .int .i64 0] 23) = X10 at *
      refine hK _ _ (hSG.out _ hB10) ?_
      clear hK K hB0 
      (try simp only [Act.put, List.setIfInBounds_toArray, List.set_cons_zero, List.set_cons_succ])
      refine ⟨?_, ?_⟩
      · skip
        refine tr_step rfl (by rfl) (fun K hK => ?_)
        go_simp
        refine (hC.out X10).mono ?_
        rintro e X11 ⟨rfl, hb11⟩
        have hB11 := BT hB10 hb11
        have h12_11 := h12_10.below hb11 (h12_10.lt2)
        refine hK _ _ (hSG.out _ hB11) ?_
        clear hK K hB10 h12_10 hb11
        (try simp only [Act.put, List.setIfInBounds_toArray, List.set_cons_zero, List.set_cons_succ])
        repeat (first | (refine tr_read rfl (by rfl) _ (fun w' hS => by (try dsimp only at hS); go_simp; (try with_reducible rfl)) ?_; (try simp only [Act.put, List.setIfInBounds_toArray, List.set_cons_zero, List.set_cons_succ])) | (refine tr_skip rfl (by rfl) ?_; (try simp only [Act.put, List.setIfInBounds_toArray, List.set_cons_zero, List.set_cons_succ])))
        refine tr_step rfl (by rfl) (fun K hK => ?_)
        have hB12 := BA hB11 (.cells #[.int .i64 0, .int .i64 0] 23)
        have h12_12 := h12_11.below (newB X11 (.cells #[.int .i64 0, .int .i64 0] 23)) (h12_11.lt2)
        have hlt12_12 := h12_11.lt2
        have h13_12 := slots_new2 X11 23
        have hg13 := hB11.size
        go_simp
        generalize X11.heap.size = g13 at *
        generalize X11.alloc (.cells #[.int .i64 0, .int .i64 0] 23) = X12 at *
        refine hK _ _ (hSG.out _ hB12) ?_
        clear hK K hB11 h12_11
        (try simp only [Act.put, List.setIfInBounds_toArray, List.set_cons_zero, List.set_cons_succ])
        refine tr_step rfl (by rfl) (fun K hK => ?_)
        obtain ⟨u0_13, q0_13, f0_13⟩ := h12_12.get 0 (by omega)
        obtain ⟨u1_13, q1_13, f1_13⟩ := h12_12.get 1 (by omega)
        have hB13 := BC (BC hB12 g12 0 hg12 (.int .i64 (u0))) g12 1 hg12 (.int .i64 (u1))
        have h13_13 := (h13_12.set ⟨g12, 0, none⟩ (.int .i64 (u0))).set ⟨g12, 1, none⟩ (.int .i64 (u1))
        have h12_13 := two_set h12_12 (u0) (u1)
        go_simp
        clear q0_13 f0_13 q1_13 f1_13
        generalize (X12.setCell ⟨g12, 0, none⟩ (.int .i64 (u0))).setCell ⟨g12, 1, none⟩ (.int .i64 (u1)) = X13 at *
        refine hK _ _ (hSG.out _ hB13) ?_
        clear hK K hB12 h13_12 h12_12
        (try simp only [Act.put, List.setIfInBounds_toArray, List.set_cons_zero, List.set_cons_succ])
        refine tr_last rfl (by rfl) (by kernel_rfl) (fun K hK => ?_)
        obtain ⟨u0_14, q0_14, f0_14⟩ := h13_13.get 0 (by omega)
        obtain ⟨u1_14, q1_14, f1_14⟩ := h13_13.get 1 (by omega)
        have hB14 := BC (BC hB13 g13 0 hg13 (.int .i64 (v0))) g13 1 hg13 (.int .i64 (v1))
        have h12_14 := h12_13.far (g' := g13) (by omega) (v0) (v1)
        have h13_14 := two_set h13_13 (v0) (v1)
        go_simp
        clear q0_14 f0_14 q1_14 f1_14
        generalize (X13.setCell ⟨g13, 0, none⟩ (.int .i64 (v0))).setCell ⟨g13, 1, none⟩ (.int .i64 (v1)) = X14 at *
        refine hK _ _ ?_
        clear hK K hB13 h12_13 h13_13
        (try simp only [Act.put, List.setIfInBounds_toArray, List.set_cons_zero, List.set_cons_succ])
        first | show Exit.inBlock _ _ Exit.normal _ _ | show Exit.then _ _ Exit.normal _ _ | skip
        obtain ⟨m0, m1⟩ := h12_14
        have hsl := HSL.out.below hB14 (by omega)
        have hfb : Below w.heap.size w X14 := by rw [HBw.out]; exact HB0.out.trans (hB14.mono (by omega))
        have hTB : w.heap.size ≤ T := by rw [HBw.out]; omega
        obtain ⟨x0, q0, z0⟩ := hsl.get 0 (by omega)
        obtain ⟨x1, q1, z1⟩ := hsl.get 1 (by omega)
        clear h13_14 hsl
        go_wp2_with fail
        have hfin := (BC (BC hfb (T) 0 (by omega) (.int .i64 (sc * u0 / 1000))) (T) 1 (by omega) (.int .i64 (sc * u1 / 1000)))
        exact bodyPost_ret (v := .agg #[.int .i64 (sc * u0 / 1000), .int .i64 (sc * u1 / 1000)]) (by simp [results, Tryz.results113, go_sem, q0, q1]) rfl ⟨HR.out, hfin⟩
      · skip
        refine tr_step rfl (by rfl) (fun K hK => ?_)
        have hB15 := BA hB10 (.cells #[.int .i64 0, .int .i64 0] 23)
        have h12_15 := h12_10.below (newB X10 (.cells #[.int .i64 0, .int .i64 0] 23)) (h12_10.lt2)
        have hlt12_15 := h12_10.lt2
        have h13_15 := slots_new2 X10 23
        have hg13 := hB10.size
        go_simp
        generalize X10.heap.size = g13 at *
        generalize X10.alloc (.cells #[.int .i64 0, .int .i64 0] 23) = X15 at *
        refine hK _ _ (hSG.out _ hB15) ?_
        clear hK K hB10 h12_10
        (try simp only [Act.put, List.setIfInBounds_toArray, List.set_cons_zero, List.set_cons_succ])
        refine tr_step rfl (by rfl) (fun K hK => ?_)
        go_simp
        refine (hC.out X15).mono ?_
        rintro e X16 ⟨rfl, hb16⟩
        have hB16 := BT hB15 hb16
        have h12_16 := h12_15.below hb16 (h12_15.lt2)
        have h13_16 := h13_15.below hb16 (h13_15.lt2)
        refine hK _ _ (hSG.out _ hB16) ?_
        clear hK K hB15 h12_15 h13_15 hb16
        (try simp only [Act.put, List.setIfInBounds_toArray, List.set_cons_zero, List.set_cons_succ])
        repeat (first | (refine tr_read rfl (by rfl) _ (fun w' hS => by (try dsimp only at hS); go_simp; (try with_reducible rfl)) ?_; (try simp only [Act.put, List.setIfInBounds_toArray, List.set_cons_zero, List.set_cons_succ])) | (refine tr_skip rfl (by rfl) ?_; (try simp only [Act.put, List.setIfInBounds_toArray, List.set_cons_zero, List.set_cons_succ])))
        refine tr_step rfl (by rfl) (fun K hK => ?_)
        obtain ⟨u0_17, q0_17, f0_17⟩ := h12_16.get 0 (by omega)
        obtain ⟨u1_17, q1_17, f1_17⟩ := h12_16.get 1 (by omega)
        have hB17 := BC (BC hB16 g12 0 hg12 (.int .i64 (u0))) g12 1 hg12 (.int .i64 (u1))
        have h13_17 := (h13_16.set ⟨g12, 0, none⟩ (.int .i64 (u0))).set ⟨g12, 1, none⟩ (.int .i64 (u1))
        have h12_17 := two_set h12_16 (u0) (u1)
        go_simp
        clear q0_17 f0_17 q1_17 f1_17
        generalize (X16.setCell ⟨g12, 0, none⟩ (.int .i64 (u0))).setCell ⟨g12, 1, none⟩ (.int .i64 (u1)) = X17 at *
        refine hK _ _ (hSG.out _ hB17) ?_
        clear hK K hB16 h13_16 h12_16
        (try simp only [Act.put, List.setIfInBounds_toArray, List.set_cons_zero, List.set_cons_succ])
        refine tr_last rfl (by rfl) (by kernel_rfl) (fun K hK => ?_)
        obtain ⟨u0_18, q0_18, f0_18⟩ := h13_17.get 0 (by omega)
        obtain ⟨u1_18, q1_18, f1_18⟩ := h13_17.get 1 (by omega)
        have hB18 := BC (BC hB17 g13 0 hg13 (.int .i64 (v0))) g13 1 hg13 (.int .i64 (v1))
        have h12_18 := h12_17.far (g' := g13) (by omega) (v0) (v1)
        have h13_18 := two_set h13_17 (v0) (v1)
        go_simp
        clear q0_18 f0_18 q1_18 f1_18
        generalize (X17.setCell ⟨g13, 0, none⟩ (.int .i64 (v0))).setCell ⟨g13, 1, none⟩ (.int .i64 (v1)) = X18 at *
        refine hK _ _ ?_
        clear hK K hB17 h12_17 h13_17
        (try simp only [Act.put, List.setIfInBounds_toArray, List.set_cons_zero, List.set_cons_succ])
        first | show Exit.inBlock _ _ Exit.normal _ _ | show Exit.then _ _ Exit.normal _ _ | skip
        obtain ⟨m0, m1⟩ := h12_18
        have hsl := HSL.out.below hB18 (by omega)
        have hfb : Below w.heap.size w X18 := by rw [HBw.out]; exact HB0.out.trans (hB18.mono (by omega))
        have hTB : w.heap.size ≤ T := by rw [HBw.out]; omega
        obtain ⟨x0, q0, z0⟩ := hsl.get 0 (by omega)
        obtain ⟨x1, q1, z1⟩ := hsl.get 1 (by omega)
        clear h13_18 hsl
        go_wp2_with fail
        have hfin := (BC (BC hfb (T) 0 (by omega) (.int .i64 (sc * u0 / 1000))) (T) 1 (by omega) (.int .i64 (sc * u1 / 1000)))
        exact bodyPost_ret (v := .agg #[.int .i64 (sc * u0 / 1000), .int .i64 (sc * u1 / 1000)]) (by simp [results, Tryz.results113, go_sem, q0, q1]) rfl ⟨HR.out, hfin⟩
    · skip
      refine tr_step rfl (by rfl) (fun K hK => ?_)
      have hB19 := BA hB0 (.cells #[.int .i64 0, .int .i64 0] 23)
      have h13_19 := slots_new2 X0 23
      have hg13 := hB0.size
      go_simp
      generalize X0.heap.size = g13 at *
      generalize X0.alloc (.cells #[.int .i64 0, .int .i64 0] 23) = X19 at *
      refine hK _ _ (hSG.out _ hB19) ?_
      clear hK K hB0 
      (try simp only [Act.put, List.setIfInBounds_toArray, List.set_cons_zero, List.set_cons_succ])
      refine ⟨?_, ?_⟩
      · skip
        refine tr_step rfl (by rfl) (fun K hK => ?_)
        go_simp
        refine (hC.out X19).mono ?_
        rintro e X20 ⟨rfl, hb20⟩
        have hB20 := BT hB19 hb20
        have h13_20 := h13_19.below hb20 (h13_19.lt2)
        refine hK _ _ (hSG.out _ hB20) ?_
        clear hK K hB19 h13_19 hb20
        (try simp only [Act.put, List.setIfInBounds_toArray, List.set_cons_zero, List.set_cons_succ])
        repeat (first | (refine tr_read rfl (by rfl) _ (fun w' hS => by (try dsimp only at hS); go_simp; (try with_reducible rfl)) ?_; (try simp only [Act.put, List.setIfInBounds_toArray, List.set_cons_zero, List.set_cons_succ])) | (refine tr_skip rfl (by rfl) ?_; (try simp only [Act.put, List.setIfInBounds_toArray, List.set_cons_zero, List.set_cons_succ])))
        refine tr_step rfl (by rfl) (fun K hK => ?_)
        have hB21 := BA hB20 (.cells #[.int .i64 0, .int .i64 0] 23)
        have h13_21 := h13_20.below (newB X20 (.cells #[.int .i64 0, .int .i64 0] 23)) (h13_20.lt2)
        have hlt13_21 := h13_20.lt2
        have h12_21 := slots_new2 X20 23
        have hg12 := hB20.size
        go_simp
        generalize X20.heap.size = g12 at *
        generalize X20.alloc (.cells #[.int .i64 0, .int .i64 0] 23) = X21 at *
        refine hK _ _ (hSG.out _ hB21) ?_
        clear hK K hB20 h13_20
        (try simp only [Act.put, List.setIfInBounds_toArray, List.set_cons_zero, List.set_cons_succ])
        refine tr_step rfl (by rfl) (fun K hK => ?_)
        obtain ⟨u0_22, q0_22, f0_22⟩ := h12_21.get 0 (by omega)
        obtain ⟨u1_22, q1_22, f1_22⟩ := h12_21.get 1 (by omega)
        have hB22 := BC (BC hB21 g12 0 hg12 (.int .i64 (u0))) g12 1 hg12 (.int .i64 (u1))
        have h13_22 := (h13_21.set ⟨g12, 0, none⟩ (.int .i64 (u0))).set ⟨g12, 1, none⟩ (.int .i64 (u1))
        have h12_22 := two_set h12_21 (u0) (u1)
        go_simp
        clear q0_22 f0_22 q1_22 f1_22
        generalize (X21.setCell ⟨g12, 0, none⟩ (.int .i64 (u0))).setCell ⟨g12, 1, none⟩ (.int .i64 (u1)) = X22 at *
        refine hK _ _ (hSG.out _ hB22) ?_
        clear hK K hB21 h13_21 h12_21
        (try simp only [Act.put, List.setIfInBounds_toArray, List.set_cons_zero, List.set_cons_succ])
        refine tr_last rfl (by rfl) (by kernel_rfl) (fun K hK => ?_)
        obtain ⟨u0_23, q0_23, f0_23⟩ := h13_22.get 0 (by omega)
        obtain ⟨u1_23, q1_23, f1_23⟩ := h13_22.get 1 (by omega)
        have hB23 := BC (BC hB22 g13 0 hg13 (.int .i64 (v0))) g13 1 hg13 (.int .i64 (v1))
        have h12_23 := h12_22.far (g' := g13) (by omega) (v0) (v1)
        have h13_23 := two_set h13_22 (v0) (v1)
        go_simp
        clear q0_23 f0_23 q1_23 f1_23
        generalize (X22.setCell ⟨g13, 0, none⟩ (.int .i64 (v0))).setCell ⟨g13, 1, none⟩ (.int .i64 (v1)) = X23 at *
        refine hK _ _ ?_
        clear hK K hB22 h12_22 h13_22
        (try simp only [Act.put, List.setIfInBounds_toArray, List.set_cons_zero, List.set_cons_succ])
        first | show Exit.inBlock _ _ Exit.normal _ _ | show Exit.then _ _ Exit.normal _ _ | skip
        obtain ⟨m0, m1⟩ := h12_23
        have hsl := HSL.out.below hB23 (by omega)
        have hfb : Below w.heap.size w X23 := by rw [HBw.out]; exact HB0.out.trans (hB23.mono (by omega))
        have hTB : w.heap.size ≤ T := by rw [HBw.out]; omega
        obtain ⟨x0, q0, z0⟩ := hsl.get 0 (by omega)
        obtain ⟨x1, q1, z1⟩ := hsl.get 1 (by omega)
        clear h13_23 hsl
        go_wp2_with fail
        have hfin := (BC (BC hfb (T) 0 (by omega) (.int .i64 (sc * u0 / 1000))) (T) 1 (by omega) (.int .i64 (sc * u1 / 1000)))
        exact bodyPost_ret (v := .agg #[.int .i64 (sc * u0 / 1000), .int .i64 (sc * u1 / 1000)]) (by simp [results, Tryz.results113, go_sem, q0, q1]) rfl ⟨HR.out, hfin⟩
      · skip
        refine tr_step rfl (by rfl) (fun K hK => ?_)
        have hB24 := BA hB19 (.cells #[.int .i64 0, .int .i64 0] 23)
        have h13_24 := h13_19.below (newB X19 (.cells #[.int .i64 0, .int .i64 0] 23)) (h13_19.lt2)
        have hlt13_24 := h13_19.lt2
        have h12_24 := slots_new2 X19 23
        have hg12 := hB19.size
        go_simp
        generalize X19.heap.size = g12 at *
        generalize X19.alloc (.cells #[.int .i64 0, .int .i64 0] 23) = X24 at *
        refine hK _ _ (hSG.out _ hB24) ?_
        clear hK K hB19 h13_19
        (try simp only [Act.put, List.setIfInBounds_toArray, List.set_cons_zero, List.set_cons_succ])
        refine tr_step rfl (by rfl) (fun K hK => ?_)
        go_simp
        refine (hC.out X24).mono ?_
        rintro e X25 ⟨rfl, hb25⟩
        have hB25 := BT hB24 hb25
        have h13_25 := h13_24.below hb25 (h13_24.lt2)
        have h12_25 := h12_24.below hb25 (h12_24.lt2)
        refine hK _ _ (hSG.out _ hB25) ?_
        clear hK K hB24 h13_24 h12_24 hb25
        (try simp only [Act.put, List.setIfInBounds_toArray, List.set_cons_zero, List.set_cons_succ])
        repeat (first | (refine tr_read rfl (by rfl) _ (fun w' hS => by (try dsimp only at hS); go_simp; (try with_reducible rfl)) ?_; (try simp only [Act.put, List.setIfInBounds_toArray, List.set_cons_zero, List.set_cons_succ])) | (refine tr_skip rfl (by rfl) ?_; (try simp only [Act.put, List.setIfInBounds_toArray, List.set_cons_zero, List.set_cons_succ])))
        refine tr_step rfl (by rfl) (fun K hK => ?_)
        obtain ⟨u0_26, q0_26, f0_26⟩ := h12_25.get 0 (by omega)
        obtain ⟨u1_26, q1_26, f1_26⟩ := h12_25.get 1 (by omega)
        have hB26 := BC (BC hB25 g12 0 hg12 (.int .i64 (u0))) g12 1 hg12 (.int .i64 (u1))
        have h13_26 := (h13_25.set ⟨g12, 0, none⟩ (.int .i64 (u0))).set ⟨g12, 1, none⟩ (.int .i64 (u1))
        have h12_26 := two_set h12_25 (u0) (u1)
        go_simp
        clear q0_26 f0_26 q1_26 f1_26
        generalize (X25.setCell ⟨g12, 0, none⟩ (.int .i64 (u0))).setCell ⟨g12, 1, none⟩ (.int .i64 (u1)) = X26 at *
        refine hK _ _ (hSG.out _ hB26) ?_
        clear hK K hB25 h13_25 h12_25
        (try simp only [Act.put, List.setIfInBounds_toArray, List.set_cons_zero, List.set_cons_succ])
        refine tr_last rfl (by rfl) (by kernel_rfl) (fun K hK => ?_)
        obtain ⟨u0_27, q0_27, f0_27⟩ := h13_26.get 0 (by omega)
        obtain ⟨u1_27, q1_27, f1_27⟩ := h13_26.get 1 (by omega)
        have hB27 := BC (BC hB26 g13 0 hg13 (.int .i64 (v0))) g13 1 hg13 (.int .i64 (v1))
        have h12_27 := h12_26.far (g' := g13) (by omega) (v0) (v1)
        have h13_27 := two_set h13_26 (v0) (v1)
        go_simp
        clear q0_27 f0_27 q1_27 f1_27
        generalize (X26.setCell ⟨g13, 0, none⟩ (.int .i64 (v0))).setCell ⟨g13, 1, none⟩ (.int .i64 (v1)) = X27 at *
        refine hK _ _ ?_
        clear hK K hB26 h12_26 h13_26
        (try simp only [Act.put, List.setIfInBounds_toArray, List.set_cons_zero, List.set_cons_succ])
        first | show Exit.inBlock _ _ Exit.normal _ _ | show Exit.then _ _ Exit.normal _ _ | skip
        obtain ⟨m0, m1⟩ := h12_27
        have hsl := HSL.out.below hB27 (by omega)
        have hfb : Below w.heap.size w X27 := by rw [HBw.out]; exact HB0.out.trans (hB27.mono (by omega))
        have hTB : w.heap.size ≤ T := by rw [HBw.out]; omega
        obtain ⟨x0, q0, z0⟩ := hsl.get 0 (by omega)
        obtain ⟨x1, q1, z1⟩ := hsl.get 1 (by omega)
        clear h13_27 hsl
        go_wp2_with fail
        have hfin := (BC (BC hfb (T) 0 (by omega) (.int .i64 (sc * u0 / 1000))) (T) 1 (by omega) (.int .i64 (sc * u1 / 1000)))
        exact bodyPost_ret (v := .agg #[.int .i64 (sc * u0 / 1000), .int .i64 (sc * u1 / 1000)]) (by simp [results, Tryz.results113, go_sem, q0, q1]) rfl ⟨HR.out, hfin⟩
  · have HSL : Hid (Slots (w.heap.size + 1) 2 W) := hsl
    have HB0 : Hid (Below w.heap.size w W) := hB00
    have hT : w.heap.size + 1 < W.heap.size := hTlt
    clear hsl hB00 hTlt
    have hSt : StarS W w.heap.size b o (o + i * 9) 134 n cap s := starS HBX hst
    have hSG : Hid (∀ X, Below W.heap.size W X → StarS X w.heap.size b o (o + i * 9) 134 n cap s) := fun X hX => hSt.grown hX
    clear HBX hst
    unfold StarS at hSt hSG
    refine wp_region_tree (.read 0 (.read 1 (.read 2 (.read 3 (.read 4 (.read 5 (.read 6 (.read 7 (.three 8 (.read 9 (.read 10 (.read 11 (.two 12 (.one 13 (.one 14 (.one 15 (.leaf)))) 13 (.one 12 (.one 14 (.one 15 (.leaf)))))))) 12 (.two 8 (.read 9 (.read 10 (.read 11 (.one 13 (.one 14 (.one 15 (.leaf))))))) 13 (.one 8 (.read 9 (.read 10 (.read 11 (.one 14 (.one 15 (.leaf)))))))) 13 (.two 8 (.read 9 (.read 10 (.read 11 (.one 12 (.one 14 (.one 15 (.leaf))))))) 12 (.one 8 (.read 9 (.read 10 (.read 11 (.one 14 (.one 15 (.leaf))))))))))))))))) (fun w' => w'.cell? ⟨w.heap.size, 2, none⟩ = some (.slice (some ⟨b, o, none⟩) n cap) ∧ w'.cell? ⟨w.heap.size, 3, none⟩ = some (.func (.func 134) #[] #[]) ∧ w'.cell? ⟨b, (o + i * 9), none⟩ = some (.int .i64 s.x0) ∧ w'.cell? ⟨b, (o + i * 9) + 1, none⟩ = some (.int .i64 s.x1) ∧ w'.cell? ⟨b, (o + i * 9) + 2, none⟩ = some (.int .i64 s.y0) ∧ w'.cell? ⟨b, (o + i * 9) + 3, none⟩ = some (.int .i64 s.y1) ∧ w'.cell? ⟨b, (o + i * 9) + 4, none⟩ = some (.bool s.k) ∧ w'.cell? ⟨b, (o + i * 9) + 5, none⟩ = some (.int .i64 s.e0) ∧ w'.cell? ⟨b, (o + i * 9) + 6, none⟩ = some (.int .i64 s.e1) ∧ w'.cell? ⟨b, (o + i * 9) + 7, none⟩ = some (.int .i64 s.n0) ∧ w'.cell? ⟨b, (o + i * 9) + 8, none⟩ = some (.int .i64 s.n1)) (by kernel_rfl) (by kernel_rfl) (fun _ _ d _ _ h => by cases d <;> exact h) hSt ?_
    have hB0 : Below W.heap.size W W.drew := Below.drew (Below.refl _ _)
    clear hSt
    generalize hTe : w.heap.size + 1 = T at *
    generalize hBe : w.heap.size = B at *
    have HBw := Lib.hid hBe
    clear hBe
    generalize W.drew = X0 at *
    repeat (first | (refine tr_read rfl (by rfl) _ (fun w' hS => by (try dsimp only at hS); go_simp; (try with_reducible rfl)) ?_; (try simp only [Act.put, List.setIfInBounds_toArray, List.set_cons_zero, List.set_cons_succ])) | (refine tr_skip rfl (by rfl) ?_; (try simp only [Act.put, List.setIfInBounds_toArray, List.set_cons_zero, List.set_cons_succ])))
    refine ⟨?_, ?_, ?_⟩
    · skip
      refine tr_step rfl (by rfl) (fun K hK => ?_)
      go_simp
      refine (hC.out X0).mono ?_
      rintro e X1 ⟨rfl, hb1⟩
      have hB1 := BT hB0 hb1
      refine hK _ _ (hSG.out _ hB1) ?_
      clear hK K hB0 hb1
      (try simp only [Act.put, List.setIfInBounds_toArray, List.set_cons_zero, List.set_cons_succ])
      repeat (first | (refine tr_read rfl (by rfl) _ (fun w' hS => by (try dsimp only at hS); go_simp; (try with_reducible rfl)) ?_; (try simp only [Act.put, List.setIfInBounds_toArray, List.set_cons_zero, List.set_cons_succ])) | (refine tr_skip rfl (by rfl) ?_; (try simp only [Act.put, List.setIfInBounds_toArray, List.set_cons_zero, List.set_cons_succ])))
      refine ⟨?_, ?_⟩
      · skip
        refine tr_step rfl (by rfl) (fun K hK => ?_)
        have hB2 := BA hB1 (.cells #[.int .i64 0, .int .i64 0] 23)
        have h12_2 := slots_new2 X1 23
        have hg12 := hB1.size
        go_simp
        generalize X1.heap.size = g12 at *
        generalize X1.alloc (.cells #[.int .i64 0, .int .i64 0] 23) = X2 at *
        refine hK _ _ (hSG.out _ hB2) ?_
        clear hK K hB1 
        (try simp only [Act.put, List.setIfInBounds_toArray, List.set_cons_zero, List.set_cons_succ])
        refine tr_step rfl (by rfl) (fun K hK => ?_)
        have hB3 := BA hB2 (.cells #[.int .i64 0, .int .i64 0] 23)
        have h12_3 := h12_2.below (newB X2 (.cells #[.int .i64 0, .int .i64 0] 23)) (h12_2.lt2)
        have hlt12_3 := h12_2.lt2
        have h13_3 := slots_new2 X2 23
        have hg13 := hB2.size
        go_simp
        generalize X2.heap.size = g13 at *
        generalize X2.alloc (.cells #[.int .i64 0, .int .i64 0] 23) = X3 at *
        refine hK _ _ (hSG.out _ hB3) ?_
        clear hK K hB2 h12_2
        (try simp only [Act.put, List.setIfInBounds_toArray, List.set_cons_zero, List.set_cons_succ])
        refine tr_step rfl (by rfl) (fun K hK => ?_)
        obtain ⟨u0_4, q0_4, f0_4⟩ := h12_3.get 0 (by omega)
        obtain ⟨u1_4, q1_4, f1_4⟩ := h12_3.get 1 (by omega)
        have hB4 := BC (BC hB3 g12 0 hg12 (.int .i64 (u0))) g12 1 hg12 (.int .i64 (u1))
        have h13_4 := (h13_3.set ⟨g12, 0, none⟩ (.int .i64 (u0))).set ⟨g12, 1, none⟩ (.int .i64 (u1))
        have h12_4 := two_set h12_3 (u0) (u1)
        go_simp
        clear q0_4 f0_4 q1_4 f1_4
        generalize (X3.setCell ⟨g12, 0, none⟩ (.int .i64 (u0))).setCell ⟨g12, 1, none⟩ (.int .i64 (u1)) = X4 at *
        refine hK _ _ (hSG.out _ hB4) ?_
        clear hK K hB3 h13_3 h12_3
        (try simp only [Act.put, List.setIfInBounds_toArray, List.set_cons_zero, List.set_cons_succ])
        refine tr_last rfl (by rfl) (by kernel_rfl) (fun K hK => ?_)
        obtain ⟨u0_5, q0_5, f0_5⟩ := h13_4.get 0 (by omega)
        obtain ⟨u1_5, q1_5, f1_5⟩ := h13_4.get 1 (by omega)
        have hB5 := BC (BC hB4 g13 0 hg13 (.int .i64 (v0))) g13 1 hg13 (.int .i64 (v1))
        have h12_5 := h12_4.far (g' := g13) (by omega) (v0) (v1)
        have h13_5 := two_set h13_4 (v0) (v1)
        go_simp
        clear q0_5 f0_5 q1_5 f1_5
        generalize (X4.setCell ⟨g13, 0, none⟩ (.int .i64 (v0))).setCell ⟨g13, 1, none⟩ (.int .i64 (v1)) = X5 at *
        refine hK _ _ ?_
        clear hK K hB4 h12_4 h13_4
        (try simp only [Act.put, List.setIfInBounds_toArray, List.set_cons_zero, List.set_cons_succ])
        first | show Exit.inBlock _ _ Exit.normal _ _ | show Exit.then _ _ Exit.normal _ _ | skip
        obtain ⟨m0, m1⟩ := h12_5
        have hsl := HSL.out.below hB5 (by omega)
        have hfb : Below w.heap.size w X5 := by rw [HBw.out]; exact HB0.out.trans (hB5.mono (by omega))
        have hTB : w.heap.size ≤ T := by rw [HBw.out]; omega
        obtain ⟨x0, q0, z0⟩ := hsl.get 0 (by omega)
        obtain ⟨x1, q1, z1⟩ := hsl.get 1 (by omega)
        clear h13_5 hsl
        go_wp2_with fail
        have hfin := (BC (BC hfb (T) 0 (by omega) (.int .i64 (sc * u0 / 1000))) (T) 1 (by omega) (.int .i64 (sc * u1 / 1000)))
        exact bodyPost_ret (v := .agg #[.int .i64 (sc * u0 / 1000), .int .i64 (sc * u1 / 1000)]) (by simp [results, Tryz.results113, go_sem, q0, q1]) rfl ⟨HR.out, hfin⟩
      · skip
        refine tr_step rfl (by rfl) (fun K hK => ?_)
        have hB6 := BA hB1 (.cells #[.int .i64 0, .int .i64 0] 23)
        have h13_6 := slots_new2 X1 23
        have hg13 := hB1.size
        go_simp
        generalize X1.heap.size = g13 at *
        generalize X1.alloc (.cells #[.int .i64 0, .int .i64 0] 23) = X6 at *
        refine hK _ _ (hSG.out _ hB6) ?_
        clear hK K hB1 
        (try simp only [Act.put, List.setIfInBounds_toArray, List.set_cons_zero, List.set_cons_succ])
        refine tr_step rfl (by rfl) (fun K hK => ?_)
        have hB7 := BA hB6 (.cells #[.int .i64 0, .int .i64 0] 23)
        have h13_7 := h13_6.below (newB X6 (.cells #[.int .i64 0, .int .i64 0] 23)) (h13_6.lt2)
        have hlt13_7 := h13_6.lt2
        have h12_7 := slots_new2 X6 23
        have hg12 := hB6.size
        go_simp
        generalize X6.heap.size = g12 at *
        generalize X6.alloc (.cells #[.int .i64 0, .int .i64 0] 23) = X7 at *
        refine hK _ _ (hSG.out _ hB7) ?_
        clear hK K hB6 h13_6
        (try simp only [Act.put, List.setIfInBounds_toArray, List.set_cons_zero, List.set_cons_succ])
        refine tr_step rfl (by rfl) (fun K hK => ?_)
        obtain ⟨u0_8, q0_8, f0_8⟩ := h12_7.get 0 (by omega)
        obtain ⟨u1_8, q1_8, f1_8⟩ := h12_7.get 1 (by omega)
        have hB8 := BC (BC hB7 g12 0 hg12 (.int .i64 (u0))) g12 1 hg12 (.int .i64 (u1))
        have h13_8 := (h13_7.set ⟨g12, 0, none⟩ (.int .i64 (u0))).set ⟨g12, 1, none⟩ (.int .i64 (u1))
        have h12_8 := two_set h12_7 (u0) (u1)
        go_simp
        clear q0_8 f0_8 q1_8 f1_8
        generalize (X7.setCell ⟨g12, 0, none⟩ (.int .i64 (u0))).setCell ⟨g12, 1, none⟩ (.int .i64 (u1)) = X8 at *
        refine hK _ _ (hSG.out _ hB8) ?_
        clear hK K hB7 h13_7 h12_7
        (try simp only [Act.put, List.setIfInBounds_toArray, List.set_cons_zero, List.set_cons_succ])
        refine tr_last rfl (by rfl) (by kernel_rfl) (fun K hK => ?_)
        obtain ⟨u0_9, q0_9, f0_9⟩ := h13_8.get 0 (by omega)
        obtain ⟨u1_9, q1_9, f1_9⟩ := h13_8.get 1 (by omega)
        have hB9 := BC (BC hB8 g13 0 hg13 (.int .i64 (v0))) g13 1 hg13 (.int .i64 (v1))
        have h12_9 := h12_8.far (g' := g13) (by omega) (v0) (v1)
        have h13_9 := two_set h13_8 (v0) (v1)
        go_simp
        clear q0_9 f0_9 q1_9 f1_9
        generalize (X8.setCell ⟨g13, 0, none⟩ (.int .i64 (v0))).setCell ⟨g13, 1, none⟩ (.int .i64 (v1)) = X9 at *
        refine hK _ _ ?_
        clear hK K hB8 h12_8 h13_8
        (try simp only [Act.put, List.setIfInBounds_toArray, List.set_cons_zero, List.set_cons_succ])
        first | show Exit.inBlock _ _ Exit.normal _ _ | show Exit.then _ _ Exit.normal _ _ | skip
        obtain ⟨m0, m1⟩ := h12_9
        have hsl := HSL.out.below hB9 (by omega)
        have hfb : Below w.heap.size w X9 := by rw [HBw.out]; exact HB0.out.trans (hB9.mono (by omega))
        have hTB : w.heap.size ≤ T := by rw [HBw.out]; omega
        obtain ⟨x0, q0, z0⟩ := hsl.get 0 (by omega)
        obtain ⟨x1, q1, z1⟩ := hsl.get 1 (by omega)
        clear h13_9 hsl
        go_wp2_with fail
        have hfin := (BC (BC hfb (T) 0 (by omega) (.int .i64 (sc * u0 / 1000))) (T) 1 (by omega) (.int .i64 (sc * u1 / 1000)))
        exact bodyPost_ret (v := .agg #[.int .i64 (sc * u0 / 1000), .int .i64 (sc * u1 / 1000)]) (by simp [results, Tryz.results113, go_sem, q0, q1]) rfl ⟨HR.out, hfin⟩
    · skip
      refine tr_step rfl (by rfl) (fun K hK => ?_)
      have hB10 := BA hB0 (.cells #[.int .i64 0, .int .i64 0] 23)
      have h12_10 := slots_new2 X0 23
      have hg12 := hB0.size
      go_simp
      generalize X0.heap.size = g12 at *
      generalize X0.alloc (.cells #[.int .i64 0, .int .i64 0] 23) = X10 at *
      refine hK _ _ (hSG.out _ hB10) ?_
      clear hK K hB0 
      (try simp only [Act.put, List.setIfInBounds_toArray, List.set_cons_zero, List.set_cons_succ])
      refine ⟨?_, ?_⟩
      · skip
        refine tr_step rfl (by rfl) (fun K hK => ?_)
        go_simp
        refine (hC.out X10).mono ?_
        rintro e X11 ⟨rfl, hb11⟩
        have hB11 := BT hB10 hb11
        have h12_11 := h12_10.below hb11 (h12_10.lt2)
        refine hK _ _ (hSG.out _ hB11) ?_
        clear hK K hB10 h12_10 hb11
        (try simp only [Act.put, List.setIfInBounds_toArray, List.set_cons_zero, List.set_cons_succ])
        repeat (first | (refine tr_read rfl (by rfl) _ (fun w' hS => by (try dsimp only at hS); go_simp; (try with_reducible rfl)) ?_; (try simp only [Act.put, List.setIfInBounds_toArray, List.set_cons_zero, List.set_cons_succ])) | (refine tr_skip rfl (by rfl) ?_; (try simp only [Act.put, List.setIfInBounds_toArray, List.set_cons_zero, List.set_cons_succ])))
        refine tr_step rfl (by rfl) (fun K hK => ?_)
        have hB12 := BA hB11 (.cells #[.int .i64 0, .int .i64 0] 23)
        have h12_12 := h12_11.below (newB X11 (.cells #[.int .i64 0, .int .i64 0] 23)) (h12_11.lt2)
        have hlt12_12 := h12_11.lt2
        have h13_12 := slots_new2 X11 23
        have hg13 := hB11.size
        go_simp
        generalize X11.heap.size = g13 at *
        generalize X11.alloc (.cells #[.int .i64 0, .int .i64 0] 23) = X12 at *
        refine hK _ _ (hSG.out _ hB12) ?_
        clear hK K hB11 h12_11
        (try simp only [Act.put, List.setIfInBounds_toArray, List.set_cons_zero, List.set_cons_succ])
        refine tr_step rfl (by rfl) (fun K hK => ?_)
        obtain ⟨u0_13, q0_13, f0_13⟩ := h12_12.get 0 (by omega)
        obtain ⟨u1_13, q1_13, f1_13⟩ := h12_12.get 1 (by omega)
        have hB13 := BC (BC hB12 g12 0 hg12 (.int .i64 (u0))) g12 1 hg12 (.int .i64 (u1))
        have h13_13 := (h13_12.set ⟨g12, 0, none⟩ (.int .i64 (u0))).set ⟨g12, 1, none⟩ (.int .i64 (u1))
        have h12_13 := two_set h12_12 (u0) (u1)
        go_simp
        clear q0_13 f0_13 q1_13 f1_13
        generalize (X12.setCell ⟨g12, 0, none⟩ (.int .i64 (u0))).setCell ⟨g12, 1, none⟩ (.int .i64 (u1)) = X13 at *
        refine hK _ _ (hSG.out _ hB13) ?_
        clear hK K hB12 h13_12 h12_12
        (try simp only [Act.put, List.setIfInBounds_toArray, List.set_cons_zero, List.set_cons_succ])
        refine tr_last rfl (by rfl) (by kernel_rfl) (fun K hK => ?_)
        obtain ⟨u0_14, q0_14, f0_14⟩ := h13_13.get 0 (by omega)
        obtain ⟨u1_14, q1_14, f1_14⟩ := h13_13.get 1 (by omega)
        have hB14 := BC (BC hB13 g13 0 hg13 (.int .i64 (v0))) g13 1 hg13 (.int .i64 (v1))
        have h12_14 := h12_13.far (g' := g13) (by omega) (v0) (v1)
        have h13_14 := two_set h13_13 (v0) (v1)
        go_simp
        clear q0_14 f0_14 q1_14 f1_14
        generalize (X13.setCell ⟨g13, 0, none⟩ (.int .i64 (v0))).setCell ⟨g13, 1, none⟩ (.int .i64 (v1)) = X14 at *
        refine hK _ _ ?_
        clear hK K hB13 h12_13 h13_13
        (try simp only [Act.put, List.setIfInBounds_toArray, List.set_cons_zero, List.set_cons_succ])
        first | show Exit.inBlock _ _ Exit.normal _ _ | show Exit.then _ _ Exit.normal _ _ | skip
        obtain ⟨m0, m1⟩ := h12_14
        have hsl := HSL.out.below hB14 (by omega)
        have hfb : Below w.heap.size w X14 := by rw [HBw.out]; exact HB0.out.trans (hB14.mono (by omega))
        have hTB : w.heap.size ≤ T := by rw [HBw.out]; omega
        obtain ⟨x0, q0, z0⟩ := hsl.get 0 (by omega)
        obtain ⟨x1, q1, z1⟩ := hsl.get 1 (by omega)
        clear h13_14 hsl
        go_wp2_with fail
        have hfin := (BC (BC hfb (T) 0 (by omega) (.int .i64 (sc * u0 / 1000))) (T) 1 (by omega) (.int .i64 (sc * u1 / 1000)))
        exact bodyPost_ret (v := .agg #[.int .i64 (sc * u0 / 1000), .int .i64 (sc * u1 / 1000)]) (by simp [results, Tryz.results113, go_sem, q0, q1]) rfl ⟨HR.out, hfin⟩
      · skip
        refine tr_step rfl (by rfl) (fun K hK => ?_)
        have hB15 := BA hB10 (.cells #[.int .i64 0, .int .i64 0] 23)
        have h12_15 := h12_10.below (newB X10 (.cells #[.int .i64 0, .int .i64 0] 23)) (h12_10.lt2)
        have hlt12_15 := h12_10.lt2
        have h13_15 := slots_new2 X10 23
        have hg13 := hB10.size
        go_simp
        generalize X10.heap.size = g13 at *
        generalize X10.alloc (.cells #[.int .i64 0, .int .i64 0] 23) = X15 at *
        refine hK _ _ (hSG.out _ hB15) ?_
        clear hK K hB10 h12_10
        (try simp only [Act.put, List.setIfInBounds_toArray, List.set_cons_zero, List.set_cons_succ])
        refine tr_step rfl (by rfl) (fun K hK => ?_)
        go_simp
        refine (hC.out X15).mono ?_
        rintro e X16 ⟨rfl, hb16⟩
        have hB16 := BT hB15 hb16
        have h12_16 := h12_15.below hb16 (h12_15.lt2)
        have h13_16 := h13_15.below hb16 (h13_15.lt2)
        refine hK _ _ (hSG.out _ hB16) ?_
        clear hK K hB15 h12_15 h13_15 hb16
        (try simp only [Act.put, List.setIfInBounds_toArray, List.set_cons_zero, List.set_cons_succ])
        repeat (first | (refine tr_read rfl (by rfl) _ (fun w' hS => by (try dsimp only at hS); go_simp; (try with_reducible rfl)) ?_; (try simp only [Act.put, List.setIfInBounds_toArray, List.set_cons_zero, List.set_cons_succ])) | (refine tr_skip rfl (by rfl) ?_; (try simp only [Act.put, List.setIfInBounds_toArray, List.set_cons_zero, List.set_cons_succ])))
        refine tr_step rfl (by rfl) (fun K hK => ?_)
        obtain ⟨u0_17, q0_17, f0_17⟩ := h12_16.get 0 (by omega)
        obtain ⟨u1_17, q1_17, f1_17⟩ := h12_16.get 1 (by omega)
        have hB17 := BC (BC hB16 g12 0 hg12 (.int .i64 (u0))) g12 1 hg12 (.int .i64 (u1))
        have h13_17 := (h13_16.set ⟨g12, 0, none⟩ (.int .i64 (u0))).set ⟨g12, 1, none⟩ (.int .i64 (u1))
        have h12_17 := two_set h12_16 (u0) (u1)
        go_simp
        clear q0_17 f0_17 q1_17 f1_17
        generalize (X16.setCell ⟨g12, 0, none⟩ (.int .i64 (u0))).setCell ⟨g12, 1, none⟩ (.int .i64 (u1)) = X17 at *
        refine hK _ _ (hSG.out _ hB17) ?_
        clear hK K hB16 h13_16 h12_16
        (try simp only [Act.put, List.setIfInBounds_toArray, List.set_cons_zero, List.set_cons_succ])
        refine tr_last rfl (by rfl) (by kernel_rfl) (fun K hK => ?_)
        obtain ⟨u0_18, q0_18, f0_18⟩ := h13_17.get 0 (by omega)
        obtain ⟨u1_18, q1_18, f1_18⟩ := h13_17.get 1 (by omega)
        have hB18 := BC (BC hB17 g13 0 hg13 (.int .i64 (v0))) g13 1 hg13 (.int .i64 (v1))
        have h12_18 := h12_17.far (g' := g13) (by omega) (v0) (v1)
        have h13_18 := two_set h13_17 (v0) (v1)
        go_simp
        clear q0_18 f0_18 q1_18 f1_18
        generalize (X17.setCell ⟨g13, 0, none⟩ (.int .i64 (v0))).setCell ⟨g13, 1, none⟩ (.int .i64 (v1)) = X18 at *
        refine hK _ _ ?_
        clear hK K hB17 h12_17 h13_17
        (try simp only [Act.put, List.setIfInBounds_toArray, List.set_cons_zero, List.set_cons_succ])
        first | show Exit.inBlock _ _ Exit.normal _ _ | show Exit.then _ _ Exit.normal _ _ | skip
        obtain ⟨m0, m1⟩ := h12_18
        have hsl := HSL.out.below hB18 (by omega)
        have hfb : Below w.heap.size w X18 := by rw [HBw.out]; exact HB0.out.trans (hB18.mono (by omega))
        have hTB : w.heap.size ≤ T := by rw [HBw.out]; omega
        obtain ⟨x0, q0, z0⟩ := hsl.get 0 (by omega)
        obtain ⟨x1, q1, z1⟩ := hsl.get 1 (by omega)
        clear h13_18 hsl
        go_wp2_with fail
        have hfin := (BC (BC hfb (T) 0 (by omega) (.int .i64 (sc * u0 / 1000))) (T) 1 (by omega) (.int .i64 (sc * u1 / 1000)))
        exact bodyPost_ret (v := .agg #[.int .i64 (sc * u0 / 1000), .int .i64 (sc * u1 / 1000)]) (by simp [results, Tryz.results113, go_sem, q0, q1]) rfl ⟨HR.out, hfin⟩
    · skip
      refine tr_step rfl (by rfl) (fun K hK => ?_)
      have hB19 := BA hB0 (.cells #[.int .i64 0, .int .i64 0] 23)
      have h13_19 := slots_new2 X0 23
      have hg13 := hB0.size
      go_simp
      generalize X0.heap.size = g13 at *
      generalize X0.alloc (.cells #[.int .i64 0, .int .i64 0] 23) = X19 at *
      refine hK _ _ (hSG.out _ hB19) ?_
      clear hK K hB0 
      (try simp only [Act.put, List.setIfInBounds_toArray, List.set_cons_zero, List.set_cons_succ])
      refine ⟨?_, ?_⟩
      · skip
        refine tr_step rfl (by rfl) (fun K hK => ?_)
        go_simp
        refine (hC.out X19).mono ?_
        rintro e X20 ⟨rfl, hb20⟩
        have hB20 := BT hB19 hb20
        have h13_20 := h13_19.below hb20 (h13_19.lt2)
        refine hK _ _ (hSG.out _ hB20) ?_
        clear hK K hB19 h13_19 hb20
        (try simp only [Act.put, List.setIfInBounds_toArray, List.set_cons_zero, List.set_cons_succ])
        repeat (first | (refine tr_read rfl (by rfl) _ (fun w' hS => by (try dsimp only at hS); go_simp; (try with_reducible rfl)) ?_; (try simp only [Act.put, List.setIfInBounds_toArray, List.set_cons_zero, List.set_cons_succ])) | (refine tr_skip rfl (by rfl) ?_; (try simp only [Act.put, List.setIfInBounds_toArray, List.set_cons_zero, List.set_cons_succ])))
        refine tr_step rfl (by rfl) (fun K hK => ?_)
        have hB21 := BA hB20 (.cells #[.int .i64 0, .int .i64 0] 23)
        have h13_21 := h13_20.below (newB X20 (.cells #[.int .i64 0, .int .i64 0] 23)) (h13_20.lt2)
        have hlt13_21 := h13_20.lt2
        have h12_21 := slots_new2 X20 23
        have hg12 := hB20.size
        go_simp
        generalize X20.heap.size = g12 at *
        generalize X20.alloc (.cells #[.int .i64 0, .int .i64 0] 23) = X21 at *
        refine hK _ _ (hSG.out _ hB21) ?_
        clear hK K hB20 h13_20
        (try simp only [Act.put, List.setIfInBounds_toArray, List.set_cons_zero, List.set_cons_succ])
        refine tr_step rfl (by rfl) (fun K hK => ?_)
        obtain ⟨u0_22, q0_22, f0_22⟩ := h12_21.get 0 (by omega)
        obtain ⟨u1_22, q1_22, f1_22⟩ := h12_21.get 1 (by omega)
        have hB22 := BC (BC hB21 g12 0 hg12 (.int .i64 (u0))) g12 1 hg12 (.int .i64 (u1))
        have h13_22 := (h13_21.set ⟨g12, 0, none⟩ (.int .i64 (u0))).set ⟨g12, 1, none⟩ (.int .i64 (u1))
        have h12_22 := two_set h12_21 (u0) (u1)
        go_simp
        clear q0_22 f0_22 q1_22 f1_22
        generalize (X21.setCell ⟨g12, 0, none⟩ (.int .i64 (u0))).setCell ⟨g12, 1, none⟩ (.int .i64 (u1)) = X22 at *
        refine hK _ _ (hSG.out _ hB22) ?_
        clear hK K hB21 h13_21 h12_21
        (try simp only [Act.put, List.setIfInBounds_toArray, List.set_cons_zero, List.set_cons_succ])
        refine tr_last rfl (by rfl) (by kernel_rfl) (fun K hK => ?_)
        obtain ⟨u0_23, q0_23, f0_23⟩ := h13_22.get 0 (by omega)
        obtain ⟨u1_23, q1_23, f1_23⟩ := h13_22.get 1 (by omega)
        have hB23 := BC (BC hB22 g13 0 hg13 (.int .i64 (v0))) g13 1 hg13 (.int .i64 (v1))
        have h12_23 := h12_22.far (g' := g13) (by omega) (v0) (v1)
        have h13_23 := two_set h13_22 (v0) (v1)
        go_simp
        clear q0_23 f0_23 q1_23 f1_23
        generalize (X22.setCell ⟨g13, 0, none⟩ (.int .i64 (v0))).setCell ⟨g13, 1, none⟩ (.int .i64 (v1)) = X23 at *
        refine hK _ _ ?_
        clear hK K hB22 h12_22 h13_22
        (try simp only [Act.put, List.setIfInBounds_toArray, List.set_cons_zero, List.set_cons_succ])
        first | show Exit.inBlock _ _ Exit.normal _ _ | show Exit.then _ _ Exit.normal _ _ | skip
        obtain ⟨m0, m1⟩ := h12_23
        have hsl := HSL.out.below hB23 (by omega)
        have hfb : Below w.heap.size w X23 := by rw [HBw.out]; exact HB0.out.trans (hB23.mono (by omega))
        have hTB : w.heap.size ≤ T := by rw [HBw.out]; omega
        obtain ⟨x0, q0, z0⟩ := hsl.get 0 (by omega)
        obtain ⟨x1, q1, z1⟩ := hsl.get 1 (by omega)
        clear h13_23 hsl
        go_wp2_with fail
        have hfin := (BC (BC hfb (T) 0 (by omega) (.int .i64 (sc * u0 / 1000))) (T) 1 (by omega) (.int .i64 (sc * u1 / 1000)))
        exact bodyPost_ret (v := .agg #[.int .i64 (sc * u0 / 1000), .int .i64 (sc * u1 / 1000)]) (by simp [results, Tryz.results113, go_sem, q0, q1]) rfl ⟨HR.out, hfin⟩
      · skip
        refine tr_step rfl (by rfl) (fun K hK => ?_)
        have hB24 := BA hB19 (.cells #[.int .i64 0, .int .i64 0] 23)
        have h13_24 := h13_19.below (newB X19 (.cells #[.int .i64 0, .int .i64 0] 23)) (h13_19.lt2)
        have hlt13_24 := h13_19.lt2
        have h12_24 := slots_new2 X19 23
        have hg12 := hB19.size
        go_simp
        generalize X19.heap.size = g12 at *
        generalize X19.alloc (.cells #[.int .i64 0, .int .i64 0] 23) = X24 at *
        refine hK _ _ (hSG.out _ hB24) ?_
        clear hK K hB19 h13_19
        (try simp only [Act.put, List.setIfInBounds_toArray, List.set_cons_zero, List.set_cons_succ])
        refine tr_step rfl (by rfl) (fun K hK => ?_)
        go_simp
        refine (hC.out X24).mono ?_
        rintro e X25 ⟨rfl, hb25⟩
        have hB25 := BT hB24 hb25
        have h13_25 := h13_24.below hb25 (h13_24.lt2)
        have h12_25 := h12_24.below hb25 (h12_24.lt2)
        refine hK _ _ (hSG.out _ hB25) ?_
        clear hK K hB24 h13_24 h12_24 hb25
        (try simp only [Act.put, List.setIfInBounds_toArray, List.set_cons_zero, List.set_cons_succ])
        repeat (first | (refine tr_read rfl (by rfl) _ (fun w' hS => by (try dsimp only at hS); go_simp; (try with_reducible rfl)) ?_; (try simp only [Act.put, List.setIfInBounds_toArray, List.set_cons_zero, List.set_cons_succ])) | (refine tr_skip rfl (by rfl) ?_; (try simp only [Act.put, List.setIfInBounds_toArray, List.set_cons_zero, List.set_cons_succ])))
        refine tr_step rfl (by rfl) (fun K hK => ?_)
        obtain ⟨u0_26, q0_26, f0_26⟩ := h12_25.get 0 (by omega)
        obtain ⟨u1_26, q1_26, f1_26⟩ := h12_25.get 1 (by omega)
        have hB26 := BC (BC hB25 g12 0 hg12 (.int .i64 (u0))) g12 1 hg12 (.int .i64 (u1))
        have h13_26 := (h13_25.set ⟨g12, 0, none⟩ (.int .i64 (u0))).set ⟨g12, 1, none⟩ (.int .i64 (u1))
        have h12_26 := two_set h12_25 (u0) (u1)
        go_simp
        clear q0_26 f0_26 q1_26 f1_26
        generalize (X25.setCell ⟨g12, 0, none⟩ (.int .i64 (u0))).setCell ⟨g12, 1, none⟩ (.int .i64 (u1)) = X26 at *
        refine hK _ _ (hSG.out _ hB26) ?_
        clear hK K hB25 h13_25 h12_25
        (try simp only [Act.put, List.setIfInBounds_toArray, List.set_cons_zero, List.set_cons_succ])
        refine tr_last rfl (by rfl) (by kernel_rfl) (fun K hK => ?_)
        obtain ⟨u0_27, q0_27, f0_27⟩ := h13_26.get 0 (by omega)
        obtain ⟨u1_27, q1_27, f1_27⟩ := h13_26.get 1 (by omega)
        have hB27 := BC (BC hB26 g13 0 hg13 (.int .i64 (v0))) g13 1 hg13 (.int .i64 (v1))
        have h12_27 := h12_26.far (g' := g13) (by omega) (v0) (v1)
        have h13_27 := two_set h13_26 (v0) (v1)
        go_simp
        clear q0_27 f0_27 q1_27 f1_27
        generalize (X26.setCell ⟨g13, 0, none⟩ (.int .i64 (v0))).setCell ⟨g13, 1, none⟩ (.int .i64 (v1)) = X27 at *
        refine hK _ _ ?_
        clear hK K hB26 h12_26 h13_26
        (try simp only [Act.put, List.setIfInBounds_toArray, List.set_cons_zero, List.set_cons_succ])
        first | show Exit.inBlock _ _ Exit.normal _ _ | show Exit.then _ _ Exit.normal _ _ | skip
        obtain ⟨m0, m1⟩ := h12_27
        have hsl := HSL.out.below hB27 (by omega)
        have hfb : Below w.heap.size w X27 := by rw [HBw.out]; exact HB0.out.trans (hB27.mono (by omega))
        have hTB : w.heap.size ≤ T := by rw [HBw.out]; omega
        obtain ⟨x0, q0, z0⟩ := hsl.get 0 (by omega)
        obtain ⟨x1, q1, z1⟩ := hsl.get 1 (by omega)
        clear h13_27 hsl
        go_wp2_with fail
        have hfin := (BC (BC hfb (T) 0 (by omega) (.int .i64 (sc * u0 / 1000))) (T) 1 (by omega) (.int .i64 (sc * u1 / 1000)))
        exact bodyPost_ret (v := .agg #[.int .i64 (sc * u0 / 1000), .int .i64 (sc * u1 / 1000)]) (by simp [results, Tryz.results113, go_sem, q0, q1]) rfl ⟨HR.out, hfin⟩
end Go.Proofs.YtdkegkacpdkjgaaGreat
