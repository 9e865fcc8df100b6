/- Plate: where the corner can be if a star is where it is said to be. -/
import Derived.Test.YtdkegkacpdkjgaaGreatPma
import Derived.Test.YtdkegkacpdkjgaaGreatPsd2
namespace Go.Proofs.YtdkegkacpdkjgaaGreat
open Go.RowKit

set_option maxRecDepth 100000 in
set_option maxHeartbeats 4000000 in
theorem cornerBy_any (d : Bool) (sc : Int) (p : Pl) (ss : List St) (i : Nat) (w : World) (h : PlAt p ss w) (hok : PlOk p ss) (hi : i < ss.length) (hs0 : 0 ≤ sc) (hs1 : sc ≤ 1000) :
    Calls Tryz.prog 150 #[.agg (sideV p (dirF d)), .int .i64 sc, .int .i64 i] w (Ret (.agg #[.int .i64 (cbS sc (ss.getD i default) d).1, .int .i64 (cbS sc (ss.getD i default) d).2]) w) := by
  have hso := hok.st i hi d
  have r1 := said_rng hso
  have r2 := bey_rng hso hs0 hs1
  have HSA : Hid (∀ Y, Below w.heap.size w Y → Calls Tryz.prog 111 #[.agg (sideV p (dirF d)), .int .i64 i] Y (Ret (.agg #[.int .i64 (saidS (ss.getD i default) d).1, .int .i64 (saidS (ss.getD i default) d).2]) Y)) := fun Y hY => said_any d p ss i Y (h.below hY (Nat.le_refl _)) hi
  have HBE : Hid (∀ Y, Below w.heap.size w Y → Calls Tryz.prog 113 #[.agg (sideV p (dirF d)), .int .i64 sc, .int .i64 i] Y (Ret (.agg #[.int .i64 (beyS sc (ss.getD i default) d).1, .int .i64 (beyS sc (ss.getD i default) d).2]) Y)) := fun Y hY =>
    bey_any d sc p ss i Y (h.below hY (Nat.le_refl _)) hi hs0 hs1 ⟨hso.a, by have := hso.b; have := hso.c; omega, by have := hso.a; have := hso.b; omega, hso.c⟩
  have HK : Hid (cbS sc (ss.getD i default) d = ((saidS (ss.getD i default) d).1 - (beyS sc (ss.getD i default) d).2, (saidS (ss.getD i default) d).2 - (beyS sc (ss.getD i default) d).1)) := rfl
  clear h hok hso hi
  generalize cbS sc (ss.getD i default) d = r at *
  generalize saidS (ss.getD i default) d = u at *
  generalize beyS sc (ss.getD i default) d = v at *
  obtain ⟨u0, u1⟩ := u
  obtain ⟨v0, v1⟩ := v
  dsimp only at *
  have hst := @store_fn Tryz.prog
  generalize dirF d = f at *
  unfold sideV at HSA HBE ⊢
  have HBX := boxD_new w p f 67
  unfold sideV at HBX
  go_enter Tryz.func150, Tryz.ntmps150
  go_wp2_with fail
  obtain ⟨W, hW⟩ : ∃ W, (w.alloc (.cells #[.int .i64 p.lo, .int .i64 p.hi, .slice p.a p.n p.cap, .func (.func f) #[] #[]] 67)).alloc (.cells #[.int .i64 0, .int .i64 0] 23) = W := ⟨_, rfl⟩
  have hsl : Slots (w.heap.size + 1) 2 W := by
    rw [← hW]; intro o ho
    have : o = 0 ∨ o = 1 := by omega
    rcases this with rfl | rfl <;> simp [go_sem]
  have hB00 : Below w.heap.size w W := by rw [← hW]; exact BA (BA (Below.refl _ _) _) _
  have hTlt : w.heap.size + 1 < W.heap.size := by rw [← hW]; simp
  have HBX : BoxD W w.heap.size p f := by rw [← hW]; exact HBX.grown (newB _ _)
  rw [hW]
  clear hW
  obtain ⟨c0, c1, c2, c3⟩ := HBX
  have hS : Hid (∀ X, Below W.heap.size W X → X.cell? ⟨w.heap.size, 0, none⟩ = some (.int .i64 p.lo) ∧ X.cell? ⟨w.heap.size, 1, none⟩ = some (.int .i64 p.hi) ∧ X.cell? ⟨w.heap.size, 2, none⟩ = some (.slice p.a p.n p.cap) ∧ X.cell? ⟨w.heap.size, 3, none⟩ = some (.func (.func f) #[] #[])) := fun X hX => ⟨cellB c0 hX, cellB c1 hX, cellB c2 hX, cellB c3 hX⟩
  refine wp_region_seq [(0, true), (1, true), (3, true), (4, true), (5, true), (2, false), (6, false), (7, false), (8, false)] (fun X => X.cell? ⟨w.heap.size, 0, none⟩ = some (.int .i64 p.lo) ∧ X.cell? ⟨w.heap.size, 1, none⟩ = some (.int .i64 p.hi) ∧ X.cell? ⟨w.heap.size, 2, none⟩ = some (.slice p.a p.n p.cap) ∧ X.cell? ⟨w.heap.size, 3, none⟩ = some (.func (.func f) #[] #[])) (by kernel_rfl) (by kernel_rfl) (fun _ _ d _ _ h => by cases d <;> exact h) ⟨c0, c1, c2, c3⟩ ?_
  clear c0 c1 c2 c3
  repeat (first | (refine seq_read rfl (by rfl) _ (fun w' hS => by (try dsimp only at hS); go_simp; (try with_reducible rfl)) ?_; (try simp only [Act.put, List.setIfInBounds_toArray, List.set_cons_zero, List.set_cons_succ])) | (refine seq_skip rfl (by rfl) ?_; (try simp only [Act.put, List.setIfInBounds_toArray, List.set_cons_zero, List.set_cons_succ])))
  refine seq_do rfl (by rfl) (fun K hK => ?_)
  go_simp
  have hb0 : Below W.heap.size W W.drew := Below.drew (Below.refl _ _)
  refine (HSA.out W.drew (BT hB00 hb0)).mono ?_
  rintro e w1 ⟨rfl, hb1⟩
  have hb1 := BT hb0 hb1
  refine hK _ _ (hS.out _ hb1) ?_
  clear hK K
  (try simp only [Act.put, List.setIfInBounds_toArray, List.set_cons_zero, List.set_cons_succ])
  repeat (first | (refine seq_read rfl (by rfl) _ (fun w' hS => by (try dsimp only at hS); go_simp; (try with_reducible rfl)) ?_; (try simp only [Act.put, List.setIfInBounds_toArray, List.set_cons_zero, List.set_cons_succ])) | (refine seq_skip rfl (by rfl) ?_; (try simp only [Act.put, List.setIfInBounds_toArray, List.set_cons_zero, List.set_cons_succ])))
  refine seq_do rfl (by rfl) (fun K hK => ?_)
  go_simp
  refine (HBE.out w1 (BT hB00 hb1)).mono ?_
  rintro e w2 ⟨rfl, hb2⟩
  have hb2 := BT hb1 hb2
  refine hK _ _ (hS.out _ hb2) ?_
  clear hK K hb1
  (try simp only [Act.put, List.setIfInBounds_toArray, List.set_cons_zero, List.set_cons_succ])
  repeat (first | (refine seq_read rfl (by rfl) _ (fun w' hS => by (try dsimp only at hS); go_simp; (try with_reducible rfl)) ?_; (try simp only [Act.put, List.setIfInBounds_toArray, List.set_cons_zero, List.set_cons_succ])) | (refine seq_skip rfl (by rfl) ?_; (try simp only [Act.put, List.setIfInBounds_toArray, List.set_cons_zero, List.set_cons_succ])))
  refine seq_do rfl (by rfl) (fun K hK => ?_)
  go_simp
  refine (less_any u0 u1 v0 v1 w2 (by omega) (by omega)).mono ?_
  rintro e w3 ⟨rfl, hb3⟩
  have hb3 := BT hb2 hb3
  refine hK _ _ (hS.out _ hb3) ?_
  clear hK K hb2
  (try simp only [Act.put, List.setIfInBounds_toArray, List.set_cons_zero, List.set_cons_succ])
  repeat (first | (refine seq_read rfl (by rfl) _ (fun w' hS => by (try dsimp only at hS); go_simp; (try with_reducible rfl)) ?_; (try simp only [Act.put, List.setIfInBounds_toArray, List.set_cons_zero, List.set_cons_succ])) | (refine seq_skip rfl (by rfl) ?_; (try simp only [Act.put, List.setIfInBounds_toArray, List.set_cons_zero, List.set_cons_succ])))
  refine seq_last rfl (by rfl) (by kernel_rfl) (fun K hK => ?_)
  have hsl := hsl.below hb3 hTlt
  obtain ⟨x0, q0, z0⟩ := hsl.get 0 (by omega)
  obtain ⟨x1, q1, z1⟩ := hsl.get 1 (by omega)
  go_simp
  refine hK _ _ ?_
  clear hK K hsl
  first | show Exit.inBlock _ _ Exit.normal _ _ | show Exit.then _ _ Exit.normal _ _ | skip
  have hB3 := BT hB00 hb3
  have hfin := (BC (BC hB3 (w.heap.size + 1) 0 (by omega) (.int .i64 (u0 - v1))) (w.heap.size + 1) 1 (by omega) (.int .i64 (u1 - v0)))
  go_wp2_with fail
  exact bodyPost_ret (v := .agg #[.int .i64 (u0 - v1), .int .i64 (u1 - v0)]) (by simp [results, Tryz.results150, go_sem, q0, q1]) rfl ⟨by rw [HK.out], hfin⟩
end Go.Proofs.YtdkegkacpdkjgaaGreat
