/- Plate: what a direction tells of a star, in all truths of a scale. -/
import Derived.Test.YtdkegkacpdkjgaaGreatPal
namespace Go.Proofs.YtdkegkacpdkjgaaGreat
open Go.RowKit



/-- A view lies in a variable. -/
structure BoxV (X : World) (B : Nat) (p : Pl) (f : Nat) (sc lo hi : Int) : Prop where
  c0 : X.cell? ⟨B, 0, none⟩ = some (.int .i64 p.lo)
  c1 : X.cell? ⟨B, 1, none⟩ = some (.int .i64 p.hi)
  c2 : X.cell? ⟨B, 2, none⟩ = some (.slice p.a p.n p.cap)
  c3 : X.cell? ⟨B, 3, none⟩ = some (.func (.func f) #[] #[])
  c4 : X.cell? ⟨B, 4, none⟩ = some (.int .i64 sc)
  c5 : X.cell? ⟨B, 5, none⟩ = some (.int .i64 lo)
  c6 : X.cell? ⟨B, 6, none⟩ = some (.int .i64 hi)
theorem BoxV.grown {X X' : World} {B f : Nat} {p : Pl} {sc lo hi : Int} (k : BoxV X B p f sc lo hi) (hb : Below X.heap.size X X') : BoxV X' B p f sc lo hi := ⟨cellB k.c0 hb, cellB k.c1 hb, cellB k.c2 hb, cellB k.c3 hb, cellB k.c4 hb, cellB k.c5 hb, cellB k.c6 hb⟩
theorem BoxV.all {X : World} {B f : Nat} {p : Pl} {sc lo hi : Int} (k : BoxV X B p f sc lo hi) : X.cell? ⟨B, 0, none⟩ = some (.int .i64 p.lo) ∧ X.cell? ⟨B, 1, none⟩ = some (.int .i64 p.hi) ∧ X.cell? ⟨B, 2, none⟩ = some (.slice p.a p.n p.cap) ∧ X.cell? ⟨B, 3, none⟩ = some (.func (.func f) #[] #[]) ∧ X.cell? ⟨B, 4, none⟩ = some (.int .i64 sc) ∧ X.cell? ⟨B, 5, none⟩ = some (.int .i64 lo) ∧ X.cell? ⟨B, 6, none⟩ = some (.int .i64 hi) := ⟨k.c0, k.c1, k.c2, k.c3, k.c4, k.c5, k.c6⟩
/-- Where a star is. -/
def plS (sc lo hi : Int) (s : St) (d : Bool) : Int × Int := (max (saidS s d).1 (lo + (beyS sc s d).1), min (saidS s d).2 (hi + (beyS sc s d).2))
theorem dir_call (d : Bool) : ∀ args (w : World), (callFunc (dirF d) args).run Tryz.prog w = .ok (.enter (dirF d) args) w := by
  cases d
  · exact enters_of Tryz.func133 (by kernel_rfl) rfl
  · exact enters_of Tryz.func134 (by kernel_rfl) rfl

set_option maxRecDepth 100000 in
set_option maxHeartbeats 4000000 in
theorem place_any (d : Bool) (sc lo hi : Int) (p : Pl) (ss : List St) (i : Nat) (w : World) (h : PlAt p ss w) (hok : PlOk p ss) (hi' : i < ss.length) (hs0 : 0 ≤ sc) (hs1 : sc ≤ 1000) (hl : -100000000 ≤ lo ∧ lo ≤ 100000000) (hh : -100000000 ≤ hi ∧ hi ≤ 100000000) :
    Calls Tryz.prog 52 #[.agg (viewV p d sc lo hi), .int .i64 i] w (Ret (.agg #[.int .i64 (plS sc lo hi (ss.getD i default) d).1, .int .i64 (plS sc lo hi (ss.getD i default) d).2]) w) := by
  have hso := hok.st i hi' d
  have r2 := bey_rng hso hs0 hs1
  have HSA : Hid (∀ Y, Below w.heap.size w Y → Calls Tryz.prog 111 #[.agg (sideV p (dirF d)), .int .i64 i] Y (Ret (.agg #[.int .i64 (saidS (ss.getD i default) d).1, .int .i64 (saidS (ss.getD i default) d).2]) Y)) := fun Y hY => said_any d p ss i Y (h.below hY (Nat.le_refl _)) hi'
  have HBE : Hid (∀ Y, Below w.heap.size w Y → Calls Tryz.prog 113 #[.agg (sideV p (dirF d)), .int .i64 sc, .int .i64 i] Y (Ret (.agg #[.int .i64 (beyS sc (ss.getD i default) d).1, .int .i64 (beyS sc (ss.getD i default) d).2]) Y)) := fun Y hY =>
    bey_any d sc p ss i Y (h.below hY (Nat.le_refl _)) hi' hs0 hs1 ⟨hso.a, by have := hso.b; have := hso.c; omega, by have := hso.a; have := hso.b; omega, hso.c⟩
  have HK : Hid (plS sc lo hi (ss.getD i default) d = (max (saidS (ss.getD i default) d).1 (lo + (beyS sc (ss.getD i default) d).1), min (saidS (ss.getD i default) d).2 (hi + (beyS sc (ss.getD i default) d).2))) := rfl
  clear h hok hso hi'
  generalize plS sc lo hi (ss.getD i default) d = r at *
  generalize saidS (ss.getD i default) d = u at *
  generalize beyS sc (ss.getD i default) d = v at *
  obtain ⟨u0, u1⟩ := u
  obtain ⟨v0, v1⟩ := v
  dsimp only at *
  have hst := @store_fn Tryz.prog
  unfold viewV
  generalize dirF d = f at *
  unfold sideV at HSA HBE ⊢
  simp only [List.append_toArray, List.cons_append, List.nil_append]
  go_enter Tryz.func52, Tryz.ntmps52
  go_wp2_with fail
  obtain ⟨W, hW⟩ : ∃ W, (w.alloc (.cells #[.int .i64 p.lo, .int .i64 p.hi, .slice p.a p.n p.cap, .func (.func f) #[] #[], .int .i64 sc, .int .i64 lo, .int .i64 hi] 84)).alloc (.cells #[.int .i64 0, .int .i64 0] 23) = W := ⟨_, rfl⟩
  have hsl : Slots (w.heap.size + 1) 2 W := by
    rw [← hW]; intro o ho
    have : o = 0 ∨ o = 1 := by omega
    rcases this with rfl | rfl <;> simp [go_sem]
  have hB00 : Below w.heap.size w W := by rw [← hW]; exact BA (BA (Below.refl _ _) _) _
  have hTlt : w.heap.size + 1 < W.heap.size := by rw [← hW]; simp
  have HBX : BoxV W w.heap.size p f sc lo hi := by
    have : BoxV (w.alloc (.cells #[.int .i64 p.lo, .int .i64 p.hi, .slice p.a p.n p.cap, .func (.func f) #[] #[], .int .i64 sc, .int .i64 lo, .int .i64 hi] 84)) w.heap.size p f sc lo hi := ⟨by simp [go_sem], by simp [go_sem], by simp [go_sem], by simp [go_sem], by simp [go_sem], by simp [go_sem], by simp [go_sem]⟩
    rw [← hW]; exact this.grown (newB _ _)
  rw [hW]
  clear hW
  have hS : Hid (∀ X, Below W.heap.size W X → X.cell? ⟨w.heap.size, 0, none⟩ = some (.int .i64 p.lo) ∧ X.cell? ⟨w.heap.size, 1, none⟩ = some (.int .i64 p.hi) ∧ X.cell? ⟨w.heap.size, 2, none⟩ = some (.slice p.a p.n p.cap) ∧ X.cell? ⟨w.heap.size, 3, none⟩ = some (.func (.func f) #[] #[]) ∧ X.cell? ⟨w.heap.size, 4, none⟩ = some (.int .i64 sc) ∧ X.cell? ⟨w.heap.size, 5, none⟩ = some (.int .i64 lo) ∧ X.cell? ⟨w.heap.size, 6, none⟩ = some (.int .i64 hi)) := fun X hX => (HBX.grown hX).all
  refine wp_region_seq [(0, true), (1, true), (2, true), (4, true), (5, true), (6, true), (7, true), (8, true), (9, true), (10, true), (3, false), (11, false), (12, false), (13, false), (14, false)] (fun X => X.cell? ⟨w.heap.size, 0, none⟩ = some (.int .i64 p.lo) ∧ X.cell? ⟨w.heap.size, 1, none⟩ = some (.int .i64 p.hi) ∧ X.cell? ⟨w.heap.size, 2, none⟩ = some (.slice p.a p.n p.cap) ∧ X.cell? ⟨w.heap.size, 3, none⟩ = some (.func (.func f) #[] #[]) ∧ X.cell? ⟨w.heap.size, 4, none⟩ = some (.int .i64 sc) ∧ X.cell? ⟨w.heap.size, 5, none⟩ = some (.int .i64 lo) ∧ X.cell? ⟨w.heap.size, 6, none⟩ = some (.int .i64 hi)) (by kernel_rfl) (by kernel_rfl) (fun _ _ d _ _ h => by cases d <;> exact h) HBX.all ?_
  repeat (first | (refine seq_read rfl (by rfl) _ (fun w' hS => by (try dsimp only at hS); go_simp; (try with_reducible rfl)) ?_; (try simp only [Act.put, List.setIfInBounds_toArray, List.set_cons_zero, List.set_cons_succ])) | (refine seq_skip rfl (by rfl) ?_; (try simp only [Act.put, List.setIfInBounds_toArray, List.set_cons_zero, List.set_cons_succ])))
  refine seq_do rfl (by rfl) (fun K hK => ?_)
  go_simp
  have hb0 : Below W.heap.size W W.drew := Below.drew (Below.refl _ _)
  refine (HSA.out W.drew (BT hB00 hb0)).mono ?_
  rintro e w1 ⟨rfl, hb1⟩
  have hb1 := BT hb0 hb1
  refine hK _ _ (hS.out _ hb1) ?_
  clear hK K
  (try simp only [Act.put, List.setIfInBounds_toArray, List.set_cons_zero, List.set_cons_succ])
  repeat (first | (refine seq_read rfl (by rfl) _ (fun w' hS => by (try dsimp only at hS); go_simp; (try with_reducible rfl)) ?_; (try simp only [Act.put, List.setIfInBounds_toArray, List.set_cons_zero, List.set_cons_succ])) | (refine seq_skip rfl (by rfl) ?_; (try simp only [Act.put, List.setIfInBounds_toArray, List.set_cons_zero, List.set_cons_succ])))
  refine seq_do rfl (by rfl) (fun K hK => ?_)
  go_simp
  refine (HBE.out w1 (BT hB00 hb1)).mono ?_
  rintro e w2 ⟨rfl, hb2⟩
  have hb2 := BT hb1 hb2
  refine hK _ _ (hS.out _ hb2) ?_
  clear hK K
  (try simp only [Act.put, List.setIfInBounds_toArray, List.set_cons_zero, List.set_cons_succ])
  repeat (first | (refine seq_read rfl (by rfl) _ (fun w' hS => by (try dsimp only at hS); go_simp; (try with_reducible rfl)) ?_; (try simp only [Act.put, List.setIfInBounds_toArray, List.set_cons_zero, List.set_cons_succ])) | (refine seq_skip rfl (by rfl) ?_; (try simp only [Act.put, List.setIfInBounds_toArray, List.set_cons_zero, List.set_cons_succ])))
  refine seq_do rfl (by rfl) (fun K hK => ?_)
  go_simp
  refine (add_any lo hi v0 v1 w2 (by omega) (by omega)).mono ?_
  rintro e w3 ⟨rfl, hb3⟩
  have hb3 := BT hb2 hb3
  refine hK _ _ (hS.out _ hb3) ?_
  clear hK K
  (try simp only [Act.put, List.setIfInBounds_toArray, List.set_cons_zero, List.set_cons_succ])
  repeat (first | (refine seq_read rfl (by rfl) _ (fun w' hS => by (try dsimp only at hS); go_simp; (try with_reducible rfl)) ?_; (try simp only [Act.put, List.setIfInBounds_toArray, List.set_cons_zero, List.set_cons_succ])) | (refine seq_skip rfl (by rfl) ?_; (try simp only [Act.put, List.setIfInBounds_toArray, List.set_cons_zero, List.set_cons_succ])))
  refine seq_do rfl (by rfl) (fun K hK => ?_)
  go_simp
  refine (join_any u0 u1 (lo + v0) (hi + v1) w3).mono ?_
  rintro e w4 ⟨rfl, hb4⟩
  have hb4 := BT hb3 hb4
  refine hK _ _ (hS.out _ hb4) ?_
  clear hK K
  (try simp only [Act.put, List.setIfInBounds_toArray, List.set_cons_zero, List.set_cons_succ])
  repeat (first | (refine seq_read rfl (by rfl) _ (fun w' hS => by (try dsimp only at hS); go_simp; (try with_reducible rfl)) ?_; (try simp only [Act.put, List.setIfInBounds_toArray, List.set_cons_zero, List.set_cons_succ])) | (refine seq_skip rfl (by rfl) ?_; (try simp only [Act.put, List.setIfInBounds_toArray, List.set_cons_zero, List.set_cons_succ])))
  refine seq_last rfl (by rfl) (by kernel_rfl) (fun K hK => ?_)
  have hsl := hsl.below hb4 hTlt
  obtain ⟨x0, q0, z0⟩ := hsl.get 0 (by omega)
  obtain ⟨x1, q1, z1⟩ := hsl.get 1 (by omega)
  go_simp
  refine hK _ _ ?_
  clear hK K
  first | show Exit.inBlock _ _ Exit.normal _ _ | show Exit.then _ _ Exit.normal _ _ | skip
  have hB3 := BT hB00 hb4
  have hfin := (BC (BC hB3 (w.heap.size + 1) 0 (by omega) (.int .i64 (max u0 (lo + v0)))) (w.heap.size + 1) 1 (by omega) (.int .i64 (min u1 (hi + v1))))
  go_wp2_with fail
  exact bodyPost_ret (v := .agg #[.int .i64 (max u0 (lo + v0)), .int .i64 (min u1 (hi + v1))]) (by simp [results, Tryz.results52, go_sem, q0, q1]) rfl ⟨by rw [HK.out], hfin⟩
end Go.Proofs.YtdkegkacpdkjgaaGreat
