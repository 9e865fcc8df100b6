/- Plate: where on the plate a place of the sky is, in all truths of a scale. -/
import Derived.Test.YtdkegkacpdkjgaaGreatPvw
namespace Go.Proofs.YtdkegkacpdkjgaaGreat
open Go.RowKit



def leastS (sc b : Int) : Int := (max b 0 * 1000 + sc - 1) / sc
theorem least_rng {sc b : Int} (h0 : 1 ≤ sc) (hs1 : sc ≤ 1000) (hb : b ≤ 1000000000) : 0 ≤ leastS sc b ∧ leastS sc b ≤ 1000000000999 := by
  unfold leastS
  have h1 : 0 ≤ max b 0 * 1000 + sc - 1 := by omega
  have h2 : max b 0 * 1000 + sc - 1 ≤ 1000000000999 := by omega
  generalize max b 0 * 1000 + sc - 1 = n at *
  exact ⟨Int.ediv_nonneg h1 (by omega), Int.le_trans (Int.ediv_le_self _ h1) h2⟩
set_option maxRecDepth 100000 in
set_option maxHeartbeats 2000000 in
theorem least_any (p : Pl) (f : Nat) (sc lo hi b : Int) (w : World) (hs0 : 1 ≤ sc) (hs1 : sc ≤ 1000) (hb : -1000000000 ≤ b ∧ b ≤ 1000000000) :
    Calls Tryz.prog 117 #[.agg (sideV p f ++ #[.int .i64 sc, .int .i64 lo, .int .i64 hi]), .int .i64 b] w (Ret (.int .i64 (leastS sc b)) w) := by
  unfold sideV
  simp only [List.append_toArray, List.cons_append, List.nil_append]
  obtain ⟨r, hr⟩ : ∃ r, leastS sc b = r := ⟨_, rfl⟩
  rw [hr]
  unfold leastS at hr
  have hsc : ¬ sc = 0 := by omega
  have hst := @store_fn Tryz.prog
  by_cases hb0 : 0 ≤ b
  · have hm : max b 0 = b := by omega
    rw [hm] at hr
    have HR := Lib.hid hr
    clear hr hm
    go_enter Tryz.func117, Tryz.ntmps117
    go_wp2
    go_ret
    exact ⟨by rw [← HR.out]; rfl, newB _ _⟩
  · have hm : max b 0 = 0 := by omega
    rw [hm] at hr
    have HR := Lib.hid hr
    clear hr hm
    have hb1 : b < 0 := by omega
    go_enter Tryz.func117, Tryz.ntmps117
    go_wp2
    go_ret
    exact ⟨by rw [← HR.out]; simp, newB _ _⟩
/-- Where a star can stand, by where it is in the sky. -/
def fiS (sc lo hi : Int) (s : St) (d : Bool) : Int × Int := (max (s.on d).1 (leastS sc ((s.sky d).1 - hi)), min (s.on d).2 (leastS sc ((s.sky d).2 - lo + 1) - 1))
set_option maxRecDepth 100000 in
set_option maxHeartbeats 8000000 in
theorem find_any (d : Bool) (sc lo hi : Int) (p : Pl) (s : St) (w : World) (hs0 : 1 ≤ sc) (hs1 : sc ≤ 1000) (hl : -100000000 ≤ lo ∧ lo ≤ 100000000) (hh : -100000000 ≤ hi ∧ hi ≤ 100000000)
    (hk0 : -100000000 ≤ (s.sky d).1 ∧ (s.sky d).1 ≤ 100000000) (hk1 : -100000000 ≤ (s.sky d).2 ∧ (s.sky d).2 ≤ 100000000) :
    Calls Tryz.prog 65 #[.agg (viewV p d sc lo hi), .agg s.cells] w (Ret (.agg #[.int .i64 (fiS sc lo hi s d).1, .int .i64 (fiS sc lo hi s d).2]) w) := by
  have hC := Lib.hid (spans_any d s)
  have hcall := dir_call d
  have HK : Hid (fiS sc lo hi s d = (max (s.on d).1 (leastS sc ((s.sky d).1 - hi)), min (s.on d).2 (leastS sc ((s.sky d).2 - lo + 1) - 1))) := rfl
  have HL : Hid (∀ b Y, (-1000000000 ≤ b ∧ b ≤ 1000000000) → Calls Tryz.prog 117 #[.agg (sideV p (dirF d) ++ #[.int .i64 sc, .int .i64 lo, .int .i64 hi]), .int .i64 b] Y (Ret (.int .i64 (leastS sc b)) Y)) := fun b Y hb => least_any p (dirF d) sc lo hi b Y hs0 hs1 hb
  have HLR : Hid (∀ b, b ≤ 1000000000 → 0 ≤ leastS sc b ∧ leastS sc b ≤ 1000000000999) := fun b hb => least_rng hs0 hs1 hb
  generalize fiS sc lo hi s d = r at *
  generalize s.on d = u at *
  generalize s.sky d = v at *
  obtain ⟨u0, u1⟩ := u
  obtain ⟨v0, v1⟩ := v
  dsimp only at *
  generalize leastS sc = L at *
  have hst := @store_fn Tryz.prog
  unfold viewV St.cells
  unfold St.cells at hC
  generalize dirF d = f at *
  unfold sideV at HL ⊢
  simp only [List.append_toArray, List.cons_append, List.nil_append] at HL ⊢
  go_enter Tryz.func65, Tryz.ntmps65
  go_wp2_with fail
  obtain ⟨W, hW⟩ : ∃ W, ((w.alloc (.cells #[.int .i64 p.lo, .int .i64 p.hi, .slice p.a p.n p.cap, .func (.func f) #[] #[], .int .i64 sc, .int .i64 lo, .int .i64 hi] 84)).alloc (.cells #[.int .i64 s.x0, .int .i64 s.x1, .int .i64 s.y0, .int .i64 s.y1, .bool s.k, .int .i64 s.e0, .int .i64 s.e1, .int .i64 s.n0, .int .i64 s.n1] 60)).alloc (.cells #[.int .i64 0, .int .i64 0] 23) = W := ⟨_, rfl⟩
  have hsl : Slots (w.heap.size + 1 + 1) 2 W := by
    rw [← hW]; intro o ho
    have : o = 0 ∨ o = 1 := by omega
    rcases this with rfl | rfl <;> simp [go_sem]
  have hB00 : Below w.heap.size w W := by rw [← hW]; exact BA (BA (BA (Below.refl _ _) _) _) _
  have hTlt : w.heap.size + 1 + 1 < W.heap.size := by rw [← hW]; simp
  have HBX : BoxV W w.heap.size p f sc lo hi := by
    have : BoxV (w.alloc (.cells #[.int .i64 p.lo, .int .i64 p.hi, .slice p.a p.n p.cap, .func (.func f) #[] #[], .int .i64 sc, .int .i64 lo, .int .i64 hi] 84)) w.heap.size p f sc lo hi := ⟨by simp [go_sem], by simp [go_sem], by simp [go_sem], by simp [go_sem], by simp [go_sem], by simp [go_sem], by simp [go_sem]⟩
    rw [← hW]; exact (this.grown (newB _ _)).grown (newB _ _)
  rw [hW]
  clear hW
  refine (hC.out W).mono ?_
  rintro e X1 ⟨rfl, hx1⟩
  have HBX := HBX.grown hx1
  have hsl := hsl.below hx1 hTlt
  have hTlt := Nat.lt_of_lt_of_le hTlt hx1.size
  have hB00 := BT hB00 hx1
  clear hx1 hC
  go_upto_region 2 with fail
  obtain ⟨W2, hW2⟩ : ∃ X, (X1.alloc (.cells #[.int .i64 u0, .int .i64 u1] 23)).alloc (.cells #[.int .i64 v0, .int .i64 v1] 23) = X := ⟨_, rfl⟩
  have m0 : W2.cell? ⟨X1.heap.size, 0, none⟩ = some (.int .i64 u0) ∧ W2.cell? ⟨X1.heap.size, 1, none⟩ = some (.int .i64 u1) := by rw [← hW2]; exact ⟨by simp [go_sem], by simp [go_sem]⟩
  have m1 : W2.cell? ⟨X1.heap.size + 1, 0, none⟩ = some (.int .i64 v0) ∧ W2.cell? ⟨X1.heap.size + 1, 1, none⟩ = some (.int .i64 v1) := by rw [← hW2]; exact ⟨by simp [go_sem], by simp [go_sem]⟩
  have hx2 : Below X1.heap.size X1 W2 := by rw [← hW2]; exact BA (newB _ _) _
  rw [hW2]
  clear hW2
  have HBX := HBX.grown hx2
  have hsl := hsl.below hx2 hTlt
  have hT2 := Nat.lt_of_lt_of_le hTlt hx2.size
  have hB00 := BT hB00 hx2
  clear hx2
  generalize X1.heap.size + 1 = G2 at *
  generalize X1.heap.size = G at *
  obtain ⟨b0, b1, b2, b3, b4, b5, b6⟩ := HBX.all
  obtain ⟨m00, m01⟩ := m0
  obtain ⟨m10, m11⟩ := m1
  go_wp2_with fail
  refine (less_any v0 v1 lo hi W2 (by omega) (by omega)).mono ?_
  rintro e X3 ⟨rfl, hx3⟩
  have HBX := HBX.grown hx3
  have hsl := hsl.below hx3 hT2
  have hT3 := Nat.lt_of_lt_of_le hT2 hx3.size
  have hB00 := BT hB00 hx3
  have m00 := cellB m00 hx3
  have m01 := cellB m01 hx3
  clear hx3 b0 b1 b2 b3 b4 b5 b6 m10 m11
  go_wp2_with fail
  obtain ⟨W4, hW4⟩ : ∃ X, X3.alloc (.cells #[.int .i64 (v0 - hi), .int .i64 (v1 - lo)] 23) = X := ⟨_, rfl⟩
  have m20 : W4.cell? ⟨X3.heap.size, 0, none⟩ = some (.int .i64 (v0 - hi)) ∧ W4.cell? ⟨X3.heap.size, 1, none⟩ = some (.int .i64 (v1 - lo)) := by rw [← hW4]; exact ⟨by simp [go_sem], by simp [go_sem]⟩
  have hx4 : Below X3.heap.size X3 W4 := by rw [← hW4]; exact newB _ _
  rw [hW4]
  clear hW4
  have HBX := HBX.grown hx4
  have hsl := hsl.below hx4 hT3
  have hT4 := Nat.lt_of_lt_of_le hT3 hx4.size
  have hB00 := BT hB00 hx4
  have m00 := cellB m00 hx4
  have m01 := cellB m01 hx4
  clear hx4
  generalize X3.heap.size = H at *
  have hS : Hid (∀ X, Below W4.heap.size W4 X → X.cell? ⟨w.heap.size, 0, none⟩ = some (.int .i64 p.lo) ∧ X.cell? ⟨w.heap.size, 1, none⟩ = some (.int .i64 p.hi) ∧ X.cell? ⟨w.heap.size, 2, none⟩ = some (.slice p.a p.n p.cap) ∧ X.cell? ⟨w.heap.size, 3, none⟩ = some (.func (.func f) #[] #[]) ∧ X.cell? ⟨w.heap.size, 4, none⟩ = some (.int .i64 sc) ∧ X.cell? ⟨w.heap.size, 5, none⟩ = some (.int .i64 lo) ∧ X.cell? ⟨w.heap.size, 6, none⟩ = some (.int .i64 hi) ∧ X.cell? ⟨G, 0, none⟩ = some (.int .i64 u0) ∧ X.cell? ⟨G, 1, none⟩ = some (.int .i64 u1) ∧ X.cell? ⟨H, 0, none⟩ = some (.int .i64 (v0 - hi)) ∧ X.cell? ⟨H, 1, none⟩ = some (.int .i64 (v1 - lo))) := fun X hX => by
    obtain ⟨a0, a1, a2, a3, a4, a5, a6⟩ := (HBX.grown hX).all
    exact ⟨a0, a1, a2, a3, a4, a5, a6, cellB m00 hX, cellB m01 hX, cellB m20.1 hX, cellB m20.2 hX⟩
  have hs1 : IntKind.i64.wrap (v1 - lo + 1) = v1 - lo + 1 := by exact IntWalk.i64_in _ (by omega)
  have l0 := HLR.out (v0 - hi) (by omega)
  have l1 := HLR.out (v1 - lo + 1) (by omega)
  have hs2 : IntKind.i64.wrap (L (v1 - lo + 1) - 1) = L (v1 - lo + 1) - 1 := by exact IntWalk.i64_in _ (by omega)
  have hp0 := Lib.hid (HL.out (v0 - hi))
  have hp1 := Lib.hid (HL.out (v1 - lo + 1))
  have hr0 : -1000000000 ≤ v0 - hi ∧ v0 - hi ≤ 1000000000 := by omega
  have hr1 : -1000000000 ≤ v1 - lo + 1 ∧ v1 - lo + 1 ≤ 1000000000 := by omega
  refine wp_region_seq [(0, true), (1, true), (2, true), (3, true), (5, true), (6, true), (7, true), (8, true), (4, false), (9, false), (10, true), (11, true), (12, false), (13, false)] (fun X => X.cell? ⟨w.heap.size, 0, none⟩ = some (.int .i64 p.lo) ∧ X.cell? ⟨w.heap.size, 1, none⟩ = some (.int .i64 p.hi) ∧ X.cell? ⟨w.heap.size, 2, none⟩ = some (.slice p.a p.n p.cap) ∧ X.cell? ⟨w.heap.size, 3, none⟩ = some (.func (.func f) #[] #[]) ∧ X.cell? ⟨w.heap.size, 4, none⟩ = some (.int .i64 sc) ∧ X.cell? ⟨w.heap.size, 5, none⟩ = some (.int .i64 lo) ∧ X.cell? ⟨w.heap.size, 6, none⟩ = some (.int .i64 hi) ∧ X.cell? ⟨G, 0, none⟩ = some (.int .i64 u0) ∧ X.cell? ⟨G, 1, none⟩ = some (.int .i64 u1) ∧ X.cell? ⟨H, 0, none⟩ = some (.int .i64 (v0 - hi)) ∧ X.cell? ⟨H, 1, none⟩ = some (.int .i64 (v1 - lo))) (by kernel_rfl) (by kernel_rfl) (fun _ _ d _ _ h => by cases d <;> exact h) (hS.out _ (Below.drew (Below.refl _ _))) ?_
  repeat (first | (refine seq_read rfl (by rfl) _ (fun w' hS => by (try dsimp only at hS); go_simp; (try with_reducible rfl)) ?_; (try simp only [Act.put, List.setIfInBounds_toArray, List.set_cons_zero, List.set_cons_succ])) | (refine seq_skip rfl (by rfl) ?_; (try simp only [Act.put, List.setIfInBounds_toArray, List.set_cons_zero, List.set_cons_succ])))
  refine seq_do rfl (by rfl) (fun K hK => ?_)
  go_simp
  have hb0 : Below W4.heap.size W4 W4.drew := Below.drew (Below.refl _ _)
  refine (hp0.out W4.drew hr0).mono ?_
  rintro e w1 ⟨rfl, hb1⟩
  have hb1 := BT hb0 hb1
  refine hK _ _ (hS.out _ hb1) ?_
  clear hK K
  (try simp only [Act.put, List.setIfInBounds_toArray, List.set_cons_zero, List.set_cons_succ])
  repeat (first | (refine seq_read rfl (by rfl) _ (fun w' hS => by (try dsimp only at hS); go_simp; (try with_reducible rfl)) ?_; (try simp only [Act.put, List.setIfInBounds_toArray, List.set_cons_zero, List.set_cons_succ])) | (refine seq_skip rfl (by rfl) ?_; (try simp only [Act.put, List.setIfInBounds_toArray, List.set_cons_zero, List.set_cons_succ])))
  refine seq_do rfl (by rfl) (fun K hK => ?_)
  go_simp
  refine (hp1.out w1 hr1).mono ?_
  rintro e w2 ⟨rfl, hb2⟩
  have hb2 := BT hb1 hb2
  refine hK _ _ (hS.out _ hb2) ?_
  clear hK K
  (try simp only [Act.put, List.setIfInBounds_toArray, List.set_cons_zero, List.set_cons_succ])
  repeat (first | (refine seq_read rfl (by rfl) _ (fun w' hS => by (try dsimp only at hS); go_simp; (try with_reducible rfl)) ?_; (try simp only [Act.put, List.setIfInBounds_toArray, List.set_cons_zero, List.set_cons_succ])) | (refine seq_skip rfl (by rfl) ?_; (try simp only [Act.put, List.setIfInBounds_toArray, List.set_cons_zero, List.set_cons_succ])))
  refine seq_do rfl (by rfl) (fun K hK => ?_)
  go_simp
  refine (join_any u0 u1 (L (v0 - hi)) (L (v1 - lo + 1) - 1) w2).mono ?_
  rintro e w3 ⟨rfl, hb3⟩
  have hb3 := BT hb2 hb3
  refine hK _ _ (hS.out _ hb3) ?_
  clear hK K
  (try simp only [Act.put, List.setIfInBounds_toArray, List.set_cons_zero, List.set_cons_succ])
  repeat (first | (refine seq_read rfl (by rfl) _ (fun w' hS => by (try dsimp only at hS); go_simp; (try with_reducible rfl)) ?_; (try simp only [Act.put, List.setIfInBounds_toArray, List.set_cons_zero, List.set_cons_succ])) | (refine seq_skip rfl (by rfl) ?_; (try simp only [Act.put, List.setIfInBounds_toArray, List.set_cons_zero, List.set_cons_succ])))
  refine seq_last rfl (by rfl) (by kernel_rfl) (fun K hK => ?_)
  have hsl := hsl.below hb3 hT4
  obtain ⟨x0, q0, z0⟩ := hsl.get 0 (by omega)
  obtain ⟨x1, q1, z1⟩ := hsl.get 1 (by omega)
  go_simp
  refine hK _ _ ?_
  clear hK K
  first | show Exit.inBlock _ _ Exit.normal _ _ | show Exit.then _ _ Exit.normal _ _ | skip
  have hB3 := BT hB00 hb3
  clear hs1 hs2
  have hfin := (BC (BC hB3 (w.heap.size + 1 + 1) 0 (by omega) (.int .i64 (max u0 (L (v0 - hi))))) (w.heap.size + 1 + 1) 1 (by omega) (.int .i64 (min u1 (L (v1 - lo + 1) - 1))))
  go_wp2_with fail
  exact bodyPost_ret (v := .agg #[.int .i64 (max u0 (L (v0 - hi))), .int .i64 (min u1 (L (v1 - lo + 1) - 1))]) (by simp [results, Tryz.results65, go_sem, q0, q1]) rfl ⟨by rw [HK.out], hfin⟩
end Go.Proofs.YtdkegkacpdkjgaaGreat
