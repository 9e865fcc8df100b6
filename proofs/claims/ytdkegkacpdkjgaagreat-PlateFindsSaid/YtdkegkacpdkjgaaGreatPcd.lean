/- Plate: the closures behind Clash and Drop. -/
import Derived.Test.YtdkegkacpdkjgaaGreatPcl
import Derived.Test.YtdkegkacpdkjgaaGreatPfw
import Derived.Test.YtdkegkacpdkjgaaGreatPca
import Derived.Test.YtdkegkacpdkjgaaGreatPbt
namespace Go.Proofs.YtdkegkacpdkjgaaGreat
open Go.RowKit Go.Maps

def clashF (p : Pl) (ss : List St) (t : Int) : Bool := !canR p ss t
def dropF (p : Pl) (ss : List St) (t : Int) : Bool := canR p ss (bits .andNot .i64 (knownTo ss p.n) t)
def clashR (p : Pl) (ss : List St) : Except Int Value := if plB p ss then .ok (.int .i64 (if canR p ss (knownTo ss p.n) then 0 else fewS (clashF p ss) (knownTo ss p.n))) else .error 1
def dropR (p : Pl) (ss : List St) : Except Int Value := if plB p ss then .ok (.int .i64 (fewS (dropF p ss) (knownTo ss p.n))) else .error 1

set_option maxRecDepth 100000 in
set_option maxHeartbeats 4000000 in
theorem clashC_any (t : Int) (p : Pl) (ss : List St) (C : Nat) (w : World) (hL : BoxL w C p) (hm : PlAt p ss w) (hok : PlOk p ss) :
    Calls Tryz.prog 72 #[.int .i64 t, .pointer (some ⟨C, 0, none⟩)] w (Ret (.bool (clashF p ss t)) w) := by
  have HC : Hid (∀ Y, Below w.heap.size w Y → Calls Tryz.prog 69 #[.agg (lookV p), .int .i64 t] Y (Ret (.bool (canR p ss t)) Y)) := fun Y hY => can_any p ss t Y (hm.below hY (Nat.le_refl _)) hok
  unfold clashF
  unfold lookV sideV at HC
  simp only [List.append_toArray, List.cons_append, List.nil_append] at HC
  obtain ⟨b0, b1, b2, b3, b4, b5, b6, b7, b8, b9, b10⟩ := hL
  clear hm hok
  generalize canR p ss t = q at *
  have hst := @store_fn Tryz.prog
  go_enter Tryz.func72, Tryz.ntmps72
  go_wp2_with (go_at_call 69; refine (HC.out _ (by (repeat (first | assumption | exact Below.refl _ _ | refine BA ?_ _ | refine BC ?_ _ _ (by first | omega | (simp; done) | (simp; omega)) _ | refine Below.drew ?_ | refine BT ?_ (by assumption))))).mono ?_; rintro e X ⟨rfl, hX⟩)
  go_ret
  exact ⟨rfl, BT (by (repeat (first | assumption | exact Below.refl _ _ | refine BA ?_ _ | refine BC ?_ _ _ (by first | omega | (simp; done) | (simp; omega)) _ | refine Below.drew ?_ | refine BT ?_ (by assumption)))) hX⟩
set_option maxRecDepth 100000 in
set_option maxHeartbeats 4000000 in
theorem dropC_any (t : Int) (p : Pl) (ss : List St) (C : Nat) (w : World) (hL : BoxL w C p) (hm : PlAt p ss w) (hok : PlOk p ss) :
    Calls Tryz.prog 77 #[.int .i64 t, .pointer (some ⟨C, 0, none⟩)] w (Ret (.bool (dropF p ss t)) w) := by
  have hn12 : p.n ≤ 12 := by have := hok.n10; omega
  have HKN : Hid (∀ Y, Below w.heap.size w Y → Calls Tryz.prog 70 #[.agg (lookV p)] Y (Ret (.int .i64 (knownTo ss p.n)) Y)) := fun Y hY => known_any p ss Y (hm.below hY (Nat.le_refl _)) hn12
  have HC : Hid (∀ Y, Below w.heap.size w Y → Calls Tryz.prog 69 #[.agg (lookV p), .int .i64 (bits .andNot .i64 (knownTo ss p.n) t)] Y (Ret (.bool (canR p ss (bits .andNot .i64 (knownTo ss p.n) t))) Y)) := fun Y hY => can_any p ss _ Y (hm.below hY (Nat.le_refl _)) hok
  unfold dropF
  unfold lookV sideV at HC HKN
  simp only [List.append_toArray, List.cons_append, List.nil_append] at HC HKN
  have hS : Hid (∀ X, Below w.heap.size w X → X.cell? ⟨C, 0, none⟩ = some (.int .i64 p.lo) ∧ X.cell? ⟨C, 1, none⟩ = some (.int .i64 p.hi) ∧ X.cell? ⟨C, 2, none⟩ = some (.slice p.a p.n p.cap) ∧ X.cell? ⟨C, 3, none⟩ = some (.int .i64 p.lo) ∧ X.cell? ⟨C, 4, none⟩ = some (.int .i64 p.hi) ∧ X.cell? ⟨C, 5, none⟩ = some (.slice p.a p.n p.cap) ∧ X.cell? ⟨C, 6, none⟩ = some (.func (.func 133) #[] #[]) ∧ X.cell? ⟨C, 7, none⟩ = some (.int .i64 p.lo) ∧ X.cell? ⟨C, 8, none⟩ = some (.int .i64 p.hi) ∧ X.cell? ⟨C, 9, none⟩ = some (.slice p.a p.n p.cap) ∧ X.cell? ⟨C, 10, none⟩ = some (.func (.func 134) #[] #[])) := fun X hX => (hL.grown hL.lt hX).all
  obtain ⟨b0, b1, b2, b3, b4, b5, b6, b7, b8, b9, b10⟩ := hL
  clear hm hok hn12
  generalize knownTo ss p.n = al at *
  generalize canR p ss (bits .andNot .i64 al t) = q at *
  have hst := @store_fn Tryz.prog
  go_enter Tryz.func77, Tryz.ntmps77
  go_wp2_with fail
  have hbD : Below w.heap.size w w.drew := Below.drew (Below.refl _ w)
  refine wp_region_seq [(0, true), (1, true), (3, true), (2, false), (4, true), (5, false), (6, true)] (fun X => X.cell? ⟨C, 0, none⟩ = some (.int .i64 p.lo) ∧ X.cell? ⟨C, 1, none⟩ = some (.int .i64 p.hi) ∧ X.cell? ⟨C, 2, none⟩ = some (.slice p.a p.n p.cap) ∧ X.cell? ⟨C, 3, none⟩ = some (.int .i64 p.lo) ∧ X.cell? ⟨C, 4, none⟩ = some (.int .i64 p.hi) ∧ X.cell? ⟨C, 5, none⟩ = some (.slice p.a p.n p.cap) ∧ X.cell? ⟨C, 6, none⟩ = some (.func (.func 133) #[] #[]) ∧ X.cell? ⟨C, 7, none⟩ = some (.int .i64 p.lo) ∧ X.cell? ⟨C, 8, none⟩ = some (.int .i64 p.hi) ∧ X.cell? ⟨C, 9, none⟩ = some (.slice p.a p.n p.cap) ∧ X.cell? ⟨C, 10, none⟩ = some (.func (.func 134) #[] #[])) (by kernel_rfl) (by kernel_rfl) (fun _ _ d _ _ h => by cases d <;> exact h) (hS.out _ hbD) ?_
  repeat (first | (refine seq_read rfl (by rfl) _ (fun w' hS => by (try dsimp only at hS); go_simp; (try with_reducible rfl)) ?_; (try simp only [Act.put, List.setIfInBounds_toArray, List.set_cons_zero, List.set_cons_succ])) | (refine seq_skip rfl (by rfl) ?_; (try simp only [Act.put, List.setIfInBounds_toArray, List.set_cons_zero, List.set_cons_succ])))
  refine seq_do rfl (by rfl) (fun K hK => ?_)
  go_simp
  refine (HKN.out w.drew hbD).mono ?_
  rintro e w2 ⟨rfl, hb2⟩
  have hb2 := BT hbD hb2
  refine hK _ _ (hS.out _ hb2) ?_
  clear hK K
  (try simp only [Act.put, List.setIfInBounds_toArray, List.set_cons_zero, List.set_cons_succ])
  repeat (first | (refine seq_read rfl (by rfl) _ (fun w' hS => by (try dsimp only at hS); go_simp; (try with_reducible rfl)) ?_; (try simp only [Act.put, List.setIfInBounds_toArray, List.set_cons_zero, List.set_cons_succ])) | (refine seq_skip rfl (by rfl) ?_; (try simp only [Act.put, List.setIfInBounds_toArray, List.set_cons_zero, List.set_cons_succ])))
  refine seq_do rfl (by rfl) (fun K hK => ?_)
  go_simp
  refine (HC.out w2 hb2).mono ?_
  rintro e w3 ⟨rfl, hb3⟩
  have hb3 := BT hb2 hb3
  refine hK _ _ (hS.out _ hb3) ?_
  clear hK K
  (try simp only [Act.put, List.setIfInBounds_toArray, List.set_cons_zero, List.set_cons_succ])
  repeat (first | (refine seq_read rfl (by rfl) _ (fun w' hS => by (try dsimp only at hS); go_simp; (try with_reducible rfl)) ?_; (try simp only [Act.put, List.setIfInBounds_toArray, List.set_cons_zero, List.set_cons_succ])) | (refine seq_skip rfl (by rfl) ?_; (try simp only [Act.put, List.setIfInBounds_toArray, List.set_cons_zero, List.set_cons_succ])))
  apply seq_end
  first | show Exit.inBlock _ _ Exit.normal _ _ | show Exit.then _ _ Exit.normal _ _ | skip
  go_wp2_with fail
  go_ret
  exact ⟨rfl, hb3⟩
set_option maxRecDepth 100000 in
set_option maxHeartbeats 8000000 in
theorem clashT_any (B : Nat) (p : Pl) (ss : List St) (w : World) (hbp : BoxP w B p) (hm : PlAt p ss w) :
    Calls Tryz.prog 68 #[.pointer (some ⟨B, 0, none⟩)] w (Out (clashR p ss) w) := by
  have hmf : ∀ (fn : Fn) (first cap : Array Value) (w : World), (Instr.makeFunc fn first cap).run Tryz.prog w = .ok (.func fn first cap) w := fun _ _ _ _ => rfl
  have hst := @store_fn Tryz.prog
  obtain ⟨R, hR⟩ : ∃ R, clashR p ss = R := ⟨_, rfl⟩
  rw [hR]
  unfold clashR at hR
  have HR := Lib.hid hR
  clear hR
  go_enter Tryz.func68, Tryz.ntmps68
  have hB : Below w.heap.size w w := Below.refl _ _
  obtain ⟨b0, b1, b2⟩ := id hbp
  go_wp2_with fail
  clear b0 b1 b2
  cases hv : plB p ss
  · have hRe : R = .error 1 := by rw [← HR.out, hv]; rfl
    refine (lookAt_no p ss w hm hv).mono ?_
    rintro e X ⟨rfl, hX⟩
    rw [hRe]
    exact ⟨rfl, rfl, BT hB hX⟩
  have hok := plOk hm hv
  have HR1 := Lib.hid HR.out
  rw [hv, if_pos rfl] at HR1
  refine (lookAt_ok p ss w hm hv).mono ?_
  rintro e X1 ⟨rfl, hx1⟩
  have hbp_ := hbp.grown hx1
  clear hbp
  have hbp := hbp_
  clear hbp_
  have hm_ := hm.below hx1 (Nat.le_refl _)
  clear hm
  have hm := hm_
  clear hm_
  have hB_ := BT hB hx1
  clear hB
  have hB := hB_
  clear hB_
  clear hx1
  unfold lookV sideV
  simp only [List.append_toArray, List.cons_append, List.nil_append]
  clear HR hv
  obtain ⟨XL, hXL⟩ : ∃ X, X1.alloc (.cells #[.int .i64 p.lo, .int .i64 p.hi, .slice p.a p.n p.cap, .int .i64 p.lo, .int .i64 p.hi, .slice p.a p.n p.cap, .func (.func 133) #[] #[], .int .i64 p.lo, .int .i64 p.hi, .slice p.a p.n p.cap, .func (.func 134) #[] #[]] 70) = X := ⟨_, rfl⟩
  have hL : BoxL XL X1.heap.size p := by rw [← hXL]; exact boxL_newE X1 p
  have hxL : Below X1.heap.size X1 XL := by rw [← hXL]; exact newB _ _
  have hbp_ := hbp.grown hxL
  clear hbp
  have hbp := hbp_
  clear hbp_
  have hm_ := hm.below hxL (Nat.le_refl _)
  clear hm
  have hm := hm_
  clear hm_
  have hB_ := BT hB hxL
  clear hB
  have hB := hB_
  clear hB_
  clear hxL
  obtain ⟨b0, b1, b2, b3, b4, b5, b6, b7, b8, b9, b10⟩ := id hL
  go_wp2_with fail
  clear hXL b0 b1 b2 b3 b4 b5 b6 b7 b8 b9 b10 
  generalize X1.heap.size = G at *
  have hn12 : p.n ≤ 12 := by have := hok.n10; omega
  obtain ⟨kn0, kn1⟩ := known_lt (ss := ss) hn12
  have HKN : Hid (∀ Y, Below XL.heap.size XL Y → Calls Tryz.prog 70 #[.agg (lookV p)] Y (Ret (.int .i64 (knownTo ss p.n)) Y)) := fun Y hY => known_any p ss Y (hm.below hY (Nat.le_refl _)) hn12
  have HBL : Hid (∀ Y, Below XL.heap.size XL Y → BoxL Y G p ∧ PlAt p ss Y) := fun Y hY => ⟨hL.grown hL.lt hY, hm.below hY (Nat.le_refl _)⟩
  have HC : Hid (∀ Y, Below XL.heap.size XL Y → Calls Tryz.prog 69 #[.agg (lookV p), .int .i64 (knownTo ss p.n)] Y (Ret (.bool (canR p ss (knownTo ss p.n))) Y)) := fun Y hY => can_any p ss _ Y (hm.below hY (Nat.le_refl _)) hok
  unfold lookV sideV at HC HKN
  simp only [List.append_toArray, List.cons_append, List.nil_append] at HC HKN
  have hS : Hid (∀ X, Below XL.heap.size XL X → X.cell? ⟨G, 0, none⟩ = some (.int .i64 p.lo) ∧ X.cell? ⟨G, 1, none⟩ = some (.int .i64 p.hi) ∧ X.cell? ⟨G, 2, none⟩ = some (.slice p.a p.n p.cap) ∧ X.cell? ⟨G, 3, none⟩ = some (.int .i64 p.lo) ∧ X.cell? ⟨G, 4, none⟩ = some (.int .i64 p.hi) ∧ X.cell? ⟨G, 5, none⟩ = some (.slice p.a p.n p.cap) ∧ X.cell? ⟨G, 6, none⟩ = some (.func (.func 133) #[] #[]) ∧ X.cell? ⟨G, 7, none⟩ = some (.int .i64 p.lo) ∧ X.cell? ⟨G, 8, none⟩ = some (.int .i64 p.hi) ∧ X.cell? ⟨G, 9, none⟩ = some (.slice p.a p.n p.cap) ∧ X.cell? ⟨G, 10, none⟩ = some (.func (.func 134) #[] #[])) := fun X hX => (HBL.out X hX).1.all
  obtain ⟨b0, b1, b2, b3, b4, b5, b6, b7, b8, b9, b10⟩ := id hL
  have hbD : Below XL.heap.size XL XL.drew := Below.drew (Below.refl _ XL)
  go_wp2_with fail
  refine wp_region_seq [(0, true), (1, true), (2, false), (3, false)] (fun X => X.cell? ⟨G, 0, none⟩ = some (.int .i64 p.lo) ∧ X.cell? ⟨G, 1, none⟩ = some (.int .i64 p.hi) ∧ X.cell? ⟨G, 2, none⟩ = some (.slice p.a p.n p.cap) ∧ X.cell? ⟨G, 3, none⟩ = some (.int .i64 p.lo) ∧ X.cell? ⟨G, 4, none⟩ = some (.int .i64 p.hi) ∧ X.cell? ⟨G, 5, none⟩ = some (.slice p.a p.n p.cap) ∧ X.cell? ⟨G, 6, none⟩ = some (.func (.func 133) #[] #[]) ∧ X.cell? ⟨G, 7, none⟩ = some (.int .i64 p.lo) ∧ X.cell? ⟨G, 8, none⟩ = some (.int .i64 p.hi) ∧ X.cell? ⟨G, 9, none⟩ = some (.slice p.a p.n p.cap) ∧ X.cell? ⟨G, 10, none⟩ = some (.func (.func 134) #[] #[])) (by kernel_rfl) (by kernel_rfl) (fun _ _ d _ _ h => by cases d <;> exact h) (hS.out _ hbD) ?_
  repeat (first | (refine seq_read rfl (by rfl) _ (fun w' hS => by (try dsimp only at hS); go_simp; (try with_reducible rfl)) ?_; (try simp only [Act.put, List.setIfInBounds_toArray, List.set_cons_zero, List.set_cons_succ])) | (refine seq_skip rfl (by rfl) ?_; (try simp only [Act.put, List.setIfInBounds_toArray, List.set_cons_zero, List.set_cons_succ])))
  refine seq_do rfl (by rfl) (fun K hK => ?_)
  go_simp
  refine (HKN.out XL.drew hbD).mono ?_
  rintro e w2 ⟨rfl, hb2⟩
  have hb2 := BT hbD hb2
  refine hK _ _ (hS.out _ hb2) ?_
  clear hK K
  (try simp only [Act.put, List.setIfInBounds_toArray, List.set_cons_zero, List.set_cons_succ])
  repeat (first | (refine seq_read rfl (by rfl) _ (fun w' hS => by (try dsimp only at hS); go_simp; (try with_reducible rfl)) ?_; (try simp only [Act.put, List.setIfInBounds_toArray, List.set_cons_zero, List.set_cons_succ])) | (refine seq_skip rfl (by rfl) ?_; (try simp only [Act.put, List.setIfInBounds_toArray, List.set_cons_zero, List.set_cons_succ])))
  refine seq_do rfl (by rfl) (fun K hK => ?_)
  go_simp
  refine (HC.out w2 hb2).mono ?_
  rintro e w3 ⟨rfl, hb3⟩
  have hb3 := BT hb2 hb3
  refine hK _ _ (hS.out _ hb3) ?_
  clear hK K
  (try simp only [Act.put, List.setIfInBounds_toArray, List.set_cons_zero, List.set_cons_succ])
  repeat (first | (refine seq_read rfl (by rfl) _ (fun w' hS => by (try dsimp only at hS); go_simp; (try with_reducible rfl)) ?_; (try simp only [Act.put, List.setIfInBounds_toArray, List.set_cons_zero, List.set_cons_succ])) | (refine seq_skip rfl (by rfl) ?_; (try simp only [Act.put, List.setIfInBounds_toArray, List.set_cons_zero, List.set_cons_succ])))
  apply seq_end
  first | show Exit.inBlock _ _ Exit.normal _ _ | show Exit.then _ _ Exit.normal _ _ | skip
  have hB3 := BT hB hb3
  cases hcan : canR p ss (knownTo ss p.n)
  · rw [hcan] at HR1
    have HRF : Hid (R = .ok (.int .i64 (fewS (clashF p ss) (knownTo ss p.n)))) := by show _ = _; rw [← HR1.out]; rfl
    clear HR1 hcan HC b0 b1 b2 b3 b4 b5 b6 b7 b8 b9 b10
    obtain ⟨b0, b1, b2, b3, b4, b5, b6, b7, b8, b9, b10⟩ := id (HBL.out w3 hb3).1
    have HK3 := Lib.hid (HKN.out w3 hb3)
    go_wp2_with fail
    refine HK3.out.mono ?_
    rintro e w4 ⟨rfl, hb4⟩
    have hB4 := BT hB3 hb4
    have hb4 := BT hb3 hb4
    have HF := Lib.hid (fewest_any (clashF p ss) (knownTo ss p.n) 72 #[.pointer (some ⟨G, 0, none⟩)] w4 kn0 kn1 (enters_of Tryz.func72 (by kernel_rfl) rfl) (fun t Y hY => clashC_any t p ss G Y (HBL.out Y (BT hb4 hY)).1 (HBL.out Y (BT hb4 hY)).2 hok))
    clear b0 b1 b2 b3 b4 b5 b6 b7 b8 b9 b10 HK3
    generalize fewS (clashF p ss) (knownTo ss p.n) = q at *
    go_wp2_with fail
    refine HF.out.mono ?_
    rintro e w5 ⟨rfl, hb5⟩
    have hB5 := BT hB4 hb5
    clear hb5
    go_wp2_with fail
    go_ret
    rw [HRF.out]
    exact ⟨rfl, hB5⟩
  · rw [hcan] at HR1
    have HRF : Hid (R = .ok (.int .i64 0)) := by show _ = _; rw [← HR1.out]; rfl
    clear HR1 hcan HC b0 b1 b2 b3 b4 b5 b6 b7 b8 b9 b10
    go_wp2_with fail
    go_ret
    rw [HRF.out]
    exact ⟨rfl, hB3⟩
set_option maxRecDepth 100000 in
set_option maxHeartbeats 8000000 in
theorem dropT_any (B : Nat) (p : Pl) (ss : List St) (w : World) (hbp : BoxP w B p) (hm : PlAt p ss w) :
    Calls Tryz.prog 76 #[.pointer (some ⟨B, 0, none⟩)] w (Out (dropR p ss) w) := by
  have hmf : ∀ (fn : Fn) (first cap : Array Value) (w : World), (Instr.makeFunc fn first cap).run Tryz.prog w = .ok (.func fn first cap) w := fun _ _ _ _ => rfl
  have hst := @store_fn Tryz.prog
  obtain ⟨R, hR⟩ : ∃ R, dropR p ss = R := ⟨_, rfl⟩
  rw [hR]
  unfold dropR at hR
  have HR := Lib.hid hR
  clear hR
  go_enter Tryz.func76, Tryz.ntmps76
  have hB : Below w.heap.size w w := Below.refl _ _
  obtain ⟨b0, b1, b2⟩ := id hbp
  go_wp2_with fail
  clear b0 b1 b2
  cases hv : plB p ss
  · have hRe : R = .error 1 := by rw [← HR.out, hv]; rfl
    refine (lookAt_no p ss w hm hv).mono ?_
    rintro e X ⟨rfl, hX⟩
    rw [hRe]
    exact ⟨rfl, rfl, BT hB hX⟩
  have hok := plOk hm hv
  have HR1 := Lib.hid HR.out
  rw [hv, if_pos rfl] at HR1
  refine (lookAt_ok p ss w hm hv).mono ?_
  rintro e X1 ⟨rfl, hx1⟩
  have hbp_ := hbp.grown hx1
  clear hbp
  have hbp := hbp_
  clear hbp_
  have hm_ := hm.below hx1 (Nat.le_refl _)
  clear hm
  have hm := hm_
  clear hm_
  have hB_ := BT hB hx1
  clear hB
  have hB := hB_
  clear hB_
  clear hx1
  unfold lookV sideV
  simp only [List.append_toArray, List.cons_append, List.nil_append]
  clear HR hv
  obtain ⟨XL, hXL⟩ : ∃ X, X1.alloc (.cells #[.int .i64 p.lo, .int .i64 p.hi, .slice p.a p.n p.cap, .int .i64 p.lo, .int .i64 p.hi, .slice p.a p.n p.cap, .func (.func 133) #[] #[], .int .i64 p.lo, .int .i64 p.hi, .slice p.a p.n p.cap, .func (.func 134) #[] #[]] 70) = X := ⟨_, rfl⟩
  have hL : BoxL XL X1.heap.size p := by rw [← hXL]; exact boxL_newE X1 p
  have hxL : Below X1.heap.size X1 XL := by rw [← hXL]; exact newB _ _
  have hbp_ := hbp.grown hxL
  clear hbp
  have hbp := hbp_
  clear hbp_
  have hm_ := hm.below hxL (Nat.le_refl _)
  clear hm
  have hm := hm_
  clear hm_
  have hB_ := BT hB hxL
  clear hB
  have hB := hB_
  clear hB_
  clear hxL
  obtain ⟨b0, b1, b2, b3, b4, b5, b6, b7, b8, b9, b10⟩ := id hL
  go_wp2_with fail
  clear hXL b0 b1 b2 b3 b4 b5 b6 b7 b8 b9 b10 
  generalize X1.heap.size = G at *
  have hn12 : p.n ≤ 12 := by have := hok.n10; omega
  obtain ⟨kn0, kn1⟩ := known_lt (ss := ss) hn12
  have HKN : Hid (∀ Y, Below XL.heap.size XL Y → Calls Tryz.prog 70 #[.agg (lookV p)] Y (Ret (.int .i64 (knownTo ss p.n)) Y)) := fun Y hY => known_any p ss Y (hm.below hY (Nat.le_refl _)) hn12
  have HBL : Hid (∀ Y, Below XL.heap.size XL Y → BoxL Y G p ∧ PlAt p ss Y) := fun Y hY => ⟨hL.grown hL.lt hY, hm.below hY (Nat.le_refl _)⟩
  unfold lookV sideV at HKN
  simp only [List.append_toArray, List.cons_append, List.nil_append] at HKN
  obtain ⟨b0, b1, b2, b3, b4, b5, b6, b7, b8, b9, b10⟩ := id hL
  have HK3 := Lib.hid (HKN.out XL (Below.refl _ _))
  have HRF : Hid (R = .ok (.int .i64 (fewS (dropF p ss) (knownTo ss p.n)))) := HR1.out.symm
  clear HR1
  go_wp2_with fail
  refine HK3.out.mono ?_
  rintro e w4 ⟨rfl, hb4⟩
  have hB4 := BT hB hb4
  have HF := Lib.hid (fewest_any (dropF p ss) (knownTo ss p.n) 77 #[.pointer (some ⟨G, 0, none⟩)] w4 kn0 kn1 (enters_of Tryz.func77 (by kernel_rfl) rfl) (fun t Y hY => dropC_any t p ss G Y (HBL.out Y (BT hb4 hY)).1 (HBL.out Y (BT hb4 hY)).2 hok))
  clear b0 b1 b2 b3 b4 b5 b6 b7 b8 b9 b10 HK3
  generalize fewS (dropF p ss) (knownTo ss p.n) = q at *
  go_wp2_with fail
  refine HF.out.mono ?_
  rintro e w5 ⟨rfl, hb5⟩
  have hB5 := BT hB4 hb5
  clear hb5
  go_wp2_with fail
  go_ret
  rw [HRF.out]
  exact ⟨rfl, hB5⟩
end Go.Proofs.YtdkegkacpdkjgaaGreat
