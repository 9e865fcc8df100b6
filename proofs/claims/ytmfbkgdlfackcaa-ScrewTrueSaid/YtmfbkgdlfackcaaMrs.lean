/- The reference: the sums of all settings, or the error. -/
import Derived.Test.YtmfbkgdlfackcaaRop
namespace Go.Proofs.Ytmfbkgdlfackcaa
open Fw Go.RowKit

def tup3 (a b c : Int) : Value := .tuple #[.agg #[.int .i64 a, .int .i64 b], .int .i64 c]
def allS (ss : List Sett) : Int := 2 ^ ss.length - 1
/-- The sums, or the error. -/
def openE (h : Hd) (xs : List (Int × Int)) (ss : List Sett) (v : Bool) : Int × Int × Int :=
  if validH h xs ss = true then if v = true then if (sumsS h xs ss (allS ss)).1 > (sumsS h xs ss (allS ss)).2 then (0, 0, 10) else ((sumsS h xs ss (allS ss)).1, (sumsS h xs ss (allS ss)).2, 0) else (0, 0, 2) else (0, 0, 1)

set_option maxRecDepth 100000 in
set_option maxHeartbeats 4000000 in
theorem open_anyR (h : Hd) (xs : List (Int × Int)) (ss : List Sett) (v : Bool) (w : World) (hm : HasM w h xs ss) (hn : xs.length ≤ 100) (hns : ss.length ≤ 100) :
    Calls Try.prog 61 #[h.val, .bool v] w (Ret (tup3 (openE h xs ss v).1 (openE h xs ss v).2.1 (openE h xs ss v).2.2) w) := by
  have HM := Lib.hid hm
  have HNS := Lib.hid hm.ns
  have hC0 : Hid (BoxC ((w.alloc (.cells #[.slice h.a h.n h.cap, .int .i64 h.eLo, .int .i64 h.eHi, .int .i64 h.images, .int .i64 h.sLo, .int .i64 h.sHi, .slice h.sa h.ns h.scap] 29)).alloc (.cells #[.int .i64 0, .int .i64 0] 24)) w.heap.size h) := (boxC_new w h).grown (newB _ _)
  have hS0 : Hid (Slots (w.heap.size + 1) 2 ((w.alloc (.cells #[.slice h.a h.n h.cap, .int .i64 h.eLo, .int .i64 h.eHi, .int .i64 h.images, .int .i64 h.sLo, .int .i64 h.sHi, .slice h.sa h.ns h.scap] 29)).alloc (.cells #[.int .i64 0, .int .i64 0] 24))) := by
    have := slots_new2 (w.alloc (.cells #[.slice h.a h.n h.cap, .int .i64 h.eLo, .int .i64 h.eHi, .int .i64 h.images, .int .i64 h.sLo, .int .i64 h.sHi, .slice h.sa h.ns h.scap] 29)) 24
    show Slots _ _ _
    simpa using this
  have hW0 : Hid (Below w.heap.size w ((w.alloc (.cells #[.slice h.a h.n h.cap, .int .i64 h.eLo, .int .i64 h.eHi, .int .i64 h.images, .int .i64 h.sLo, .int .i64 h.sHi, .slice h.sa h.ns h.scap] 29)).alloc (.cells #[.int .i64 0, .int .i64 0] 24))) := by
    show Below _ _ _
    (repeat (first | assumption | exact Below.refl _ _ | refine BA ?_ _ | refine BC ?_ _ _ (by omega) _ | refine Below.drew ?_ | refine BT ?_ (by assumption)))
  have hME := measureR_any h xs ss _ (hm.below (Nat.le_refl _) hW0.out) hn hns
  unfold Hd.val at hME
  have HE : Hid (∀ r, openE h xs ss v = r ↔ (if validH h xs ss = true then if v = true then if (sumsS h xs ss (allS ss)).1 > (sumsS h xs ss (allS ss)).2 then (0, 0, 10) else ((sumsS h xs ss (allS ss)).1, (sumsS h xs ss (allS ss)).2, 0) else (0, 0, 2) else (0, 0, 1)) = r) := fun r => Iff.rfl
  have HV : Hid (validH h xs ss = true → h.ns ≤ 12) := fun hv => by rw [← hm.ns]; exact (valid_has hv).2.2.2.2.2.1
  have HSU : Hid (validH h xs ss = true → ∀ Y, Below w.heap.size w Y → Calls Try.prog 46 #[.agg #[.slice h.a h.n h.cap, .int .i64 h.eLo, .int .i64 h.eHi, .int .i64 h.images, .int .i64 h.sLo, .int .i64 h.sHi, .slice h.sa h.ns h.scap], .int .i64 (2 ^ h.ns - 1)] Y (Ret (.agg #[.int .i64 (sumsS h xs ss (allS ss)).1, .int .i64 (sumsS h xs ss (allS ss)).2]) Y)) := fun hv Y hY => by
    have h12 : ss.length ≤ 12 := (valid_has hv).2.2.2.2.2.1
    obtain ⟨q0, q1⟩ := pow_le (Nat.le_refl ss.length) (by omega)
    have q2 : (2 : Int) ^ ss.length ≤ 4096 := by
      have : ∀ k : Fin 13, (2 : Int) ^ k.val ≤ 4096 := by decide
      exact this ⟨ss.length, by omega⟩
    have := sums_anyR h xs ss (allS ss) Y (HM.out.below (Nat.le_refl _) hY) hv (by unfold allS; omega)
    unfold allS at this ⊢
    rw [hm.ns] at this ⊢
    exact this
  generalize openE h xs ss v = R at *
  generalize sumsS h xs ss (allS ss) = S at *
  obtain ⟨s1, s2⟩ := S
  unfold Hd.val
  clear hm
  go_enter Try.func61, Try.ntmps61
  go_wp2_with fail
  generalize hBw : w.heap.size = B at hC0 hS0 ⊢
  generalize (w.alloc (.cells #[.slice h.a h.n h.cap, .int .i64 h.eLo, .int .i64 h.eHi, .int .i64 h.images, .int .i64 h.sLo, .int .i64 h.sHi, .slice h.sa h.ns h.scap] 29)).alloc (.cells #[.int .i64 0, .int .i64 0] 24) = W at *
  have hwB : w.heap.size ≤ B := by omega
  have hwB1 : w.heap.size ≤ B + 1 := by omega
  clear hBw
  refine hME.mono ?_
  rintro e w1 ⟨rfl, hb1⟩
  have hC1 := Lib.hid (hC0.out.grown hb1)
  have hS1 := Lib.hid (hS0.out.below hb1 hS0.out.lt2)
  have hW1 := Lib.hid (BT hW0.out hb1)
  clear hC0 hS0 hW0 hb1 hME
  cases hv : validH h xs ss
  · have HR : Hid (R = (0, 0, 1)) := ((HE.out R).1 rfl).symm.trans (by rw [hv]; rfl)
    obtain ⟨v0, u0, y0⟩ := hS1.out.get 0 (by omega)
    obtain ⟨v1, u1, y1⟩ := hS1.out.get 1 (by omega)
    have hB1 := hW1.out
    clear hv
    go_wp2
    exact bodyPost_ret (v := .tuple #[.agg #[.int .i64 0, .int .i64 0], .int .i64 1]) (by simp [results, Try.results61, go_sem, u0, u1]) rfl ⟨by rw [HR.out]; rfl, by (repeat (first | assumption | exact Below.refl _ _ | refine BA ?_ _ | refine BC ?_ _ _ (by omega) _ | refine Below.drew ?_ | refine BT ?_ (by assumption)))⟩
  cases v
  · have HR : Hid (R = (0, 0, 2)) := ((HE.out R).1 rfl).symm.trans (by rw [hv]; rfl)
    obtain ⟨v0, u0, y0⟩ := hS1.out.get 0 (by omega)
    obtain ⟨v1, u1, y1⟩ := hS1.out.get 1 (by omega)
    have hB1 := hW1.out
    clear hv
    go_wp2
    exact bodyPost_ret (v := .tuple #[.agg #[.int .i64 0, .int .i64 0], .int .i64 2]) (by simp [results, Try.results61, go_sem, u0, u1]) rfl ⟨by rw [HR.out]; rfl, by (repeat (first | assumption | exact Below.refl _ _ | refine BA ?_ _ | refine BC ?_ _ _ (by omega) _ | refine Below.drew ?_ | refine BT ?_ (by assumption)))⟩
  have hn12 := HV.out hv
  have hSU := Lib.hid (HSU.out hv)
  have HR : Hid (R = if s1 > s2 then (0, 0, 10) else (s1, s2, 0)) := ((HE.out R).1 rfl).symm.trans (by rw [hv]; rfl)
  clear HSU hv HV HE
  obtain ⟨c0, c1, c2, c3, c4, c5, c6⟩ := hC1.out
  go_upto_region 5 with fail
  have hSG : Hid (∀ X, Below w1.heap.size w1 X → BoxC X B h) := fun X hX => hC1.out.grown hX
  have hU1 : Hid (∀ Y, Below w1.heap.size w1 Y → Calls Try.prog 69 #[.agg #[.slice h.a h.n h.cap, .int .i64 h.eLo, .int .i64 h.eHi, .int .i64 h.images, .int .i64 h.sLo, .int .i64 h.sHi, .slice h.sa h.ns h.scap]] Y (Ret (.int .i64 (2 ^ h.ns - 1)) Y)) := fun Y _ => every_anyR h Y (by omega)
  have hU2 : Hid (∀ Y, Below w1.heap.size w1 Y → Calls Try.prog 46 #[.agg #[.slice h.a h.n h.cap, .int .i64 h.eLo, .int .i64 h.eHi, .int .i64 h.images, .int .i64 h.sLo, .int .i64 h.sHi, .slice h.sa h.ns h.scap], .int .i64 (2 ^ h.ns - 1)] Y (Ret (.agg #[.int .i64 s1, .int .i64 s2]) Y)) := fun Y hY => hSU.out Y (BT hW1.out hY)
  have hB0 : Below w1.heap.size w1 w1.drew := Below.drew (Below.refl _ _)
  clear hSU c0 c1 c2 c3 c4 c5 c6
  generalize (2 : Int) ^ h.ns - 1 = al at *
  go_cut [6] (fun a6 X => ∃ g4 : Nat, a6 = .pointer (some ⟨g4, 0, none⟩) ∧ Two g4 s1 s2 X ∧ Below w1.heap.size w1 X)
  case first =>
    refine wp_region_tree (.read 0 (.read 1 (.two 2 (.two 3 (.one 4 (.one 5 (.leaf))) 4 (.one 3 (.one 5 (.leaf)))) 4 (.one 2 (.one 3 (.one 5 (.leaf))))))) (fun w' => w'.cell? ⟨B, 0, none⟩ = some (.slice h.a h.n h.cap) ∧ w'.cell? ⟨B, 1, none⟩ = some (.int .i64 h.eLo) ∧ w'.cell? ⟨B, 2, none⟩ = some (.int .i64 h.eHi) ∧ w'.cell? ⟨B, 3, none⟩ = some (.int .i64 h.images) ∧ w'.cell? ⟨B, 4, none⟩ = some (.int .i64 h.sLo) ∧ w'.cell? ⟨B, 5, none⟩ = some (.int .i64 h.sHi) ∧ w'.cell? ⟨B, 6, none⟩ = some (.slice h.sa h.ns h.scap)) (by kernel_rfl) (by kernel_rfl) (fun _ _ d _ _ h => by cases d <;> exact h) (hSG.out _ hB0) ?_
    generalize w1.drew = X0 at *
    repeat (first | (refine tr_read rfl (by rfl) _ (fun w' hS => by (try dsimp only at hS); go_simp; (try with_reducible rfl)) ?_; (try simp only [Act.put, List.setIfInBounds_toArray, List.set_cons_zero, List.set_cons_succ])) | (refine tr_skip rfl (by rfl) ?_; (try simp only [Act.put, List.setIfInBounds_toArray, List.set_cons_zero, List.set_cons_succ])))
    refine ⟨?_, ?_⟩
    · skip
      refine tr_step rfl (by rfl) (fun K hK => ?_)
      go_simp
      refine (hU1.out X0 hB0).mono ?_
      rintro e X1 ⟨rfl, hb1⟩
      have hB1 := BT hB0 hb1
      refine hK _ _ (hSG.out _ hB1) ?_
      clear hK K hB0 hb1
      (try simp only [Act.put, List.setIfInBounds_toArray, List.set_cons_zero, List.set_cons_succ])
      refine ⟨?_, ?_⟩
      · skip
        refine tr_step rfl (by rfl) (fun K hK => ?_)
        go_simp
        refine (hU2.out X1 hB1).mono ?_
        rintro e X2 ⟨rfl, hb2⟩
        have hB2 := BT hB1 hb2
        refine hK _ _ (hSG.out _ hB2) ?_
        clear hK K hB1 hb2
        (try simp only [Act.put, List.setIfInBounds_toArray, List.set_cons_zero, List.set_cons_succ])
        refine tr_step rfl (by rfl) (fun K hK => ?_)
        have hB3 := BA hB2 (.cells #[.int .i64 0, .int .i64 0] 24)
        have h4_3 := slots_new2 X2 24
        have hg4 := hB2.size
        go_simp
        generalize X2.heap.size = g4 at *
        generalize X2.alloc (.cells #[.int .i64 0, .int .i64 0] 24) = X3 at *
        refine hK _ _ (hSG.out _ hB3) ?_
        clear hK K hB2 
        (try simp only [Act.put, List.setIfInBounds_toArray, List.set_cons_zero, List.set_cons_succ])
        refine tr_last rfl (by rfl) (by kernel_rfl) (fun K hK => ?_)
        obtain ⟨u0_4, q0_4, f0_4⟩ := h4_3.get 0 (by omega)
        obtain ⟨u1_4, q1_4, f1_4⟩ := h4_3.get 1 (by omega)
        have hB4 := BC (BC hB3 g4 0 hg4 (.int .i64 (s1))) g4 1 hg4 (.int .i64 (s2))
        have h4_4 := two_set h4_3 (s1) (s2)
        go_simp
        clear q0_4 f0_4 q1_4 f1_4
        generalize (X3.setCell ⟨g4, 0, none⟩ (.int .i64 (s1))).setCell ⟨g4, 1, none⟩ (.int .i64 (s2)) = X4 at *
        refine hK _ _ ?_
        clear hK K hB3 h4_3
        (try simp only [Act.put, List.setIfInBounds_toArray, List.set_cons_zero, List.set_cons_succ])
        show Exit.then _ _ Exit.normal _ _
        go_wp2_with fail
        go_meet
        exact ⟨g4, rfl, h4_4, hB4⟩
      · skip
        refine tr_step rfl (by rfl) (fun K hK => ?_)
        have hB5 := BA hB1 (.cells #[.int .i64 0, .int .i64 0] 24)
        have h4_5 := slots_new2 X1 24
        have hg4 := hB1.size
        go_simp
        generalize X1.heap.size = g4 at *
        generalize X1.alloc (.cells #[.int .i64 0, .int .i64 0] 24) = X5 at *
        refine hK _ _ (hSG.out _ hB5) ?_
        clear hK K hB1 
        (try simp only [Act.put, List.setIfInBounds_toArray, List.set_cons_zero, List.set_cons_succ])
        refine tr_step rfl (by rfl) (fun K hK => ?_)
        go_simp
        refine (hU2.out X5 hB5).mono ?_
        rintro e X6 ⟨rfl, hb6⟩
        have hB6 := BT hB5 hb6
        have h4_6 := h4_5.below hb6 (h4_5.lt2)
        refine hK _ _ (hSG.out _ hB6) ?_
        clear hK K hB5 h4_5 hb6
        (try simp only [Act.put, List.setIfInBounds_toArray, List.set_cons_zero, List.set_cons_succ])
        refine tr_last rfl (by rfl) (by kernel_rfl) (fun K hK => ?_)
        obtain ⟨u0_7, q0_7, f0_7⟩ := h4_6.get 0 (by omega)
        obtain ⟨u1_7, q1_7, f1_7⟩ := h4_6.get 1 (by omega)
        have hB7 := BC (BC hB6 g4 0 hg4 (.int .i64 (s1))) g4 1 hg4 (.int .i64 (s2))
        have h4_7 := two_set h4_6 (s1) (s2)
        go_simp
        clear q0_7 f0_7 q1_7 f1_7
        generalize (X6.setCell ⟨g4, 0, none⟩ (.int .i64 (s1))).setCell ⟨g4, 1, none⟩ (.int .i64 (s2)) = X7 at *
        refine hK _ _ ?_
        clear hK K hB6 h4_6
        (try simp only [Act.put, List.setIfInBounds_toArray, List.set_cons_zero, List.set_cons_succ])
        show Exit.then _ _ Exit.normal _ _
        go_wp2_with fail
        go_meet
        exact ⟨g4, rfl, h4_7, hB7⟩
    · skip
      refine tr_step rfl (by rfl) (fun K hK => ?_)
      have hB8 := BA hB0 (.cells #[.int .i64 0, .int .i64 0] 24)
      have h4_8 := slots_new2 X0 24
      have hg4 := hB0.size
      go_simp
      generalize X0.heap.size = g4 at *
      generalize X0.alloc (.cells #[.int .i64 0, .int .i64 0] 24) = X8 at *
      refine hK _ _ (hSG.out _ hB8) ?_
      clear hK K hB0 
      (try simp only [Act.put, List.setIfInBounds_toArray, List.set_cons_zero, List.set_cons_succ])
      refine tr_step rfl (by rfl) (fun K hK => ?_)
      go_simp
      refine (hU1.out X8 hB8).mono ?_
      rintro e X9 ⟨rfl, hb9⟩
      have hB9 := BT hB8 hb9
      have h4_9 := h4_8.below hb9 (h4_8.lt2)
      refine hK _ _ (hSG.out _ hB9) ?_
      clear hK K hB8 h4_8 hb9
      (try simp only [Act.put, List.setIfInBounds_toArray, List.set_cons_zero, List.set_cons_succ])
      refine tr_step rfl (by rfl) (fun K hK => ?_)
      go_simp
      refine (hU2.out X9 hB9).mono ?_
      rintro e X10 ⟨rfl, hb10⟩
      have hB10 := BT hB9 hb10
      have h4_10 := h4_9.below hb10 (h4_9.lt2)
      refine hK _ _ (hSG.out _ hB10) ?_
      clear hK K hB9 h4_9 hb10
      (try simp only [Act.put, List.setIfInBounds_toArray, List.set_cons_zero, List.set_cons_succ])
      refine tr_last rfl (by rfl) (by kernel_rfl) (fun K hK => ?_)
      obtain ⟨u0_11, q0_11, f0_11⟩ := h4_10.get 0 (by omega)
      obtain ⟨u1_11, q1_11, f1_11⟩ := h4_10.get 1 (by omega)
      have hB11 := BC (BC hB10 g4 0 hg4 (.int .i64 (s1))) g4 1 hg4 (.int .i64 (s2))
      have h4_11 := two_set h4_10 (s1) (s2)
      go_simp
      clear q0_11 f0_11 q1_11 f1_11
      generalize (X10.setCell ⟨g4, 0, none⟩ (.int .i64 (s1))).setCell ⟨g4, 1, none⟩ (.int .i64 (s2)) = X11 at *
      refine hK _ _ ?_
      clear hK K hB10 h4_10
      (try simp only [Act.put, List.setIfInBounds_toArray, List.set_cons_zero, List.set_cons_succ])
      show Exit.then _ _ Exit.normal _ _
      go_wp2_with fail
      go_meet
      exact ⟨g4, rfl, h4_11, hB11⟩
  case rest =>
    obtain ⟨g4, rfl, h4, hb⟩ := hcut
    have hB1 := BT hW1.out hb
    have hS2 := hS1.out.below hb hS1.out.lt2
    obtain ⟨e0, e1⟩ := h4
    obtain ⟨v0, u0, y0⟩ := hS2.get 0 (by omega)
    obtain ⟨v1, u1, y1⟩ := hS2.get 1 (by omega)
    clear hSG hU1 hU2 hB0 hb hC1 hS1 hW1 hS2
    by_cases hc : s1 > s2
    · have d1 : decide (s1 > s2) = true := by simpa using hc
      have HR2 : Hid (R = (0, 0, 10)) := by show _ = _; rw [HR.out, if_pos hc]
      go_wp2
      exact bodyPost_ret (v := .tuple #[.agg #[.int .i64 0, .int .i64 0], .int .i64 10]) (by simp [results, Try.results61, go_sem, u0, u1]) rfl ⟨by rw [HR2.out]; rfl, by (repeat (first | assumption | exact Below.refl _ _ | refine BA ?_ _ | refine BC ?_ _ _ (by omega) _ | refine Below.drew ?_ | refine BT ?_ (by assumption)))⟩
    · have d1 : decide (s1 > s2) = false := by simpa using hc
      have HR2 : Hid (R = (s1, s2, 0)) := by show _ = _; rw [HR.out, if_neg hc]
      go_wp2
      exact bodyPost_ret (v := .tuple #[.agg #[.int .i64 s1, .int .i64 s2], .int .i64 0]) (by simp [results, Try.results61, go_sem, u0, u1]) rfl ⟨by rw [HR2.out]; rfl, by (repeat (first | assumption | exact Below.refl _ _ | refine BA ?_ _ | refine BC ?_ _ _ (by omega) _ | refine Below.drew ?_ | refine BT ?_ (by assumption)))⟩

end Go.Proofs.Ytmfbkgdlfackcaa

/- The reference: the sum. -/
namespace Go.Proofs.Ytmfbkgdlfackcaa
open Fw Go.RowKit

set_option maxRecDepth 100000 in
theorem sum_anyR (h : Hd) (xs : List (Int × Int)) (ss : List Sett) (w : World) (hm : HasM w h xs ss) (hn : xs.length ≤ 100) (hns : ss.length ≤ 100) :
    Calls Try.prog 19 #[h.val] w (Ret (tup3 (openE h xs ss true).1 (openE h xs ss true).2.1 (openE h xs ss true).2.2) w) := by
  have HO : Hid (∀ Y, Below w.heap.size w Y → Calls Try.prog 61 #[h.val, .bool true] Y (Ret (tup3 (openE h xs ss true).1 (openE h xs ss true).2.1 (openE h xs ss true).2.2) Y)) := fun Y hY => open_anyR h xs ss true Y (hm.below (Nat.le_refl _) hY) hn hns
  have hC0 : Hid (BoxC ((w.alloc (.cells #[.slice h.a h.n h.cap, .int .i64 h.eLo, .int .i64 h.eHi, .int .i64 h.images, .int .i64 h.sLo, .int .i64 h.sHi, .slice h.sa h.ns h.scap] 29)).alloc (.cells #[.int .i64 0, .int .i64 0] 24)) w.heap.size h) := (boxC_new w h).grown (newB _ _)
  have hS0 : Hid (Slots (w.heap.size + 1) 2 ((w.alloc (.cells #[.slice h.a h.n h.cap, .int .i64 h.eLo, .int .i64 h.eHi, .int .i64 h.images, .int .i64 h.sLo, .int .i64 h.sHi, .slice h.sa h.ns h.scap] 29)).alloc (.cells #[.int .i64 0, .int .i64 0] 24))) := by
    have := slots_new2 (w.alloc (.cells #[.slice h.a h.n h.cap, .int .i64 h.eLo, .int .i64 h.eHi, .int .i64 h.images, .int .i64 h.sLo, .int .i64 h.sHi, .slice h.sa h.ns h.scap] 29)) 24
    show Slots _ _ _
    simpa using this
  have hW0 : Below w.heap.size w ((w.alloc (.cells #[.slice h.a h.n h.cap, .int .i64 h.eLo, .int .i64 h.eHi, .int .i64 h.images, .int .i64 h.sLo, .int .i64 h.sHi, .slice h.sa h.ns h.scap] 29)).alloc (.cells #[.int .i64 0, .int .i64 0] 24)) := by
    (repeat (first | assumption | exact Below.refl _ _ | refine BA ?_ _ | refine BC ?_ _ _ (by omega) _ | refine Below.drew ?_ | refine BT ?_ (by assumption)))
  generalize openE h xs ss true = R at *
  obtain ⟨a, b, c⟩ := R
  dsimp only at HO ⊢
  unfold Hd.val tup3 at HO
  unfold Hd.val tup3
  clear hm
  go_enter Try.func19, Try.ntmps19
  go_wp2_with fail
  generalize hBw : w.heap.size = B at hC0 hS0 ⊢
  generalize (w.alloc (.cells #[.slice h.a h.n h.cap, .int .i64 h.eLo, .int .i64 h.eHi, .int .i64 h.images, .int .i64 h.sLo, .int .i64 h.sHi, .slice h.sa h.ns h.scap] 29)).alloc (.cells #[.int .i64 0, .int .i64 0] 24) = W at *
  have hwB1 : w.heap.size ≤ B + 1 := by omega
  clear hBw
  refine (HO.out _ hW0).mono ?_
  rintro e w1 ⟨rfl, hb1⟩
  have hS1 := hS0.out.below hb1 hS0.out.lt2
  obtain ⟨v0, u0, y0⟩ := hS1.get 0 (by omega)
  obtain ⟨v1, u1, y1⟩ := hS1.get 1 (by omega)
  clear hS0 hS1 hC0
  go_wp2
  exact bodyPost_ret (v := .tuple #[.agg #[.int .i64 a, .int .i64 b], .int .i64 c]) (by simp [results, Try.results19, go_sem, u0, u1]) rfl ⟨rfl, by (repeat (first | assumption | exact Below.refl _ _ | refine BA ?_ _ | refine BC ?_ _ _ (by omega) _ | refine Below.drew ?_ | refine BT ?_ (by assumption)))⟩
end Go.Proofs.Ytmfbkgdlfackcaa
