/- The law's own: are there too many settings, or sums, of a measure that is valid? -/
import Derived.Test.YtmfbkgdlfackcaaMrs
namespace Go.Proofs.Ytmfbkgdlfackcaa
open Fw Go.RowKit

def heavyB (h : Hd) (xs : List (Int × Int)) (ss : List Sett) (k q : Int) : Bool :=
  validH h xs ss && (decide ((h.ns : Int) > k) || decide ((sumsS h xs ss (allS ss)).2 - (sumsS h xs ss (allS ss)).1 > q))
theorem sumsS_rng {h : Hd} {xs : List (Int × Int)} {ss : List Sett} (hv : validH h xs ss = true) (set : Int) : (0 ≤ (sumsS h xs ss set).1 ∧ (sumsS h xs ss set).1 ≤ 1000000) ∧ -1000000 ≤ (sumsS h xs ss set).2 ∧ (sumsS h xs ss set).2 ≤ 131072 := by
  obtain ⟨_, _, _, _, ve, _⟩ := valid_has hv
  cases hs : sumsTo (tellsOf xs h.eLo h.eHi ss) set h.sLo h.sHi h.images.toNat with
  | none =>
    have : sumsS h xs ss set = (1, 0) := by unfold sumsS; rw [hs]; rfl
    rw [this]; decide
  | some o =>
    have : sumsS h xs ss set = o := by unfold sumsS; rw [hs]; rfl
    rw [this]
    exact sumsTo_rng (fair_of hv) (by omega) _ o hs

set_option maxRecDepth 100000 in
set_option maxHeartbeats 4000000 in
theorem heavy_any (h : Hd) (xs : List (Int × Int)) (ss : List Sett) (k q : Int) (w : World) (hm : HasM w h xs ss) (hn : xs.length ≤ 100) (hns : ss.length ≤ 100) :
    Calls Try.prog 14 #[h.val, .int .i64 k, .int .i64 q] w (Ret (.bool (heavyB h xs ss k q)) w) := by
  have HM := Lib.hid hm
  have HNS := Lib.hid hm.ns
  have hC0 : Hid (BoxC (w.alloc (.cells #[.slice h.a h.n h.cap, .int .i64 h.eLo, .int .i64 h.eHi, .int .i64 h.images, .int .i64 h.sLo, .int .i64 h.sHi, .slice h.sa h.ns h.scap] 29)) w.heap.size h) := boxC_new w h
  have hW0 : Hid (Below w.heap.size w (w.alloc (.cells #[.slice h.a h.n h.cap, .int .i64 h.eLo, .int .i64 h.eHi, .int .i64 h.images, .int .i64 h.sLo, .int .i64 h.sHi, .slice h.sa h.ns h.scap] 29))) := newB _ _
  have hME := measureR_any h xs ss _ (hm.below (Nat.le_refl _) hW0.out) hn hns
  unfold Hd.val at hME
  have HE : Hid (∀ b, heavyB h xs ss k q = b ↔ (validH h xs ss && (decide ((h.ns : Int) > k) || decide ((sumsS h xs ss (allS ss)).2 - (sumsS h xs ss (allS ss)).1 > q))) = b) := fun r => Iff.rfl
  have HV : Hid (validH h xs ss = true → h.ns ≤ 12) := fun hv => by rw [← hm.ns]; exact (valid_has hv).2.2.2.2.2.1
  have HRN : Hid (validH h xs ss = true → (0 ≤ (sumsS h xs ss (allS ss)).1 ∧ (sumsS h xs ss (allS ss)).1 ≤ 1000000) ∧ -1000000 ≤ (sumsS h xs ss (allS ss)).2 ∧ (sumsS h xs ss (allS ss)).2 ≤ 131072) := fun hv => sumsS_rng hv _
  have HSU : Hid (validH h xs ss = true → ∀ Y, Below w.heap.size w Y → Calls Try.prog 46 #[.agg #[.slice h.a h.n h.cap, .int .i64 h.eLo, .int .i64 h.eHi, .int .i64 h.images, .int .i64 h.sLo, .int .i64 h.sHi, .slice h.sa h.ns h.scap], .int .i64 (2 ^ h.ns - 1)] Y (Ret (.agg #[.int .i64 (sumsS h xs ss (allS ss)).1, .int .i64 (sumsS h xs ss (allS ss)).2]) Y)) := fun hv Y hY => by
    have h12 : ss.length ≤ 12 := (valid_has hv).2.2.2.2.2.1
    obtain ⟨q0, q1⟩ := pow_le (Nat.le_refl ss.length) (by omega)
    have q2 : (2 : Int) ^ ss.length ≤ 4096 := by
      have : ∀ k : Fin 13, (2 : Int) ^ k.val ≤ 4096 := by decide
      exact this ⟨ss.length, by omega⟩
    have := sums_anyR h xs ss (allS ss) Y (HM.out.below (Nat.le_refl _) hY) hv (by unfold allS; omega)
    unfold allS at this ⊢
    rw [hm.ns] at this ⊢
    exact this
  generalize heavyB h xs ss k q = R at *
  generalize sumsS h xs ss (allS ss) = S at *
  obtain ⟨s1, s2⟩ := S
  unfold Hd.val
  clear hm
  go_enter Try.func14, Try.ntmps14
  go_wp2_with fail
  generalize hBw : w.heap.size = B at hC0 ⊢
  generalize w.alloc (.cells #[.slice h.a h.n h.cap, .int .i64 h.eLo, .int .i64 h.eHi, .int .i64 h.images, .int .i64 h.sLo, .int .i64 h.sHi, .slice h.sa h.ns h.scap] 29) = W at *
  have hwB : w.heap.size ≤ B := by omega
  clear hBw
  refine hME.mono ?_
  rintro e w1 ⟨rfl, hb1⟩
  have hC1 := Lib.hid (hC0.out.grown hb1)
  have hW1 := Lib.hid (BT hW0.out hb1)
  clear hC0 hW0 hb1 hME
  cases hv : validH h xs ss
  · have HR : Hid (R = false) := ((HE.out R).1 rfl).symm.trans (by rw [hv]; rfl)
    have hB1 := hW1.out
    clear hv
    go_wp2
    go_ret
    exact ⟨by rw [HR.out]; rfl, by (repeat (first | assumption | exact Below.refl _ _ | refine BA ?_ _ | refine BC ?_ _ _ (by omega) _ | refine Below.drew ?_ | refine BT ?_ (by assumption)))⟩
  have hn12 := HV.out hv
  have hSU := Lib.hid (HSU.out hv)
  have HR : Hid (R = (decide ((h.ns : Int) > k) || decide (s2 - s1 > q))) := ((HE.out R).1 rfl).symm.trans (by rw [hv]; rfl)
  have HRN1 := Lib.hid (HRN.out hv)
  clear HSU hv HV HE HRN
  obtain ⟨c0, c1, c2, c3, c4, c5, c6⟩ := hC1.out
  go_upto_region 3 with fail
  have hSG : Hid (∀ X, Below w1.heap.size w1 X → BoxC X B h) := fun X hX => hC1.out.grown hX
  have hU2 : Hid (∀ Y, Below w1.heap.size w1 Y → Calls Try.prog 46 #[.agg #[.slice h.a h.n h.cap, .int .i64 h.eLo, .int .i64 h.eHi, .int .i64 h.images, .int .i64 h.sLo, .int .i64 h.sHi, .slice h.sa h.ns h.scap], .int .i64 (2 ^ h.ns - 1)] Y (Ret (.agg #[.int .i64 s1, .int .i64 s2]) Y)) := fun Y hY => hSU.out Y (BT hW1.out hY)
  have hB0 : Below w1.heap.size w1 w1.drew := Below.drew (Below.refl _ _)
  have kw : IntKind.i64.wrap (IntKind.i64.wrap (2 ^ h.ns) - 1) = 2 ^ h.ns - 1 := (by decide +kernel : ∀ k : Fin 13, IntKind.i64.wrap (IntKind.i64.wrap (2 ^ k.val) - 1) = 2 ^ k.val - 1) ⟨h.ns, by omega⟩
  clear hSU c0 c1 c2 c3 c4 c5 c6
  go_cut [7] (fun a7 X => ∃ g7 : Nat, a7 = .pointer (some ⟨g7, 0, none⟩) ∧ Two g7 s1 s2 X ∧ Below w1.heap.size w1 X)
  case first =>
    refine wp_region_tree (.read 0 (.read 1 (.read 2 (.read 3 (.read 4 (.read 5 (.two 6 (.one 7 (.one 8 (.leaf))) 7 (.one 6 (.one 8 (.leaf)))))))))) (fun w' => w'.cell? ⟨B, 0, none⟩ = some (.slice h.a h.n h.cap) ∧ w'.cell? ⟨B, 1, none⟩ = some (.int .i64 h.eLo) ∧ w'.cell? ⟨B, 2, none⟩ = some (.int .i64 h.eHi) ∧ w'.cell? ⟨B, 3, none⟩ = some (.int .i64 h.images) ∧ w'.cell? ⟨B, 4, none⟩ = some (.int .i64 h.sLo) ∧ w'.cell? ⟨B, 5, none⟩ = some (.int .i64 h.sHi) ∧ w'.cell? ⟨B, 6, none⟩ = some (.slice h.sa h.ns h.scap)) (by kernel_rfl) (by kernel_rfl) (fun _ _ d _ _ h => by cases d <;> exact h) (hSG.out _ hB0) ?_
    generalize w1.drew = X0 at *
    repeat (first | (refine tr_read rfl (by rfl) _ (fun w' hS => by (try dsimp only at hS); go_simp; (try with_reducible rfl)) ?_; (try simp only [Act.put, List.setIfInBounds_toArray, List.set_cons_zero, List.set_cons_succ])) | (refine tr_skip rfl (by rfl) ?_; (try simp only [Act.put, List.setIfInBounds_toArray, List.set_cons_zero, List.set_cons_succ])))
    refine ⟨?_, ?_⟩
    · skip
      refine tr_step rfl (by rfl) (fun K hK => ?_)
      go_simp
      refine (hU2.out X0 hB0).mono ?_
      rintro e X1 ⟨rfl, hb1⟩
      have hB1 := BT hB0 hb1
      refine hK _ _ (hSG.out _ hB1) ?_
      clear hK K hB0 hb1
      (try simp only [Act.put, List.setIfInBounds_toArray, List.set_cons_zero, List.set_cons_succ])
      refine tr_step rfl (by rfl) (fun K hK => ?_)
      have hB2 := BA hB1 (.cells #[.int .i64 0, .int .i64 0] 24)
      have h7_2 := slots_new2 X1 24
      have hg7 := hB1.size
      go_simp
      generalize X1.heap.size = g7 at *
      generalize X1.alloc (.cells #[.int .i64 0, .int .i64 0] 24) = X2 at *
      refine hK _ _ (hSG.out _ hB2) ?_
      clear hK K hB1 
      (try simp only [Act.put, List.setIfInBounds_toArray, List.set_cons_zero, List.set_cons_succ])
      refine tr_last rfl (by rfl) (by kernel_rfl) (fun K hK => ?_)
      obtain ⟨u0_3, q0_3, f0_3⟩ := h7_2.get 0 (by omega)
      obtain ⟨u1_3, q1_3, f1_3⟩ := h7_2.get 1 (by omega)
      have hB3 := BC (BC hB2 g7 0 hg7 (.int .i64 (s1))) g7 1 hg7 (.int .i64 (s2))
      have h7_3 := two_set h7_2 (s1) (s2)
      go_simp
      clear q0_3 f0_3 q1_3 f1_3
      generalize (X2.setCell ⟨g7, 0, none⟩ (.int .i64 (s1))).setCell ⟨g7, 1, none⟩ (.int .i64 (s2)) = X3 at *
      refine hK _ _ ?_
      clear hK K hB2 h7_2
      (try simp only [Act.put, List.setIfInBounds_toArray, List.set_cons_zero, List.set_cons_succ])
      show Exit.then _ _ Exit.normal _ _
      go_wp2_with fail
      go_meet
      exact ⟨g7, rfl, h7_3, hB3⟩
    · skip
      refine tr_step rfl (by rfl) (fun K hK => ?_)
      have hB4 := BA hB0 (.cells #[.int .i64 0, .int .i64 0] 24)
      have h7_4 := slots_new2 X0 24
      have hg7 := hB0.size
      go_simp
      generalize X0.heap.size = g7 at *
      generalize X0.alloc (.cells #[.int .i64 0, .int .i64 0] 24) = X4 at *
      refine hK _ _ (hSG.out _ hB4) ?_
      clear hK K hB0 
      (try simp only [Act.put, List.setIfInBounds_toArray, List.set_cons_zero, List.set_cons_succ])
      refine tr_step rfl (by rfl) (fun K hK => ?_)
      go_simp
      refine (hU2.out X4 hB4).mono ?_
      rintro e X5 ⟨rfl, hb5⟩
      have hB5 := BT hB4 hb5
      have h7_5 := h7_4.below hb5 (h7_4.lt2)
      refine hK _ _ (hSG.out _ hB5) ?_
      clear hK K hB4 h7_4 hb5
      (try simp only [Act.put, List.setIfInBounds_toArray, List.set_cons_zero, List.set_cons_succ])
      refine tr_last rfl (by rfl) (by kernel_rfl) (fun K hK => ?_)
      obtain ⟨u0_6, q0_6, f0_6⟩ := h7_5.get 0 (by omega)
      obtain ⟨u1_6, q1_6, f1_6⟩ := h7_5.get 1 (by omega)
      have hB6 := BC (BC hB5 g7 0 hg7 (.int .i64 (s1))) g7 1 hg7 (.int .i64 (s2))
      have h7_6 := two_set h7_5 (s1) (s2)
      go_simp
      clear q0_6 f0_6 q1_6 f1_6
      generalize (X5.setCell ⟨g7, 0, none⟩ (.int .i64 (s1))).setCell ⟨g7, 1, none⟩ (.int .i64 (s2)) = X6 at *
      refine hK _ _ ?_
      clear hK K hB5 h7_5
      (try simp only [Act.put, List.setIfInBounds_toArray, List.set_cons_zero, List.set_cons_succ])
      show Exit.then _ _ Exit.normal _ _
      go_wp2_with fail
      go_meet
      exact ⟨g7, rfl, h7_6, hB6⟩
  case rest =>
    obtain ⟨g7, rfl, h4, hb⟩ := hcut
    have hB1 := BT hW1.out hb
    have hC2 := hC1.out.grown hb
    obtain ⟨c0, c1, c2, c3, c4, c5, c6⟩ := hC2
    obtain ⟨e0, e1⟩ := h4
    clear hSG hU2 hB0 hb hC1 hW1
    obtain ⟨⟨r1, r2⟩, r3, r4⟩ := HRN1.out
    by_cases hc : (h.ns : Int) > k
    · have d1 : decide ((h.ns : Int) > k) = true := by simpa using hc
      have HR2 : Hid (R = true) := by show _ = _; rw [HR.out, d1]; rfl
      go_wp2
      go_ret
      exact ⟨by rw [HR2.out]; rfl, by (repeat (first | assumption | exact Below.refl _ _ | refine BA ?_ _ | refine BC ?_ _ _ (by omega) _ | refine Below.drew ?_ | refine BT ?_ (by assumption)))⟩
    · have d1 : decide ((h.ns : Int) > k) = false := by simpa using hc
      have HR2 : Hid (R = decide (s2 - s1 > q)) := by show _ = _; rw [HR.out, d1]; rfl
      go_wp2
      go_ret
      exact ⟨by rw [HR2.out]; rfl, by (repeat (first | assumption | exact Below.refl _ _ | refine BA ?_ _ | refine BC ?_ _ _ (by omega) _ | refine Below.drew ?_ | refine BT ?_ (by assumption)))⟩

end Go.Proofs.Ytmfbkgdlfackcaa
