/- The reference: has a measure with the settings of a set the same truths? The settings that tell nothing. -/
import Derived.Test.YtmfbkgdlfackcaaRis
import Derived.Test.YtmfbkgdlfackcaaHea
namespace Go.Proofs.Ytmfbkgdlfackcaa
open Fw Go.RowKit


set_option maxRecDepth 100000 in
set_option maxHeartbeats 8000000 in
theorem same_anyR (h : Hd) (xs : List (Int × Int)) (ss : List Sett) (set : Int) (b : Bool) (w : World) (hm : HasM w h xs ss) (hv : validH h xs ss = true) (hset : 0 ≤ set ∧ set ≤ 4096)
    (hb : b = true ↔ SameP (tellsOf xs h.eLo h.eHi ss) h.sLo h.sHi h.images.toNat set) :
    Calls Try.prog 85 #[h.val, .int .i64 set] w (Ret (.bool b) w) := by
  have HM := Lib.hid hm
  have HNS := Lib.hid hm.ns
  have HV := Lib.hid hv
  obtain ⟨va, vb, vc, vd, ve, vf, vg⟩ := valid_has hv
  have h12 : h.ns ≤ 12 := by rw [← hm.ns]; exact vf
  obtain ⟨p1, p2, p3⟩ := pow_12 h12
  obtain ⟨N, hN⟩ : ∃ N : Nat, h.images = (N : Int) := ⟨h.images.toNat, by omega⟩
  have hN6 : N ≤ 6 := by omega
  obtain ⟨al, hal⟩ : ∃ al : Nat, 2 ^ h.ns - 1 = al := ⟨_, rfl⟩
  have hal1 : al ≤ 4095 := by omega
  have HP : Hid ((2 : Int) ^ h.ns - 1 = (al : Int)) := by show _ = _; omega
  have HA : Hid (allS ss = (al : Int)) := by show _ = _; unfold allS; rw [hm.ns]; exact HP.out
  have HEV : Hid (∀ Y, Calls Try.prog 69 #[.agg #[.slice h.a h.n h.cap, .int .i64 h.eLo, .int .i64 h.eHi, .int .i64 h.images, .int .i64 h.sLo, .int .i64 h.sHi, .slice h.sa h.ns h.scap]] Y (Ret (.int .i64 al) Y)) := fun Y => by
    have := every_anyR h Y (by omega)
    rw [HP.out] at this; exact this
  have hS1 : Hid (∀ Y, Below w.heap.size w Y → Calls Try.prog 46 #[.agg #[.slice h.a h.n h.cap, .int .i64 h.eLo, .int .i64 h.eHi, .int .i64 h.images, .int .i64 h.sLo, .int .i64 h.sHi, .slice h.sa h.ns h.scap], .int .i64 al] Y (Ret (.agg #[.int .i64 (sumsS h xs ss al).1, .int .i64 (sumsS h xs ss al).2]) Y)) := fun Y hY =>
    sums_anyR h xs ss al Y (HM.out.below (Nat.le_refl _) hY) HV.out (by omega)
  have hS2 : Hid (∀ Y, Below w.heap.size w Y → Calls Try.prog 46 #[.agg #[.slice h.a h.n h.cap, .int .i64 h.eLo, .int .i64 h.eHi, .int .i64 h.images, .int .i64 h.sLo, .int .i64 h.sHi, .slice h.sa h.ns h.scap], .int .i64 set] Y (Ret (.agg #[.int .i64 (sumsS h xs ss set).1, .int .i64 (sumsS h xs ss set).2]) Y)) := fun Y hY =>
    sums_anyR h xs ss set Y (HM.out.below (Nat.le_refl _) hY) HV.out (by omega)
  have HPL : Hid (∀ Y z i s, Below w.heap.size w Y → 0 ≤ z ∧ z ≤ 4096 → -10000000 ≤ s ∧ s ≤ 10000000 → Calls Try.prog 68 #[.agg #[.slice h.a h.n h.cap, .int .i64 h.eLo, .int .i64 h.eHi, .int .i64 h.images, .int .i64 h.sLo, .int .i64 h.sHi, .slice h.sa h.ns h.scap], .int .i64 z, .int .i64 i, .int .i64 s] Y (Ret (.agg #[.int .i64 (placesS (tellsOf xs h.eLo h.eHi ss) z i s).1, .int .i64 (placesS (tellsOf xs h.eLo h.eHi ss) z i s).2]) Y)) := fun Y z i s hY hz hs =>
    places_anyR h xs ss z i s Y (HM.out.below (Nat.le_refl _) hY) HV.out (by omega) hs
  have hrn := sumsS_rng hv al
  have HB : Hid (b = true ↔ sumsS h xs ss set = sumsS h xs ss al ∧ ∀ i : Nat, i < N → ∀ s, (sumsS h xs ss al).1 ≤ s → s ≤ (sumsS h xs ss al).2 → placesS (tellsOf xs h.eLo h.eHi ss) set i s = placesS (tellsOf xs h.eLo h.eHi ss) al i s) := by
    have e1 : h.images.toNat = N := by omega
    have e2 : (2 : Int) ^ (tellsOf xs h.eLo h.eHi ss).length - 1 = al := by rw [len_tells, hm.ns]; exact HP.out
    show _ ↔ _
    rw [hb]
    unfold SameP
    rw [e1, e2]
    unfold sumsS
    rw [e1]
    exact Iff.rfl
  generalize sumsS h xs ss set = S2 at *
  generalize sumsS h xs ss al = S1 at *
  generalize placesS (tellsOf xs h.eLo h.eHi ss) = PS at *
  obtain ⟨s1, s2⟩ := S1
  obtain ⟨a1, a2⟩ := S2
  dsimp only at hrn
  obtain ⟨⟨rn1, rn2⟩, rn3, rn4⟩ := hrn
  have HIM := Lib.hid hN
  clear hv va vb vc vd ve vf vg p1 p2 p3 hal hb hN
  have hC0 : Hid (BoxC (w.alloc (.cells #[.slice h.a h.n h.cap, .int .i64 h.eLo, .int .i64 h.eHi, .int .i64 h.images, .int .i64 h.sLo, .int .i64 h.sHi, .slice h.sa h.ns h.scap] 29)) w.heap.size h) := boxC_new w h
  have hW0 : Hid (Below w.heap.size w (w.alloc (.cells #[.slice h.a h.n h.cap, .int .i64 h.eLo, .int .i64 h.eHi, .int .i64 h.images, .int .i64 h.sLo, .int .i64 h.sHi, .slice h.sa h.ns h.scap] 29))) := newB _ _
  unfold Hd.val
  clear hm
  obtain ⟨hset0, hset1⟩ := hset
  go_enter Try.func85, Try.ntmps85
  obtain ⟨c0, c1, c2, c3, c4, c5, c6⟩ := hC0.out
  go_upto_region 1 with fail
  generalize hBw : w.heap.size = B at hC0 c0 c1 c2 c3 c4 c5 c6 ⊢
  generalize w.alloc (.cells #[.slice h.a h.n h.cap, .int .i64 h.eLo, .int .i64 h.eHi, .int .i64 h.images, .int .i64 h.sLo, .int .i64 h.sHi, .slice h.sa h.ns h.scap] 29) = w1 at *
  have hwB : w.heap.size ≤ B := by omega
  clear hBw c0 c1 c2 c3 c4 c5 c6
  have hSG : Hid (∀ X, Below w1.heap.size w1 X → BoxC X B h) := fun X hX => hC0.out.grown hX
  have hU1 : Hid (∀ Y, Below w1.heap.size w1 Y → Calls Try.prog 69 #[.agg #[.slice h.a h.n h.cap, .int .i64 h.eLo, .int .i64 h.eHi, .int .i64 h.images, .int .i64 h.sLo, .int .i64 h.sHi, .slice h.sa h.ns h.scap]] Y (Ret (.int .i64 al) Y)) := fun Y _ => HEV.out Y
  have hU2 : Hid (∀ Y, Below w1.heap.size w1 Y → Calls Try.prog 46 #[.agg #[.slice h.a h.n h.cap, .int .i64 h.eLo, .int .i64 h.eHi, .int .i64 h.images, .int .i64 h.sLo, .int .i64 h.sHi, .slice h.sa h.ns h.scap], .int .i64 al] Y (Ret (.agg #[.int .i64 s1, .int .i64 s2]) Y)) := fun Y hY => hS1.out Y (BT hW0.out hY)
  have hB0 : Below w1.heap.size w1 w1.drew := Below.drew (Below.refl _ _)
  clear hS1
  go_cut [5] (fun a5 X => ∃ g5 : Nat, a5 = .pointer (some ⟨g5, 0, none⟩) ∧ Two g5 s1 s2 X ∧ Below w1.heap.size w1 X)
  case first =>
    refine wp_region_tree (.read 0 (.read 1 (.two 2 (.two 3 (.one 4 (.one 5 (.leaf))) 4 (.one 3 (.one 5 (.leaf)))) 4 (.one 2 (.one 3 (.one 5 (.leaf))))))) (fun w' => w'.cell? ⟨B, 0, none⟩ = some (.slice h.a h.n h.cap) ∧ w'.cell? ⟨B, 1, none⟩ = some (.int .i64 h.eLo) ∧ w'.cell? ⟨B, 2, none⟩ = some (.int .i64 h.eHi) ∧ w'.cell? ⟨B, 3, none⟩ = some (.int .i64 h.images) ∧ w'.cell? ⟨B, 4, none⟩ = some (.int .i64 h.sLo) ∧ w'.cell? ⟨B, 5, none⟩ = some (.int .i64 h.sHi) ∧ w'.cell? ⟨B, 6, none⟩ = some (.slice h.sa h.ns h.scap)) (by kernel_rfl) (by kernel_rfl) (fun _ _ d _ _ h => by cases d <;> exact h) (hSG.out _ hB0) ?_
    generalize w1.drew = X0 at *
    repeat (first | (refine tr_read rfl (by rfl) _ (fun w' hS => by (try dsimp only at hS); go_simp; (try with_reducible rfl)) ?_; (try simp only [Act.put, List.setIfInBounds_toArray, List.set_cons_zero, List.set_cons_succ])) | (refine tr_skip rfl (by rfl) ?_; (try simp only [Act.put, List.setIfInBounds_toArray, List.set_cons_zero, List.set_cons_succ])))
    refine ⟨?_, ?_⟩
    · skip
      refine tr_step rfl (by rfl) (fun K hK => ?_)
      go_simp
      refine (hU1.out X0 hB0).mono ?_
      rintro e X1 ⟨rfl, hb1⟩
      have hB1 := BT hB0 hb1
      refine hK _ _ (hSG.out _ hB1) ?_
      clear hK K hB0 hb1
      (try simp only [Act.put, List.setIfInBounds_toArray, List.set_cons_zero, List.set_cons_succ])
      refine ⟨?_, ?_⟩
      · skip
        refine tr_step rfl (by rfl) (fun K hK => ?_)
        go_simp
        refine (hU2.out X1 hB1).mono ?_
        rintro e X2 ⟨rfl, hb2⟩
        have hB2 := BT hB1 hb2
        refine hK _ _ (hSG.out _ hB2) ?_
        clear hK K hB1 hb2
        (try simp only [Act.put, List.setIfInBounds_toArray, List.set_cons_zero, List.set_cons_succ])
        refine tr_step rfl (by rfl) (fun K hK => ?_)
        have hB3 := BA hB2 (.cells #[.int .i64 0, .int .i64 0] 24)
        have h4_3 := slots_new2 X2 24
        have hg4 := hB2.size
        go_simp
        generalize X2.heap.size = g4 at *
        generalize X2.alloc (.cells #[.int .i64 0, .int .i64 0] 24) = X3 at *
        refine hK _ _ (hSG.out _ hB3) ?_
        clear hK K hB2 
        (try simp only [Act.put, List.setIfInBounds_toArray, List.set_cons_zero, List.set_cons_succ])
        refine tr_last rfl (by rfl) (by kernel_rfl) (fun K hK => ?_)
        obtain ⟨u0_4, q0_4, f0_4⟩ := h4_3.get 0 (by omega)
        obtain ⟨u1_4, q1_4, f1_4⟩ := h4_3.get 1 (by omega)
        have hB4 := BC (BC hB3 g4 0 hg4 (.int .i64 (s1))) g4 1 hg4 (.int .i64 (s2))
        have h4_4 := two_set h4_3 (s1) (s2)
        go_simp
        clear q0_4 f0_4 q1_4 f1_4
        generalize (X3.setCell ⟨g4, 0, none⟩ (.int .i64 (s1))).setCell ⟨g4, 1, none⟩ (.int .i64 (s2)) = X4 at *
        refine hK _ _ ?_
        clear hK K hB3 h4_3
        (try simp only [Act.put, List.setIfInBounds_toArray, List.set_cons_zero, List.set_cons_succ])
        show Exit.then _ _ Exit.normal _ _
        go_wp2_with fail
        go_meet
        exact ⟨g4, rfl, h4_4, hB4⟩
      · skip
        refine tr_step rfl (by rfl) (fun K hK => ?_)
        have hB5 := BA hB1 (.cells #[.int .i64 0, .int .i64 0] 24)
        have h4_5 := slots_new2 X1 24
        have hg4 := hB1.size
        go_simp
        generalize X1.heap.size = g4 at *
        generalize X1.alloc (.cells #[.int .i64 0, .int .i64 0] 24) = X5 at *
        refine hK _ _ (hSG.out _ hB5) ?_
        clear hK K hB1 
        (try simp only [Act.put, List.setIfInBounds_toArray, List.set_cons_zero, List.set_cons_succ])
        refine tr_step rfl (by rfl) (fun K hK => ?_)
        go_simp
        refine (hU2.out X5 hB5).mono ?_
        rintro e X6 ⟨rfl, hb6⟩
        have hB6 := BT hB5 hb6
        have h4_6 := h4_5.below hb6 (h4_5.lt2)
        refine hK _ _ (hSG.out _ hB6) ?_
        clear hK K hB5 h4_5 hb6
        (try simp only [Act.put, List.setIfInBounds_toArray, List.set_cons_zero, List.set_cons_succ])
        refine tr_last rfl (by rfl) (by kernel_rfl) (fun K hK => ?_)
        obtain ⟨u0_7, q0_7, f0_7⟩ := h4_6.get 0 (by omega)
        obtain ⟨u1_7, q1_7, f1_7⟩ := h4_6.get 1 (by omega)
        have hB7 := BC (BC hB6 g4 0 hg4 (.int .i64 (s1))) g4 1 hg4 (.int .i64 (s2))
        have h4_7 := two_set h4_6 (s1) (s2)
        go_simp
        clear q0_7 f0_7 q1_7 f1_7
        generalize (X6.setCell ⟨g4, 0, none⟩ (.int .i64 (s1))).setCell ⟨g4, 1, none⟩ (.int .i64 (s2)) = X7 at *
        refine hK _ _ ?_
        clear hK K hB6 h4_6
        (try simp only [Act.put, List.setIfInBounds_toArray, List.set_cons_zero, List.set_cons_succ])
        show Exit.then _ _ Exit.normal _ _
        go_wp2_with fail
        go_meet
        exact ⟨g4, rfl, h4_7, hB7⟩
    · skip
      refine tr_step rfl (by rfl) (fun K hK => ?_)
      have hB8 := BA hB0 (.cells #[.int .i64 0, .int .i64 0] 24)
      have h4_8 := slots_new2 X0 24
      have hg4 := hB0.size
      go_simp
      generalize X0.heap.size = g4 at *
      generalize X0.alloc (.cells #[.int .i64 0, .int .i64 0] 24) = X8 at *
      refine hK _ _ (hSG.out _ hB8) ?_
      clear hK K hB0 
      (try simp only [Act.put, List.setIfInBounds_toArray, List.set_cons_zero, List.set_cons_succ])
      refine tr_step rfl (by rfl) (fun K hK => ?_)
      go_simp
      refine (hU1.out X8 hB8).mono ?_
      rintro e X9 ⟨rfl, hb9⟩
      have hB9 := BT hB8 hb9
      have h4_9 := h4_8.below hb9 (h4_8.lt2)
      refine hK _ _ (hSG.out _ hB9) ?_
      clear hK K hB8 h4_8 hb9
      (try simp only [Act.put, List.setIfInBounds_toArray, List.set_cons_zero, List.set_cons_succ])
      refine tr_step rfl (by rfl) (fun K hK => ?_)
      go_simp
      refine (hU2.out X9 hB9).mono ?_
      rintro e X10 ⟨rfl, hb10⟩
      have hB10 := BT hB9 hb10
      have h4_10 := h4_9.below hb10 (h4_9.lt2)
      refine hK _ _ (hSG.out _ hB10) ?_
      clear hK K hB9 h4_9 hb10
      (try simp only [Act.put, List.setIfInBounds_toArray, List.set_cons_zero, List.set_cons_succ])
      refine tr_last rfl (by rfl) (by kernel_rfl) (fun K hK => ?_)
      obtain ⟨u0_11, q0_11, f0_11⟩ := h4_10.get 0 (by omega)
      obtain ⟨u1_11, q1_11, f1_11⟩ := h4_10.get 1 (by omega)
      have hB11 := BC (BC hB10 g4 0 hg4 (.int .i64 (s1))) g4 1 hg4 (.int .i64 (s2))
      have h4_11 := two_set h4_10 (s1) (s2)
      go_simp
      clear q0_11 f0_11 q1_11 f1_11
      generalize (X10.setCell ⟨g4, 0, none⟩ (.int .i64 (s1))).setCell ⟨g4, 1, none⟩ (.int .i64 (s2)) = X11 at *
      refine hK _ _ ?_
      clear hK K hB10 h4_10
      (try simp only [Act.put, List.setIfInBounds_toArray, List.set_cons_zero, List.set_cons_succ])
      show Exit.then _ _ Exit.normal _ _
      go_wp2_with fail
      go_meet
      exact ⟨g4, rfl, h4_11, hB11⟩
  case rest =>
    obtain ⟨g5, rfl, h5, hb5⟩ := hcut
    have hW2 := BT hW0.out hb5
    have HT := Lib.hid h5
    have HC := Lib.hid (hC0.out.grown hb5)
    clear hSG hU1 hU2 hB0 h5 hC0 hb5
    generalize wc = w2 at *
    have hd0 : Below w2.heap.size w2 w2.drew := Below.drew (Below.refl _ _)
    have hS0 : (fun w' => w'.cell? ⟨B, 0, none⟩ = some (.slice h.a h.n h.cap) ∧ w'.cell? ⟨B, 1, none⟩ = some (.int .i64 h.eLo) ∧ w'.cell? ⟨B, 2, none⟩ = some (.int .i64 h.eHi) ∧ w'.cell? ⟨B, 3, none⟩ = some (.int .i64 h.images) ∧ w'.cell? ⟨B, 4, none⟩ = some (.int .i64 h.sLo) ∧ w'.cell? ⟨B, 5, none⟩ = some (.int .i64 h.sHi) ∧ w'.cell? ⟨B, 6, none⟩ = some (.slice h.sa h.ns h.scap) ∧ w'.cell? ⟨g5, 0, none⟩ = some (.int .i64 s1) ∧ w'.cell? ⟨g5, 1, none⟩ = some (.int .i64 s2)) w2.drew := by
      obtain ⟨d0, d1, d2, d3, d4, d5, d6⟩ := HC.out.grown hd0
      obtain ⟨d7, d8⟩ := HT.out.grown hd0
      exact ⟨d0, d1, d2, d3, d4, d5, d6, d7, d8⟩
    have HSG : Hid (∀ X, Below w2.heap.size w2 X → X.cell? ⟨B, 0, none⟩ = some (.slice h.a h.n h.cap) ∧ X.cell? ⟨B, 1, none⟩ = some (.int .i64 h.eLo) ∧ X.cell? ⟨B, 2, none⟩ = some (.int .i64 h.eHi) ∧ X.cell? ⟨B, 3, none⟩ = some (.int .i64 h.images) ∧ X.cell? ⟨B, 4, none⟩ = some (.int .i64 h.sLo) ∧ X.cell? ⟨B, 5, none⟩ = some (.int .i64 h.sHi) ∧ X.cell? ⟨B, 6, none⟩ = some (.slice h.sa h.ns h.scap) ∧ X.cell? ⟨g5, 0, none⟩ = some (.int .i64 s1) ∧ X.cell? ⟨g5, 1, none⟩ = some (.int .i64 s2)) := fun X hX => by
      obtain ⟨d0, d1, d2, d3, d4, d5, d6⟩ := HC.out.grown hX
      obtain ⟨d7, d8⟩ := HT.out.grown hX
      exact ⟨d0, d1, d2, d3, d4, d5, d6, d7, d8⟩
    by_cases hne : a1 = s1 ∧ a2 = s2
    case neg =>
      have HR : Hid (b = false) := by
        show _ = _
        cases hbb : b
        · rfl
        · exact absurd (by have := (HB.out.1 hbb).1; injection this with u v; exact ⟨u, v⟩) hne
      by_cases hq : a1 = s1
      · subst hq
        have hq2 : ¬ a2 = s2 := fun e => hne ⟨rfl, e⟩
        clear hne
        clear HB
        go_wp2_with fail
        refine wp_region_seq [(0, true), (1, true), (3, true), (2, false), (4, true)] (fun w' => w'.cell? ⟨B, 0, none⟩ = some (.slice h.a h.n h.cap) ∧ w'.cell? ⟨B, 1, none⟩ = some (.int .i64 h.eLo) ∧ w'.cell? ⟨B, 2, none⟩ = some (.int .i64 h.eHi) ∧ w'.cell? ⟨B, 3, none⟩ = some (.int .i64 h.images) ∧ w'.cell? ⟨B, 4, none⟩ = some (.int .i64 h.sLo) ∧ w'.cell? ⟨B, 5, none⟩ = some (.int .i64 h.sHi) ∧ w'.cell? ⟨B, 6, none⟩ = some (.slice h.sa h.ns h.scap) ∧ w'.cell? ⟨g5, 0, none⟩ = some (.int .i64 a1) ∧ w'.cell? ⟨g5, 1, none⟩ = some (.int .i64 s2)) (by kernel_rfl) (by kernel_rfl) (fun _ _ d _ _ h => by cases d <;> exact h) hS0 ?_
        repeat (first | (refine seq_read rfl (by rfl) _ (fun w' hS => by (try dsimp only at hS); go_simp; (try with_reducible rfl)) ?_; (try simp only [Act.put, List.setIfInBounds_toArray, List.set_cons_zero, List.set_cons_succ])) | (refine seq_skip rfl (by rfl) ?_; (try simp only [Act.put, List.setIfInBounds_toArray, List.set_cons_zero, List.set_cons_succ])))
        (refine seq_do rfl (by rfl) (fun K hK => ?_); go_simp)
        refine (hS2.out _ (BT hW2 hd0)).mono ?_
        rintro e w3 ⟨rfl, hb3⟩
        have hd3 := BT hd0 hb3
        refine hK _ _ (HSG.out _ hd3) ?_
        clear hK K hd0 hb3 hS0
        (try simp only [Act.put, List.setIfInBounds_toArray, List.set_cons_zero, List.set_cons_succ])
        (refine seq_read rfl (by rfl) _ (fun w' hS => by (try dsimp only at hS); go_simp; (try with_reducible rfl)) ?_; (try simp only [Act.put, List.setIfInBounds_toArray, List.set_cons_zero, List.set_cons_succ]))
        refine seq_end ?_
        have hB3 := BT hW2 hd3
        go_wp2
        go_ret
        exact ⟨by rw [HR.out]; rfl, hB3⟩
      · clear hne
        clear HB
        go_wp2_with fail
        refine wp_region_seq [(0, true), (1, true), (3, true), (2, false), (4, true)] (fun w' => w'.cell? ⟨B, 0, none⟩ = some (.slice h.a h.n h.cap) ∧ w'.cell? ⟨B, 1, none⟩ = some (.int .i64 h.eLo) ∧ w'.cell? ⟨B, 2, none⟩ = some (.int .i64 h.eHi) ∧ w'.cell? ⟨B, 3, none⟩ = some (.int .i64 h.images) ∧ w'.cell? ⟨B, 4, none⟩ = some (.int .i64 h.sLo) ∧ w'.cell? ⟨B, 5, none⟩ = some (.int .i64 h.sHi) ∧ w'.cell? ⟨B, 6, none⟩ = some (.slice h.sa h.ns h.scap) ∧ w'.cell? ⟨g5, 0, none⟩ = some (.int .i64 s1) ∧ w'.cell? ⟨g5, 1, none⟩ = some (.int .i64 s2)) (by kernel_rfl) (by kernel_rfl) (fun _ _ d _ _ h => by cases d <;> exact h) hS0 ?_
        repeat (first | (refine seq_read rfl (by rfl) _ (fun w' hS => by (try dsimp only at hS); go_simp; (try with_reducible rfl)) ?_; (try simp only [Act.put, List.setIfInBounds_toArray, List.set_cons_zero, List.set_cons_succ])) | (refine seq_skip rfl (by rfl) ?_; (try simp only [Act.put, List.setIfInBounds_toArray, List.set_cons_zero, List.set_cons_succ])))
        (refine seq_do rfl (by rfl) (fun K hK => ?_); go_simp)
        refine (hS2.out _ (BT hW2 hd0)).mono ?_
        rintro e w3 ⟨rfl, hb3⟩
        have hd3 := BT hd0 hb3
        refine hK _ _ (HSG.out _ hd3) ?_
        clear hK K hd0 hb3 hS0
        (try simp only [Act.put, List.setIfInBounds_toArray, List.set_cons_zero, List.set_cons_succ])
        (refine seq_read rfl (by rfl) _ (fun w' hS => by (try dsimp only at hS); go_simp; (try with_reducible rfl)) ?_; (try simp only [Act.put, List.setIfInBounds_toArray, List.set_cons_zero, List.set_cons_succ]))
        refine seq_end ?_
        have hB3 := BT hW2 hd3
        go_wp2
        go_ret
        exact ⟨by rw [HR.out]; rfl, hB3⟩
    obtain ⟨rfl, rfl⟩ := hne
    have HB2 : Hid (b = true ↔ ∀ i : Nat, i < N → ∀ s, a1 ≤ s → s ≤ a2 → PS set i s = PS al i s) := ⟨fun h => (HB.out.1 h).2, fun h => HB.out.2 ⟨rfl, h⟩⟩
    clear HB
    go_wp2_with fail
    refine wp_region_seq [(0, true), (1, true), (3, true), (2, false), (4, true)] (fun w' => w'.cell? ⟨B, 0, none⟩ = some (.slice h.a h.n h.cap) ∧ w'.cell? ⟨B, 1, none⟩ = some (.int .i64 h.eLo) ∧ w'.cell? ⟨B, 2, none⟩ = some (.int .i64 h.eHi) ∧ w'.cell? ⟨B, 3, none⟩ = some (.int .i64 h.images) ∧ w'.cell? ⟨B, 4, none⟩ = some (.int .i64 h.sLo) ∧ w'.cell? ⟨B, 5, none⟩ = some (.int .i64 h.sHi) ∧ w'.cell? ⟨B, 6, none⟩ = some (.slice h.sa h.ns h.scap) ∧ w'.cell? ⟨g5, 0, none⟩ = some (.int .i64 a1) ∧ w'.cell? ⟨g5, 1, none⟩ = some (.int .i64 a2)) (by kernel_rfl) (by kernel_rfl) (fun _ _ d _ _ h => by cases d <;> exact h) hS0 ?_
    repeat (first | (refine seq_read rfl (by rfl) _ (fun w' hS => by (try dsimp only at hS); go_simp; (try with_reducible rfl)) ?_; (try simp only [Act.put, List.setIfInBounds_toArray, List.set_cons_zero, List.set_cons_succ])) | (refine seq_skip rfl (by rfl) ?_; (try simp only [Act.put, List.setIfInBounds_toArray, List.set_cons_zero, List.set_cons_succ])))
    (refine seq_do rfl (by rfl) (fun K hK => ?_); go_simp)
    refine (hS2.out _ (BT hW2 hd0)).mono ?_
    rintro e w3 ⟨rfl, hb3⟩
    have hd3 := BT hd0 hb3
    refine hK _ _ (HSG.out _ hd3) ?_
    clear hK K hd0 hb3 hS0 hS2
    (try simp only [Act.put, List.setIfInBounds_toArray, List.set_cons_zero, List.set_cons_succ])
    (refine seq_read rfl (by rfl) _ (fun w' hS => by (try dsimp only at hS); go_simp; (try with_reducible rfl)) ?_; (try simp only [Act.put, List.setIfInBounds_toArray, List.set_cons_zero, List.set_cons_succ]))
    refine seq_end ?_
    go_wp2_with fail
    go_loopw [6] (fun i wr => ∃ i' : Nat, i' ≤ N ∧ i = .int .i64 i' ∧ Below w3.heap.size w3 wr ∧ Hid (∀ j : Nat, j < i' → ∀ s, a1 ≤ s → s ≤ a2 → PS set j s = PS al j s)) (fun i _ => N - (intOf i).toNat)
    case atStart => exact ⟨0, by omega, rfl, Below.refl _ _, fun j hj => by omega⟩
    case round =>
      obtain ⟨i, hi, rfl, hB, HI⟩ := hrel
      have hBr := BT hd3 hB
      obtain ⟨c0, c1, c2, c3, c4, c5, c6, e0, e1⟩ := HSG.out _ hBr
      rw [HIM.out] at c3
      have hi0 : (0 : Int) ≤ (i : Int) := by omega
      have hi1 : (i : Int) ≤ 6 := by omega
      by_cases hlt : i < N
      · go_wp2_with fail
        clear c0 c1 c2 c3 c4 c5 c6 e0 e1
        obtain ⟨wo, hwo⟩ : ∃ wo, wo = wr := ⟨_, rfl⟩
        subst hwo
        go_loopw [7] (fun n wr => ∃ k : Nat, (k : Int) ≤ (if a1 ≤ a2 then a2 - a1 + 1 else 0) ∧ n = .int .i64 (a1 + k) ∧ Below wo.heap.size wo wr ∧ Hid (∀ s, a1 ≤ s → s < a1 + k → PS set i s = PS al i s)) (fun n _ => (a2 + 1 - intOf n).toNat)
        case atStart => exact ⟨0, by split <;> omega, by go_num, Below.refl _ _, fun s h1 h2 => by omega⟩
        case round =>
          obtain ⟨k, hk, rfl, hBk, HK⟩ := hrel
          have hBk2 := BT hBr hBk
          have hk0 : (0 : Int) ≤ (k : Int) := by omega
          have hk1 : (k : Int) ≤ 2000000 := by split at hk <;> omega
          obtain ⟨c0, c1, c2, c3, c4, c5, c6, e0, e1⟩ := HSG.out _ hBk2
          by_cases hle : a1 + k ≤ a2
          · have hle12 : a1 ≤ a2 := by omega
            have hpl1 : Hid (∀ Y, Below w2.heap.size w2 Y → Calls Try.prog 68 #[.agg #[.slice h.a h.n h.cap, .int .i64 h.eLo, .int .i64 h.eHi, .int .i64 h.images, .int .i64 h.sLo, .int .i64 h.sHi, .slice h.sa h.ns h.scap], .int .i64 set, .int .i64 i, .int .i64 (a1 + k)] Y (Ret (.agg #[.int .i64 (PS set i (a1 + k)).1, .int .i64 (PS set i (a1 + k)).2]) Y)) := fun Y hY => HPL.out Y set i _ (BT hW2 hY) (by omega) (by omega)
            have hpl2 : Hid (∀ Y, Below w2.heap.size w2 Y → Calls Try.prog 68 #[.agg #[.slice h.a h.n h.cap, .int .i64 h.eLo, .int .i64 h.eHi, .int .i64 h.images, .int .i64 h.sLo, .int .i64 h.sHi, .slice h.sa h.ns h.scap], .int .i64 al, .int .i64 i, .int .i64 (a1 + k)] Y (Ret (.agg #[.int .i64 (PS al i (a1 + k)).1, .int .i64 (PS al i (a1 + k)).2]) Y)) := fun Y hY => HPL.out Y al i _ (BT hW2 hY) (by omega) (by omega)
            have hdk : Below w2.heap.size w2 wr.drew := Below.drew hBk2
            have hSk := HSG.out _ hdk
            have HQ : Hid (∀ u v, PS set i (a1 + k) = u → PS al i (a1 + k) = v → (PS set i (a1 + k) = PS al i (a1 + k) ↔ u = v)) := fun u v e1 e2 => by rw [e1, e2]
            generalize hu : PS set i (a1 + k) = U at *
            generalize hv2 : PS al i (a1 + k) = V at *
            have HU := Lib.hid hu
            have HV2 := Lib.hid hv2
            clear hu hv2 HQ c0 c1 c2 c3 c4 c5 c6
            obtain ⟨u1, u2⟩ := U
            obtain ⟨v1, v2⟩ := V
            by_cases huv : u1 = v1 ∧ u2 = v2
            · obtain ⟨rfl, rfl⟩ := huv
              go_wp2_with fail
              refine wp_region_seq [(0, true), (1, true), (2, true), (3, true), (5, true), (6, true), (8, true), (9, true), (4, false), (7, false), (10, false), (11, true)] (fun w' => w'.cell? ⟨B, 0, none⟩ = some (.slice h.a h.n h.cap) ∧ w'.cell? ⟨B, 1, none⟩ = some (.int .i64 h.eLo) ∧ w'.cell? ⟨B, 2, none⟩ = some (.int .i64 h.eHi) ∧ w'.cell? ⟨B, 3, none⟩ = some (.int .i64 h.images) ∧ w'.cell? ⟨B, 4, none⟩ = some (.int .i64 h.sLo) ∧ w'.cell? ⟨B, 5, none⟩ = some (.int .i64 h.sHi) ∧ w'.cell? ⟨B, 6, none⟩ = some (.slice h.sa h.ns h.scap) ∧ w'.cell? ⟨g5, 0, none⟩ = some (.int .i64 a1) ∧ w'.cell? ⟨g5, 1, none⟩ = some (.int .i64 a2)) (by kernel_rfl) (by kernel_rfl) (fun _ _ d _ _ h => by cases d <;> exact h) hSk ?_
              repeat (first | (refine seq_read rfl (by rfl) _ (fun w' hS => by (try dsimp only at hS); go_simp; (try with_reducible rfl)) ?_; (try simp only [Act.put, List.setIfInBounds_toArray, List.set_cons_zero, List.set_cons_succ])) | (refine seq_skip rfl (by rfl) ?_; (try simp only [Act.put, List.setIfInBounds_toArray, List.set_cons_zero, List.set_cons_succ])))
              (refine seq_do rfl (by rfl) (fun K hK => ?_); go_simp)
              refine (hpl1.out _ hdk).mono ?_
              rintro e w4 ⟨rfl, hb4⟩
              have hd4 := BT hdk hb4
              have hB4 : Below wo.heap.size wo w4 := BT hBk (BT (Below.drew (Below.refl _ _)) hb4)
              refine hK _ _ (HSG.out _ hd4) ?_
              clear hK K hdk hb4 hSk
              (try simp only [Act.put, List.setIfInBounds_toArray, List.set_cons_zero, List.set_cons_succ])
              (refine seq_do rfl (by rfl) (fun K hK => ?_); go_simp)
              refine (HEV.out _).mono ?_
              rintro e w5 ⟨rfl, hb5⟩
              have hd5 := BT hd4 hb5
              have hB5 := BT hB4 hb5
              refine hK _ _ (HSG.out _ hd5) ?_
              clear hK K hd4 hb5 hB4
              (try simp only [Act.put, List.setIfInBounds_toArray, List.set_cons_zero, List.set_cons_succ])
              (refine seq_do rfl (by rfl) (fun K hK => ?_); go_simp)
              refine (hpl2.out _ hd5).mono ?_
              rintro e w6 ⟨rfl, hb6⟩
              have hd6 := BT hd5 hb6
              have hB6 := BT hB5 hb6
              refine hK _ _ (HSG.out _ hd6) ?_
              clear hK K hd5 hb6 hB5
              (try simp only [Act.put, List.setIfInBounds_toArray, List.set_cons_zero, List.set_cons_succ])
              (refine seq_read rfl (by rfl) _ (fun w' hS => by (try dsimp only at hS); go_simp; (try with_reducible rfl)) ?_; (try simp only [Act.put, List.setIfInBounds_toArray, List.set_cons_zero, List.set_cons_succ]))
              refine seq_end ?_
              clear hpl1 hpl2 e0 e1
              go_wp2
              go_roundw
              case rel => exact ⟨k + 1, by split <;> omega, by go_num, hB6, fun s h1 h2 => by
                by_cases hs : s = a1 + k
                · subst hs; rw [HU.out, HV2.out]
                · exact HK.out s h1 (by omega)⟩
              case measure => simp [intOf]; omega
            · have HR : Hid (b = false) := by
                show _ = _
                cases hbb : b
                · rfl
                · exact absurd (by have := HB2.out.1 hbb i hlt (a1 + k) (by omega) hle; rw [HU.out, HV2.out] at this; injection this with u v; exact ⟨u, v⟩) huv
              by_cases hq : u1 = v1
              · subst hq
                have hq2 : ¬ u2 = v2 := fun e => huv ⟨rfl, e⟩
                clear huv
                go_wp2_with fail
                refine wp_region_seq [(0, true), (1, true), (2, true), (3, true), (5, true), (6, true), (8, true), (9, true), (4, false), (7, false), (10, false), (11, true)] (fun w' => w'.cell? ⟨B, 0, none⟩ = some (.slice h.a h.n h.cap) ∧ w'.cell? ⟨B, 1, none⟩ = some (.int .i64 h.eLo) ∧ w'.cell? ⟨B, 2, none⟩ = some (.int .i64 h.eHi) ∧ w'.cell? ⟨B, 3, none⟩ = some (.int .i64 h.images) ∧ w'.cell? ⟨B, 4, none⟩ = some (.int .i64 h.sLo) ∧ w'.cell? ⟨B, 5, none⟩ = some (.int .i64 h.sHi) ∧ w'.cell? ⟨B, 6, none⟩ = some (.slice h.sa h.ns h.scap) ∧ w'.cell? ⟨g5, 0, none⟩ = some (.int .i64 a1) ∧ w'.cell? ⟨g5, 1, none⟩ = some (.int .i64 a2)) (by kernel_rfl) (by kernel_rfl) (fun _ _ d _ _ h => by cases d <;> exact h) hSk ?_
                repeat (first | (refine seq_read rfl (by rfl) _ (fun w' hS => by (try dsimp only at hS); go_simp; (try with_reducible rfl)) ?_; (try simp only [Act.put, List.setIfInBounds_toArray, List.set_cons_zero, List.set_cons_succ])) | (refine seq_skip rfl (by rfl) ?_; (try simp only [Act.put, List.setIfInBounds_toArray, List.set_cons_zero, List.set_cons_succ])))
                (refine seq_do rfl (by rfl) (fun K hK => ?_); go_simp)
                refine (hpl1.out _ hdk).mono ?_
                rintro e w4 ⟨rfl, hb4⟩
                have hd4 := BT hdk hb4
                refine hK _ _ (HSG.out _ hd4) ?_
                clear hK K hdk hb4 hSk
                (try simp only [Act.put, List.setIfInBounds_toArray, List.set_cons_zero, List.set_cons_succ])
                (refine seq_do rfl (by rfl) (fun K hK => ?_); go_simp)
                refine (HEV.out _).mono ?_
                rintro e w5 ⟨rfl, hb5⟩
                have hd5 := BT hd4 hb5
                refine hK _ _ (HSG.out _ hd5) ?_
                clear hK K hd4 hb5
                (try simp only [Act.put, List.setIfInBounds_toArray, List.set_cons_zero, List.set_cons_succ])
                (refine seq_do rfl (by rfl) (fun K hK => ?_); go_simp)
                refine (hpl2.out _ hd5).mono ?_
                rintro e w6 ⟨rfl, hb6⟩
                have hd6 := BT hd5 hb6
                refine hK _ _ (HSG.out _ hd6) ?_
                clear hK K hd5 hb6
                (try simp only [Act.put, List.setIfInBounds_toArray, List.set_cons_zero, List.set_cons_succ])
                (refine seq_read rfl (by rfl) _ (fun w' hS => by (try dsimp only at hS); go_simp; (try with_reducible rfl)) ?_; (try simp only [Act.put, List.setIfInBounds_toArray, List.set_cons_zero, List.set_cons_succ]))
                refine seq_end ?_
                have hB6 := BT hW2 hd6
                clear hpl1 hpl2 e0 e1
                go_wp2
                go_ret
                exact ⟨by rw [HR.out]; rfl, hB6⟩
              · clear huv
                go_wp2_with fail
                refine wp_region_seq [(0, true), (1, true), (2, true), (3, true), (5, true), (6, true), (8, true), (9, true), (4, false), (7, false), (10, false), (11, true)] (fun w' => w'.cell? ⟨B, 0, none⟩ = some (.slice h.a h.n h.cap) ∧ w'.cell? ⟨B, 1, none⟩ = some (.int .i64 h.eLo) ∧ w'.cell? ⟨B, 2, none⟩ = some (.int .i64 h.eHi) ∧ w'.cell? ⟨B, 3, none⟩ = some (.int .i64 h.images) ∧ w'.cell? ⟨B, 4, none⟩ = some (.int .i64 h.sLo) ∧ w'.cell? ⟨B, 5, none⟩ = some (.int .i64 h.sHi) ∧ w'.cell? ⟨B, 6, none⟩ = some (.slice h.sa h.ns h.scap) ∧ w'.cell? ⟨g5, 0, none⟩ = some (.int .i64 a1) ∧ w'.cell? ⟨g5, 1, none⟩ = some (.int .i64 a2)) (by kernel_rfl) (by kernel_rfl) (fun _ _ d _ _ h => by cases d <;> exact h) hSk ?_
                repeat (first | (refine seq_read rfl (by rfl) _ (fun w' hS => by (try dsimp only at hS); go_simp; (try with_reducible rfl)) ?_; (try simp only [Act.put, List.setIfInBounds_toArray, List.set_cons_zero, List.set_cons_succ])) | (refine seq_skip rfl (by rfl) ?_; (try simp only [Act.put, List.setIfInBounds_toArray, List.set_cons_zero, List.set_cons_succ])))
                (refine seq_do rfl (by rfl) (fun K hK => ?_); go_simp)
                refine (hpl1.out _ hdk).mono ?_
                rintro e w4 ⟨rfl, hb4⟩
                have hd4 := BT hdk hb4
                refine hK _ _ (HSG.out _ hd4) ?_
                clear hK K hdk hb4 hSk
                (try simp only [Act.put, List.setIfInBounds_toArray, List.set_cons_zero, List.set_cons_succ])
                (refine seq_do rfl (by rfl) (fun K hK => ?_); go_simp)
                refine (HEV.out _).mono ?_
                rintro e w5 ⟨rfl, hb5⟩
                have hd5 := BT hd4 hb5
                refine hK _ _ (HSG.out _ hd5) ?_
                clear hK K hd4 hb5
                (try simp only [Act.put, List.setIfInBounds_toArray, List.set_cons_zero, List.set_cons_succ])
                (refine seq_do rfl (by rfl) (fun K hK => ?_); go_simp)
                refine (hpl2.out _ hd5).mono ?_
                rintro e w6 ⟨rfl, hb6⟩
                have hd6 := BT hd5 hb6
                refine hK _ _ (HSG.out _ hd6) ?_
                clear hK K hd5 hb6
                (try simp only [Act.put, List.setIfInBounds_toArray, List.set_cons_zero, List.set_cons_succ])
                (refine seq_read rfl (by rfl) _ (fun w' hS => by (try dsimp only at hS); go_simp; (try with_reducible rfl)) ?_; (try simp only [Act.put, List.setIfInBounds_toArray, List.set_cons_zero, List.set_cons_succ]))
                refine seq_end ?_
                have hB6 := BT hW2 hd6
                clear hpl1 hpl2 e0 e1
                go_wp2
                go_ret
                exact ⟨by rw [HR.out]; rfl, hB6⟩
          · clear c0 c1 c2 c3 c4 c5 c6
            have hBx := BT hB hBk
            go_wp2
            go_roundw
            case rel => exact ⟨i + 1, by omega, by go_num, hBx, fun j hj s h1 h2 => by
              by_cases hji : j = i
              · subst hji; exact HK.out s h1 (by omega)
              · exact HI.out j (by omega) s h1 h2⟩
            case measure => simp [intOf]; omega
      · obtain rfl : i = N := by omega
        have HR : Hid (b = true) := HB2.out.2 fun j hj => HI.out j hj
        have hB9 := BT hW2 hBr
        go_wp2
        go_ret
        exact ⟨by rw [HR.out]; rfl, hB9⟩
end Go.Proofs.Ytmfbkgdlfackcaa
