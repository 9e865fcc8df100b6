/- The reference: how far apart: all sums are tried. -/
import Derived.Test.YtmfbkgdlfackcaaRpl
namespace Go.Proofs.Ytmfbkgdlfackcaa
open Fw Go.RowKit

theorem placesS_rng {ts : List Tell} (hf : ∀ t ∈ ts, Fair 131072 t) (set im s : Int) (hs : -10000000 ≤ s ∧ s ≤ 10000000) :
    (-2000000000000 ≤ (placesS ts set im s).1 ∧ (placesS ts set im s).1 ≤ 2000000000000) ∧ -2000000000000 ≤ (placesS ts set im s).2 ∧ (placesS ts set im s).2 ≤ 2000000000000 := by
  obtain ⟨⟨a, b⟩, c, d⟩ := told_rng hf set im false ts.length (Nat.le_refl _)
  obtain ⟨⟨e, f⟩, g, i⟩ := told_rng hf set im true ts.length (Nat.le_refl _)
  unfold placesS mxI mnI
  dsimp only
  constructor
  · split <;> omega
  · split <;> omega
def apTo (ts : List Tell) (set a b lo : Int) : Nat → Int × Int
  | 0 => (1099511627776, -1099511627776)
  | k + 1 => (mnI (apTo ts set a b lo k).1 ((placesS ts set b (lo + k)).1 - (placesS ts set a (lo + k)).2), mxI (apTo ts set a b lo k).2 ((placesS ts set b (lo + k)).2 - (placesS ts set a (lo + k)).1))
def inAB (h : Hd) (a b : Int) : Bool := inB a 0 (wrap64 (h.images - 1)) && inB b 0 (wrap64 (h.images - 1))
def apartE (h : Hd) (xs : List (Int × Int)) (ss : List Sett) (a b : Int) : Int × Int × Int :=
  if (openE h xs ss (inAB h a b)).2.2 = 0 then if (a == b) = true then (0, 0, 0) else
    if hasC a (cntsOf ss) = true then if hasC b (cntsOf ss) = true then ((apTo (tellsOf xs h.eLo h.eHi ss) (allS ss) a b (openE h xs ss (inAB h a b)).1 ((openE h xs ss (inAB h a b)).2.1 - (openE h xs ss (inAB h a b)).1 + 1).toNat).1,
        (apTo (tellsOf xs h.eLo h.eHi ss) (allS ss) a b (openE h xs ss (inAB h a b)).1 ((openE h xs ss (inAB h a b)).2.1 - (openE h xs ss (inAB h a b)).1 + 1).toNat).2, 0)
    else (0, 0, 12) else (0, 0, 12)
  else (0, 0, (openE h xs ss (inAB h a b)).2.2)

set_option maxRecDepth 100000 in
set_option maxHeartbeats 8000000 in
theorem apart_anyR (h : Hd) (xs : List (Int × Int)) (ss : List Sett) (a b : Int) (w : World) (hm : HasM w h xs ss) (hn : xs.length ≤ 100) (hns : ss.length ≤ 100) :
    Calls Try.prog 23 #[h.val, .int .i64 a, .int .i64 b] w (Ret (tup3 (apartE h xs ss a b).1 (apartE h xs ss a b).2.1 (apartE h xs ss a b).2.2) w) := by
  have HM := Lib.hid hm
  have HO : Hid (∀ Y, Below w.heap.size w Y → Calls Try.prog 61 #[.agg #[.slice h.a h.n h.cap, .int .i64 h.eLo, .int .i64 h.eHi, .int .i64 h.images, .int .i64 h.sLo, .int .i64 h.sHi, .slice h.sa h.ns h.scap], .bool (inB a 0 (wrap64 (h.images - 1)) && inB b 0 (wrap64 (h.images - 1)))] Y (Ret (tup3 (openE h xs ss (inAB h a b)).1 (openE h xs ss (inAB h a b)).2.1 (openE h xs ss (inAB h a b)).2.2) Y)) := fun Y hY => open_anyR h xs ss _ Y (hm.below (Nat.le_refl _) hY) hn hns
  have HSe : Hid (∀ Y im, Below w.heap.size w Y → Calls Try.prog 67 #[.agg #[.slice h.a h.n h.cap, .int .i64 h.eLo, .int .i64 h.eHi, .int .i64 h.images, .int .i64 h.sLo, .int .i64 h.sHi, .slice h.sa h.ns h.scap], .int .i64 im] Y (Ret (.bool (hasC im (cntsOf ss))) Y)) := fun Y im hY => seen_anyR h xs ss im Y (hm.below (Nat.le_refl _) hY) hns
  have HP : Hid (validH h xs ss = true → ∀ Y im s, Below w.heap.size w Y → -10000000 ≤ s ∧ s ≤ 10000000 → Calls Try.prog 68 #[.agg #[.slice h.a h.n h.cap, .int .i64 h.eLo, .int .i64 h.eHi, .int .i64 h.images, .int .i64 h.sLo, .int .i64 h.sHi, .slice h.sa h.ns h.scap], .int .i64 (2 ^ h.ns - 1), .int .i64 im, .int .i64 s] Y (Ret (.agg #[.int .i64 (placesS (tellsOf xs h.eLo h.eHi ss) (allS ss) im s).1, .int .i64 (placesS (tellsOf xs h.eLo h.eHi ss) (allS ss) im s).2]) Y)) := fun hv Y im s hY hsr => by
    have := places_anyR h xs ss (allS ss) im s Y (HM.out.below (Nat.le_refl _) hY) hv (allS_rng (valid_has hv).2.2.2.2.2.1) hsr
    unfold allS at this ⊢
    rw [hm.ns] at this ⊢
    exact this
  have HPR : Hid (validH h xs ss = true → ∀ im s, -10000000 ≤ s ∧ s ≤ 10000000 → (-2000000000000 ≤ (placesS (tellsOf xs h.eLo h.eHi ss) (allS ss) im s).1 ∧ (placesS (tellsOf xs h.eLo h.eHi ss) (allS ss) im s).1 ≤ 2000000000000) ∧ -2000000000000 ≤ (placesS (tellsOf xs h.eLo h.eHi ss) (allS ss) im s).2 ∧ (placesS (tellsOf xs h.eLo h.eHi ss) (allS ss) im s).2 ≤ 2000000000000) := fun hv im s hs => placesS_rng (fair_of hv) _ im s hs
  have hC0 : Hid (BoxC ((w.alloc (.cells #[.slice h.a h.n h.cap, .int .i64 h.eLo, .int .i64 h.eHi, .int .i64 h.images, .int .i64 h.sLo, .int .i64 h.sHi, .slice h.sa h.ns h.scap] 29)).alloc (.cells #[.int .i64 0, .int .i64 0] 24)) w.heap.size h) := (boxC_new w h).grown (newB _ _)
  have hS0 : Hid (Slots (w.heap.size + 1) 2 ((w.alloc (.cells #[.slice h.a h.n h.cap, .int .i64 h.eLo, .int .i64 h.eHi, .int .i64 h.images, .int .i64 h.sLo, .int .i64 h.sHi, .slice h.sa h.ns h.scap] 29)).alloc (.cells #[.int .i64 0, .int .i64 0] 24))) := by
    have := slots_new2 (w.alloc (.cells #[.slice h.a h.n h.cap, .int .i64 h.eLo, .int .i64 h.eHi, .int .i64 h.images, .int .i64 h.sLo, .int .i64 h.sHi, .slice h.sa h.ns h.scap] 29)) 24
    show Slots _ _ _
    simpa using this
  have hW0 : Hid (Below w.heap.size w ((w.alloc (.cells #[.slice h.a h.n h.cap, .int .i64 h.eLo, .int .i64 h.eHi, .int .i64 h.images, .int .i64 h.sLo, .int .i64 h.sHi, .slice h.sa h.ns h.scap] 29)).alloc (.cells #[.int .i64 0, .int .i64 0] 24))) := by
    show Below _ _ _
    (repeat (first | assumption | exact Below.refl _ _ | refine BA ?_ _ | refine BC ?_ _ _ (by omega) _ | refine Below.drew ?_ | refine BT ?_ (by assumption)))
  have hns30 : h.ns ≤ 100 := by rw [← hm.ns]; exact hns
  have HV : Hid (validH h xs ss = true → h.ns ≤ 12) := fun hv => by rw [← hm.ns]; exact (valid_has hv).2.2.2.2.2.1
  have HOK := Lib.hid (fun he => openE_ok (h := h) (xs := xs) (ss := ss) (v := inAB h a b) he)
  have HE : Hid (apartE h xs ss a b = if (openE h xs ss (inAB h a b)).2.2 = 0 then if (a == b) = true then (0, 0, 0) else
    if hasC a (cntsOf ss) = true then if hasC b (cntsOf ss) = true then ((apTo (tellsOf xs h.eLo h.eHi ss) (allS ss) a b (openE h xs ss (inAB h a b)).1 ((openE h xs ss (inAB h a b)).2.1 - (openE h xs ss (inAB h a b)).1 + 1).toNat).1,
        (apTo (tellsOf xs h.eLo h.eHi ss) (allS ss) a b (openE h xs ss (inAB h a b)).1 ((openE h xs ss (inAB h a b)).2.1 - (openE h xs ss (inAB h a b)).1 + 1).toNat).2, 0)
    else (0, 0, 12) else (0, 0, 12) else (0, 0, (openE h xs ss (inAB h a b)).2.2)) := rfl
  have HPT : Hid (∀ lo k, apTo (tellsOf xs h.eLo h.eHi ss) (allS ss) a b lo (k + 1) = (mnI (apTo (tellsOf xs h.eLo h.eHi ss) (allS ss) a b lo k).1 ((placesS (tellsOf xs h.eLo h.eHi ss) (allS ss) b (lo + k)).1 - (placesS (tellsOf xs h.eLo h.eHi ss) (allS ss) a (lo + k)).2), mxI (apTo (tellsOf xs h.eLo h.eHi ss) (allS ss) a b lo k).2 ((placesS (tellsOf xs h.eLo h.eHi ss) (allS ss) b (lo + k)).2 - (placesS (tellsOf xs h.eLo h.eHi ss) (allS ss) a (lo + k)).1))) := fun _ _ => rfl
  have HP0 : Hid (∀ lo, apTo (tellsOf xs h.eLo h.eHi ss) (allS ss) a b lo 0 = (1099511627776, -1099511627776)) := fun _ => rfl
  generalize apartE h xs ss a b = R at *
  generalize openE h xs ss (inAB h a b) = O at *
  generalize apTo (tellsOf xs h.eLo h.eHi ss) (allS ss) a b = PT at *
  generalize placesS (tellsOf xs h.eLo h.eHi ss) (allS ss) = PS at *
  obtain ⟨lo, hi, er⟩ := O
  dsimp only at HO HOK HE
  have hInA : Hid (∀ Y, Calls Try.prog 66 #[.int .i64 a, .int .i64 0, .int .i64 (wrap64 (h.images - 1))] Y (Ret (.bool (inB a 0 (wrap64 (h.images - 1)))) Y)) := fun Y => inR_any _ _ _ Y
  have hInB : Hid (∀ Y, Calls Try.prog 66 #[.int .i64 b, .int .i64 0, .int .i64 (wrap64 (h.images - 1))] Y (Ret (.bool (inB b 0 (wrap64 (h.images - 1)))) Y)) := fun Y => inR_any _ _ _ Y
  generalize inB a 0 (wrap64 (h.images - 1)) = iva at *
  generalize inB b 0 (wrap64 (h.images - 1)) = ivb at *
  unfold tup3 at HO
  unfold Hd.val tup3
  clear hm
  go_enter Try.func23, Try.ntmps23
  go_upto_region 1 with fail
  generalize hBw : w.heap.size = B at hC0 hS0 ⊢
  generalize (w.alloc (.cells #[.slice h.a h.n h.cap, .int .i64 h.eLo, .int .i64 h.eHi, .int .i64 h.images, .int .i64 h.sLo, .int .i64 h.sHi, .slice h.sa h.ns h.scap] 29)).alloc (.cells #[.int .i64 0, .int .i64 0] 24) = W at *
  have hwB : w.heap.size ≤ B := by omega
  have hwB1 : w.heap.size ≤ B + 1 := by omega
  clear hBw
  have hSG : Hid (∀ X, Below W.heap.size W X → BoxC X B h) := fun X hX => hC0.out.grown hX
  have hU1 : Hid (∀ Y, Below W.heap.size W Y → Calls Try.prog 66 #[.int .i64 a, .int .i64 0, .int .i64 (wrap64 (h.images - 1))] Y (Ret (.bool iva) Y)) := fun Y _ => hInA.out Y
  have hU2 : Hid (∀ Y, Below W.heap.size W Y → Calls Try.prog 66 #[.int .i64 b, .int .i64 0, .int .i64 (wrap64 (h.images - 1))] Y (Ret (.bool ivb) Y)) := fun Y _ => hInB.out Y
  have hU3 : Hid (∀ Y, Below W.heap.size W Y → Calls Try.prog 61 #[.agg #[.slice h.a h.n h.cap, .int .i64 h.eLo, .int .i64 h.eHi, .int .i64 h.images, .int .i64 h.sLo, .int .i64 h.sHi, .slice h.sa h.ns h.scap], .bool (iva && ivb)] Y (Ret (.tuple #[.agg #[.int .i64 lo, .int .i64 hi], .int .i64 er]) Y)) := fun Y hY => HO.out Y (BT hW0.out hY)
  have hB0 : Below W.heap.size W W.drew := Below.drew (Below.refl _ _)
  have kw : IntKind.i64.wrap (h.images - 1) = wrap64 (h.images - 1) := by first | rfl | (rw [IntKind.wrap_i64]; rfl) | (rw [IntKind.wrap_i64]; unfold wrap64; omega)
  clear HM HO hInA hInB
  go_cut [8, 9] (fun a8 a9 X => ∃ g17 : Nat, a8 = .pointer (some ⟨g17, 0, none⟩) ∧ a9 = .int .i64 er ∧ Two g17 lo hi X ∧ Below W.heap.size W X)
  case first =>
    cases iva
    · have hU4 : Hid (∀ Y, Below W.heap.size W Y → Calls Try.prog 61 #[.agg #[.slice h.a h.n h.cap, .int .i64 h.eLo, .int .i64 h.eHi, .int .i64 h.images, .int .i64 h.sLo, .int .i64 h.sHi, .slice h.sa h.ns h.scap], .bool false] Y (Ret (.tuple #[.agg #[.int .i64 lo, .int .i64 hi], .int .i64 er]) Y)) := hU3
      clear hU3
      refine wp_region_tree (.read 0 (.read 1 (.read 2 (.read 3 (.read 4 (.two 5 (.read 6 (.read 7 (.read 8 (.read 9 (.read 10 (.two 11 (.read 12 (.two 13 (.read 14 (.read 15 (.read 16 (.one 17 (.one 18 (.read 19 (.leaf))))))) 17 (.one 13 (.read 14 (.read 15 (.read 16 (.one 18 (.read 19 (.leaf))))))))) 17 (.one 11 (.read 12 (.one 13 (.read 14 (.read 15 (.read 16 (.one 18 (.read 19 (.leaf))))))))))))))) 17 (.one 5 (.read 6 (.read 7 (.read 8 (.read 9 (.read 10 (.one 11 (.read 12 (.one 13 (.read 14 (.read 15 (.read 16 (.one 18 (.read 19 (.leaf))))))))))))))))))))) (fun w' => w'.cell? ⟨B, 0, none⟩ = some (.slice h.a h.n h.cap) ∧ w'.cell? ⟨B, 1, none⟩ = some (.int .i64 h.eLo) ∧ w'.cell? ⟨B, 2, none⟩ = some (.int .i64 h.eHi) ∧ w'.cell? ⟨B, 3, none⟩ = some (.int .i64 h.images) ∧ w'.cell? ⟨B, 4, none⟩ = some (.int .i64 h.sLo) ∧ w'.cell? ⟨B, 5, none⟩ = some (.int .i64 h.sHi) ∧ w'.cell? ⟨B, 6, none⟩ = some (.slice h.sa h.ns h.scap)) (by kernel_rfl) (by kernel_rfl) (fun _ _ d _ _ h => by cases d <;> exact h) (hSG.out _ hB0) ?_
      generalize W.drew = X0 at *
      repeat (first | (refine tr_read rfl (by rfl) _ (fun w' hS => by (try dsimp only at hS); go_simp; (try with_reducible rfl)) ?_; (try simp only [Act.put, List.setIfInBounds_toArray, List.set_cons_zero, List.set_cons_succ])) | (refine tr_skip rfl (by rfl) ?_; (try simp only [Act.put, List.setIfInBounds_toArray, List.set_cons_zero, List.set_cons_succ])))
      refine ⟨?_, ?_⟩
      · skip
        refine tr_step rfl (by rfl) (fun K hK => ?_)
        go_simp
        refine (hU1.out X0 hB0).mono ?_
        rintro e X1 ⟨rfl, hb1⟩
        have hB1 := BT hB0 hb1
        refine hK _ _ (hSG.out _ hB1) ?_
        clear hK K hB0 hb1
        (try simp only [Act.put, List.setIfInBounds_toArray, List.set_cons_zero, List.set_cons_succ])
        repeat (first | (refine tr_read rfl (by rfl) _ (fun w' hS => by (try dsimp only at hS); go_simp; (try with_reducible rfl)) ?_; (try simp only [Act.put, List.setIfInBounds_toArray, List.set_cons_zero, List.set_cons_succ])) | (refine tr_skip rfl (by rfl) ?_; (try simp only [Act.put, List.setIfInBounds_toArray, List.set_cons_zero, List.set_cons_succ])))
        refine ⟨?_, ?_⟩
        · skip
          refine tr_none rfl (by rfl) ?_
          (try simp only [Act.put, List.setIfInBounds_toArray, List.set_cons_zero, List.set_cons_succ])
          repeat (first | (refine tr_read rfl (by rfl) _ (fun w' hS => by (try dsimp only at hS); go_simp; (try with_reducible rfl)) ?_; (try simp only [Act.put, List.setIfInBounds_toArray, List.set_cons_zero, List.set_cons_succ])) | (refine tr_skip rfl (by rfl) ?_; (try simp only [Act.put, List.setIfInBounds_toArray, List.set_cons_zero, List.set_cons_succ])))
          refine ⟨?_, ?_⟩
          · skip
            refine tr_step rfl (by rfl) (fun K hK => ?_)
            go_simp
            refine (hU4.out X1 hB1).mono ?_
            rintro e X2 ⟨rfl, hb2⟩
            have hB2 := BT hB1 hb2
            refine hK _ _ (hSG.out _ hB2) ?_
            clear hK K hB1 hb2
            (try simp only [Act.put, List.setIfInBounds_toArray, List.set_cons_zero, List.set_cons_succ])
            repeat (first | (refine tr_read rfl (by rfl) _ (fun w' hS => by (try dsimp only at hS); go_simp; (try with_reducible rfl)) ?_; (try simp only [Act.put, List.setIfInBounds_toArray, List.set_cons_zero, List.set_cons_succ])) | (refine tr_skip rfl (by rfl) ?_; (try simp only [Act.put, List.setIfInBounds_toArray, List.set_cons_zero, List.set_cons_succ])))
            refine tr_step rfl (by rfl) (fun K hK => ?_)
            have hB3 := BA hB2 (.cells #[.int .i64 0, .int .i64 0] 24)
            have h17_3 := slots_new2 X2 24
            have hg17 := hB2.size
            go_simp
            generalize X2.heap.size = g17 at *
            generalize X2.alloc (.cells #[.int .i64 0, .int .i64 0] 24) = X3 at *
            refine hK _ _ (hSG.out _ hB3) ?_
            clear hK K hB2 
            (try simp only [Act.put, List.setIfInBounds_toArray, List.set_cons_zero, List.set_cons_succ])
            refine tr_step rfl (by rfl) (fun K hK => ?_)
            obtain ⟨u0_4, q0_4, f0_4⟩ := h17_3.get 0 (by omega)
            obtain ⟨u1_4, q1_4, f1_4⟩ := h17_3.get 1 (by omega)
            have hB4 := BC (BC hB3 g17 0 hg17 (.int .i64 (lo))) g17 1 hg17 (.int .i64 (hi))
            have h17_4 := two_set h17_3 (lo) (hi)
            go_simp
            clear q0_4 f0_4 q1_4 f1_4
            generalize (X3.setCell ⟨g17, 0, none⟩ (.int .i64 (lo))).setCell ⟨g17, 1, none⟩ (.int .i64 (hi)) = X4 at *
            refine hK _ _ (hSG.out _ hB4) ?_
            clear hK K hB3 h17_3
            (try simp only [Act.put, List.setIfInBounds_toArray, List.set_cons_zero, List.set_cons_succ])
            repeat (first | (refine tr_read rfl (by rfl) _ (fun w' hS => by (try dsimp only at hS); go_simp; (try with_reducible rfl)) ?_; (try simp only [Act.put, List.setIfInBounds_toArray, List.set_cons_zero, List.set_cons_succ])) | (refine tr_skip rfl (by rfl) ?_; (try simp only [Act.put, List.setIfInBounds_toArray, List.set_cons_zero, List.set_cons_succ])))
            show Exit.then _ _ Exit.normal _ _
            go_wp2_with fail
            go_meet
            exact ⟨g17, rfl, rfl, h17_4, hB4⟩
          · skip
            refine tr_step rfl (by rfl) (fun K hK => ?_)
            have hB5 := BA hB1 (.cells #[.int .i64 0, .int .i64 0] 24)
            have h17_5 := slots_new2 X1 24
            have hg17 := hB1.size
            go_simp
            generalize X1.heap.size = g17 at *
            generalize X1.alloc (.cells #[.int .i64 0, .int .i64 0] 24) = X5 at *
            refine hK _ _ (hSG.out _ hB5) ?_
            clear hK K hB1 
            (try simp only [Act.put, List.setIfInBounds_toArray, List.set_cons_zero, List.set_cons_succ])
            refine tr_step rfl (by rfl) (fun K hK => ?_)
            go_simp
            refine (hU4.out X5 hB5).mono ?_
            rintro e X6 ⟨rfl, hb6⟩
            have hB6 := BT hB5 hb6
            have h17_6 := h17_5.below hb6 (h17_5.lt2)
            refine hK _ _ (hSG.out _ hB6) ?_
            clear hK K hB5 h17_5 hb6
            (try simp only [Act.put, List.setIfInBounds_toArray, List.set_cons_zero, List.set_cons_succ])
            repeat (first | (refine tr_read rfl (by rfl) _ (fun w' hS => by (try dsimp only at hS); go_simp; (try with_reducible rfl)) ?_; (try simp only [Act.put, List.setIfInBounds_toArray, List.set_cons_zero, List.set_cons_succ])) | (refine tr_skip rfl (by rfl) ?_; (try simp only [Act.put, List.setIfInBounds_toArray, List.set_cons_zero, List.set_cons_succ])))
            refine tr_step rfl (by rfl) (fun K hK => ?_)
            obtain ⟨u0_7, q0_7, f0_7⟩ := h17_6.get 0 (by omega)
            obtain ⟨u1_7, q1_7, f1_7⟩ := h17_6.get 1 (by omega)
            have hB7 := BC (BC hB6 g17 0 hg17 (.int .i64 (lo))) g17 1 hg17 (.int .i64 (hi))
            have h17_7 := two_set h17_6 (lo) (hi)
            go_simp
            clear q0_7 f0_7 q1_7 f1_7
            generalize (X6.setCell ⟨g17, 0, none⟩ (.int .i64 (lo))).setCell ⟨g17, 1, none⟩ (.int .i64 (hi)) = X7 at *
            refine hK _ _ (hSG.out _ hB7) ?_
            clear hK K hB6 h17_6
            (try simp only [Act.put, List.setIfInBounds_toArray, List.set_cons_zero, List.set_cons_succ])
            repeat (first | (refine tr_read rfl (by rfl) _ (fun w' hS => by (try dsimp only at hS); go_simp; (try with_reducible rfl)) ?_; (try simp only [Act.put, List.setIfInBounds_toArray, List.set_cons_zero, List.set_cons_succ])) | (refine tr_skip rfl (by rfl) ?_; (try simp only [Act.put, List.setIfInBounds_toArray, List.set_cons_zero, List.set_cons_succ])))
            show Exit.then _ _ Exit.normal _ _
            go_wp2_with fail
            go_meet
            exact ⟨g17, rfl, rfl, h17_7, hB7⟩
        · skip
          refine tr_step rfl (by rfl) (fun K hK => ?_)
          have hB8 := BA hB1 (.cells #[.int .i64 0, .int .i64 0] 24)
          have h17_8 := slots_new2 X1 24
          have hg17 := hB1.size
          go_simp
          generalize X1.heap.size = g17 at *
          generalize X1.alloc (.cells #[.int .i64 0, .int .i64 0] 24) = X8 at *
          refine hK _ _ (hSG.out _ hB8) ?_
          clear hK K hB1 
          (try simp only [Act.put, List.setIfInBounds_toArray, List.set_cons_zero, List.set_cons_succ])
          refine tr_none rfl (by rfl) ?_
          (try simp only [Act.put, List.setIfInBounds_toArray, List.set_cons_zero, List.set_cons_succ])
          repeat (first | (refine tr_read rfl (by rfl) _ (fun w' hS => by (try dsimp only at hS); go_simp; (try with_reducible rfl)) ?_; (try simp only [Act.put, List.setIfInBounds_toArray, List.set_cons_zero, List.set_cons_succ])) | (refine tr_skip rfl (by rfl) ?_; (try simp only [Act.put, List.setIfInBounds_toArray, List.set_cons_zero, List.set_cons_succ])))
          refine tr_step rfl (by rfl) (fun K hK => ?_)
          go_simp
          refine (hU4.out X8 hB8).mono ?_
          rintro e X9 ⟨rfl, hb9⟩
          have hB9 := BT hB8 hb9
          have h17_9 := h17_8.below hb9 (h17_8.lt2)
          refine hK _ _ (hSG.out _ hB9) ?_
          clear hK K hB8 h17_8 hb9
          (try simp only [Act.put, List.setIfInBounds_toArray, List.set_cons_zero, List.set_cons_succ])
          repeat (first | (refine tr_read rfl (by rfl) _ (fun w' hS => by (try dsimp only at hS); go_simp; (try with_reducible rfl)) ?_; (try simp only [Act.put, List.setIfInBounds_toArray, List.set_cons_zero, List.set_cons_succ])) | (refine tr_skip rfl (by rfl) ?_; (try simp only [Act.put, List.setIfInBounds_toArray, List.set_cons_zero, List.set_cons_succ])))
          refine tr_step rfl (by rfl) (fun K hK => ?_)
          obtain ⟨u0_10, q0_10, f0_10⟩ := h17_9.get 0 (by omega)
          obtain ⟨u1_10, q1_10, f1_10⟩ := h17_9.get 1 (by omega)
          have hB10 := BC (BC hB9 g17 0 hg17 (.int .i64 (lo))) g17 1 hg17 (.int .i64 (hi))
          have h17_10 := two_set h17_9 (lo) (hi)
          go_simp
          clear q0_10 f0_10 q1_10 f1_10
          generalize (X9.setCell ⟨g17, 0, none⟩ (.int .i64 (lo))).setCell ⟨g17, 1, none⟩ (.int .i64 (hi)) = X10 at *
          refine hK _ _ (hSG.out _ hB10) ?_
          clear hK K hB9 h17_9
          (try simp only [Act.put, List.setIfInBounds_toArray, List.set_cons_zero, List.set_cons_succ])
          repeat (first | (refine tr_read rfl (by rfl) _ (fun w' hS => by (try dsimp only at hS); go_simp; (try with_reducible rfl)) ?_; (try simp only [Act.put, List.setIfInBounds_toArray, List.set_cons_zero, List.set_cons_succ])) | (refine tr_skip rfl (by rfl) ?_; (try simp only [Act.put, List.setIfInBounds_toArray, List.set_cons_zero, List.set_cons_succ])))
          show Exit.then _ _ Exit.normal _ _
          go_wp2_with fail
          go_meet
          exact ⟨g17, rfl, rfl, h17_10, hB10⟩
      · skip
        refine tr_step rfl (by rfl) (fun K hK => ?_)
        have hB11 := BA hB0 (.cells #[.int .i64 0, .int .i64 0] 24)
        have h17_11 := slots_new2 X0 24
        have hg17 := hB0.size
        go_simp
        generalize X0.heap.size = g17 at *
        generalize X0.alloc (.cells #[.int .i64 0, .int .i64 0] 24) = X11 at *
        refine hK _ _ (hSG.out _ hB11) ?_
        clear hK K hB0 
        (try simp only [Act.put, List.setIfInBounds_toArray, List.set_cons_zero, List.set_cons_succ])
        refine tr_step rfl (by rfl) (fun K hK => ?_)
        go_simp
        refine (hU1.out X11 hB11).mono ?_
        rintro e X12 ⟨rfl, hb12⟩
        have hB12 := BT hB11 hb12
        have h17_12 := h17_11.below hb12 (h17_11.lt2)
        refine hK _ _ (hSG.out _ hB12) ?_
        clear hK K hB11 h17_11 hb12
        (try simp only [Act.put, List.setIfInBounds_toArray, List.set_cons_zero, List.set_cons_succ])
        repeat (first | (refine tr_read rfl (by rfl) _ (fun w' hS => by (try dsimp only at hS); go_simp; (try with_reducible rfl)) ?_; (try simp only [Act.put, List.setIfInBounds_toArray, List.set_cons_zero, List.set_cons_succ])) | (refine tr_skip rfl (by rfl) ?_; (try simp only [Act.put, List.setIfInBounds_toArray, List.set_cons_zero, List.set_cons_succ])))
        refine tr_none rfl (by rfl) ?_
        (try simp only [Act.put, List.setIfInBounds_toArray, List.set_cons_zero, List.set_cons_succ])
        repeat (first | (refine tr_read rfl (by rfl) _ (fun w' hS => by (try dsimp only at hS); go_simp; (try with_reducible rfl)) ?_; (try simp only [Act.put, List.setIfInBounds_toArray, List.set_cons_zero, List.set_cons_succ])) | (refine tr_skip rfl (by rfl) ?_; (try simp only [Act.put, List.setIfInBounds_toArray, List.set_cons_zero, List.set_cons_succ])))
        refine tr_step rfl (by rfl) (fun K hK => ?_)
        go_simp
        refine (hU4.out X12 hB12).mono ?_
        rintro e X13 ⟨rfl, hb13⟩
        have hB13 := BT hB12 hb13
        have h17_13 := h17_12.below hb13 (h17_12.lt2)
        refine hK _ _ (hSG.out _ hB13) ?_
        clear hK K hB12 h17_12 hb13
        (try simp only [Act.put, List.setIfInBounds_toArray, List.set_cons_zero, List.set_cons_succ])
        repeat (first | (refine tr_read rfl (by rfl) _ (fun w' hS => by (try dsimp only at hS); go_simp; (try with_reducible rfl)) ?_; (try simp only [Act.put, List.setIfInBounds_toArray, List.set_cons_zero, List.set_cons_succ])) | (refine tr_skip rfl (by rfl) ?_; (try simp only [Act.put, List.setIfInBounds_toArray, List.set_cons_zero, List.set_cons_succ])))
        refine tr_step rfl (by rfl) (fun K hK => ?_)
        obtain ⟨u0_14, q0_14, f0_14⟩ := h17_13.get 0 (by omega)
        obtain ⟨u1_14, q1_14, f1_14⟩ := h17_13.get 1 (by omega)
        have hB14 := BC (BC hB13 g17 0 hg17 (.int .i64 (lo))) g17 1 hg17 (.int .i64 (hi))
        have h17_14 := two_set h17_13 (lo) (hi)
        go_simp
        clear q0_14 f0_14 q1_14 f1_14
        generalize (X13.setCell ⟨g17, 0, none⟩ (.int .i64 (lo))).setCell ⟨g17, 1, none⟩ (.int .i64 (hi)) = X14 at *
        refine hK _ _ (hSG.out _ hB14) ?_
        clear hK K hB13 h17_13
        (try simp only [Act.put, List.setIfInBounds_toArray, List.set_cons_zero, List.set_cons_succ])
        repeat (first | (refine tr_read rfl (by rfl) _ (fun w' hS => by (try dsimp only at hS); go_simp; (try with_reducible rfl)) ?_; (try simp only [Act.put, List.setIfInBounds_toArray, List.set_cons_zero, List.set_cons_succ])) | (refine tr_skip rfl (by rfl) ?_; (try simp only [Act.put, List.setIfInBounds_toArray, List.set_cons_zero, List.set_cons_succ])))
        show Exit.then _ _ Exit.normal _ _
        go_wp2_with fail
        go_meet
        exact ⟨g17, rfl, rfl, h17_14, hB14⟩
    · have hU4 : Hid (∀ Y, Below W.heap.size W Y → Calls Try.prog 61 #[.agg #[.slice h.a h.n h.cap, .int .i64 h.eLo, .int .i64 h.eHi, .int .i64 h.images, .int .i64 h.sLo, .int .i64 h.sHi, .slice h.sa h.ns h.scap], .bool ivb] Y (Ret (.tuple #[.agg #[.int .i64 lo, .int .i64 hi], .int .i64 er]) Y)) := hU3
      clear hU3
      refine wp_region_tree (.read 0 (.read 1 (.read 2 (.read 3 (.read 4 (.two 5 (.read 6 (.read 7 (.read 8 (.read 9 (.read 10 (.two 11 (.read 12 (.two 13 (.read 14 (.read 15 (.read 16 (.one 17 (.one 18 (.read 19 (.leaf))))))) 17 (.one 13 (.read 14 (.read 15 (.read 16 (.one 18 (.read 19 (.leaf))))))))) 17 (.one 11 (.read 12 (.one 13 (.read 14 (.read 15 (.read 16 (.one 18 (.read 19 (.leaf))))))))))))))) 17 (.one 5 (.read 6 (.read 7 (.read 8 (.read 9 (.read 10 (.one 11 (.read 12 (.one 13 (.read 14 (.read 15 (.read 16 (.one 18 (.read 19 (.leaf))))))))))))))))))))) (fun w' => w'.cell? ⟨B, 0, none⟩ = some (.slice h.a h.n h.cap) ∧ w'.cell? ⟨B, 1, none⟩ = some (.int .i64 h.eLo) ∧ w'.cell? ⟨B, 2, none⟩ = some (.int .i64 h.eHi) ∧ w'.cell? ⟨B, 3, none⟩ = some (.int .i64 h.images) ∧ w'.cell? ⟨B, 4, none⟩ = some (.int .i64 h.sLo) ∧ w'.cell? ⟨B, 5, none⟩ = some (.int .i64 h.sHi) ∧ w'.cell? ⟨B, 6, none⟩ = some (.slice h.sa h.ns h.scap)) (by kernel_rfl) (by kernel_rfl) (fun _ _ d _ _ h => by cases d <;> exact h) (hSG.out _ hB0) ?_
      generalize W.drew = X0 at *
      repeat (first | (refine tr_read rfl (by rfl) _ (fun w' hS => by (try dsimp only at hS); go_simp; (try with_reducible rfl)) ?_; (try simp only [Act.put, List.setIfInBounds_toArray, List.set_cons_zero, List.set_cons_succ])) | (refine tr_skip rfl (by rfl) ?_; (try simp only [Act.put, List.setIfInBounds_toArray, List.set_cons_zero, List.set_cons_succ])))
      refine ⟨?_, ?_⟩
      · skip
        refine tr_step rfl (by rfl) (fun K hK => ?_)
        go_simp
        refine (hU1.out X0 hB0).mono ?_
        rintro e X1 ⟨rfl, hb1⟩
        have hB1 := BT hB0 hb1
        refine hK _ _ (hSG.out _ hB1) ?_
        clear hK K hB0 hb1
        (try simp only [Act.put, List.setIfInBounds_toArray, List.set_cons_zero, List.set_cons_succ])
        repeat (first | (refine tr_read rfl (by rfl) _ (fun w' hS => by (try dsimp only at hS); go_simp; (try with_reducible rfl)) ?_; (try simp only [Act.put, List.setIfInBounds_toArray, List.set_cons_zero, List.set_cons_succ])) | (refine tr_skip rfl (by rfl) ?_; (try simp only [Act.put, List.setIfInBounds_toArray, List.set_cons_zero, List.set_cons_succ])))
        refine ⟨?_, ?_⟩
        · skip
          refine tr_step rfl (by rfl) (fun K hK => ?_)
          go_simp
          refine (hU2.out X1 hB1).mono ?_
          rintro e X2 ⟨rfl, hb2⟩
          have hB2 := BT hB1 hb2
          refine hK _ _ (hSG.out _ hB2) ?_
          clear hK K hB1 hb2
          (try simp only [Act.put, List.setIfInBounds_toArray, List.set_cons_zero, List.set_cons_succ])
          repeat (first | (refine tr_read rfl (by rfl) _ (fun w' hS => by (try dsimp only at hS); go_simp; (try with_reducible rfl)) ?_; (try simp only [Act.put, List.setIfInBounds_toArray, List.set_cons_zero, List.set_cons_succ])) | (refine tr_skip rfl (by rfl) ?_; (try simp only [Act.put, List.setIfInBounds_toArray, List.set_cons_zero, List.set_cons_succ])))
          refine ⟨?_, ?_⟩
          · skip
            refine tr_step rfl (by rfl) (fun K hK => ?_)
            go_simp
            refine (hU4.out X2 hB2).mono ?_
            rintro e X3 ⟨rfl, hb3⟩
            have hB3 := BT hB2 hb3
            refine hK _ _ (hSG.out _ hB3) ?_
            clear hK K hB2 hb3
            (try simp only [Act.put, List.setIfInBounds_toArray, List.set_cons_zero, List.set_cons_succ])
            repeat (first | (refine tr_read rfl (by rfl) _ (fun w' hS => by (try dsimp only at hS); go_simp; (try with_reducible rfl)) ?_; (try simp only [Act.put, List.setIfInBounds_toArray, List.set_cons_zero, List.set_cons_succ])) | (refine tr_skip rfl (by rfl) ?_; (try simp only [Act.put, List.setIfInBounds_toArray, List.set_cons_zero, List.set_cons_succ])))
            refine tr_step rfl (by rfl) (fun K hK => ?_)
            have hB4 := BA hB3 (.cells #[.int .i64 0, .int .i64 0] 24)
            have h17_4 := slots_new2 X3 24
            have hg17 := hB3.size
            go_simp
            generalize X3.heap.size = g17 at *
            generalize X3.alloc (.cells #[.int .i64 0, .int .i64 0] 24) = X4 at *
            refine hK _ _ (hSG.out _ hB4) ?_
            clear hK K hB3 
            (try simp only [Act.put, List.setIfInBounds_toArray, List.set_cons_zero, List.set_cons_succ])
            refine tr_step rfl (by rfl) (fun K hK => ?_)
            obtain ⟨u0_5, q0_5, f0_5⟩ := h17_4.get 0 (by omega)
            obtain ⟨u1_5, q1_5, f1_5⟩ := h17_4.get 1 (by omega)
            have hB5 := BC (BC hB4 g17 0 hg17 (.int .i64 (lo))) g17 1 hg17 (.int .i64 (hi))
            have h17_5 := two_set h17_4 (lo) (hi)
            go_simp
            clear q0_5 f0_5 q1_5 f1_5
            generalize (X4.setCell ⟨g17, 0, none⟩ (.int .i64 (lo))).setCell ⟨g17, 1, none⟩ (.int .i64 (hi)) = X5 at *
            refine hK _ _ (hSG.out _ hB5) ?_
            clear hK K hB4 h17_4
            (try simp only [Act.put, List.setIfInBounds_toArray, List.set_cons_zero, List.set_cons_succ])
            repeat (first | (refine tr_read rfl (by rfl) _ (fun w' hS => by (try dsimp only at hS); go_simp; (try with_reducible rfl)) ?_; (try simp only [Act.put, List.setIfInBounds_toArray, List.set_cons_zero, List.set_cons_succ])) | (refine tr_skip rfl (by rfl) ?_; (try simp only [Act.put, List.setIfInBounds_toArray, List.set_cons_zero, List.set_cons_succ])))
            show Exit.then _ _ Exit.normal _ _
            go_wp2_with fail
            go_meet
            exact ⟨g17, rfl, rfl, h17_5, hB5⟩
          · skip
            refine tr_step rfl (by rfl) (fun K hK => ?_)
            have hB6 := BA hB2 (.cells #[.int .i64 0, .int .i64 0] 24)
            have h17_6 := slots_new2 X2 24
            have hg17 := hB2.size
            go_simp
            generalize X2.heap.size = g17 at *
            generalize X2.alloc (.cells #[.int .i64 0, .int .i64 0] 24) = X6 at *
            refine hK _ _ (hSG.out _ hB6) ?_
            clear hK K hB2 
            (try simp only [Act.put, List.setIfInBounds_toArray, List.set_cons_zero, List.set_cons_succ])
            refine tr_step rfl (by rfl) (fun K hK => ?_)
            go_simp
            refine (hU4.out X6 hB6).mono ?_
            rintro e X7 ⟨rfl, hb7⟩
            have hB7 := BT hB6 hb7
            have h17_7 := h17_6.below hb7 (h17_6.lt2)
            refine hK _ _ (hSG.out _ hB7) ?_
            clear hK K hB6 h17_6 hb7
            (try simp only [Act.put, List.setIfInBounds_toArray, List.set_cons_zero, List.set_cons_succ])
            repeat (first | (refine tr_read rfl (by rfl) _ (fun w' hS => by (try dsimp only at hS); go_simp; (try with_reducible rfl)) ?_; (try simp only [Act.put, List.setIfInBounds_toArray, List.set_cons_zero, List.set_cons_succ])) | (refine tr_skip rfl (by rfl) ?_; (try simp only [Act.put, List.setIfInBounds_toArray, List.set_cons_zero, List.set_cons_succ])))
            refine tr_step rfl (by rfl) (fun K hK => ?_)
            obtain ⟨u0_8, q0_8, f0_8⟩ := h17_7.get 0 (by omega)
            obtain ⟨u1_8, q1_8, f1_8⟩ := h17_7.get 1 (by omega)
            have hB8 := BC (BC hB7 g17 0 hg17 (.int .i64 (lo))) g17 1 hg17 (.int .i64 (hi))
            have h17_8 := two_set h17_7 (lo) (hi)
            go_simp
            clear q0_8 f0_8 q1_8 f1_8
            generalize (X7.setCell ⟨g17, 0, none⟩ (.int .i64 (lo))).setCell ⟨g17, 1, none⟩ (.int .i64 (hi)) = X8 at *
            refine hK _ _ (hSG.out _ hB8) ?_
            clear hK K hB7 h17_7
            (try simp only [Act.put, List.setIfInBounds_toArray, List.set_cons_zero, List.set_cons_succ])
            repeat (first | (refine tr_read rfl (by rfl) _ (fun w' hS => by (try dsimp only at hS); go_simp; (try with_reducible rfl)) ?_; (try simp only [Act.put, List.setIfInBounds_toArray, List.set_cons_zero, List.set_cons_succ])) | (refine tr_skip rfl (by rfl) ?_; (try simp only [Act.put, List.setIfInBounds_toArray, List.set_cons_zero, List.set_cons_succ])))
            show Exit.then _ _ Exit.normal _ _
            go_wp2_with fail
            go_meet
            exact ⟨g17, rfl, rfl, h17_8, hB8⟩
        · skip
          refine tr_step rfl (by rfl) (fun K hK => ?_)
          have hB9 := BA hB1 (.cells #[.int .i64 0, .int .i64 0] 24)
          have h17_9 := slots_new2 X1 24
          have hg17 := hB1.size
          go_simp
          generalize X1.heap.size = g17 at *
          generalize X1.alloc (.cells #[.int .i64 0, .int .i64 0] 24) = X9 at *
          refine hK _ _ (hSG.out _ hB9) ?_
          clear hK K hB1 
          (try simp only [Act.put, List.setIfInBounds_toArray, List.set_cons_zero, List.set_cons_succ])
          refine tr_step rfl (by rfl) (fun K hK => ?_)
          go_simp
          refine (hU2.out X9 hB9).mono ?_
          rintro e X10 ⟨rfl, hb10⟩
          have hB10 := BT hB9 hb10
          have h17_10 := h17_9.below hb10 (h17_9.lt2)
          refine hK _ _ (hSG.out _ hB10) ?_
          clear hK K hB9 h17_9 hb10
          (try simp only [Act.put, List.setIfInBounds_toArray, List.set_cons_zero, List.set_cons_succ])
          repeat (first | (refine tr_read rfl (by rfl) _ (fun w' hS => by (try dsimp only at hS); go_simp; (try with_reducible rfl)) ?_; (try simp only [Act.put, List.setIfInBounds_toArray, List.set_cons_zero, List.set_cons_succ])) | (refine tr_skip rfl (by rfl) ?_; (try simp only [Act.put, List.setIfInBounds_toArray, List.set_cons_zero, List.set_cons_succ])))
          refine tr_step rfl (by rfl) (fun K hK => ?_)
          go_simp
          refine (hU4.out X10 hB10).mono ?_
          rintro e X11 ⟨rfl, hb11⟩
          have hB11 := BT hB10 hb11
          have h17_11 := h17_10.below hb11 (h17_10.lt2)
          refine hK _ _ (hSG.out _ hB11) ?_
          clear hK K hB10 h17_10 hb11
          (try simp only [Act.put, List.setIfInBounds_toArray, List.set_cons_zero, List.set_cons_succ])
          repeat (first | (refine tr_read rfl (by rfl) _ (fun w' hS => by (try dsimp only at hS); go_simp; (try with_reducible rfl)) ?_; (try simp only [Act.put, List.setIfInBounds_toArray, List.set_cons_zero, List.set_cons_succ])) | (refine tr_skip rfl (by rfl) ?_; (try simp only [Act.put, List.setIfInBounds_toArray, List.set_cons_zero, List.set_cons_succ])))
          refine tr_step rfl (by rfl) (fun K hK => ?_)
          obtain ⟨u0_12, q0_12, f0_12⟩ := h17_11.get 0 (by omega)
          obtain ⟨u1_12, q1_12, f1_12⟩ := h17_11.get 1 (by omega)
          have hB12 := BC (BC hB11 g17 0 hg17 (.int .i64 (lo))) g17 1 hg17 (.int .i64 (hi))
          have h17_12 := two_set h17_11 (lo) (hi)
          go_simp
          clear q0_12 f0_12 q1_12 f1_12
          generalize (X11.setCell ⟨g17, 0, none⟩ (.int .i64 (lo))).setCell ⟨g17, 1, none⟩ (.int .i64 (hi)) = X12 at *
          refine hK _ _ (hSG.out _ hB12) ?_
          clear hK K hB11 h17_11
          (try simp only [Act.put, List.setIfInBounds_toArray, List.set_cons_zero, List.set_cons_succ])
          repeat (first | (refine tr_read rfl (by rfl) _ (fun w' hS => by (try dsimp only at hS); go_simp; (try with_reducible rfl)) ?_; (try simp only [Act.put, List.setIfInBounds_toArray, List.set_cons_zero, List.set_cons_succ])) | (refine tr_skip rfl (by rfl) ?_; (try simp only [Act.put, List.setIfInBounds_toArray, List.set_cons_zero, List.set_cons_succ])))
          show Exit.then _ _ Exit.normal _ _
          go_wp2_with fail
          go_meet
          exact ⟨g17, rfl, rfl, h17_12, hB12⟩
      · skip
        refine tr_step rfl (by rfl) (fun K hK => ?_)
        have hB13 := BA hB0 (.cells #[.int .i64 0, .int .i64 0] 24)
        have h17_13 := slots_new2 X0 24
        have hg17 := hB0.size
        go_simp
        generalize X0.heap.size = g17 at *
        generalize X0.alloc (.cells #[.int .i64 0, .int .i64 0] 24) = X13 at *
        refine hK _ _ (hSG.out _ hB13) ?_
        clear hK K hB0 
        (try simp only [Act.put, List.setIfInBounds_toArray, List.set_cons_zero, List.set_cons_succ])
        refine tr_step rfl (by rfl) (fun K hK => ?_)
        go_simp
        refine (hU1.out X13 hB13).mono ?_
        rintro e X14 ⟨rfl, hb14⟩
        have hB14 := BT hB13 hb14
        have h17_14 := h17_13.below hb14 (h17_13.lt2)
        refine hK _ _ (hSG.out _ hB14) ?_
        clear hK K hB13 h17_13 hb14
        (try simp only [Act.put, List.setIfInBounds_toArray, List.set_cons_zero, List.set_cons_succ])
        repeat (first | (refine tr_read rfl (by rfl) _ (fun w' hS => by (try dsimp only at hS); go_simp; (try with_reducible rfl)) ?_; (try simp only [Act.put, List.setIfInBounds_toArray, List.set_cons_zero, List.set_cons_succ])) | (refine tr_skip rfl (by rfl) ?_; (try simp only [Act.put, List.setIfInBounds_toArray, List.set_cons_zero, List.set_cons_succ])))
        refine tr_step rfl (by rfl) (fun K hK => ?_)
        go_simp
        refine (hU2.out X14 hB14).mono ?_
        rintro e X15 ⟨rfl, hb15⟩
        have hB15 := BT hB14 hb15
        have h17_15 := h17_14.below hb15 (h17_14.lt2)
        refine hK _ _ (hSG.out _ hB15) ?_
        clear hK K hB14 h17_14 hb15
        (try simp only [Act.put, List.setIfInBounds_toArray, List.set_cons_zero, List.set_cons_succ])
        repeat (first | (refine tr_read rfl (by rfl) _ (fun w' hS => by (try dsimp only at hS); go_simp; (try with_reducible rfl)) ?_; (try simp only [Act.put, List.setIfInBounds_toArray, List.set_cons_zero, List.set_cons_succ])) | (refine tr_skip rfl (by rfl) ?_; (try simp only [Act.put, List.setIfInBounds_toArray, List.set_cons_zero, List.set_cons_succ])))
        refine tr_step rfl (by rfl) (fun K hK => ?_)
        go_simp
        refine (hU4.out X15 hB15).mono ?_
        rintro e X16 ⟨rfl, hb16⟩
        have hB16 := BT hB15 hb16
        have h17_16 := h17_15.below hb16 (h17_15.lt2)
        refine hK _ _ (hSG.out _ hB16) ?_
        clear hK K hB15 h17_15 hb16
        (try simp only [Act.put, List.setIfInBounds_toArray, List.set_cons_zero, List.set_cons_succ])
        repeat (first | (refine tr_read rfl (by rfl) _ (fun w' hS => by (try dsimp only at hS); go_simp; (try with_reducible rfl)) ?_; (try simp only [Act.put, List.setIfInBounds_toArray, List.set_cons_zero, List.set_cons_succ])) | (refine tr_skip rfl (by rfl) ?_; (try simp only [Act.put, List.setIfInBounds_toArray, List.set_cons_zero, List.set_cons_succ])))
        refine tr_step rfl (by rfl) (fun K hK => ?_)
        obtain ⟨u0_17, q0_17, f0_17⟩ := h17_16.get 0 (by omega)
        obtain ⟨u1_17, q1_17, f1_17⟩ := h17_16.get 1 (by omega)
        have hB17 := BC (BC hB16 g17 0 hg17 (.int .i64 (lo))) g17 1 hg17 (.int .i64 (hi))
        have h17_17 := two_set h17_16 (lo) (hi)
        go_simp
        clear q0_17 f0_17 q1_17 f1_17
        generalize (X16.setCell ⟨g17, 0, none⟩ (.int .i64 (lo))).setCell ⟨g17, 1, none⟩ (.int .i64 (hi)) = X17 at *
        refine hK _ _ (hSG.out _ hB17) ?_
        clear hK K hB16 h17_16
        (try simp only [Act.put, List.setIfInBounds_toArray, List.set_cons_zero, List.set_cons_succ])
        repeat (first | (refine tr_read rfl (by rfl) _ (fun w' hS => by (try dsimp only at hS); go_simp; (try with_reducible rfl)) ?_; (try simp only [Act.put, List.setIfInBounds_toArray, List.set_cons_zero, List.set_cons_succ])) | (refine tr_skip rfl (by rfl) ?_; (try simp only [Act.put, List.setIfInBounds_toArray, List.set_cons_zero, List.set_cons_succ])))
        show Exit.then _ _ Exit.normal _ _
        go_wp2_with fail
        go_meet
        exact ⟨g17, rfl, rfl, h17_17, hB17⟩
  case rest =>
    obtain ⟨g17, rfl, rfl, h17, hb⟩ := hcut
    clear kw
    have hC1 := Lib.hid (hC0.out.grown hb)
    have hS1 := Lib.hid (hS0.out.below hb hS0.out.lt2)
    have hW1 := Lib.hid (BT hW0.out hb)
    have H17 := Lib.hid h17
    clear hSG hU1 hU2 hU3 hB0 hb hC0 hS0 hW0 h17
    by_cases he : er = 0
    · subst he
      obtain ⟨hv, hiv, hlo0, hlh, hhi⟩ := HOK.out rfl
      have hn12 := HV.out hv
      have hPl := Lib.hid (HP.out hv)
      have hPr := Lib.hid (HPR.out hv)
      clear HP HPR HOK HV hv hiv
      obtain ⟨c0, c1, c2, c3, c4, c5, c6⟩ := hC1.out
      cases hab : (a == b)
      case true =>
        have HR : Hid (R = (0, 0, 0)) := by show _ = _; rw [HE.out, hab]; rfl
        have HAB : a = b := by simpa using hab
        subst HAB
        obtain ⟨v0, u0, y0⟩ := hS1.out.get 0 (by omega)
        obtain ⟨v1, u1, y1⟩ := hS1.out.get 1 (by omega)
        have hB1 := hW1.out
        clear hab
        go_wp2
        exact bodyPost_ret (v := .tuple #[.agg #[.int .i64 0, .int .i64 0], .int .i64 0]) (by simp [results, Try.results23, go_sem, u0, u1]) rfl ⟨by rw [HR.out], by (repeat (first | assumption | exact Below.refl _ _ | refine BA ?_ _ | refine BC ?_ _ _ (by omega) _ | refine Below.drew ?_ | refine BT ?_ (by assumption)))⟩
      have HAB := Lib.hid hab
      go_wp2_with fail
      refine (HSe.out _ a hW1.out).mono ?_
      rintro e w2 ⟨rfl, hb2⟩
      have hC2 := Lib.hid (hC1.out.grown hb2)
      have hS2 := Lib.hid (hS1.out.below hb2 hS1.out.lt2)
      have hW2 := Lib.hid (BT hW1.out hb2)
      have H18 := Lib.hid (H17.out.grown hb2)
      clear hC1 hS1 hW1 H17 hb2 c0 c1 c2 c3 c4 c5 c6 hab
      cases hca : hasC a (cntsOf ss)
      case false =>
        have HR : Hid (R = (0, 0, 12)) := by show _ = _; rw [HE.out, HAB.out, hca]; rfl
        obtain ⟨v0, u0, y0⟩ := hS2.out.get 0 (by omega)
        obtain ⟨v1, u1, y1⟩ := hS2.out.get 1 (by omega)
        have hB1 := hW2.out
        clear hca
        go_wp2
        exact bodyPost_ret (v := .tuple #[.agg #[.int .i64 0, .int .i64 0], .int .i64 12]) (by simp [results, Try.results23, go_sem, u0, u1]) rfl ⟨by rw [HR.out], by (repeat (first | assumption | exact Below.refl _ _ | refine BA ?_ _ | refine BC ?_ _ _ (by omega) _ | refine Below.drew ?_ | refine BT ?_ (by assumption)))⟩
      have HCA := Lib.hid hca; clear hca
      obtain ⟨c0, c1, c2, c3, c4, c5, c6⟩ := hC2.out
      go_wp2_with fail
      refine (HSe.out _ b hW2.out).mono ?_
      rintro e w3 ⟨rfl, hb3⟩
      have hC3 := Lib.hid (hC2.out.grown hb3)
      have hS3 := Lib.hid (hS2.out.below hb3 hS2.out.lt2)
      have hW3 := Lib.hid (BT hW2.out hb3)
      have H19 := Lib.hid (H18.out.grown hb3)
      clear hC2 hS2 hW2 H18 hb3 c0 c1 c2 c3 c4 c5 c6
      cases hcb : hasC b (cntsOf ss)
      case false =>
        have HR : Hid (R = (0, 0, 12)) := by show _ = _; rw [HE.out, HAB.out, HCA.out, hcb]; rfl
        obtain ⟨v0, u0, y0⟩ := hS3.out.get 0 (by omega)
        obtain ⟨v1, u1, y1⟩ := hS3.out.get 1 (by omega)
        have hB1 := hW3.out
        clear hcb
        go_wp2
        exact bodyPost_ret (v := .tuple #[.agg #[.int .i64 0, .int .i64 0], .int .i64 12]) (by simp [results, Try.results23, go_sem, u0, u1]) rfl ⟨by rw [HR.out], by (repeat (first | assumption | exact Below.refl _ _ | refine BA ?_ _ | refine BC ?_ _ _ (by omega) _ | refine Below.drew ?_ | refine BT ?_ (by assumption)))⟩
      have HR : Hid (R = ((PT lo (hi - lo + 1).toNat).1, (PT lo (hi - lo + 1).toNat).2, 0)) := by show _ = _; rw [HE.out, HAB.out, HCA.out, hcb]; rfl
      clear HE hcb HCA HAB HSe
      have hUe : Hid (∀ Y, Calls Try.prog 69 #[.agg #[.slice h.a h.n h.cap, .int .i64 h.eLo, .int .i64 h.eHi, .int .i64 h.images, .int .i64 h.sLo, .int .i64 h.sHi, .slice h.sa h.ns h.scap]] Y (Ret (.int .i64 (2 ^ h.ns - 1)) Y)) := fun Y => every_anyR h Y (by omega)
      generalize (2 : Int) ^ h.ns - 1 = al at *
      have hA := newB w3 (.cells #[.int .i64 1099511627776, .int .i64 (-1099511627776)] 24)
      have HL : Hid (Lp w (w3.alloc (.cells #[.int .i64 1099511627776, .int .i64 (-1099511627776)] 24)) B g17 w3.heap.size h lo hi (PT lo 0).1 (PT lo 0).2) := by
        rw [HP0.out]
        exact ⟨hC3.out.grown hA, H19.out.grown hA, two_newT w3 _ _ 24, by simp, by simp, hS3.out.below hA hS3.out.lt2, BT hW3.out hA⟩
      have hq1 : B < w3.heap.size := World.block_lt_of_cell? _ _ hC3.out.1
      have hq2 : g17 ≠ w3.heap.size := by have := H19.out.lt2; omega
      have hq4 : w.heap.size ≤ w3.heap.size := hW3.out.size
      obtain ⟨c0, c1, c2, c3, c4, c5, c6⟩ := hC3.out
      obtain ⟨i0, i1⟩ := H19.out
      have hi17 := H19.out.lt2
      go_wp2_with fail
      clear c0 c1 c2 c3 c4 c5 c6 i0 i1 hA hC3 hS3 hW3 H19 hi17 HP0
      generalize w3.heap.size = gO at *
      generalize w3.alloc (.cells #[.int .i64 1099511627776, .int .i64 (-1099511627776)] 24) = WL at *
      obtain ⟨cnt, hcnt⟩ : ∃ c : Nat, (hi - lo + 1).toNat = c := ⟨_, rfl⟩
      have hcn : (cnt : Int) = hi - lo + 1 := by omega
      have HRc : Hid (R = ((PT lo cnt).1, (PT lo cnt).2, 0)) := by show _ = _; rw [← hcnt]; exact HR.out
      clear HR hcnt
      go_loopw [11] (fun n wr => ∃ k : Nat, k ≤ cnt ∧ n = .int .i64 (lo + k) ∧ Lp w wr B g17 gO h lo hi (PT lo k).1 (PT lo k).2) (fun n _ => cnt - (intOf n - lo).toNat)
      case atStart => exact ⟨0, by omega, by simp, HL.out⟩
      case round =>
        obtain ⟨k, hk, rfl, hLp⟩ := hrel
        have HLp := Lib.hid hLp; clear hLp
        obtain ⟨⟨c0, c1, c2, c3, c4, c5, c6⟩, ⟨i0, i1⟩, ⟨j0, j1⟩, z0, z1, hre, hbl⟩ := HLp.out
        have hk0 : (0 : Int) ≤ (k : Int) := by omega
        have hn0 : 0 ≤ lo + (k : Int) := by omega
        have hn1 : lo + (k : Int) ≤ 131073 := by omega
        by_cases hlt : k < cnt
        · have hd : decide (lo + (k : Int) ≤ hi) = true := by simp; omega
          go_upto_region 12 with fail
          have hSG3 : Hid (∀ X, Below wr.heap.size wr X → X.cell? ⟨B, 0, none⟩ = some (.slice h.a h.n h.cap) ∧ X.cell? ⟨B, 1, none⟩ = some (.int .i64 h.eLo) ∧ X.cell? ⟨B, 2, none⟩ = some (.int .i64 h.eHi) ∧ X.cell? ⟨B, 3, none⟩ = some (.int .i64 h.images) ∧ X.cell? ⟨B, 4, none⟩ = some (.int .i64 h.sLo) ∧ X.cell? ⟨B, 5, none⟩ = some (.int .i64 h.sHi) ∧ X.cell? ⟨B, 6, none⟩ = some (.slice h.sa h.ns h.scap)) := fun X hX => (HLp.out.grown hX).box
          have hU1 : Hid (∀ Y, Below wr.heap.size wr Y → Calls Try.prog 69 #[.agg #[.slice h.a h.n h.cap, .int .i64 h.eLo, .int .i64 h.eHi, .int .i64 h.images, .int .i64 h.sLo, .int .i64 h.sHi, .slice h.sa h.ns h.scap]] Y (Ret (.int .i64 al) Y)) := fun Y _ => hUe.out Y
          have hU2 : Hid (∀ Y, Below wr.heap.size wr Y → Calls Try.prog 68 #[.agg #[.slice h.a h.n h.cap, .int .i64 h.eLo, .int .i64 h.eHi, .int .i64 h.images, .int .i64 h.sLo, .int .i64 h.sHi, .slice h.sa h.ns h.scap], .int .i64 al, .int .i64 a, .int .i64 (lo + (k : Int))] Y (Ret (.agg #[.int .i64 (PS a (lo + (k : Int))).1, .int .i64 (PS a (lo + (k : Int))).2]) Y)) := fun Y hY => hPl.out Y a _ (BT HLp.out.below hY) ⟨by omega, by omega⟩
          have hU3 : Hid (∀ Y, Below wr.heap.size wr Y → Calls Try.prog 68 #[.agg #[.slice h.a h.n h.cap, .int .i64 h.eLo, .int .i64 h.eHi, .int .i64 h.images, .int .i64 h.sLo, .int .i64 h.sHi, .slice h.sa h.ns h.scap], .int .i64 al, .int .i64 b, .int .i64 (lo + (k : Int))] Y (Ret (.agg #[.int .i64 (PS b (lo + (k : Int))).1, .int .i64 (PS b (lo + (k : Int))).2]) Y)) := fun Y hY => hPl.out Y b _ (BT HLp.out.below hY) ⟨by omega, by omega⟩
          have hPk := HPT.out lo k
          obtain ⟨⟨ra1, ra2⟩, ra3, ra4⟩ := hPr.out a (lo + (k : Int)) ⟨by omega, by omega⟩
          obtain ⟨⟨rb1, rb2⟩, rb3, rb4⟩ := hPr.out b (lo + (k : Int)) ⟨by omega, by omega⟩
          generalize PS a (lo + (k : Int)) = pa at *
          generalize PS b (lo + (k : Int)) = pb at *
          obtain ⟨p1, p2⟩ := pa
          obtain ⟨q1, q2⟩ := pb
          dsimp only at hPk hU2 hU3 ra1 ra2 ra3 ra4 rb1 rb2 rb3 rb4
          have HPk := Lib.hid hPk; clear hPk
          have hB0 : Below wr.heap.size wr wr.drew := Below.drew (Below.refl _ _)
          clear c0 c1 c2 c3 c4 c5 c6 i0 i1 j0 j1 z0 z1 hre hbl
          go_cut [12, 13] from 53 to 87 (fun a12 a13 X => ∃ g12 g13 : Nat, a12 = .pointer (some ⟨g12, 0, none⟩) ∧ a13 = .pointer (some ⟨g13, 0, none⟩) ∧ Two g12 p1 p2 X ∧ Two g13 q1 q2 X ∧ Below wr.heap.size wr X)
          case first =>
            refine wp_region_tree (.read 0 (.read 1 (.read 3 (.read 4 (.read 6 (.read 7 (.read 9 (.read 10 (.three 2 (.three 5 (.three 8 (.three 11 (.two 12 (.one 13 (.one 14 (.one 15 (.leaf)))) 13 (.one 12 (.one 14 (.one 15 (.leaf))))) 12 (.two 11 (.one 13 (.one 14 (.one 15 (.leaf)))) 13 (.one 11 (.one 14 (.one 15 (.leaf))))) 13 (.two 11 (.one 12 (.one 14 (.one 15 (.leaf)))) 12 (.one 11 (.one 14 (.one 15 (.leaf)))))) 12 (.two 8 (.two 11 (.one 13 (.one 14 (.one 15 (.leaf)))) 13 (.one 11 (.one 14 (.one 15 (.leaf))))) 13 (.one 8 (.one 11 (.one 14 (.one 15 (.leaf)))))) 13 (.two 8 (.two 11 (.one 12 (.one 14 (.one 15 (.leaf)))) 12 (.one 11 (.one 14 (.one 15 (.leaf))))) 12 (.one 8 (.one 11 (.one 14 (.one 15 (.leaf))))))) 12 (.two 5 (.two 8 (.two 11 (.one 13 (.one 14 (.one 15 (.leaf)))) 13 (.one 11 (.one 14 (.one 15 (.leaf))))) 13 (.one 8 (.one 11 (.one 14 (.one 15 (.leaf)))))) 13 (.one 5 (.one 8 (.one 11 (.one 14 (.one 15 (.leaf))))))) 13 (.two 5 (.two 8 (.two 11 (.one 12 (.one 14 (.one 15 (.leaf)))) 12 (.one 11 (.one 14 (.one 15 (.leaf))))) 12 (.one 8 (.one 11 (.one 14 (.one 15 (.leaf)))))) 12 (.one 5 (.one 8 (.one 11 (.one 14 (.one 15 (.leaf)))))))) 12 (.two 2 (.two 5 (.two 8 (.two 11 (.one 13 (.one 14 (.one 15 (.leaf)))) 13 (.one 11 (.one 14 (.one 15 (.leaf))))) 13 (.one 8 (.one 11 (.one 14 (.one 15 (.leaf)))))) 13 (.one 5 (.one 8 (.one 11 (.one 14 (.one 15 (.leaf))))))) 13 (.one 2 (.one 5 (.one 8 (.one 11 (.one 14 (.one 15 (.leaf)))))))) 13 (.two 2 (.two 5 (.two 8 (.two 11 (.one 12 (.one 14 (.one 15 (.leaf)))) 12 (.one 11 (.one 14 (.one 15 (.leaf))))) 12 (.one 8 (.one 11 (.one 14 (.one 15 (.leaf)))))) 12 (.one 5 (.one 8 (.one 11 (.one 14 (.one 15 (.leaf))))))) 12 (.one 2 (.one 5 (.one 8 (.one 11 (.one 14 (.one 15 (.leaf))))))))))))))))) (fun w' => w'.cell? ⟨B, 0, none⟩ = some (.slice h.a h.n h.cap) ∧ w'.cell? ⟨B, 1, none⟩ = some (.int .i64 h.eLo) ∧ w'.cell? ⟨B, 2, none⟩ = some (.int .i64 h.eHi) ∧ w'.cell? ⟨B, 3, none⟩ = some (.int .i64 h.images) ∧ w'.cell? ⟨B, 4, none⟩ = some (.int .i64 h.sLo) ∧ w'.cell? ⟨B, 5, none⟩ = some (.int .i64 h.sHi) ∧ w'.cell? ⟨B, 6, none⟩ = some (.slice h.sa h.ns h.scap)) (by kernel_rfl) (by kernel_rfl) (fun _ _ d _ _ h => by cases d <;> exact h) (hSG3.out _ hB0) ?_
            generalize wr.drew = X0 at *
            repeat (first | (refine tr_read rfl (by rfl) _ (fun w' hS => by (try dsimp only at hS); go_simp; (try with_reducible rfl)) ?_; (try simp only [Act.put, List.setIfInBounds_toArray, List.set_cons_zero, List.set_cons_succ])) | (refine tr_skip rfl (by rfl) ?_; (try simp only [Act.put, List.setIfInBounds_toArray, List.set_cons_zero, List.set_cons_succ])))
            refine ⟨?_, ?_, ?_⟩
            · skip
              refine tr_step rfl (by rfl) (fun K hK => ?_)
              go_simp
              refine (hU1.out X0 hB0).mono ?_
              rintro e X1 ⟨rfl, hb1⟩
              have hB1 := BT hB0 hb1
              refine hK _ _ (hSG3.out _ hB1) ?_
              clear hK K hB0 hb1
              (try simp only [Act.put, List.setIfInBounds_toArray, List.set_cons_zero, List.set_cons_succ])
              refine ⟨?_, ?_, ?_⟩
              · skip
                refine tr_step rfl (by rfl) (fun K hK => ?_)
                go_simp
                refine (hU2.out X1 hB1).mono ?_
                rintro e X2 ⟨rfl, hb2⟩
                have hB2 := BT hB1 hb2
                refine hK _ _ (hSG3.out _ hB2) ?_
                clear hK K hB1 hb2
                (try simp only [Act.put, List.setIfInBounds_toArray, List.set_cons_zero, List.set_cons_succ])
                refine ⟨?_, ?_, ?_⟩
                · skip
                  refine tr_step rfl (by rfl) (fun K hK => ?_)
                  go_simp
                  refine (hU1.out X2 hB2).mono ?_
                  rintro e X3 ⟨rfl, hb3⟩
                  have hB3 := BT hB2 hb3
                  refine hK _ _ (hSG3.out _ hB3) ?_
                  clear hK K hB2 hb3
                  (try simp only [Act.put, List.setIfInBounds_toArray, List.set_cons_zero, List.set_cons_succ])
                  refine ⟨?_, ?_, ?_⟩
                  · skip
                    refine tr_step rfl (by rfl) (fun K hK => ?_)
                    go_simp
                    refine (hU3.out X3 hB3).mono ?_
                    rintro e X4 ⟨rfl, hb4⟩
                    have hB4 := BT hB3 hb4
                    refine hK _ _ (hSG3.out _ hB4) ?_
                    clear hK K hB3 hb4
                    (try simp only [Act.put, List.setIfInBounds_toArray, List.set_cons_zero, List.set_cons_succ])
                    refine ⟨?_, ?_⟩
                    · skip
                      refine tr_step rfl (by rfl) (fun K hK => ?_)
                      have hB5 := BA hB4 (.cells #[.int .i64 0, .int .i64 0] 24)
                      have h12_5 := slots_new2 X4 24
                      have hg12 := hB4.size
                      go_simp
                      generalize X4.heap.size = g12 at *
                      generalize X4.alloc (.cells #[.int .i64 0, .int .i64 0] 24) = X5 at *
                      refine hK _ _ (hSG3.out _ hB5) ?_
                      clear hK K hB4 
                      (try simp only [Act.put, List.setIfInBounds_toArray, List.set_cons_zero, List.set_cons_succ])
                      refine tr_step rfl (by rfl) (fun K hK => ?_)
                      have hB6 := BA hB5 (.cells #[.int .i64 0, .int .i64 0] 24)
                      have h12_6 := h12_5.below (newB X5 (.cells #[.int .i64 0, .int .i64 0] 24)) (h12_5.lt2)
                      have hlt12_6 := h12_5.lt2
                      have h13_6 := slots_new2 X5 24
                      have hg13 := hB5.size
                      go_simp
                      generalize X5.heap.size = g13 at *
                      generalize X5.alloc (.cells #[.int .i64 0, .int .i64 0] 24) = X6 at *
                      refine hK _ _ (hSG3.out _ hB6) ?_
                      clear hK K hB5 h12_5
                      (try simp only [Act.put, List.setIfInBounds_toArray, List.set_cons_zero, List.set_cons_succ])
                      refine tr_step rfl (by rfl) (fun K hK => ?_)
                      obtain ⟨u0_7, q0_7, f0_7⟩ := h12_6.get 0 (by omega)
                      obtain ⟨u1_7, q1_7, f1_7⟩ := h12_6.get 1 (by omega)
                      have hB7 := BC (BC hB6 g12 0 hg12 (.int .i64 (p1))) g12 1 hg12 (.int .i64 (p2))
                      have h13_7 := (h13_6.set ⟨g12, 0, none⟩ (.int .i64 (p1))).set ⟨g12, 1, none⟩ (.int .i64 (p2))
                      have h12_7 := two_set h12_6 (p1) (p2)
                      go_simp
                      clear q0_7 f0_7 q1_7 f1_7
                      generalize (X6.setCell ⟨g12, 0, none⟩ (.int .i64 (p1))).setCell ⟨g12, 1, none⟩ (.int .i64 (p2)) = X7 at *
                      refine hK _ _ (hSG3.out _ hB7) ?_
                      clear hK K hB6 h13_6 h12_6
                      (try simp only [Act.put, List.setIfInBounds_toArray, List.set_cons_zero, List.set_cons_succ])
                      refine tr_last rfl (by rfl) (by kernel_rfl) (fun K hK => ?_)
                      obtain ⟨u0_8, q0_8, f0_8⟩ := h13_7.get 0 (by omega)
                      obtain ⟨u1_8, q1_8, f1_8⟩ := h13_7.get 1 (by omega)
                      have hB8 := BC (BC hB7 g13 0 hg13 (.int .i64 (q1))) g13 1 hg13 (.int .i64 (q2))
                      have h12_8 := h12_7.far (g' := g13) (by omega) (q1) (q2)
                      have h13_8 := two_set h13_7 (q1) (q2)
                      go_simp
                      clear q0_8 f0_8 q1_8 f1_8
                      generalize (X7.setCell ⟨g13, 0, none⟩ (.int .i64 (q1))).setCell ⟨g13, 1, none⟩ (.int .i64 (q2)) = X8 at *
                      refine hK _ _ ?_
                      clear hK K hB7 h12_7 h13_7
                      (try simp only [Act.put, List.setIfInBounds_toArray, List.set_cons_zero, List.set_cons_succ])
                      show Exit.then _ _ Exit.normal _ _
                      go_wp2_with fail
                      go_meet
                      exact ⟨g12, g13, rfl, rfl, h12_8, h13_8, hB8⟩
                    · skip
                      refine tr_step rfl (by rfl) (fun K hK => ?_)
                      have hB9 := BA hB4 (.cells #[.int .i64 0, .int .i64 0] 24)
                      have h13_9 := slots_new2 X4 24
                      have hg13 := hB4.size
                      go_simp
                      generalize X4.heap.size = g13 at *
                      generalize X4.alloc (.cells #[.int .i64 0, .int .i64 0] 24) = X9 at *
                      refine hK _ _ (hSG3.out _ hB9) ?_
                      clear hK K hB4 
                      (try simp only [Act.put, List.setIfInBounds_toArray, List.set_cons_zero, List.set_cons_succ])
                      refine tr_step rfl (by rfl) (fun K hK => ?_)
                      have hB10 := BA hB9 (.cells #[.int .i64 0, .int .i64 0] 24)
                      have h13_10 := h13_9.below (newB X9 (.cells #[.int .i64 0, .int .i64 0] 24)) (h13_9.lt2)
                      have hlt13_10 := h13_9.lt2
                      have h12_10 := slots_new2 X9 24
                      have hg12 := hB9.size
                      go_simp
                      generalize X9.heap.size = g12 at *
                      generalize X9.alloc (.cells #[.int .i64 0, .int .i64 0] 24) = X10 at *
                      refine hK _ _ (hSG3.out _ hB10) ?_
                      clear hK K hB9 h13_9
                      (try simp only [Act.put, List.setIfInBounds_toArray, List.set_cons_zero, List.set_cons_succ])
                      refine tr_step rfl (by rfl) (fun K hK => ?_)
                      obtain ⟨u0_11, q0_11, f0_11⟩ := h12_10.get 0 (by omega)
                      obtain ⟨u1_11, q1_11, f1_11⟩ := h12_10.get 1 (by omega)
                      have hB11 := BC (BC hB10 g12 0 hg12 (.int .i64 (p1))) g12 1 hg12 (.int .i64 (p2))
                      have h13_11 := (h13_10.set ⟨g12, 0, none⟩ (.int .i64 (p1))).set ⟨g12, 1, none⟩ (.int .i64 (p2))
                      have h12_11 := two_set h12_10 (p1) (p2)
                      go_simp
                      clear q0_11 f0_11 q1_11 f1_11
                      generalize (X10.setCell ⟨g12, 0, none⟩ (.int .i64 (p1))).setCell ⟨g12, 1, none⟩ (.int .i64 (p2)) = X11 at *
                      refine hK _ _ (hSG3.out _ hB11) ?_
                      clear hK K hB10 h13_10 h12_10
                      (try simp only [Act.put, List.setIfInBounds_toArray, List.set_cons_zero, List.set_cons_succ])
                      refine tr_last rfl (by rfl) (by kernel_rfl) (fun K hK => ?_)
                      obtain ⟨u0_12, q0_12, f0_12⟩ := h13_11.get 0 (by omega)
                      obtain ⟨u1_12, q1_12, f1_12⟩ := h13_11.get 1 (by omega)
                      have hB12 := BC (BC hB11 g13 0 hg13 (.int .i64 (q1))) g13 1 hg13 (.int .i64 (q2))
                      have h12_12 := h12_11.far (g' := g13) (by omega) (q1) (q2)
                      have h13_12 := two_set h13_11 (q1) (q2)
                      go_simp
                      clear q0_12 f0_12 q1_12 f1_12
                      generalize (X11.setCell ⟨g13, 0, none⟩ (.int .i64 (q1))).setCell ⟨g13, 1, none⟩ (.int .i64 (q2)) = X12 at *
                      refine hK _ _ ?_
                      clear hK K hB11 h12_11 h13_11
                      (try simp only [Act.put, List.setIfInBounds_toArray, List.set_cons_zero, List.set_cons_succ])
                      show Exit.then _ _ Exit.normal _ _
                      go_wp2_with fail
                      go_meet
                      exact ⟨g12, g13, rfl, rfl, h12_12, h13_12, hB12⟩
                  · skip
                    refine tr_step rfl (by rfl) (fun K hK => ?_)
                    have hB13 := BA hB3 (.cells #[.int .i64 0, .int .i64 0] 24)
                    have h12_13 := slots_new2 X3 24
                    have hg12 := hB3.size
                    go_simp
                    generalize X3.heap.size = g12 at *
                    generalize X3.alloc (.cells #[.int .i64 0, .int .i64 0] 24) = X13 at *
                    refine hK _ _ (hSG3.out _ hB13) ?_
                    clear hK K hB3 
                    (try simp only [Act.put, List.setIfInBounds_toArray, List.set_cons_zero, List.set_cons_succ])
                    refine ⟨?_, ?_⟩
                    · skip
                      refine tr_step rfl (by rfl) (fun K hK => ?_)
                      go_simp
                      refine (hU3.out X13 hB13).mono ?_
                      rintro e X14 ⟨rfl, hb14⟩
                      have hB14 := BT hB13 hb14
                      have h12_14 := h12_13.below hb14 (h12_13.lt2)
                      refine hK _ _ (hSG3.out _ hB14) ?_
                      clear hK K hB13 h12_13 hb14
                      (try simp only [Act.put, List.setIfInBounds_toArray, List.set_cons_zero, List.set_cons_succ])
                      refine tr_step rfl (by rfl) (fun K hK => ?_)
                      have hB15 := BA hB14 (.cells #[.int .i64 0, .int .i64 0] 24)
                      have h12_15 := h12_14.below (newB X14 (.cells #[.int .i64 0, .int .i64 0] 24)) (h12_14.lt2)
                      have hlt12_15 := h12_14.lt2
                      have h13_15 := slots_new2 X14 24
                      have hg13 := hB14.size
                      go_simp
                      generalize X14.heap.size = g13 at *
                      generalize X14.alloc (.cells #[.int .i64 0, .int .i64 0] 24) = X15 at *
                      refine hK _ _ (hSG3.out _ hB15) ?_
                      clear hK K hB14 h12_14
                      (try simp only [Act.put, List.setIfInBounds_toArray, List.set_cons_zero, List.set_cons_succ])
                      refine tr_step rfl (by rfl) (fun K hK => ?_)
                      obtain ⟨u0_16, q0_16, f0_16⟩ := h12_15.get 0 (by omega)
                      obtain ⟨u1_16, q1_16, f1_16⟩ := h12_15.get 1 (by omega)
                      have hB16 := BC (BC hB15 g12 0 hg12 (.int .i64 (p1))) g12 1 hg12 (.int .i64 (p2))
                      have h13_16 := (h13_15.set ⟨g12, 0, none⟩ (.int .i64 (p1))).set ⟨g12, 1, none⟩ (.int .i64 (p2))
                      have h12_16 := two_set h12_15 (p1) (p2)
                      go_simp
                      clear q0_16 f0_16 q1_16 f1_16
                      generalize (X15.setCell ⟨g12, 0, none⟩ (.int .i64 (p1))).setCell ⟨g12, 1, none⟩ (.int .i64 (p2)) = X16 at *
                      refine hK _ _ (hSG3.out _ hB16) ?_
                      clear hK K hB15 h13_15 h12_15
                      (try simp only [Act.put, List.setIfInBounds_toArray, List.set_cons_zero, List.set_cons_succ])
                      refine tr_last rfl (by rfl) (by kernel_rfl) (fun K hK => ?_)
                      obtain ⟨u0_17, q0_17, f0_17⟩ := h13_16.get 0 (by omega)
                      obtain ⟨u1_17, q1_17, f1_17⟩ := h13_16.get 1 (by omega)
                      have hB17 := BC (BC hB16 g13 0 hg13 (.int .i64 (q1))) g13 1 hg13 (.int .i64 (q2))
                      have h12_17 := h12_16.far (g' := g13) (by omega) (q1) (q2)
                      have h13_17 := two_set h13_16 (q1) (q2)
                      go_simp
                      clear q0_17 f0_17 q1_17 f1_17
                      generalize (X16.setCell ⟨g13, 0, none⟩ (.int .i64 (q1))).setCell ⟨g13, 1, none⟩ (.int .i64 (q2)) = X17 at *
                      refine hK _ _ ?_
                      clear hK K hB16 h12_16 h13_16
                      (try simp only [Act.put, List.setIfInBounds_toArray, List.set_cons_zero, List.set_cons_succ])
                      show Exit.then _ _ Exit.normal _ _
                      go_wp2_with fail
                      go_meet
                      exact ⟨g12, g13, rfl, rfl, h12_17, h13_17, hB17⟩
                    · skip
                      refine tr_step rfl (by rfl) (fun K hK => ?_)
                      have hB18 := BA hB13 (.cells #[.int .i64 0, .int .i64 0] 24)
                      have h12_18 := h12_13.below (newB X13 (.cells #[.int .i64 0, .int .i64 0] 24)) (h12_13.lt2)
                      have hlt12_18 := h12_13.lt2
                      have h13_18 := slots_new2 X13 24
                      have hg13 := hB13.size
                      go_simp
                      generalize X13.heap.size = g13 at *
                      generalize X13.alloc (.cells #[.int .i64 0, .int .i64 0] 24) = X18 at *
                      refine hK _ _ (hSG3.out _ hB18) ?_
                      clear hK K hB13 h12_13
                      (try simp only [Act.put, List.setIfInBounds_toArray, List.set_cons_zero, List.set_cons_succ])
                      refine tr_step rfl (by rfl) (fun K hK => ?_)
                      go_simp
                      refine (hU3.out X18 hB18).mono ?_
                      rintro e X19 ⟨rfl, hb19⟩
                      have hB19 := BT hB18 hb19
                      have h12_19 := h12_18.below hb19 (h12_18.lt2)
                      have h13_19 := h13_18.below hb19 (h13_18.lt2)
                      refine hK _ _ (hSG3.out _ hB19) ?_
                      clear hK K hB18 h12_18 h13_18 hb19
                      (try simp only [Act.put, List.setIfInBounds_toArray, List.set_cons_zero, List.set_cons_succ])
                      refine tr_step rfl (by rfl) (fun K hK => ?_)
                      obtain ⟨u0_20, q0_20, f0_20⟩ := h12_19.get 0 (by omega)
                      obtain ⟨u1_20, q1_20, f1_20⟩ := h12_19.get 1 (by omega)
                      have hB20 := BC (BC hB19 g12 0 hg12 (.int .i64 (p1))) g12 1 hg12 (.int .i64 (p2))
                      have h13_20 := (h13_19.set ⟨g12, 0, none⟩ (.int .i64 (p1))).set ⟨g12, 1, none⟩ (.int .i64 (p2))
                      have h12_20 := two_set h12_19 (p1) (p2)
                      go_simp
                      clear q0_20 f0_20 q1_20 f1_20
                      generalize (X19.setCell ⟨g12, 0, none⟩ (.int .i64 (p1))).setCell ⟨g12, 1, none⟩ (.int .i64 (p2)) = X20 at *
                      refine hK _ _ (hSG3.out _ hB20) ?_
                      clear hK K hB19 h13_19 h12_19
                      (try simp only [Act.put, List.setIfInBounds_toArray, List.set_cons_zero, List.set_cons_succ])
                      refine tr_last rfl (by rfl) (by kernel_rfl) (fun K hK => ?_)
                      obtain ⟨u0_21, q0_21, f0_21⟩ := h13_20.get 0 (by omega)
                      obtain ⟨u1_21, q1_21, f1_21⟩ := h13_20.get 1 (by omega)
                      have hB21 := BC (BC hB20 g13 0 hg13 (.int .i64 (q1))) g13 1 hg13 (.int .i64 (q2))
                      have h12_21 := h12_20.far (g' := g13) (by omega) (q1) (q2)
                      have h13_21 := two_set h13_20 (q1) (q2)
                      go_simp
                      clear q0_21 f0_21 q1_21 f1_21
                      generalize (X20.setCell ⟨g13, 0, none⟩ (.int .i64 (q1))).setCell ⟨g13, 1, none⟩ (.int .i64 (q2)) = X21 at *
                      refine hK _ _ ?_
                      clear hK K hB20 h12_20 h13_20
                      (try simp only [Act.put, List.setIfInBounds_toArray, List.set_cons_zero, List.set_cons_succ])
                      show Exit.then _ _ Exit.normal _ _
                      go_wp2_with fail
                      go_meet
                      exact ⟨g12, g13, rfl, rfl, h12_21, h13_21, hB21⟩
                  · skip
                    refine tr_step rfl (by rfl) (fun K hK => ?_)
                    have hB22 := BA hB3 (.cells #[.int .i64 0, .int .i64 0] 24)
                    have h13_22 := slots_new2 X3 24
                    have hg13 := hB3.size
                    go_simp
                    generalize X3.heap.size = g13 at *
                    generalize X3.alloc (.cells #[.int .i64 0, .int .i64 0] 24) = X22 at *
                    refine hK _ _ (hSG3.out _ hB22) ?_
                    clear hK K hB3 
                    (try simp only [Act.put, List.setIfInBounds_toArray, List.set_cons_zero, List.set_cons_succ])
                    refine ⟨?_, ?_⟩
                    · skip
                      refine tr_step rfl (by rfl) (fun K hK => ?_)
                      go_simp
                      refine (hU3.out X22 hB22).mono ?_
                      rintro e X23 ⟨rfl, hb23⟩
                      have hB23 := BT hB22 hb23
                      have h13_23 := h13_22.below hb23 (h13_22.lt2)
                      refine hK _ _ (hSG3.out _ hB23) ?_
                      clear hK K hB22 h13_22 hb23
                      (try simp only [Act.put, List.setIfInBounds_toArray, List.set_cons_zero, List.set_cons_succ])
                      refine tr_step rfl (by rfl) (fun K hK => ?_)
                      have hB24 := BA hB23 (.cells #[.int .i64 0, .int .i64 0] 24)
                      have h13_24 := h13_23.below (newB X23 (.cells #[.int .i64 0, .int .i64 0] 24)) (h13_23.lt2)
                      have hlt13_24 := h13_23.lt2
                      have h12_24 := slots_new2 X23 24
                      have hg12 := hB23.size
                      go_simp
                      generalize X23.heap.size = g12 at *
                      generalize X23.alloc (.cells #[.int .i64 0, .int .i64 0] 24) = X24 at *
                      refine hK _ _ (hSG3.out _ hB24) ?_
                      clear hK K hB23 h13_23
                      (try simp only [Act.put, List.setIfInBounds_toArray, List.set_cons_zero, List.set_cons_succ])
                      refine tr_step rfl (by rfl) (fun K hK => ?_)
                      obtain ⟨u0_25, q0_25, f0_25⟩ := h12_24.get 0 (by omega)
                      obtain ⟨u1_25, q1_25, f1_25⟩ := h12_24.get 1 (by omega)
                      have hB25 := BC (BC hB24 g12 0 hg12 (.int .i64 (p1))) g12 1 hg12 (.int .i64 (p2))
                      have h13_25 := (h13_24.set ⟨g12, 0, none⟩ (.int .i64 (p1))).set ⟨g12, 1, none⟩ (.int .i64 (p2))
                      have h12_25 := two_set h12_24 (p1) (p2)
                      go_simp
                      clear q0_25 f0_25 q1_25 f1_25
                      generalize (X24.setCell ⟨g12, 0, none⟩ (.int .i64 (p1))).setCell ⟨g12, 1, none⟩ (.int .i64 (p2)) = X25 at *
                      refine hK _ _ (hSG3.out _ hB25) ?_
                      clear hK K hB24 h13_24 h12_24
                      (try simp only [Act.put, List.setIfInBounds_toArray, List.set_cons_zero, List.set_cons_succ])
                      refine tr_last rfl (by rfl) (by kernel_rfl) (fun K hK => ?_)
                      obtain ⟨u0_26, q0_26, f0_26⟩ := h13_25.get 0 (by omega)
                      obtain ⟨u1_26, q1_26, f1_26⟩ := h13_25.get 1 (by omega)
                      have hB26 := BC (BC hB25 g13 0 hg13 (.int .i64 (q1))) g13 1 hg13 (.int .i64 (q2))
                      have h12_26 := h12_25.far (g' := g13) (by omega) (q1) (q2)
                      have h13_26 := two_set h13_25 (q1) (q2)
                      go_simp
                      clear q0_26 f0_26 q1_26 f1_26
                      generalize (X25.setCell ⟨g13, 0, none⟩ (.int .i64 (q1))).setCell ⟨g13, 1, none⟩ (.int .i64 (q2)) = X26 at *
                      refine hK _ _ ?_
                      clear hK K hB25 h12_25 h13_25
                      (try simp only [Act.put, List.setIfInBounds_toArray, List.set_cons_zero, List.set_cons_succ])
                      show Exit.then _ _ Exit.normal _ _
                      go_wp2_with fail
                      go_meet
                      exact ⟨g12, g13, rfl, rfl, h12_26, h13_26, hB26⟩
                    · skip
                      refine tr_step rfl (by rfl) (fun K hK => ?_)
                      have hB27 := BA hB22 (.cells #[.int .i64 0, .int .i64 0] 24)
                      have h13_27 := h13_22.below (newB X22 (.cells #[.int .i64 0, .int .i64 0] 24)) (h13_22.lt2)
                      have hlt13_27 := h13_22.lt2
                      have h12_27 := slots_new2 X22 24
                      have hg12 := hB22.size
                      go_simp
                      generalize X22.heap.size = g12 at *
                      generalize X22.alloc (.cells #[.int .i64 0, .int .i64 0] 24) = X27 at *
                      refine hK _ _ (hSG3.out _ hB27) ?_
                      clear hK K hB22 h13_22
                      (try simp only [Act.put, List.setIfInBounds_toArray, List.set_cons_zero, List.set_cons_succ])
                      refine tr_step rfl (by rfl) (fun K hK => ?_)
                      go_simp
                      refine (hU3.out X27 hB27).mono ?_
                      rintro e X28 ⟨rfl, hb28⟩
                      have hB28 := BT hB27 hb28
                      have h13_28 := h13_27.below hb28 (h13_27.lt2)
                      have h12_28 := h12_27.below hb28 (h12_27.lt2)
                      refine hK _ _ (hSG3.out _ hB28) ?_
                      clear hK K hB27 h13_27 h12_27 hb28
                      (try simp only [Act.put, List.setIfInBounds_toArray, List.set_cons_zero, List.set_cons_succ])
                      refine tr_step rfl (by rfl) (fun K hK => ?_)
                      obtain ⟨u0_29, q0_29, f0_29⟩ := h12_28.get 0 (by omega)
                      obtain ⟨u1_29, q1_29, f1_29⟩ := h12_28.get 1 (by omega)
                      have hB29 := BC (BC hB28 g12 0 hg12 (.int .i64 (p1))) g12 1 hg12 (.int .i64 (p2))
                      have h13_29 := (h13_28.set ⟨g12, 0, none⟩ (.int .i64 (p1))).set ⟨g12, 1, none⟩ (.int .i64 (p2))
                      have h12_29 := two_set h12_28 (p1) (p2)
                      go_simp
                      clear q0_29 f0_29 q1_29 f1_29
                      generalize (X28.setCell ⟨g12, 0, none⟩ (.int .i64 (p1))).setCell ⟨g12, 1, none⟩ (.int .i64 (p2)) = X29 at *
                      refine hK _ _ (hSG3.out _ hB29) ?_
                      clear hK K hB28 h13_28 h12_28
                      (try simp only [Act.put, List.setIfInBounds_toArray, List.set_cons_zero, List.set_cons_succ])
                      refine tr_last rfl (by rfl) (by kernel_rfl) (fun K hK => ?_)
                      obtain ⟨u0_30, q0_30, f0_30⟩ := h13_29.get 0 (by omega)
                      obtain ⟨u1_30, q1_30, f1_30⟩ := h13_29.get 1 (by omega)
                      have hB30 := BC (BC hB29 g13 0 hg13 (.int .i64 (q1))) g13 1 hg13 (.int .i64 (q2))
                      have h12_30 := h12_29.far (g' := g13) (by omega) (q1) (q2)
                      have h13_30 := two_set h13_29 (q1) (q2)
                      go_simp
                      clear q0_30 f0_30 q1_30 f1_30
                      generalize (X29.setCell ⟨g13, 0, none⟩ (.int .i64 (q1))).setCell ⟨g13, 1, none⟩ (.int .i64 (q2)) = X30 at *
                      refine hK _ _ ?_
                      clear hK K hB29 h12_29 h13_29
                      (try simp only [Act.put, List.setIfInBounds_toArray, List.set_cons_zero, List.set_cons_succ])
                      show Exit.then _ _ Exit.normal _ _
                      go_wp2_with fail
                      go_meet
                      exact ⟨g12, g13, rfl, rfl, h12_30, h13_30, hB30⟩
                · skip
                  refine tr_step rfl (by rfl) (fun K hK => ?_)
                  have hB31 := BA hB2 (.cells #[.int .i64 0, .int .i64 0] 24)
                  have h12_31 := slots_new2 X2 24
                  have hg12 := hB2.size
                  go_simp
                  generalize X2.heap.size = g12 at *
                  generalize X2.alloc (.cells #[.int .i64 0, .int .i64 0] 24) = X31 at *
                  refine hK _ _ (hSG3.out _ hB31) ?_
                  clear hK K hB2 
                  (try simp only [Act.put, List.setIfInBounds_toArray, List.set_cons_zero, List.set_cons_succ])
                  refine ⟨?_, ?_⟩
                  · skip
                    refine tr_step rfl (by rfl) (fun K hK => ?_)
                    go_simp
                    refine (hU1.out X31 hB31).mono ?_
                    rintro e X32 ⟨rfl, hb32⟩
                    have hB32 := BT hB31 hb32
                    have h12_32 := h12_31.below hb32 (h12_31.lt2)
                    refine hK _ _ (hSG3.out _ hB32) ?_
                    clear hK K hB31 h12_31 hb32
                    (try simp only [Act.put, List.setIfInBounds_toArray, List.set_cons_zero, List.set_cons_succ])
                    refine ⟨?_, ?_⟩
                    · skip
                      refine tr_step rfl (by rfl) (fun K hK => ?_)
                      go_simp
                      refine (hU3.out X32 hB32).mono ?_
                      rintro e X33 ⟨rfl, hb33⟩
                      have hB33 := BT hB32 hb33
                      have h12_33 := h12_32.below hb33 (h12_32.lt2)
                      refine hK _ _ (hSG3.out _ hB33) ?_
                      clear hK K hB32 h12_32 hb33
                      (try simp only [Act.put, List.setIfInBounds_toArray, List.set_cons_zero, List.set_cons_succ])
                      refine tr_step rfl (by rfl) (fun K hK => ?_)
                      have hB34 := BA hB33 (.cells #[.int .i64 0, .int .i64 0] 24)
                      have h12_34 := h12_33.below (newB X33 (.cells #[.int .i64 0, .int .i64 0] 24)) (h12_33.lt2)
                      have hlt12_34 := h12_33.lt2
                      have h13_34 := slots_new2 X33 24
                      have hg13 := hB33.size
                      go_simp
                      generalize X33.heap.size = g13 at *
                      generalize X33.alloc (.cells #[.int .i64 0, .int .i64 0] 24) = X34 at *
                      refine hK _ _ (hSG3.out _ hB34) ?_
                      clear hK K hB33 h12_33
                      (try simp only [Act.put, List.setIfInBounds_toArray, List.set_cons_zero, List.set_cons_succ])
                      refine tr_step rfl (by rfl) (fun K hK => ?_)
                      obtain ⟨u0_35, q0_35, f0_35⟩ := h12_34.get 0 (by omega)
                      obtain ⟨u1_35, q1_35, f1_35⟩ := h12_34.get 1 (by omega)
                      have hB35 := BC (BC hB34 g12 0 hg12 (.int .i64 (p1))) g12 1 hg12 (.int .i64 (p2))
                      have h13_35 := (h13_34.set ⟨g12, 0, none⟩ (.int .i64 (p1))).set ⟨g12, 1, none⟩ (.int .i64 (p2))
                      have h12_35 := two_set h12_34 (p1) (p2)
                      go_simp
                      clear q0_35 f0_35 q1_35 f1_35
                      generalize (X34.setCell ⟨g12, 0, none⟩ (.int .i64 (p1))).setCell ⟨g12, 1, none⟩ (.int .i64 (p2)) = X35 at *
                      refine hK _ _ (hSG3.out _ hB35) ?_
                      clear hK K hB34 h13_34 h12_34
                      (try simp only [Act.put, List.setIfInBounds_toArray, List.set_cons_zero, List.set_cons_succ])
                      refine tr_last rfl (by rfl) (by kernel_rfl) (fun K hK => ?_)
                      obtain ⟨u0_36, q0_36, f0_36⟩ := h13_35.get 0 (by omega)
                      obtain ⟨u1_36, q1_36, f1_36⟩ := h13_35.get 1 (by omega)
                      have hB36 := BC (BC hB35 g13 0 hg13 (.int .i64 (q1))) g13 1 hg13 (.int .i64 (q2))
                      have h12_36 := h12_35.far (g' := g13) (by omega) (q1) (q2)
                      have h13_36 := two_set h13_35 (q1) (q2)
                      go_simp
                      clear q0_36 f0_36 q1_36 f1_36
                      generalize (X35.setCell ⟨g13, 0, none⟩ (.int .i64 (q1))).setCell ⟨g13, 1, none⟩ (.int .i64 (q2)) = X36 at *
                      refine hK _ _ ?_
                      clear hK K hB35 h12_35 h13_35
                      (try simp only [Act.put, List.setIfInBounds_toArray, List.set_cons_zero, List.set_cons_succ])
                      show Exit.then _ _ Exit.normal _ _
                      go_wp2_with fail
                      go_meet
                      exact ⟨g12, g13, rfl, rfl, h12_36, h13_36, hB36⟩
                    · skip
                      refine tr_step rfl (by rfl) (fun K hK => ?_)
                      have hB37 := BA hB32 (.cells #[.int .i64 0, .int .i64 0] 24)
                      have h12_37 := h12_32.below (newB X32 (.cells #[.int .i64 0, .int .i64 0] 24)) (h12_32.lt2)
                      have hlt12_37 := h12_32.lt2
                      have h13_37 := slots_new2 X32 24
                      have hg13 := hB32.size
                      go_simp
                      generalize X32.heap.size = g13 at *
                      generalize X32.alloc (.cells #[.int .i64 0, .int .i64 0] 24) = X37 at *
                      refine hK _ _ (hSG3.out _ hB37) ?_
                      clear hK K hB32 h12_32
                      (try simp only [Act.put, List.setIfInBounds_toArray, List.set_cons_zero, List.set_cons_succ])
                      refine tr_step rfl (by rfl) (fun K hK => ?_)
                      go_simp
                      refine (hU3.out X37 hB37).mono ?_
                      rintro e X38 ⟨rfl, hb38⟩
                      have hB38 := BT hB37 hb38
                      have h12_38 := h12_37.below hb38 (h12_37.lt2)
                      have h13_38 := h13_37.below hb38 (h13_37.lt2)
                      refine hK _ _ (hSG3.out _ hB38) ?_
                      clear hK K hB37 h12_37 h13_37 hb38
                      (try simp only [Act.put, List.setIfInBounds_toArray, List.set_cons_zero, List.set_cons_succ])
                      refine tr_step rfl (by rfl) (fun K hK => ?_)
                      obtain ⟨u0_39, q0_39, f0_39⟩ := h12_38.get 0 (by omega)
                      obtain ⟨u1_39, q1_39, f1_39⟩ := h12_38.get 1 (by omega)
                      have hB39 := BC (BC hB38 g12 0 hg12 (.int .i64 (p1))) g12 1 hg12 (.int .i64 (p2))
                      have h13_39 := (h13_38.set ⟨g12, 0, none⟩ (.int .i64 (p1))).set ⟨g12, 1, none⟩ (.int .i64 (p2))
                      have h12_39 := two_set h12_38 (p1) (p2)
                      go_simp
                      clear q0_39 f0_39 q1_39 f1_39
                      generalize (X38.setCell ⟨g12, 0, none⟩ (.int .i64 (p1))).setCell ⟨g12, 1, none⟩ (.int .i64 (p2)) = X39 at *
                      refine hK _ _ (hSG3.out _ hB39) ?_
                      clear hK K hB38 h13_38 h12_38
                      (try simp only [Act.put, List.setIfInBounds_toArray, List.set_cons_zero, List.set_cons_succ])
                      refine tr_last rfl (by rfl) (by kernel_rfl) (fun K hK => ?_)
                      obtain ⟨u0_40, q0_40, f0_40⟩ := h13_39.get 0 (by omega)
                      obtain ⟨u1_40, q1_40, f1_40⟩ := h13_39.get 1 (by omega)
                      have hB40 := BC (BC hB39 g13 0 hg13 (.int .i64 (q1))) g13 1 hg13 (.int .i64 (q2))
                      have h12_40 := h12_39.far (g' := g13) (by omega) (q1) (q2)
                      have h13_40 := two_set h13_39 (q1) (q2)
                      go_simp
                      clear q0_40 f0_40 q1_40 f1_40
                      generalize (X39.setCell ⟨g13, 0, none⟩ (.int .i64 (q1))).setCell ⟨g13, 1, none⟩ (.int .i64 (q2)) = X40 at *
                      refine hK _ _ ?_
                      clear hK K hB39 h12_39 h13_39
                      (try simp only [Act.put, List.setIfInBounds_toArray, List.set_cons_zero, List.set_cons_succ])
                      show Exit.then _ _ Exit.normal _ _
                      go_wp2_with fail
                      go_meet
                      exact ⟨g12, g13, rfl, rfl, h12_40, h13_40, hB40⟩
                  · skip
                    refine tr_step rfl (by rfl) (fun K hK => ?_)
                    have hB41 := BA hB31 (.cells #[.int .i64 0, .int .i64 0] 24)
                    have h12_41 := h12_31.below (newB X31 (.cells #[.int .i64 0, .int .i64 0] 24)) (h12_31.lt2)
                    have hlt12_41 := h12_31.lt2
                    have h13_41 := slots_new2 X31 24
                    have hg13 := hB31.size
                    go_simp
                    generalize X31.heap.size = g13 at *
                    generalize X31.alloc (.cells #[.int .i64 0, .int .i64 0] 24) = X41 at *
                    refine hK _ _ (hSG3.out _ hB41) ?_
                    clear hK K hB31 h12_31
                    (try simp only [Act.put, List.setIfInBounds_toArray, List.set_cons_zero, List.set_cons_succ])
                    refine tr_step rfl (by rfl) (fun K hK => ?_)
                    go_simp
                    refine (hU1.out X41 hB41).mono ?_
                    rintro e X42 ⟨rfl, hb42⟩
                    have hB42 := BT hB41 hb42
                    have h12_42 := h12_41.below hb42 (h12_41.lt2)
                    have h13_42 := h13_41.below hb42 (h13_41.lt2)
                    refine hK _ _ (hSG3.out _ hB42) ?_
                    clear hK K hB41 h12_41 h13_41 hb42
                    (try simp only [Act.put, List.setIfInBounds_toArray, List.set_cons_zero, List.set_cons_succ])
                    refine tr_step rfl (by rfl) (fun K hK => ?_)
                    go_simp
                    refine (hU3.out X42 hB42).mono ?_
                    rintro e X43 ⟨rfl, hb43⟩
                    have hB43 := BT hB42 hb43
                    have h12_43 := h12_42.below hb43 (h12_42.lt2)
                    have h13_43 := h13_42.below hb43 (h13_42.lt2)
                    refine hK _ _ (hSG3.out _ hB43) ?_
                    clear hK K hB42 h12_42 h13_42 hb43
                    (try simp only [Act.put, List.setIfInBounds_toArray, List.set_cons_zero, List.set_cons_succ])
                    refine tr_step rfl (by rfl) (fun K hK => ?_)
                    obtain ⟨u0_44, q0_44, f0_44⟩ := h12_43.get 0 (by omega)
                    obtain ⟨u1_44, q1_44, f1_44⟩ := h12_43.get 1 (by omega)
                    have hB44 := BC (BC hB43 g12 0 hg12 (.int .i64 (p1))) g12 1 hg12 (.int .i64 (p2))
                    have h13_44 := (h13_43.set ⟨g12, 0, none⟩ (.int .i64 (p1))).set ⟨g12, 1, none⟩ (.int .i64 (p2))
                    have h12_44 := two_set h12_43 (p1) (p2)
                    go_simp
                    clear q0_44 f0_44 q1_44 f1_44
                    generalize (X43.setCell ⟨g12, 0, none⟩ (.int .i64 (p1))).setCell ⟨g12, 1, none⟩ (.int .i64 (p2)) = X44 at *
                    refine hK _ _ (hSG3.out _ hB44) ?_
                    clear hK K hB43 h13_43 h12_43
                    (try simp only [Act.put, List.setIfInBounds_toArray, List.set_cons_zero, List.set_cons_succ])
                    refine tr_last rfl (by rfl) (by kernel_rfl) (fun K hK => ?_)
                    obtain ⟨u0_45, q0_45, f0_45⟩ := h13_44.get 0 (by omega)
                    obtain ⟨u1_45, q1_45, f1_45⟩ := h13_44.get 1 (by omega)
                    have hB45 := BC (BC hB44 g13 0 hg13 (.int .i64 (q1))) g13 1 hg13 (.int .i64 (q2))
                    have h12_45 := h12_44.far (g' := g13) (by omega) (q1) (q2)
                    have h13_45 := two_set h13_44 (q1) (q2)
                    go_simp
                    clear q0_45 f0_45 q1_45 f1_45
                    generalize (X44.setCell ⟨g13, 0, none⟩ (.int .i64 (q1))).setCell ⟨g13, 1, none⟩ (.int .i64 (q2)) = X45 at *
                    refine hK _ _ ?_
                    clear hK K hB44 h12_44 h13_44
                    (try simp only [Act.put, List.setIfInBounds_toArray, List.set_cons_zero, List.set_cons_succ])
                    show Exit.then _ _ Exit.normal _ _
                    go_wp2_with fail
                    go_meet
                    exact ⟨g12, g13, rfl, rfl, h12_45, h13_45, hB45⟩
                · skip
                  refine tr_step rfl (by rfl) (fun K hK => ?_)
                  have hB46 := BA hB2 (.cells #[.int .i64 0, .int .i64 0] 24)
                  have h13_46 := slots_new2 X2 24
                  have hg13 := hB2.size
                  go_simp
                  generalize X2.heap.size = g13 at *
                  generalize X2.alloc (.cells #[.int .i64 0, .int .i64 0] 24) = X46 at *
                  refine hK _ _ (hSG3.out _ hB46) ?_
                  clear hK K hB2 
                  (try simp only [Act.put, List.setIfInBounds_toArray, List.set_cons_zero, List.set_cons_succ])
                  refine ⟨?_, ?_⟩
                  · skip
                    refine tr_step rfl (by rfl) (fun K hK => ?_)
                    go_simp
                    refine (hU1.out X46 hB46).mono ?_
                    rintro e X47 ⟨rfl, hb47⟩
                    have hB47 := BT hB46 hb47
                    have h13_47 := h13_46.below hb47 (h13_46.lt2)
                    refine hK _ _ (hSG3.out _ hB47) ?_
                    clear hK K hB46 h13_46 hb47
                    (try simp only [Act.put, List.setIfInBounds_toArray, List.set_cons_zero, List.set_cons_succ])
                    refine ⟨?_, ?_⟩
                    · skip
                      refine tr_step rfl (by rfl) (fun K hK => ?_)
                      go_simp
                      refine (hU3.out X47 hB47).mono ?_
                      rintro e X48 ⟨rfl, hb48⟩
                      have hB48 := BT hB47 hb48
                      have h13_48 := h13_47.below hb48 (h13_47.lt2)
                      refine hK _ _ (hSG3.out _ hB48) ?_
                      clear hK K hB47 h13_47 hb48
                      (try simp only [Act.put, List.setIfInBounds_toArray, List.set_cons_zero, List.set_cons_succ])
                      refine tr_step rfl (by rfl) (fun K hK => ?_)
                      have hB49 := BA hB48 (.cells #[.int .i64 0, .int .i64 0] 24)
                      have h13_49 := h13_48.below (newB X48 (.cells #[.int .i64 0, .int .i64 0] 24)) (h13_48.lt2)
                      have hlt13_49 := h13_48.lt2
                      have h12_49 := slots_new2 X48 24
                      have hg12 := hB48.size
                      go_simp
                      generalize X48.heap.size = g12 at *
                      generalize X48.alloc (.cells #[.int .i64 0, .int .i64 0] 24) = X49 at *
                      refine hK _ _ (hSG3.out _ hB49) ?_
                      clear hK K hB48 h13_48
                      (try simp only [Act.put, List.setIfInBounds_toArray, List.set_cons_zero, List.set_cons_succ])
                      refine tr_step rfl (by rfl) (fun K hK => ?_)
                      obtain ⟨u0_50, q0_50, f0_50⟩ := h12_49.get 0 (by omega)
                      obtain ⟨u1_50, q1_50, f1_50⟩ := h12_49.get 1 (by omega)
                      have hB50 := BC (BC hB49 g12 0 hg12 (.int .i64 (p1))) g12 1 hg12 (.int .i64 (p2))
                      have h13_50 := (h13_49.set ⟨g12, 0, none⟩ (.int .i64 (p1))).set ⟨g12, 1, none⟩ (.int .i64 (p2))
                      have h12_50 := two_set h12_49 (p1) (p2)
                      go_simp
                      clear q0_50 f0_50 q1_50 f1_50
                      generalize (X49.setCell ⟨g12, 0, none⟩ (.int .i64 (p1))).setCell ⟨g12, 1, none⟩ (.int .i64 (p2)) = X50 at *
                      refine hK _ _ (hSG3.out _ hB50) ?_
                      clear hK K hB49 h13_49 h12_49
                      (try simp only [Act.put, List.setIfInBounds_toArray, List.set_cons_zero, List.set_cons_succ])
                      refine tr_last rfl (by rfl) (by kernel_rfl) (fun K hK => ?_)
                      obtain ⟨u0_51, q0_51, f0_51⟩ := h13_50.get 0 (by omega)
                      obtain ⟨u1_51, q1_51, f1_51⟩ := h13_50.get 1 (by omega)
                      have hB51 := BC (BC hB50 g13 0 hg13 (.int .i64 (q1))) g13 1 hg13 (.int .i64 (q2))
                      have h12_51 := h12_50.far (g' := g13) (by omega) (q1) (q2)
                      have h13_51 := two_set h13_50 (q1) (q2)
                      go_simp
                      clear q0_51 f0_51 q1_51 f1_51
                      generalize (X50.setCell ⟨g13, 0, none⟩ (.int .i64 (q1))).setCell ⟨g13, 1, none⟩ (.int .i64 (q2)) = X51 at *
                      refine hK _ _ ?_
                      clear hK K hB50 h12_50 h13_50
                      (try simp only [Act.put, List.setIfInBounds_toArray, List.set_cons_zero, List.set_cons_succ])
                      show Exit.then _ _ Exit.normal _ _
                      go_wp2_with fail
                      go_meet
                      exact ⟨g12, g13, rfl, rfl, h12_51, h13_51, hB51⟩
                    · skip
                      refine tr_step rfl (by rfl) (fun K hK => ?_)
                      have hB52 := BA hB47 (.cells #[.int .i64 0, .int .i64 0] 24)
                      have h13_52 := h13_47.below (newB X47 (.cells #[.int .i64 0, .int .i64 0] 24)) (h13_47.lt2)
                      have hlt13_52 := h13_47.lt2
                      have h12_52 := slots_new2 X47 24
                      have hg12 := hB47.size
                      go_simp
                      generalize X47.heap.size = g12 at *
                      generalize X47.alloc (.cells #[.int .i64 0, .int .i64 0] 24) = X52 at *
                      refine hK _ _ (hSG3.out _ hB52) ?_
                      clear hK K hB47 h13_47
                      (try simp only [Act.put, List.setIfInBounds_toArray, List.set_cons_zero, List.set_cons_succ])
                      refine tr_step rfl (by rfl) (fun K hK => ?_)
                      go_simp
                      refine (hU3.out X52 hB52).mono ?_
                      rintro e X53 ⟨rfl, hb53⟩
                      have hB53 := BT hB52 hb53
                      have h13_53 := h13_52.below hb53 (h13_52.lt2)
                      have h12_53 := h12_52.below hb53 (h12_52.lt2)
                      refine hK _ _ (hSG3.out _ hB53) ?_
                      clear hK K hB52 h13_52 h12_52 hb53
                      (try simp only [Act.put, List.setIfInBounds_toArray, List.set_cons_zero, List.set_cons_succ])
                      refine tr_step rfl (by rfl) (fun K hK => ?_)
                      obtain ⟨u0_54, q0_54, f0_54⟩ := h12_53.get 0 (by omega)
                      obtain ⟨u1_54, q1_54, f1_54⟩ := h12_53.get 1 (by omega)
                      have hB54 := BC (BC hB53 g12 0 hg12 (.int .i64 (p1))) g12 1 hg12 (.int .i64 (p2))
                      have h13_54 := (h13_53.set ⟨g12, 0, none⟩ (.int .i64 (p1))).set ⟨g12, 1, none⟩ (.int .i64 (p2))
                      have h12_54 := two_set h12_53 (p1) (p2)
                      go_simp
                      clear q0_54 f0_54 q1_54 f1_54
                      generalize (X53.setCell ⟨g12, 0, none⟩ (.int .i64 (p1))).setCell ⟨g12, 1, none⟩ (.int .i64 (p2)) = X54 at *
                      refine hK _ _ (hSG3.out _ hB54) ?_
                      clear hK K hB53 h13_53 h12_53
                      (try simp only [Act.put, List.setIfInBounds_toArray, List.set_cons_zero, List.set_cons_succ])
                      refine tr_last rfl (by rfl) (by kernel_rfl) (fun K hK => ?_)
                      obtain ⟨u0_55, q0_55, f0_55⟩ := h13_54.get 0 (by omega)
                      obtain ⟨u1_55, q1_55, f1_55⟩ := h13_54.get 1 (by omega)
                      have hB55 := BC (BC hB54 g13 0 hg13 (.int .i64 (q1))) g13 1 hg13 (.int .i64 (q2))
                      have h12_55 := h12_54.far (g' := g13) (by omega) (q1) (q2)
                      have h13_55 := two_set h13_54 (q1) (q2)
                      go_simp
                      clear q0_55 f0_55 q1_55 f1_55
                      generalize (X54.setCell ⟨g13, 0, none⟩ (.int .i64 (q1))).setCell ⟨g13, 1, none⟩ (.int .i64 (q2)) = X55 at *
                      refine hK _ _ ?_
                      clear hK K hB54 h12_54 h13_54
                      (try simp only [Act.put, List.setIfInBounds_toArray, List.set_cons_zero, List.set_cons_succ])
                      show Exit.then _ _ Exit.normal _ _
                      go_wp2_with fail
                      go_meet
                      exact ⟨g12, g13, rfl, rfl, h12_55, h13_55, hB55⟩
                  · skip
                    refine tr_step rfl (by rfl) (fun K hK => ?_)
                    have hB56 := BA hB46 (.cells #[.int .i64 0, .int .i64 0] 24)
                    have h13_56 := h13_46.below (newB X46 (.cells #[.int .i64 0, .int .i64 0] 24)) (h13_46.lt2)
                    have hlt13_56 := h13_46.lt2
                    have h12_56 := slots_new2 X46 24
                    have hg12 := hB46.size
                    go_simp
                    generalize X46.heap.size = g12 at *
                    generalize X46.alloc (.cells #[.int .i64 0, .int .i64 0] 24) = X56 at *
                    refine hK _ _ (hSG3.out _ hB56) ?_
                    clear hK K hB46 h13_46
                    (try simp only [Act.put, List.setIfInBounds_toArray, List.set_cons_zero, List.set_cons_succ])
                    refine tr_step rfl (by rfl) (fun K hK => ?_)
                    go_simp
                    refine (hU1.out X56 hB56).mono ?_
                    rintro e X57 ⟨rfl, hb57⟩
                    have hB57 := BT hB56 hb57
                    have h13_57 := h13_56.below hb57 (h13_56.lt2)
                    have h12_57 := h12_56.below hb57 (h12_56.lt2)
                    refine hK _ _ (hSG3.out _ hB57) ?_
                    clear hK K hB56 h13_56 h12_56 hb57
                    (try simp only [Act.put, List.setIfInBounds_toArray, List.set_cons_zero, List.set_cons_succ])
                    refine tr_step rfl (by rfl) (fun K hK => ?_)
                    go_simp
                    refine (hU3.out X57 hB57).mono ?_
                    rintro e X58 ⟨rfl, hb58⟩
                    have hB58 := BT hB57 hb58
                    have h13_58 := h13_57.below hb58 (h13_57.lt2)
                    have h12_58 := h12_57.below hb58 (h12_57.lt2)
                    refine hK _ _ (hSG3.out _ hB58) ?_
                    clear hK K hB57 h13_57 h12_57 hb58
                    (try simp only [Act.put, List.setIfInBounds_toArray, List.set_cons_zero, List.set_cons_succ])
                    refine tr_step rfl (by rfl) (fun K hK => ?_)
                    obtain ⟨u0_59, q0_59, f0_59⟩ := h12_58.get 0 (by omega)
                    obtain ⟨u1_59, q1_59, f1_59⟩ := h12_58.get 1 (by omega)
                    have hB59 := BC (BC hB58 g12 0 hg12 (.int .i64 (p1))) g12 1 hg12 (.int .i64 (p2))
                    have h13_59 := (h13_58.set ⟨g12, 0, none⟩ (.int .i64 (p1))).set ⟨g12, 1, none⟩ (.int .i64 (p2))
                    have h12_59 := two_set h12_58 (p1) (p2)
                    go_simp
                    clear q0_59 f0_59 q1_59 f1_59
                    generalize (X58.setCell ⟨g12, 0, none⟩ (.int .i64 (p1))).setCell ⟨g12, 1, none⟩ (.int .i64 (p2)) = X59 at *
                    refine hK _ _ (hSG3.out _ hB59) ?_
                    clear hK K hB58 h13_58 h12_58
                    (try simp only [Act.put, List.setIfInBounds_toArray, List.set_cons_zero, List.set_cons_succ])
                    refine tr_last rfl (by rfl) (by kernel_rfl) (fun K hK => ?_)
                    obtain ⟨u0_60, q0_60, f0_60⟩ := h13_59.get 0 (by omega)
                    obtain ⟨u1_60, q1_60, f1_60⟩ := h13_59.get 1 (by omega)
                    have hB60 := BC (BC hB59 g13 0 hg13 (.int .i64 (q1))) g13 1 hg13 (.int .i64 (q2))
                    have h12_60 := h12_59.far (g' := g13) (by omega) (q1) (q2)
                    have h13_60 := two_set h13_59 (q1) (q2)
                    go_simp
                    clear q0_60 f0_60 q1_60 f1_60
                    generalize (X59.setCell ⟨g13, 0, none⟩ (.int .i64 (q1))).setCell ⟨g13, 1, none⟩ (.int .i64 (q2)) = X60 at *
                    refine hK _ _ ?_
                    clear hK K hB59 h12_59 h13_59
                    (try simp only [Act.put, List.setIfInBounds_toArray, List.set_cons_zero, List.set_cons_succ])
                    show Exit.then _ _ Exit.normal _ _
                    go_wp2_with fail
                    go_meet
                    exact ⟨g12, g13, rfl, rfl, h12_60, h13_60, hB60⟩
              · skip
                refine tr_step rfl (by rfl) (fun K hK => ?_)
                have hB61 := BA hB1 (.cells #[.int .i64 0, .int .i64 0] 24)
                have h12_61 := slots_new2 X1 24
                have hg12 := hB1.size
                go_simp
                generalize X1.heap.size = g12 at *
                generalize X1.alloc (.cells #[.int .i64 0, .int .i64 0] 24) = X61 at *
                refine hK _ _ (hSG3.out _ hB61) ?_
                clear hK K hB1 
                (try simp only [Act.put, List.setIfInBounds_toArray, List.set_cons_zero, List.set_cons_succ])
                refine ⟨?_, ?_⟩
                · skip
                  refine tr_step rfl (by rfl) (fun K hK => ?_)
                  go_simp
                  refine (hU2.out X61 hB61).mono ?_
                  rintro e X62 ⟨rfl, hb62⟩
                  have hB62 := BT hB61 hb62
                  have h12_62 := h12_61.below hb62 (h12_61.lt2)
                  refine hK _ _ (hSG3.out _ hB62) ?_
                  clear hK K hB61 h12_61 hb62
                  (try simp only [Act.put, List.setIfInBounds_toArray, List.set_cons_zero, List.set_cons_succ])
                  refine ⟨?_, ?_⟩
                  · skip
                    refine tr_step rfl (by rfl) (fun K hK => ?_)
                    go_simp
                    refine (hU1.out X62 hB62).mono ?_
                    rintro e X63 ⟨rfl, hb63⟩
                    have hB63 := BT hB62 hb63
                    have h12_63 := h12_62.below hb63 (h12_62.lt2)
                    refine hK _ _ (hSG3.out _ hB63) ?_
                    clear hK K hB62 h12_62 hb63
                    (try simp only [Act.put, List.setIfInBounds_toArray, List.set_cons_zero, List.set_cons_succ])
                    refine ⟨?_, ?_⟩
                    · skip
                      refine tr_step rfl (by rfl) (fun K hK => ?_)
                      go_simp
                      refine (hU3.out X63 hB63).mono ?_
                      rintro e X64 ⟨rfl, hb64⟩
                      have hB64 := BT hB63 hb64
                      have h12_64 := h12_63.below hb64 (h12_63.lt2)
                      refine hK _ _ (hSG3.out _ hB64) ?_
                      clear hK K hB63 h12_63 hb64
                      (try simp only [Act.put, List.setIfInBounds_toArray, List.set_cons_zero, List.set_cons_succ])
                      refine tr_step rfl (by rfl) (fun K hK => ?_)
                      have hB65 := BA hB64 (.cells #[.int .i64 0, .int .i64 0] 24)
                      have h12_65 := h12_64.below (newB X64 (.cells #[.int .i64 0, .int .i64 0] 24)) (h12_64.lt2)
                      have hlt12_65 := h12_64.lt2
                      have h13_65 := slots_new2 X64 24
                      have hg13 := hB64.size
                      go_simp
                      generalize X64.heap.size = g13 at *
                      generalize X64.alloc (.cells #[.int .i64 0, .int .i64 0] 24) = X65 at *
                      refine hK _ _ (hSG3.out _ hB65) ?_
                      clear hK K hB64 h12_64
                      (try simp only [Act.put, List.setIfInBounds_toArray, List.set_cons_zero, List.set_cons_succ])
                      refine tr_step rfl (by rfl) (fun K hK => ?_)
                      obtain ⟨u0_66, q0_66, f0_66⟩ := h12_65.get 0 (by omega)
                      obtain ⟨u1_66, q1_66, f1_66⟩ := h12_65.get 1 (by omega)
                      have hB66 := BC (BC hB65 g12 0 hg12 (.int .i64 (p1))) g12 1 hg12 (.int .i64 (p2))
                      have h13_66 := (h13_65.set ⟨g12, 0, none⟩ (.int .i64 (p1))).set ⟨g12, 1, none⟩ (.int .i64 (p2))
                      have h12_66 := two_set h12_65 (p1) (p2)
                      go_simp
                      clear q0_66 f0_66 q1_66 f1_66
                      generalize (X65.setCell ⟨g12, 0, none⟩ (.int .i64 (p1))).setCell ⟨g12, 1, none⟩ (.int .i64 (p2)) = X66 at *
                      refine hK _ _ (hSG3.out _ hB66) ?_
                      clear hK K hB65 h13_65 h12_65
                      (try simp only [Act.put, List.setIfInBounds_toArray, List.set_cons_zero, List.set_cons_succ])
                      refine tr_last rfl (by rfl) (by kernel_rfl) (fun K hK => ?_)
                      obtain ⟨u0_67, q0_67, f0_67⟩ := h13_66.get 0 (by omega)
                      obtain ⟨u1_67, q1_67, f1_67⟩ := h13_66.get 1 (by omega)
                      have hB67 := BC (BC hB66 g13 0 hg13 (.int .i64 (q1))) g13 1 hg13 (.int .i64 (q2))
                      have h12_67 := h12_66.far (g' := g13) (by omega) (q1) (q2)
                      have h13_67 := two_set h13_66 (q1) (q2)
                      go_simp
                      clear q0_67 f0_67 q1_67 f1_67
                      generalize (X66.setCell ⟨g13, 0, none⟩ (.int .i64 (q1))).setCell ⟨g13, 1, none⟩ (.int .i64 (q2)) = X67 at *
                      refine hK _ _ ?_
                      clear hK K hB66 h12_66 h13_66
                      (try simp only [Act.put, List.setIfInBounds_toArray, List.set_cons_zero, List.set_cons_succ])
                      show Exit.then _ _ Exit.normal _ _
                      go_wp2_with fail
                      go_meet
                      exact ⟨g12, g13, rfl, rfl, h12_67, h13_67, hB67⟩
                    · skip
                      refine tr_step rfl (by rfl) (fun K hK => ?_)
                      have hB68 := BA hB63 (.cells #[.int .i64 0, .int .i64 0] 24)
                      have h12_68 := h12_63.below (newB X63 (.cells #[.int .i64 0, .int .i64 0] 24)) (h12_63.lt2)
                      have hlt12_68 := h12_63.lt2
                      have h13_68 := slots_new2 X63 24
                      have hg13 := hB63.size
                      go_simp
                      generalize X63.heap.size = g13 at *
                      generalize X63.alloc (.cells #[.int .i64 0, .int .i64 0] 24) = X68 at *
                      refine hK _ _ (hSG3.out _ hB68) ?_
                      clear hK K hB63 h12_63
                      (try simp only [Act.put, List.setIfInBounds_toArray, List.set_cons_zero, List.set_cons_succ])
                      refine tr_step rfl (by rfl) (fun K hK => ?_)
                      go_simp
                      refine (hU3.out X68 hB68).mono ?_
                      rintro e X69 ⟨rfl, hb69⟩
                      have hB69 := BT hB68 hb69
                      have h12_69 := h12_68.below hb69 (h12_68.lt2)
                      have h13_69 := h13_68.below hb69 (h13_68.lt2)
                      refine hK _ _ (hSG3.out _ hB69) ?_
                      clear hK K hB68 h12_68 h13_68 hb69
                      (try simp only [Act.put, List.setIfInBounds_toArray, List.set_cons_zero, List.set_cons_succ])
                      refine tr_step rfl (by rfl) (fun K hK => ?_)
                      obtain ⟨u0_70, q0_70, f0_70⟩ := h12_69.get 0 (by omega)
                      obtain ⟨u1_70, q1_70, f1_70⟩ := h12_69.get 1 (by omega)
                      have hB70 := BC (BC hB69 g12 0 hg12 (.int .i64 (p1))) g12 1 hg12 (.int .i64 (p2))
                      have h13_70 := (h13_69.set ⟨g12, 0, none⟩ (.int .i64 (p1))).set ⟨g12, 1, none⟩ (.int .i64 (p2))
                      have h12_70 := two_set h12_69 (p1) (p2)
                      go_simp
                      clear q0_70 f0_70 q1_70 f1_70
                      generalize (X69.setCell ⟨g12, 0, none⟩ (.int .i64 (p1))).setCell ⟨g12, 1, none⟩ (.int .i64 (p2)) = X70 at *
                      refine hK _ _ (hSG3.out _ hB70) ?_
                      clear hK K hB69 h13_69 h12_69
                      (try simp only [Act.put, List.setIfInBounds_toArray, List.set_cons_zero, List.set_cons_succ])
                      refine tr_last rfl (by rfl) (by kernel_rfl) (fun K hK => ?_)
                      obtain ⟨u0_71, q0_71, f0_71⟩ := h13_70.get 0 (by omega)
                      obtain ⟨u1_71, q1_71, f1_71⟩ := h13_70.get 1 (by omega)
                      have hB71 := BC (BC hB70 g13 0 hg13 (.int .i64 (q1))) g13 1 hg13 (.int .i64 (q2))
                      have h12_71 := h12_70.far (g' := g13) (by omega) (q1) (q2)
                      have h13_71 := two_set h13_70 (q1) (q2)
                      go_simp
                      clear q0_71 f0_71 q1_71 f1_71
                      generalize (X70.setCell ⟨g13, 0, none⟩ (.int .i64 (q1))).setCell ⟨g13, 1, none⟩ (.int .i64 (q2)) = X71 at *
                      refine hK _ _ ?_
                      clear hK K hB70 h12_70 h13_70
                      (try simp only [Act.put, List.setIfInBounds_toArray, List.set_cons_zero, List.set_cons_succ])
                      show Exit.then _ _ Exit.normal _ _
                      go_wp2_with fail
                      go_meet
                      exact ⟨g12, g13, rfl, rfl, h12_71, h13_71, hB71⟩
                  · skip
                    refine tr_step rfl (by rfl) (fun K hK => ?_)
                    have hB72 := BA hB62 (.cells #[.int .i64 0, .int .i64 0] 24)
                    have h12_72 := h12_62.below (newB X62 (.cells #[.int .i64 0, .int .i64 0] 24)) (h12_62.lt2)
                    have hlt12_72 := h12_62.lt2
                    have h13_72 := slots_new2 X62 24
                    have hg13 := hB62.size
                    go_simp
                    generalize X62.heap.size = g13 at *
                    generalize X62.alloc (.cells #[.int .i64 0, .int .i64 0] 24) = X72 at *
                    refine hK _ _ (hSG3.out _ hB72) ?_
                    clear hK K hB62 h12_62
                    (try simp only [Act.put, List.setIfInBounds_toArray, List.set_cons_zero, List.set_cons_succ])
                    refine tr_step rfl (by rfl) (fun K hK => ?_)
                    go_simp
                    refine (hU1.out X72 hB72).mono ?_
                    rintro e X73 ⟨rfl, hb73⟩
                    have hB73 := BT hB72 hb73
                    have h12_73 := h12_72.below hb73 (h12_72.lt2)
                    have h13_73 := h13_72.below hb73 (h13_72.lt2)
                    refine hK _ _ (hSG3.out _ hB73) ?_
                    clear hK K hB72 h12_72 h13_72 hb73
                    (try simp only [Act.put, List.setIfInBounds_toArray, List.set_cons_zero, List.set_cons_succ])
                    refine tr_step rfl (by rfl) (fun K hK => ?_)
                    go_simp
                    refine (hU3.out X73 hB73).mono ?_
                    rintro e X74 ⟨rfl, hb74⟩
                    have hB74 := BT hB73 hb74
                    have h12_74 := h12_73.below hb74 (h12_73.lt2)
                    have h13_74 := h13_73.below hb74 (h13_73.lt2)
                    refine hK _ _ (hSG3.out _ hB74) ?_
                    clear hK K hB73 h12_73 h13_73 hb74
                    (try simp only [Act.put, List.setIfInBounds_toArray, List.set_cons_zero, List.set_cons_succ])
                    refine tr_step rfl (by rfl) (fun K hK => ?_)
                    obtain ⟨u0_75, q0_75, f0_75⟩ := h12_74.get 0 (by omega)
                    obtain ⟨u1_75, q1_75, f1_75⟩ := h12_74.get 1 (by omega)
                    have hB75 := BC (BC hB74 g12 0 hg12 (.int .i64 (p1))) g12 1 hg12 (.int .i64 (p2))
                    have h13_75 := (h13_74.set ⟨g12, 0, none⟩ (.int .i64 (p1))).set ⟨g12, 1, none⟩ (.int .i64 (p2))
                    have h12_75 := two_set h12_74 (p1) (p2)
                    go_simp
                    clear q0_75 f0_75 q1_75 f1_75
                    generalize (X74.setCell ⟨g12, 0, none⟩ (.int .i64 (p1))).setCell ⟨g12, 1, none⟩ (.int .i64 (p2)) = X75 at *
                    refine hK _ _ (hSG3.out _ hB75) ?_
                    clear hK K hB74 h13_74 h12_74
                    (try simp only [Act.put, List.setIfInBounds_toArray, List.set_cons_zero, List.set_cons_succ])
                    refine tr_last rfl (by rfl) (by kernel_rfl) (fun K hK => ?_)
                    obtain ⟨u0_76, q0_76, f0_76⟩ := h13_75.get 0 (by omega)
                    obtain ⟨u1_76, q1_76, f1_76⟩ := h13_75.get 1 (by omega)
                    have hB76 := BC (BC hB75 g13 0 hg13 (.int .i64 (q1))) g13 1 hg13 (.int .i64 (q2))
                    have h12_76 := h12_75.far (g' := g13) (by omega) (q1) (q2)
                    have h13_76 := two_set h13_75 (q1) (q2)
                    go_simp
                    clear q0_76 f0_76 q1_76 f1_76
                    generalize (X75.setCell ⟨g13, 0, none⟩ (.int .i64 (q1))).setCell ⟨g13, 1, none⟩ (.int .i64 (q2)) = X76 at *
                    refine hK _ _ ?_
                    clear hK K hB75 h12_75 h13_75
                    (try simp only [Act.put, List.setIfInBounds_toArray, List.set_cons_zero, List.set_cons_succ])
                    show Exit.then _ _ Exit.normal _ _
                    go_wp2_with fail
                    go_meet
                    exact ⟨g12, g13, rfl, rfl, h12_76, h13_76, hB76⟩
                · skip
                  refine tr_step rfl (by rfl) (fun K hK => ?_)
                  have hB77 := BA hB61 (.cells #[.int .i64 0, .int .i64 0] 24)
                  have h12_77 := h12_61.below (newB X61 (.cells #[.int .i64 0, .int .i64 0] 24)) (h12_61.lt2)
                  have hlt12_77 := h12_61.lt2
                  have h13_77 := slots_new2 X61 24
                  have hg13 := hB61.size
                  go_simp
                  generalize X61.heap.size = g13 at *
                  generalize X61.alloc (.cells #[.int .i64 0, .int .i64 0] 24) = X77 at *
                  refine hK _ _ (hSG3.out _ hB77) ?_
                  clear hK K hB61 h12_61
                  (try simp only [Act.put, List.setIfInBounds_toArray, List.set_cons_zero, List.set_cons_succ])
                  refine tr_step rfl (by rfl) (fun K hK => ?_)
                  go_simp
                  refine (hU2.out X77 hB77).mono ?_
                  rintro e X78 ⟨rfl, hb78⟩
                  have hB78 := BT hB77 hb78
                  have h12_78 := h12_77.below hb78 (h12_77.lt2)
                  have h13_78 := h13_77.below hb78 (h13_77.lt2)
                  refine hK _ _ (hSG3.out _ hB78) ?_
                  clear hK K hB77 h12_77 h13_77 hb78
                  (try simp only [Act.put, List.setIfInBounds_toArray, List.set_cons_zero, List.set_cons_succ])
                  refine tr_step rfl (by rfl) (fun K hK => ?_)
                  go_simp
                  refine (hU1.out X78 hB78).mono ?_
                  rintro e X79 ⟨rfl, hb79⟩
                  have hB79 := BT hB78 hb79
                  have h12_79 := h12_78.below hb79 (h12_78.lt2)
                  have h13_79 := h13_78.below hb79 (h13_78.lt2)
                  refine hK _ _ (hSG3.out _ hB79) ?_
                  clear hK K hB78 h12_78 h13_78 hb79
                  (try simp only [Act.put, List.setIfInBounds_toArray, List.set_cons_zero, List.set_cons_succ])
                  refine tr_step rfl (by rfl) (fun K hK => ?_)
                  go_simp
                  refine (hU3.out X79 hB79).mono ?_
                  rintro e X80 ⟨rfl, hb80⟩
                  have hB80 := BT hB79 hb80
                  have h12_80 := h12_79.below hb80 (h12_79.lt2)
                  have h13_80 := h13_79.below hb80 (h13_79.lt2)
                  refine hK _ _ (hSG3.out _ hB80) ?_
                  clear hK K hB79 h12_79 h13_79 hb80
                  (try simp only [Act.put, List.setIfInBounds_toArray, List.set_cons_zero, List.set_cons_succ])
                  refine tr_step rfl (by rfl) (fun K hK => ?_)
                  obtain ⟨u0_81, q0_81, f0_81⟩ := h12_80.get 0 (by omega)
                  obtain ⟨u1_81, q1_81, f1_81⟩ := h12_80.get 1 (by omega)
                  have hB81 := BC (BC hB80 g12 0 hg12 (.int .i64 (p1))) g12 1 hg12 (.int .i64 (p2))
                  have h13_81 := (h13_80.set ⟨g12, 0, none⟩ (.int .i64 (p1))).set ⟨g12, 1, none⟩ (.int .i64 (p2))
                  have h12_81 := two_set h12_80 (p1) (p2)
                  go_simp
                  clear q0_81 f0_81 q1_81 f1_81
                  generalize (X80.setCell ⟨g12, 0, none⟩ (.int .i64 (p1))).setCell ⟨g12, 1, none⟩ (.int .i64 (p2)) = X81 at *
                  refine hK _ _ (hSG3.out _ hB81) ?_
                  clear hK K hB80 h13_80 h12_80
                  (try simp only [Act.put, List.setIfInBounds_toArray, List.set_cons_zero, List.set_cons_succ])
                  refine tr_last rfl (by rfl) (by kernel_rfl) (fun K hK => ?_)
                  obtain ⟨u0_82, q0_82, f0_82⟩ := h13_81.get 0 (by omega)
                  obtain ⟨u1_82, q1_82, f1_82⟩ := h13_81.get 1 (by omega)
                  have hB82 := BC (BC hB81 g13 0 hg13 (.int .i64 (q1))) g13 1 hg13 (.int .i64 (q2))
                  have h12_82 := h12_81.far (g' := g13) (by omega) (q1) (q2)
                  have h13_82 := two_set h13_81 (q1) (q2)
                  go_simp
                  clear q0_82 f0_82 q1_82 f1_82
                  generalize (X81.setCell ⟨g13, 0, none⟩ (.int .i64 (q1))).setCell ⟨g13, 1, none⟩ (.int .i64 (q2)) = X82 at *
                  refine hK _ _ ?_
                  clear hK K hB81 h12_81 h13_81
                  (try simp only [Act.put, List.setIfInBounds_toArray, List.set_cons_zero, List.set_cons_succ])
                  show Exit.then _ _ Exit.normal _ _
                  go_wp2_with fail
                  go_meet
                  exact ⟨g12, g13, rfl, rfl, h12_82, h13_82, hB82⟩
              · skip
                refine tr_step rfl (by rfl) (fun K hK => ?_)
                have hB83 := BA hB1 (.cells #[.int .i64 0, .int .i64 0] 24)
                have h13_83 := slots_new2 X1 24
                have hg13 := hB1.size
                go_simp
                generalize X1.heap.size = g13 at *
                generalize X1.alloc (.cells #[.int .i64 0, .int .i64 0] 24) = X83 at *
                refine hK _ _ (hSG3.out _ hB83) ?_
                clear hK K hB1 
                (try simp only [Act.put, List.setIfInBounds_toArray, List.set_cons_zero, List.set_cons_succ])
                refine ⟨?_, ?_⟩
                · skip
                  refine tr_step rfl (by rfl) (fun K hK => ?_)
                  go_simp
                  refine (hU2.out X83 hB83).mono ?_
                  rintro e X84 ⟨rfl, hb84⟩
                  have hB84 := BT hB83 hb84
                  have h13_84 := h13_83.below hb84 (h13_83.lt2)
                  refine hK _ _ (hSG3.out _ hB84) ?_
                  clear hK K hB83 h13_83 hb84
                  (try simp only [Act.put, List.setIfInBounds_toArray, List.set_cons_zero, List.set_cons_succ])
                  refine ⟨?_, ?_⟩
                  · skip
                    refine tr_step rfl (by rfl) (fun K hK => ?_)
                    go_simp
                    refine (hU1.out X84 hB84).mono ?_
                    rintro e X85 ⟨rfl, hb85⟩
                    have hB85 := BT hB84 hb85
                    have h13_85 := h13_84.below hb85 (h13_84.lt2)
                    refine hK _ _ (hSG3.out _ hB85) ?_
                    clear hK K hB84 h13_84 hb85
                    (try simp only [Act.put, List.setIfInBounds_toArray, List.set_cons_zero, List.set_cons_succ])
                    refine ⟨?_, ?_⟩
                    · skip
                      refine tr_step rfl (by rfl) (fun K hK => ?_)
                      go_simp
                      refine (hU3.out X85 hB85).mono ?_
                      rintro e X86 ⟨rfl, hb86⟩
                      have hB86 := BT hB85 hb86
                      have h13_86 := h13_85.below hb86 (h13_85.lt2)
                      refine hK _ _ (hSG3.out _ hB86) ?_
                      clear hK K hB85 h13_85 hb86
                      (try simp only [Act.put, List.setIfInBounds_toArray, List.set_cons_zero, List.set_cons_succ])
                      refine tr_step rfl (by rfl) (fun K hK => ?_)
                      have hB87 := BA hB86 (.cells #[.int .i64 0, .int .i64 0] 24)
                      have h13_87 := h13_86.below (newB X86 (.cells #[.int .i64 0, .int .i64 0] 24)) (h13_86.lt2)
                      have hlt13_87 := h13_86.lt2
                      have h12_87 := slots_new2 X86 24
                      have hg12 := hB86.size
                      go_simp
                      generalize X86.heap.size = g12 at *
                      generalize X86.alloc (.cells #[.int .i64 0, .int .i64 0] 24) = X87 at *
                      refine hK _ _ (hSG3.out _ hB87) ?_
                      clear hK K hB86 h13_86
                      (try simp only [Act.put, List.setIfInBounds_toArray, List.set_cons_zero, List.set_cons_succ])
                      refine tr_step rfl (by rfl) (fun K hK => ?_)
                      obtain ⟨u0_88, q0_88, f0_88⟩ := h12_87.get 0 (by omega)
                      obtain ⟨u1_88, q1_88, f1_88⟩ := h12_87.get 1 (by omega)
                      have hB88 := BC (BC hB87 g12 0 hg12 (.int .i64 (p1))) g12 1 hg12 (.int .i64 (p2))
                      have h13_88 := (h13_87.set ⟨g12, 0, none⟩ (.int .i64 (p1))).set ⟨g12, 1, none⟩ (.int .i64 (p2))
                      have h12_88 := two_set h12_87 (p1) (p2)
                      go_simp
                      clear q0_88 f0_88 q1_88 f1_88
                      generalize (X87.setCell ⟨g12, 0, none⟩ (.int .i64 (p1))).setCell ⟨g12, 1, none⟩ (.int .i64 (p2)) = X88 at *
                      refine hK _ _ (hSG3.out _ hB88) ?_
                      clear hK K hB87 h13_87 h12_87
                      (try simp only [Act.put, List.setIfInBounds_toArray, List.set_cons_zero, List.set_cons_succ])
                      refine tr_last rfl (by rfl) (by kernel_rfl) (fun K hK => ?_)
                      obtain ⟨u0_89, q0_89, f0_89⟩ := h13_88.get 0 (by omega)
                      obtain ⟨u1_89, q1_89, f1_89⟩ := h13_88.get 1 (by omega)
                      have hB89 := BC (BC hB88 g13 0 hg13 (.int .i64 (q1))) g13 1 hg13 (.int .i64 (q2))
                      have h12_89 := h12_88.far (g' := g13) (by omega) (q1) (q2)
                      have h13_89 := two_set h13_88 (q1) (q2)
                      go_simp
                      clear q0_89 f0_89 q1_89 f1_89
                      generalize (X88.setCell ⟨g13, 0, none⟩ (.int .i64 (q1))).setCell ⟨g13, 1, none⟩ (.int .i64 (q2)) = X89 at *
                      refine hK _ _ ?_
                      clear hK K hB88 h12_88 h13_88
                      (try simp only [Act.put, List.setIfInBounds_toArray, List.set_cons_zero, List.set_cons_succ])
                      show Exit.then _ _ Exit.normal _ _
                      go_wp2_with fail
                      go_meet
                      exact ⟨g12, g13, rfl, rfl, h12_89, h13_89, hB89⟩
                    · skip
                      refine tr_step rfl (by rfl) (fun K hK => ?_)
                      have hB90 := BA hB85 (.cells #[.int .i64 0, .int .i64 0] 24)
                      have h13_90 := h13_85.below (newB X85 (.cells #[.int .i64 0, .int .i64 0] 24)) (h13_85.lt2)
                      have hlt13_90 := h13_85.lt2
                      have h12_90 := slots_new2 X85 24
                      have hg12 := hB85.size
                      go_simp
                      generalize X85.heap.size = g12 at *
                      generalize X85.alloc (.cells #[.int .i64 0, .int .i64 0] 24) = X90 at *
                      refine hK _ _ (hSG3.out _ hB90) ?_
                      clear hK K hB85 h13_85
                      (try simp only [Act.put, List.setIfInBounds_toArray, List.set_cons_zero, List.set_cons_succ])
                      refine tr_step rfl (by rfl) (fun K hK => ?_)
                      go_simp
                      refine (hU3.out X90 hB90).mono ?_
                      rintro e X91 ⟨rfl, hb91⟩
                      have hB91 := BT hB90 hb91
                      have h13_91 := h13_90.below hb91 (h13_90.lt2)
                      have h12_91 := h12_90.below hb91 (h12_90.lt2)
                      refine hK _ _ (hSG3.out _ hB91) ?_
                      clear hK K hB90 h13_90 h12_90 hb91
                      (try simp only [Act.put, List.setIfInBounds_toArray, List.set_cons_zero, List.set_cons_succ])
                      refine tr_step rfl (by rfl) (fun K hK => ?_)
                      obtain ⟨u0_92, q0_92, f0_92⟩ := h12_91.get 0 (by omega)
                      obtain ⟨u1_92, q1_92, f1_92⟩ := h12_91.get 1 (by omega)
                      have hB92 := BC (BC hB91 g12 0 hg12 (.int .i64 (p1))) g12 1 hg12 (.int .i64 (p2))
                      have h13_92 := (h13_91.set ⟨g12, 0, none⟩ (.int .i64 (p1))).set ⟨g12, 1, none⟩ (.int .i64 (p2))
                      have h12_92 := two_set h12_91 (p1) (p2)
                      go_simp
                      clear q0_92 f0_92 q1_92 f1_92
                      generalize (X91.setCell ⟨g12, 0, none⟩ (.int .i64 (p1))).setCell ⟨g12, 1, none⟩ (.int .i64 (p2)) = X92 at *
                      refine hK _ _ (hSG3.out _ hB92) ?_
                      clear hK K hB91 h13_91 h12_91
                      (try simp only [Act.put, List.setIfInBounds_toArray, List.set_cons_zero, List.set_cons_succ])
                      refine tr_last rfl (by rfl) (by kernel_rfl) (fun K hK => ?_)
                      obtain ⟨u0_93, q0_93, f0_93⟩ := h13_92.get 0 (by omega)
                      obtain ⟨u1_93, q1_93, f1_93⟩ := h13_92.get 1 (by omega)
                      have hB93 := BC (BC hB92 g13 0 hg13 (.int .i64 (q1))) g13 1 hg13 (.int .i64 (q2))
                      have h12_93 := h12_92.far (g' := g13) (by omega) (q1) (q2)
                      have h13_93 := two_set h13_92 (q1) (q2)
                      go_simp
                      clear q0_93 f0_93 q1_93 f1_93
                      generalize (X92.setCell ⟨g13, 0, none⟩ (.int .i64 (q1))).setCell ⟨g13, 1, none⟩ (.int .i64 (q2)) = X93 at *
                      refine hK _ _ ?_
                      clear hK K hB92 h12_92 h13_92
                      (try simp only [Act.put, List.setIfInBounds_toArray, List.set_cons_zero, List.set_cons_succ])
                      show Exit.then _ _ Exit.normal _ _
                      go_wp2_with fail
                      go_meet
                      exact ⟨g12, g13, rfl, rfl, h12_93, h13_93, hB93⟩
                  · skip
                    refine tr_step rfl (by rfl) (fun K hK => ?_)
                    have hB94 := BA hB84 (.cells #[.int .i64 0, .int .i64 0] 24)
                    have h13_94 := h13_84.below (newB X84 (.cells #[.int .i64 0, .int .i64 0] 24)) (h13_84.lt2)
                    have hlt13_94 := h13_84.lt2
                    have h12_94 := slots_new2 X84 24
                    have hg12 := hB84.size
                    go_simp
                    generalize X84.heap.size = g12 at *
                    generalize X84.alloc (.cells #[.int .i64 0, .int .i64 0] 24) = X94 at *
                    refine hK _ _ (hSG3.out _ hB94) ?_
                    clear hK K hB84 h13_84
                    (try simp only [Act.put, List.setIfInBounds_toArray, List.set_cons_zero, List.set_cons_succ])
                    refine tr_step rfl (by rfl) (fun K hK => ?_)
                    go_simp
                    refine (hU1.out X94 hB94).mono ?_
                    rintro e X95 ⟨rfl, hb95⟩
                    have hB95 := BT hB94 hb95
                    have h13_95 := h13_94.below hb95 (h13_94.lt2)
                    have h12_95 := h12_94.below hb95 (h12_94.lt2)
                    refine hK _ _ (hSG3.out _ hB95) ?_
                    clear hK K hB94 h13_94 h12_94 hb95
                    (try simp only [Act.put, List.setIfInBounds_toArray, List.set_cons_zero, List.set_cons_succ])
                    refine tr_step rfl (by rfl) (fun K hK => ?_)
                    go_simp
                    refine (hU3.out X95 hB95).mono ?_
                    rintro e X96 ⟨rfl, hb96⟩
                    have hB96 := BT hB95 hb96
                    have h13_96 := h13_95.below hb96 (h13_95.lt2)
                    have h12_96 := h12_95.below hb96 (h12_95.lt2)
                    refine hK _ _ (hSG3.out _ hB96) ?_
                    clear hK K hB95 h13_95 h12_95 hb96
                    (try simp only [Act.put, List.setIfInBounds_toArray, List.set_cons_zero, List.set_cons_succ])
                    refine tr_step rfl (by rfl) (fun K hK => ?_)
                    obtain ⟨u0_97, q0_97, f0_97⟩ := h12_96.get 0 (by omega)
                    obtain ⟨u1_97, q1_97, f1_97⟩ := h12_96.get 1 (by omega)
                    have hB97 := BC (BC hB96 g12 0 hg12 (.int .i64 (p1))) g12 1 hg12 (.int .i64 (p2))
                    have h13_97 := (h13_96.set ⟨g12, 0, none⟩ (.int .i64 (p1))).set ⟨g12, 1, none⟩ (.int .i64 (p2))
                    have h12_97 := two_set h12_96 (p1) (p2)
                    go_simp
                    clear q0_97 f0_97 q1_97 f1_97
                    generalize (X96.setCell ⟨g12, 0, none⟩ (.int .i64 (p1))).setCell ⟨g12, 1, none⟩ (.int .i64 (p2)) = X97 at *
                    refine hK _ _ (hSG3.out _ hB97) ?_
                    clear hK K hB96 h13_96 h12_96
                    (try simp only [Act.put, List.setIfInBounds_toArray, List.set_cons_zero, List.set_cons_succ])
                    refine tr_last rfl (by rfl) (by kernel_rfl) (fun K hK => ?_)
                    obtain ⟨u0_98, q0_98, f0_98⟩ := h13_97.get 0 (by omega)
                    obtain ⟨u1_98, q1_98, f1_98⟩ := h13_97.get 1 (by omega)
                    have hB98 := BC (BC hB97 g13 0 hg13 (.int .i64 (q1))) g13 1 hg13 (.int .i64 (q2))
                    have h12_98 := h12_97.far (g' := g13) (by omega) (q1) (q2)
                    have h13_98 := two_set h13_97 (q1) (q2)
                    go_simp
                    clear q0_98 f0_98 q1_98 f1_98
                    generalize (X97.setCell ⟨g13, 0, none⟩ (.int .i64 (q1))).setCell ⟨g13, 1, none⟩ (.int .i64 (q2)) = X98 at *
                    refine hK _ _ ?_
                    clear hK K hB97 h12_97 h13_97
                    (try simp only [Act.put, List.setIfInBounds_toArray, List.set_cons_zero, List.set_cons_succ])
                    show Exit.then _ _ Exit.normal _ _
                    go_wp2_with fail
                    go_meet
                    exact ⟨g12, g13, rfl, rfl, h12_98, h13_98, hB98⟩
                · skip
                  refine tr_step rfl (by rfl) (fun K hK => ?_)
                  have hB99 := BA hB83 (.cells #[.int .i64 0, .int .i64 0] 24)
                  have h13_99 := h13_83.below (newB X83 (.cells #[.int .i64 0, .int .i64 0] 24)) (h13_83.lt2)
                  have hlt13_99 := h13_83.lt2
                  have h12_99 := slots_new2 X83 24
                  have hg12 := hB83.size
                  go_simp
                  generalize X83.heap.size = g12 at *
                  generalize X83.alloc (.cells #[.int .i64 0, .int .i64 0] 24) = X99 at *
                  refine hK _ _ (hSG3.out _ hB99) ?_
                  clear hK K hB83 h13_83
                  (try simp only [Act.put, List.setIfInBounds_toArray, List.set_cons_zero, List.set_cons_succ])
                  refine tr_step rfl (by rfl) (fun K hK => ?_)
                  go_simp
                  refine (hU2.out X99 hB99).mono ?_
                  rintro e X100 ⟨rfl, hb100⟩
                  have hB100 := BT hB99 hb100
                  have h13_100 := h13_99.below hb100 (h13_99.lt2)
                  have h12_100 := h12_99.below hb100 (h12_99.lt2)
                  refine hK _ _ (hSG3.out _ hB100) ?_
                  clear hK K hB99 h13_99 h12_99 hb100
                  (try simp only [Act.put, List.setIfInBounds_toArray, List.set_cons_zero, List.set_cons_succ])
                  refine tr_step rfl (by rfl) (fun K hK => ?_)
                  go_simp
                  refine (hU1.out X100 hB100).mono ?_
                  rintro e X101 ⟨rfl, hb101⟩
                  have hB101 := BT hB100 hb101
                  have h13_101 := h13_100.below hb101 (h13_100.lt2)
                  have h12_101 := h12_100.below hb101 (h12_100.lt2)
                  refine hK _ _ (hSG3.out _ hB101) ?_
                  clear hK K hB100 h13_100 h12_100 hb101
                  (try simp only [Act.put, List.setIfInBounds_toArray, List.set_cons_zero, List.set_cons_succ])
                  refine tr_step rfl (by rfl) (fun K hK => ?_)
                  go_simp
                  refine (hU3.out X101 hB101).mono ?_
                  rintro e X102 ⟨rfl, hb102⟩
                  have hB102 := BT hB101 hb102
                  have h13_102 := h13_101.below hb102 (h13_101.lt2)
                  have h12_102 := h12_101.below hb102 (h12_101.lt2)
                  refine hK _ _ (hSG3.out _ hB102) ?_
                  clear hK K hB101 h13_101 h12_101 hb102
                  (try simp only [Act.put, List.setIfInBounds_toArray, List.set_cons_zero, List.set_cons_succ])
                  refine tr_step rfl (by rfl) (fun K hK => ?_)
                  obtain ⟨u0_103, q0_103, f0_103⟩ := h12_102.get 0 (by omega)
                  obtain ⟨u1_103, q1_103, f1_103⟩ := h12_102.get 1 (by omega)
                  have hB103 := BC (BC hB102 g12 0 hg12 (.int .i64 (p1))) g12 1 hg12 (.int .i64 (p2))
                  have h13_103 := (h13_102.set ⟨g12, 0, none⟩ (.int .i64 (p1))).set ⟨g12, 1, none⟩ (.int .i64 (p2))
                  have h12_103 := two_set h12_102 (p1) (p2)
                  go_simp
                  clear q0_103 f0_103 q1_103 f1_103
                  generalize (X102.setCell ⟨g12, 0, none⟩ (.int .i64 (p1))).setCell ⟨g12, 1, none⟩ (.int .i64 (p2)) = X103 at *
                  refine hK _ _ (hSG3.out _ hB103) ?_
                  clear hK K hB102 h13_102 h12_102
                  (try simp only [Act.put, List.setIfInBounds_toArray, List.set_cons_zero, List.set_cons_succ])
                  refine tr_last rfl (by rfl) (by kernel_rfl) (fun K hK => ?_)
                  obtain ⟨u0_104, q0_104, f0_104⟩ := h13_103.get 0 (by omega)
                  obtain ⟨u1_104, q1_104, f1_104⟩ := h13_103.get 1 (by omega)
                  have hB104 := BC (BC hB103 g13 0 hg13 (.int .i64 (q1))) g13 1 hg13 (.int .i64 (q2))
                  have h12_104 := h12_103.far (g' := g13) (by omega) (q1) (q2)
                  have h13_104 := two_set h13_103 (q1) (q2)
                  go_simp
                  clear q0_104 f0_104 q1_104 f1_104
                  generalize (X103.setCell ⟨g13, 0, none⟩ (.int .i64 (q1))).setCell ⟨g13, 1, none⟩ (.int .i64 (q2)) = X104 at *
                  refine hK _ _ ?_
                  clear hK K hB103 h12_103 h13_103
                  (try simp only [Act.put, List.setIfInBounds_toArray, List.set_cons_zero, List.set_cons_succ])
                  show Exit.then _ _ Exit.normal _ _
                  go_wp2_with fail
                  go_meet
                  exact ⟨g12, g13, rfl, rfl, h12_104, h13_104, hB104⟩
            · skip
              refine tr_step rfl (by rfl) (fun K hK => ?_)
              have hB105 := BA hB0 (.cells #[.int .i64 0, .int .i64 0] 24)
              have h12_105 := slots_new2 X0 24
              have hg12 := hB0.size
              go_simp
              generalize X0.heap.size = g12 at *
              generalize X0.alloc (.cells #[.int .i64 0, .int .i64 0] 24) = X105 at *
              refine hK _ _ (hSG3.out _ hB105) ?_
              clear hK K hB0 
              (try simp only [Act.put, List.setIfInBounds_toArray, List.set_cons_zero, List.set_cons_succ])
              refine ⟨?_, ?_⟩
              · skip
                refine tr_step rfl (by rfl) (fun K hK => ?_)
                go_simp
                refine (hU1.out X105 hB105).mono ?_
                rintro e X106 ⟨rfl, hb106⟩
                have hB106 := BT hB105 hb106
                have h12_106 := h12_105.below hb106 (h12_105.lt2)
                refine hK _ _ (hSG3.out _ hB106) ?_
                clear hK K hB105 h12_105 hb106
                (try simp only [Act.put, List.setIfInBounds_toArray, List.set_cons_zero, List.set_cons_succ])
                refine ⟨?_, ?_⟩
                · skip
                  refine tr_step rfl (by rfl) (fun K hK => ?_)
                  go_simp
                  refine (hU2.out X106 hB106).mono ?_
                  rintro e X107 ⟨rfl, hb107⟩
                  have hB107 := BT hB106 hb107
                  have h12_107 := h12_106.below hb107 (h12_106.lt2)
                  refine hK _ _ (hSG3.out _ hB107) ?_
                  clear hK K hB106 h12_106 hb107
                  (try simp only [Act.put, List.setIfInBounds_toArray, List.set_cons_zero, List.set_cons_succ])
                  refine ⟨?_, ?_⟩
                  · skip
                    refine tr_step rfl (by rfl) (fun K hK => ?_)
                    go_simp
                    refine (hU1.out X107 hB107).mono ?_
                    rintro e X108 ⟨rfl, hb108⟩
                    have hB108 := BT hB107 hb108
                    have h12_108 := h12_107.below hb108 (h12_107.lt2)
                    refine hK _ _ (hSG3.out _ hB108) ?_
                    clear hK K hB107 h12_107 hb108
                    (try simp only [Act.put, List.setIfInBounds_toArray, List.set_cons_zero, List.set_cons_succ])
                    refine ⟨?_, ?_⟩
                    · skip
                      refine tr_step rfl (by rfl) (fun K hK => ?_)
                      go_simp
                      refine (hU3.out X108 hB108).mono ?_
                      rintro e X109 ⟨rfl, hb109⟩
                      have hB109 := BT hB108 hb109
                      have h12_109 := h12_108.below hb109 (h12_108.lt2)
                      refine hK _ _ (hSG3.out _ hB109) ?_
                      clear hK K hB108 h12_108 hb109
                      (try simp only [Act.put, List.setIfInBounds_toArray, List.set_cons_zero, List.set_cons_succ])
                      refine tr_step rfl (by rfl) (fun K hK => ?_)
                      have hB110 := BA hB109 (.cells #[.int .i64 0, .int .i64 0] 24)
                      have h12_110 := h12_109.below (newB X109 (.cells #[.int .i64 0, .int .i64 0] 24)) (h12_109.lt2)
                      have hlt12_110 := h12_109.lt2
                      have h13_110 := slots_new2 X109 24
                      have hg13 := hB109.size
                      go_simp
                      generalize X109.heap.size = g13 at *
                      generalize X109.alloc (.cells #[.int .i64 0, .int .i64 0] 24) = X110 at *
                      refine hK _ _ (hSG3.out _ hB110) ?_
                      clear hK K hB109 h12_109
                      (try simp only [Act.put, List.setIfInBounds_toArray, List.set_cons_zero, List.set_cons_succ])
                      refine tr_step rfl (by rfl) (fun K hK => ?_)
                      obtain ⟨u0_111, q0_111, f0_111⟩ := h12_110.get 0 (by omega)
                      obtain ⟨u1_111, q1_111, f1_111⟩ := h12_110.get 1 (by omega)
                      have hB111 := BC (BC hB110 g12 0 hg12 (.int .i64 (p1))) g12 1 hg12 (.int .i64 (p2))
                      have h13_111 := (h13_110.set ⟨g12, 0, none⟩ (.int .i64 (p1))).set ⟨g12, 1, none⟩ (.int .i64 (p2))
                      have h12_111 := two_set h12_110 (p1) (p2)
                      go_simp
                      clear q0_111 f0_111 q1_111 f1_111
                      generalize (X110.setCell ⟨g12, 0, none⟩ (.int .i64 (p1))).setCell ⟨g12, 1, none⟩ (.int .i64 (p2)) = X111 at *
                      refine hK _ _ (hSG3.out _ hB111) ?_
                      clear hK K hB110 h13_110 h12_110
                      (try simp only [Act.put, List.setIfInBounds_toArray, List.set_cons_zero, List.set_cons_succ])
                      refine tr_last rfl (by rfl) (by kernel_rfl) (fun K hK => ?_)
                      obtain ⟨u0_112, q0_112, f0_112⟩ := h13_111.get 0 (by omega)
                      obtain ⟨u1_112, q1_112, f1_112⟩ := h13_111.get 1 (by omega)
                      have hB112 := BC (BC hB111 g13 0 hg13 (.int .i64 (q1))) g13 1 hg13 (.int .i64 (q2))
                      have h12_112 := h12_111.far (g' := g13) (by omega) (q1) (q2)
                      have h13_112 := two_set h13_111 (q1) (q2)
                      go_simp
                      clear q0_112 f0_112 q1_112 f1_112
                      generalize (X111.setCell ⟨g13, 0, none⟩ (.int .i64 (q1))).setCell ⟨g13, 1, none⟩ (.int .i64 (q2)) = X112 at *
                      refine hK _ _ ?_
                      clear hK K hB111 h12_111 h13_111
                      (try simp only [Act.put, List.setIfInBounds_toArray, List.set_cons_zero, List.set_cons_succ])
                      show Exit.then _ _ Exit.normal _ _
                      go_wp2_with fail
                      go_meet
                      exact ⟨g12, g13, rfl, rfl, h12_112, h13_112, hB112⟩
                    · skip
                      refine tr_step rfl (by rfl) (fun K hK => ?_)
                      have hB113 := BA hB108 (.cells #[.int .i64 0, .int .i64 0] 24)
                      have h12_113 := h12_108.below (newB X108 (.cells #[.int .i64 0, .int .i64 0] 24)) (h12_108.lt2)
                      have hlt12_113 := h12_108.lt2
                      have h13_113 := slots_new2 X108 24
                      have hg13 := hB108.size
                      go_simp
                      generalize X108.heap.size = g13 at *
                      generalize X108.alloc (.cells #[.int .i64 0, .int .i64 0] 24) = X113 at *
                      refine hK _ _ (hSG3.out _ hB113) ?_
                      clear hK K hB108 h12_108
                      (try simp only [Act.put, List.setIfInBounds_toArray, List.set_cons_zero, List.set_cons_succ])
                      refine tr_step rfl (by rfl) (fun K hK => ?_)
                      go_simp
                      refine (hU3.out X113 hB113).mono ?_
                      rintro e X114 ⟨rfl, hb114⟩
                      have hB114 := BT hB113 hb114
                      have h12_114 := h12_113.below hb114 (h12_113.lt2)
                      have h13_114 := h13_113.below hb114 (h13_113.lt2)
                      refine hK _ _ (hSG3.out _ hB114) ?_
                      clear hK K hB113 h12_113 h13_113 hb114
                      (try simp only [Act.put, List.setIfInBounds_toArray, List.set_cons_zero, List.set_cons_succ])
                      refine tr_step rfl (by rfl) (fun K hK => ?_)
                      obtain ⟨u0_115, q0_115, f0_115⟩ := h12_114.get 0 (by omega)
                      obtain ⟨u1_115, q1_115, f1_115⟩ := h12_114.get 1 (by omega)
                      have hB115 := BC (BC hB114 g12 0 hg12 (.int .i64 (p1))) g12 1 hg12 (.int .i64 (p2))
                      have h13_115 := (h13_114.set ⟨g12, 0, none⟩ (.int .i64 (p1))).set ⟨g12, 1, none⟩ (.int .i64 (p2))
                      have h12_115 := two_set h12_114 (p1) (p2)
                      go_simp
                      clear q0_115 f0_115 q1_115 f1_115
                      generalize (X114.setCell ⟨g12, 0, none⟩ (.int .i64 (p1))).setCell ⟨g12, 1, none⟩ (.int .i64 (p2)) = X115 at *
                      refine hK _ _ (hSG3.out _ hB115) ?_
                      clear hK K hB114 h13_114 h12_114
                      (try simp only [Act.put, List.setIfInBounds_toArray, List.set_cons_zero, List.set_cons_succ])
                      refine tr_last rfl (by rfl) (by kernel_rfl) (fun K hK => ?_)
                      obtain ⟨u0_116, q0_116, f0_116⟩ := h13_115.get 0 (by omega)
                      obtain ⟨u1_116, q1_116, f1_116⟩ := h13_115.get 1 (by omega)
                      have hB116 := BC (BC hB115 g13 0 hg13 (.int .i64 (q1))) g13 1 hg13 (.int .i64 (q2))
                      have h12_116 := h12_115.far (g' := g13) (by omega) (q1) (q2)
                      have h13_116 := two_set h13_115 (q1) (q2)
                      go_simp
                      clear q0_116 f0_116 q1_116 f1_116
                      generalize (X115.setCell ⟨g13, 0, none⟩ (.int .i64 (q1))).setCell ⟨g13, 1, none⟩ (.int .i64 (q2)) = X116 at *
                      refine hK _ _ ?_
                      clear hK K hB115 h12_115 h13_115
                      (try simp only [Act.put, List.setIfInBounds_toArray, List.set_cons_zero, List.set_cons_succ])
                      show Exit.then _ _ Exit.normal _ _
                      go_wp2_with fail
                      go_meet
                      exact ⟨g12, g13, rfl, rfl, h12_116, h13_116, hB116⟩
                  · skip
                    refine tr_step rfl (by rfl) (fun K hK => ?_)
                    have hB117 := BA hB107 (.cells #[.int .i64 0, .int .i64 0] 24)
                    have h12_117 := h12_107.below (newB X107 (.cells #[.int .i64 0, .int .i64 0] 24)) (h12_107.lt2)
                    have hlt12_117 := h12_107.lt2
                    have h13_117 := slots_new2 X107 24
                    have hg13 := hB107.size
                    go_simp
                    generalize X107.heap.size = g13 at *
                    generalize X107.alloc (.cells #[.int .i64 0, .int .i64 0] 24) = X117 at *
                    refine hK _ _ (hSG3.out _ hB117) ?_
                    clear hK K hB107 h12_107
                    (try simp only [Act.put, List.setIfInBounds_toArray, List.set_cons_zero, List.set_cons_succ])
                    refine tr_step rfl (by rfl) (fun K hK => ?_)
                    go_simp
                    refine (hU1.out X117 hB117).mono ?_
                    rintro e X118 ⟨rfl, hb118⟩
                    have hB118 := BT hB117 hb118
                    have h12_118 := h12_117.below hb118 (h12_117.lt2)
                    have h13_118 := h13_117.below hb118 (h13_117.lt2)
                    refine hK _ _ (hSG3.out _ hB118) ?_
                    clear hK K hB117 h12_117 h13_117 hb118
                    (try simp only [Act.put, List.setIfInBounds_toArray, List.set_cons_zero, List.set_cons_succ])
                    refine tr_step rfl (by rfl) (fun K hK => ?_)
                    go_simp
                    refine (hU3.out X118 hB118).mono ?_
                    rintro e X119 ⟨rfl, hb119⟩
                    have hB119 := BT hB118 hb119
                    have h12_119 := h12_118.below hb119 (h12_118.lt2)
                    have h13_119 := h13_118.below hb119 (h13_118.lt2)
                    refine hK _ _ (hSG3.out _ hB119) ?_
                    clear hK K hB118 h12_118 h13_118 hb119
                    (try simp only [Act.put, List.setIfInBounds_toArray, List.set_cons_zero, List.set_cons_succ])
                    refine tr_step rfl (by rfl) (fun K hK => ?_)
                    obtain ⟨u0_120, q0_120, f0_120⟩ := h12_119.get 0 (by omega)
                    obtain ⟨u1_120, q1_120, f1_120⟩ := h12_119.get 1 (by omega)
                    have hB120 := BC (BC hB119 g12 0 hg12 (.int .i64 (p1))) g12 1 hg12 (.int .i64 (p2))
                    have h13_120 := (h13_119.set ⟨g12, 0, none⟩ (.int .i64 (p1))).set ⟨g12, 1, none⟩ (.int .i64 (p2))
                    have h12_120 := two_set h12_119 (p1) (p2)
                    go_simp
                    clear q0_120 f0_120 q1_120 f1_120
                    generalize (X119.setCell ⟨g12, 0, none⟩ (.int .i64 (p1))).setCell ⟨g12, 1, none⟩ (.int .i64 (p2)) = X120 at *
                    refine hK _ _ (hSG3.out _ hB120) ?_
                    clear hK K hB119 h13_119 h12_119
                    (try simp only [Act.put, List.setIfInBounds_toArray, List.set_cons_zero, List.set_cons_succ])
                    refine tr_last rfl (by rfl) (by kernel_rfl) (fun K hK => ?_)
                    obtain ⟨u0_121, q0_121, f0_121⟩ := h13_120.get 0 (by omega)
                    obtain ⟨u1_121, q1_121, f1_121⟩ := h13_120.get 1 (by omega)
                    have hB121 := BC (BC hB120 g13 0 hg13 (.int .i64 (q1))) g13 1 hg13 (.int .i64 (q2))
                    have h12_121 := h12_120.far (g' := g13) (by omega) (q1) (q2)
                    have h13_121 := two_set h13_120 (q1) (q2)
                    go_simp
                    clear q0_121 f0_121 q1_121 f1_121
                    generalize (X120.setCell ⟨g13, 0, none⟩ (.int .i64 (q1))).setCell ⟨g13, 1, none⟩ (.int .i64 (q2)) = X121 at *
                    refine hK _ _ ?_
                    clear hK K hB120 h12_120 h13_120
                    (try simp only [Act.put, List.setIfInBounds_toArray, List.set_cons_zero, List.set_cons_succ])
                    show Exit.then _ _ Exit.normal _ _
                    go_wp2_with fail
                    go_meet
                    exact ⟨g12, g13, rfl, rfl, h12_121, h13_121, hB121⟩
                · skip
                  refine tr_step rfl (by rfl) (fun K hK => ?_)
                  have hB122 := BA hB106 (.cells #[.int .i64 0, .int .i64 0] 24)
                  have h12_122 := h12_106.below (newB X106 (.cells #[.int .i64 0, .int .i64 0] 24)) (h12_106.lt2)
                  have hlt12_122 := h12_106.lt2
                  have h13_122 := slots_new2 X106 24
                  have hg13 := hB106.size
                  go_simp
                  generalize X106.heap.size = g13 at *
                  generalize X106.alloc (.cells #[.int .i64 0, .int .i64 0] 24) = X122 at *
                  refine hK _ _ (hSG3.out _ hB122) ?_
                  clear hK K hB106 h12_106
                  (try simp only [Act.put, List.setIfInBounds_toArray, List.set_cons_zero, List.set_cons_succ])
                  refine tr_step rfl (by rfl) (fun K hK => ?_)
                  go_simp
                  refine (hU2.out X122 hB122).mono ?_
                  rintro e X123 ⟨rfl, hb123⟩
                  have hB123 := BT hB122 hb123
                  have h12_123 := h12_122.below hb123 (h12_122.lt2)
                  have h13_123 := h13_122.below hb123 (h13_122.lt2)
                  refine hK _ _ (hSG3.out _ hB123) ?_
                  clear hK K hB122 h12_122 h13_122 hb123
                  (try simp only [Act.put, List.setIfInBounds_toArray, List.set_cons_zero, List.set_cons_succ])
                  refine tr_step rfl (by rfl) (fun K hK => ?_)
                  go_simp
                  refine (hU1.out X123 hB123).mono ?_
                  rintro e X124 ⟨rfl, hb124⟩
                  have hB124 := BT hB123 hb124
                  have h12_124 := h12_123.below hb124 (h12_123.lt2)
                  have h13_124 := h13_123.below hb124 (h13_123.lt2)
                  refine hK _ _ (hSG3.out _ hB124) ?_
                  clear hK K hB123 h12_123 h13_123 hb124
                  (try simp only [Act.put, List.setIfInBounds_toArray, List.set_cons_zero, List.set_cons_succ])
                  refine tr_step rfl (by rfl) (fun K hK => ?_)
                  go_simp
                  refine (hU3.out X124 hB124).mono ?_
                  rintro e X125 ⟨rfl, hb125⟩
                  have hB125 := BT hB124 hb125
                  have h12_125 := h12_124.below hb125 (h12_124.lt2)
                  have h13_125 := h13_124.below hb125 (h13_124.lt2)
                  refine hK _ _ (hSG3.out _ hB125) ?_
                  clear hK K hB124 h12_124 h13_124 hb125
                  (try simp only [Act.put, List.setIfInBounds_toArray, List.set_cons_zero, List.set_cons_succ])
                  refine tr_step rfl (by rfl) (fun K hK => ?_)
                  obtain ⟨u0_126, q0_126, f0_126⟩ := h12_125.get 0 (by omega)
                  obtain ⟨u1_126, q1_126, f1_126⟩ := h12_125.get 1 (by omega)
                  have hB126 := BC (BC hB125 g12 0 hg12 (.int .i64 (p1))) g12 1 hg12 (.int .i64 (p2))
                  have h13_126 := (h13_125.set ⟨g12, 0, none⟩ (.int .i64 (p1))).set ⟨g12, 1, none⟩ (.int .i64 (p2))
                  have h12_126 := two_set h12_125 (p1) (p2)
                  go_simp
                  clear q0_126 f0_126 q1_126 f1_126
                  generalize (X125.setCell ⟨g12, 0, none⟩ (.int .i64 (p1))).setCell ⟨g12, 1, none⟩ (.int .i64 (p2)) = X126 at *
                  refine hK _ _ (hSG3.out _ hB126) ?_
                  clear hK K hB125 h13_125 h12_125
                  (try simp only [Act.put, List.setIfInBounds_toArray, List.set_cons_zero, List.set_cons_succ])
                  refine tr_last rfl (by rfl) (by kernel_rfl) (fun K hK => ?_)
                  obtain ⟨u0_127, q0_127, f0_127⟩ := h13_126.get 0 (by omega)
                  obtain ⟨u1_127, q1_127, f1_127⟩ := h13_126.get 1 (by omega)
                  have hB127 := BC (BC hB126 g13 0 hg13 (.int .i64 (q1))) g13 1 hg13 (.int .i64 (q2))
                  have h12_127 := h12_126.far (g' := g13) (by omega) (q1) (q2)
                  have h13_127 := two_set h13_126 (q1) (q2)
                  go_simp
                  clear q0_127 f0_127 q1_127 f1_127
                  generalize (X126.setCell ⟨g13, 0, none⟩ (.int .i64 (q1))).setCell ⟨g13, 1, none⟩ (.int .i64 (q2)) = X127 at *
                  refine hK _ _ ?_
                  clear hK K hB126 h12_126 h13_126
                  (try simp only [Act.put, List.setIfInBounds_toArray, List.set_cons_zero, List.set_cons_succ])
                  show Exit.then _ _ Exit.normal _ _
                  go_wp2_with fail
                  go_meet
                  exact ⟨g12, g13, rfl, rfl, h12_127, h13_127, hB127⟩
              · skip
                refine tr_step rfl (by rfl) (fun K hK => ?_)
                have hB128 := BA hB105 (.cells #[.int .i64 0, .int .i64 0] 24)
                have h12_128 := h12_105.below (newB X105 (.cells #[.int .i64 0, .int .i64 0] 24)) (h12_105.lt2)
                have hlt12_128 := h12_105.lt2
                have h13_128 := slots_new2 X105 24
                have hg13 := hB105.size
                go_simp
                generalize X105.heap.size = g13 at *
                generalize X105.alloc (.cells #[.int .i64 0, .int .i64 0] 24) = X128 at *
                refine hK _ _ (hSG3.out _ hB128) ?_
                clear hK K hB105 h12_105
                (try simp only [Act.put, List.setIfInBounds_toArray, List.set_cons_zero, List.set_cons_succ])
                refine tr_step rfl (by rfl) (fun K hK => ?_)
                go_simp
                refine (hU1.out X128 hB128).mono ?_
                rintro e X129 ⟨rfl, hb129⟩
                have hB129 := BT hB128 hb129
                have h12_129 := h12_128.below hb129 (h12_128.lt2)
                have h13_129 := h13_128.below hb129 (h13_128.lt2)
                refine hK _ _ (hSG3.out _ hB129) ?_
                clear hK K hB128 h12_128 h13_128 hb129
                (try simp only [Act.put, List.setIfInBounds_toArray, List.set_cons_zero, List.set_cons_succ])
                refine tr_step rfl (by rfl) (fun K hK => ?_)
                go_simp
                refine (hU2.out X129 hB129).mono ?_
                rintro e X130 ⟨rfl, hb130⟩
                have hB130 := BT hB129 hb130
                have h12_130 := h12_129.below hb130 (h12_129.lt2)
                have h13_130 := h13_129.below hb130 (h13_129.lt2)
                refine hK _ _ (hSG3.out _ hB130) ?_
                clear hK K hB129 h12_129 h13_129 hb130
                (try simp only [Act.put, List.setIfInBounds_toArray, List.set_cons_zero, List.set_cons_succ])
                refine tr_step rfl (by rfl) (fun K hK => ?_)
                go_simp
                refine (hU1.out X130 hB130).mono ?_
                rintro e X131 ⟨rfl, hb131⟩
                have hB131 := BT hB130 hb131
                have h12_131 := h12_130.below hb131 (h12_130.lt2)
                have h13_131 := h13_130.below hb131 (h13_130.lt2)
                refine hK _ _ (hSG3.out _ hB131) ?_
                clear hK K hB130 h12_130 h13_130 hb131
                (try simp only [Act.put, List.setIfInBounds_toArray, List.set_cons_zero, List.set_cons_succ])
                refine tr_step rfl (by rfl) (fun K hK => ?_)
                go_simp
                refine (hU3.out X131 hB131).mono ?_
                rintro e X132 ⟨rfl, hb132⟩
                have hB132 := BT hB131 hb132
                have h12_132 := h12_131.below hb132 (h12_131.lt2)
                have h13_132 := h13_131.below hb132 (h13_131.lt2)
                refine hK _ _ (hSG3.out _ hB132) ?_
                clear hK K hB131 h12_131 h13_131 hb132
                (try simp only [Act.put, List.setIfInBounds_toArray, List.set_cons_zero, List.set_cons_succ])
                refine tr_step rfl (by rfl) (fun K hK => ?_)
                obtain ⟨u0_133, q0_133, f0_133⟩ := h12_132.get 0 (by omega)
                obtain ⟨u1_133, q1_133, f1_133⟩ := h12_132.get 1 (by omega)
                have hB133 := BC (BC hB132 g12 0 hg12 (.int .i64 (p1))) g12 1 hg12 (.int .i64 (p2))
                have h13_133 := (h13_132.set ⟨g12, 0, none⟩ (.int .i64 (p1))).set ⟨g12, 1, none⟩ (.int .i64 (p2))
                have h12_133 := two_set h12_132 (p1) (p2)
                go_simp
                clear q0_133 f0_133 q1_133 f1_133
                generalize (X132.setCell ⟨g12, 0, none⟩ (.int .i64 (p1))).setCell ⟨g12, 1, none⟩ (.int .i64 (p2)) = X133 at *
                refine hK _ _ (hSG3.out _ hB133) ?_
                clear hK K hB132 h13_132 h12_132
                (try simp only [Act.put, List.setIfInBounds_toArray, List.set_cons_zero, List.set_cons_succ])
                refine tr_last rfl (by rfl) (by kernel_rfl) (fun K hK => ?_)
                obtain ⟨u0_134, q0_134, f0_134⟩ := h13_133.get 0 (by omega)
                obtain ⟨u1_134, q1_134, f1_134⟩ := h13_133.get 1 (by omega)
                have hB134 := BC (BC hB133 g13 0 hg13 (.int .i64 (q1))) g13 1 hg13 (.int .i64 (q2))
                have h12_134 := h12_133.far (g' := g13) (by omega) (q1) (q2)
                have h13_134 := two_set h13_133 (q1) (q2)
                go_simp
                clear q0_134 f0_134 q1_134 f1_134
                generalize (X133.setCell ⟨g13, 0, none⟩ (.int .i64 (q1))).setCell ⟨g13, 1, none⟩ (.int .i64 (q2)) = X134 at *
                refine hK _ _ ?_
                clear hK K hB133 h12_133 h13_133
                (try simp only [Act.put, List.setIfInBounds_toArray, List.set_cons_zero, List.set_cons_succ])
                show Exit.then _ _ Exit.normal _ _
                go_wp2_with fail
                go_meet
                exact ⟨g12, g13, rfl, rfl, h12_134, h13_134, hB134⟩
            · skip
              refine tr_step rfl (by rfl) (fun K hK => ?_)
              have hB135 := BA hB0 (.cells #[.int .i64 0, .int .i64 0] 24)
              have h13_135 := slots_new2 X0 24
              have hg13 := hB0.size
              go_simp
              generalize X0.heap.size = g13 at *
              generalize X0.alloc (.cells #[.int .i64 0, .int .i64 0] 24) = X135 at *
              refine hK _ _ (hSG3.out _ hB135) ?_
              clear hK K hB0 
              (try simp only [Act.put, List.setIfInBounds_toArray, List.set_cons_zero, List.set_cons_succ])
              refine ⟨?_, ?_⟩
              · skip
                refine tr_step rfl (by rfl) (fun K hK => ?_)
                go_simp
                refine (hU1.out X135 hB135).mono ?_
                rintro e X136 ⟨rfl, hb136⟩
                have hB136 := BT hB135 hb136
                have h13_136 := h13_135.below hb136 (h13_135.lt2)
                refine hK _ _ (hSG3.out _ hB136) ?_
                clear hK K hB135 h13_135 hb136
                (try simp only [Act.put, List.setIfInBounds_toArray, List.set_cons_zero, List.set_cons_succ])
                refine ⟨?_, ?_⟩
                · skip
                  refine tr_step rfl (by rfl) (fun K hK => ?_)
                  go_simp
                  refine (hU2.out X136 hB136).mono ?_
                  rintro e X137 ⟨rfl, hb137⟩
                  have hB137 := BT hB136 hb137
                  have h13_137 := h13_136.below hb137 (h13_136.lt2)
                  refine hK _ _ (hSG3.out _ hB137) ?_
                  clear hK K hB136 h13_136 hb137
                  (try simp only [Act.put, List.setIfInBounds_toArray, List.set_cons_zero, List.set_cons_succ])
                  refine ⟨?_, ?_⟩
                  · skip
                    refine tr_step rfl (by rfl) (fun K hK => ?_)
                    go_simp
                    refine (hU1.out X137 hB137).mono ?_
                    rintro e X138 ⟨rfl, hb138⟩
                    have hB138 := BT hB137 hb138
                    have h13_138 := h13_137.below hb138 (h13_137.lt2)
                    refine hK _ _ (hSG3.out _ hB138) ?_
                    clear hK K hB137 h13_137 hb138
                    (try simp only [Act.put, List.setIfInBounds_toArray, List.set_cons_zero, List.set_cons_succ])
                    refine ⟨?_, ?_⟩
                    · skip
                      refine tr_step rfl (by rfl) (fun K hK => ?_)
                      go_simp
                      refine (hU3.out X138 hB138).mono ?_
                      rintro e X139 ⟨rfl, hb139⟩
                      have hB139 := BT hB138 hb139
                      have h13_139 := h13_138.below hb139 (h13_138.lt2)
                      refine hK _ _ (hSG3.out _ hB139) ?_
                      clear hK K hB138 h13_138 hb139
                      (try simp only [Act.put, List.setIfInBounds_toArray, List.set_cons_zero, List.set_cons_succ])
                      refine tr_step rfl (by rfl) (fun K hK => ?_)
                      have hB140 := BA hB139 (.cells #[.int .i64 0, .int .i64 0] 24)
                      have h13_140 := h13_139.below (newB X139 (.cells #[.int .i64 0, .int .i64 0] 24)) (h13_139.lt2)
                      have hlt13_140 := h13_139.lt2
                      have h12_140 := slots_new2 X139 24
                      have hg12 := hB139.size
                      go_simp
                      generalize X139.heap.size = g12 at *
                      generalize X139.alloc (.cells #[.int .i64 0, .int .i64 0] 24) = X140 at *
                      refine hK _ _ (hSG3.out _ hB140) ?_
                      clear hK K hB139 h13_139
                      (try simp only [Act.put, List.setIfInBounds_toArray, List.set_cons_zero, List.set_cons_succ])
                      refine tr_step rfl (by rfl) (fun K hK => ?_)
                      obtain ⟨u0_141, q0_141, f0_141⟩ := h12_140.get 0 (by omega)
                      obtain ⟨u1_141, q1_141, f1_141⟩ := h12_140.get 1 (by omega)
                      have hB141 := BC (BC hB140 g12 0 hg12 (.int .i64 (p1))) g12 1 hg12 (.int .i64 (p2))
                      have h13_141 := (h13_140.set ⟨g12, 0, none⟩ (.int .i64 (p1))).set ⟨g12, 1, none⟩ (.int .i64 (p2))
                      have h12_141 := two_set h12_140 (p1) (p2)
                      go_simp
                      clear q0_141 f0_141 q1_141 f1_141
                      generalize (X140.setCell ⟨g12, 0, none⟩ (.int .i64 (p1))).setCell ⟨g12, 1, none⟩ (.int .i64 (p2)) = X141 at *
                      refine hK _ _ (hSG3.out _ hB141) ?_
                      clear hK K hB140 h13_140 h12_140
                      (try simp only [Act.put, List.setIfInBounds_toArray, List.set_cons_zero, List.set_cons_succ])
                      refine tr_last rfl (by rfl) (by kernel_rfl) (fun K hK => ?_)
                      obtain ⟨u0_142, q0_142, f0_142⟩ := h13_141.get 0 (by omega)
                      obtain ⟨u1_142, q1_142, f1_142⟩ := h13_141.get 1 (by omega)
                      have hB142 := BC (BC hB141 g13 0 hg13 (.int .i64 (q1))) g13 1 hg13 (.int .i64 (q2))
                      have h12_142 := h12_141.far (g' := g13) (by omega) (q1) (q2)
                      have h13_142 := two_set h13_141 (q1) (q2)
                      go_simp
                      clear q0_142 f0_142 q1_142 f1_142
                      generalize (X141.setCell ⟨g13, 0, none⟩ (.int .i64 (q1))).setCell ⟨g13, 1, none⟩ (.int .i64 (q2)) = X142 at *
                      refine hK _ _ ?_
                      clear hK K hB141 h12_141 h13_141
                      (try simp only [Act.put, List.setIfInBounds_toArray, List.set_cons_zero, List.set_cons_succ])
                      show Exit.then _ _ Exit.normal _ _
                      go_wp2_with fail
                      go_meet
                      exact ⟨g12, g13, rfl, rfl, h12_142, h13_142, hB142⟩
                    · skip
                      refine tr_step rfl (by rfl) (fun K hK => ?_)
                      have hB143 := BA hB138 (.cells #[.int .i64 0, .int .i64 0] 24)
                      have h13_143 := h13_138.below (newB X138 (.cells #[.int .i64 0, .int .i64 0] 24)) (h13_138.lt2)
                      have hlt13_143 := h13_138.lt2
                      have h12_143 := slots_new2 X138 24
                      have hg12 := hB138.size
                      go_simp
                      generalize X138.heap.size = g12 at *
                      generalize X138.alloc (.cells #[.int .i64 0, .int .i64 0] 24) = X143 at *
                      refine hK _ _ (hSG3.out _ hB143) ?_
                      clear hK K hB138 h13_138
                      (try simp only [Act.put, List.setIfInBounds_toArray, List.set_cons_zero, List.set_cons_succ])
                      refine tr_step rfl (by rfl) (fun K hK => ?_)
                      go_simp
                      refine (hU3.out X143 hB143).mono ?_
                      rintro e X144 ⟨rfl, hb144⟩
                      have hB144 := BT hB143 hb144
                      have h13_144 := h13_143.below hb144 (h13_143.lt2)
                      have h12_144 := h12_143.below hb144 (h12_143.lt2)
                      refine hK _ _ (hSG3.out _ hB144) ?_
                      clear hK K hB143 h13_143 h12_143 hb144
                      (try simp only [Act.put, List.setIfInBounds_toArray, List.set_cons_zero, List.set_cons_succ])
                      refine tr_step rfl (by rfl) (fun K hK => ?_)
                      obtain ⟨u0_145, q0_145, f0_145⟩ := h12_144.get 0 (by omega)
                      obtain ⟨u1_145, q1_145, f1_145⟩ := h12_144.get 1 (by omega)
                      have hB145 := BC (BC hB144 g12 0 hg12 (.int .i64 (p1))) g12 1 hg12 (.int .i64 (p2))
                      have h13_145 := (h13_144.set ⟨g12, 0, none⟩ (.int .i64 (p1))).set ⟨g12, 1, none⟩ (.int .i64 (p2))
                      have h12_145 := two_set h12_144 (p1) (p2)
                      go_simp
                      clear q0_145 f0_145 q1_145 f1_145
                      generalize (X144.setCell ⟨g12, 0, none⟩ (.int .i64 (p1))).setCell ⟨g12, 1, none⟩ (.int .i64 (p2)) = X145 at *
                      refine hK _ _ (hSG3.out _ hB145) ?_
                      clear hK K hB144 h13_144 h12_144
                      (try simp only [Act.put, List.setIfInBounds_toArray, List.set_cons_zero, List.set_cons_succ])
                      refine tr_last rfl (by rfl) (by kernel_rfl) (fun K hK => ?_)
                      obtain ⟨u0_146, q0_146, f0_146⟩ := h13_145.get 0 (by omega)
                      obtain ⟨u1_146, q1_146, f1_146⟩ := h13_145.get 1 (by omega)
                      have hB146 := BC (BC hB145 g13 0 hg13 (.int .i64 (q1))) g13 1 hg13 (.int .i64 (q2))
                      have h12_146 := h12_145.far (g' := g13) (by omega) (q1) (q2)
                      have h13_146 := two_set h13_145 (q1) (q2)
                      go_simp
                      clear q0_146 f0_146 q1_146 f1_146
                      generalize (X145.setCell ⟨g13, 0, none⟩ (.int .i64 (q1))).setCell ⟨g13, 1, none⟩ (.int .i64 (q2)) = X146 at *
                      refine hK _ _ ?_
                      clear hK K hB145 h12_145 h13_145
                      (try simp only [Act.put, List.setIfInBounds_toArray, List.set_cons_zero, List.set_cons_succ])
                      show Exit.then _ _ Exit.normal _ _
                      go_wp2_with fail
                      go_meet
                      exact ⟨g12, g13, rfl, rfl, h12_146, h13_146, hB146⟩
                  · skip
                    refine tr_step rfl (by rfl) (fun K hK => ?_)
                    have hB147 := BA hB137 (.cells #[.int .i64 0, .int .i64 0] 24)
                    have h13_147 := h13_137.below (newB X137 (.cells #[.int .i64 0, .int .i64 0] 24)) (h13_137.lt2)
                    have hlt13_147 := h13_137.lt2
                    have h12_147 := slots_new2 X137 24
                    have hg12 := hB137.size
                    go_simp
                    generalize X137.heap.size = g12 at *
                    generalize X137.alloc (.cells #[.int .i64 0, .int .i64 0] 24) = X147 at *
                    refine hK _ _ (hSG3.out _ hB147) ?_
                    clear hK K hB137 h13_137
                    (try simp only [Act.put, List.setIfInBounds_toArray, List.set_cons_zero, List.set_cons_succ])
                    refine tr_step rfl (by rfl) (fun K hK => ?_)
                    go_simp
                    refine (hU1.out X147 hB147).mono ?_
                    rintro e X148 ⟨rfl, hb148⟩
                    have hB148 := BT hB147 hb148
                    have h13_148 := h13_147.below hb148 (h13_147.lt2)
                    have h12_148 := h12_147.below hb148 (h12_147.lt2)
                    refine hK _ _ (hSG3.out _ hB148) ?_
                    clear hK K hB147 h13_147 h12_147 hb148
                    (try simp only [Act.put, List.setIfInBounds_toArray, List.set_cons_zero, List.set_cons_succ])
                    refine tr_step rfl (by rfl) (fun K hK => ?_)
                    go_simp
                    refine (hU3.out X148 hB148).mono ?_
                    rintro e X149 ⟨rfl, hb149⟩
                    have hB149 := BT hB148 hb149
                    have h13_149 := h13_148.below hb149 (h13_148.lt2)
                    have h12_149 := h12_148.below hb149 (h12_148.lt2)
                    refine hK _ _ (hSG3.out _ hB149) ?_
                    clear hK K hB148 h13_148 h12_148 hb149
                    (try simp only [Act.put, List.setIfInBounds_toArray, List.set_cons_zero, List.set_cons_succ])
                    refine tr_step rfl (by rfl) (fun K hK => ?_)
                    obtain ⟨u0_150, q0_150, f0_150⟩ := h12_149.get 0 (by omega)
                    obtain ⟨u1_150, q1_150, f1_150⟩ := h12_149.get 1 (by omega)
                    have hB150 := BC (BC hB149 g12 0 hg12 (.int .i64 (p1))) g12 1 hg12 (.int .i64 (p2))
                    have h13_150 := (h13_149.set ⟨g12, 0, none⟩ (.int .i64 (p1))).set ⟨g12, 1, none⟩ (.int .i64 (p2))
                    have h12_150 := two_set h12_149 (p1) (p2)
                    go_simp
                    clear q0_150 f0_150 q1_150 f1_150
                    generalize (X149.setCell ⟨g12, 0, none⟩ (.int .i64 (p1))).setCell ⟨g12, 1, none⟩ (.int .i64 (p2)) = X150 at *
                    refine hK _ _ (hSG3.out _ hB150) ?_
                    clear hK K hB149 h13_149 h12_149
                    (try simp only [Act.put, List.setIfInBounds_toArray, List.set_cons_zero, List.set_cons_succ])
                    refine tr_last rfl (by rfl) (by kernel_rfl) (fun K hK => ?_)
                    obtain ⟨u0_151, q0_151, f0_151⟩ := h13_150.get 0 (by omega)
                    obtain ⟨u1_151, q1_151, f1_151⟩ := h13_150.get 1 (by omega)
                    have hB151 := BC (BC hB150 g13 0 hg13 (.int .i64 (q1))) g13 1 hg13 (.int .i64 (q2))
                    have h12_151 := h12_150.far (g' := g13) (by omega) (q1) (q2)
                    have h13_151 := two_set h13_150 (q1) (q2)
                    go_simp
                    clear q0_151 f0_151 q1_151 f1_151
                    generalize (X150.setCell ⟨g13, 0, none⟩ (.int .i64 (q1))).setCell ⟨g13, 1, none⟩ (.int .i64 (q2)) = X151 at *
                    refine hK _ _ ?_
                    clear hK K hB150 h12_150 h13_150
                    (try simp only [Act.put, List.setIfInBounds_toArray, List.set_cons_zero, List.set_cons_succ])
                    show Exit.then _ _ Exit.normal _ _
                    go_wp2_with fail
                    go_meet
                    exact ⟨g12, g13, rfl, rfl, h12_151, h13_151, hB151⟩
                · skip
                  refine tr_step rfl (by rfl) (fun K hK => ?_)
                  have hB152 := BA hB136 (.cells #[.int .i64 0, .int .i64 0] 24)
                  have h13_152 := h13_136.below (newB X136 (.cells #[.int .i64 0, .int .i64 0] 24)) (h13_136.lt2)
                  have hlt13_152 := h13_136.lt2
                  have h12_152 := slots_new2 X136 24
                  have hg12 := hB136.size
                  go_simp
                  generalize X136.heap.size = g12 at *
                  generalize X136.alloc (.cells #[.int .i64 0, .int .i64 0] 24) = X152 at *
                  refine hK _ _ (hSG3.out _ hB152) ?_
                  clear hK K hB136 h13_136
                  (try simp only [Act.put, List.setIfInBounds_toArray, List.set_cons_zero, List.set_cons_succ])
                  refine tr_step rfl (by rfl) (fun K hK => ?_)
                  go_simp
                  refine (hU2.out X152 hB152).mono ?_
                  rintro e X153 ⟨rfl, hb153⟩
                  have hB153 := BT hB152 hb153
                  have h13_153 := h13_152.below hb153 (h13_152.lt2)
                  have h12_153 := h12_152.below hb153 (h12_152.lt2)
                  refine hK _ _ (hSG3.out _ hB153) ?_
                  clear hK K hB152 h13_152 h12_152 hb153
                  (try simp only [Act.put, List.setIfInBounds_toArray, List.set_cons_zero, List.set_cons_succ])
                  refine tr_step rfl (by rfl) (fun K hK => ?_)
                  go_simp
                  refine (hU1.out X153 hB153).mono ?_
                  rintro e X154 ⟨rfl, hb154⟩
                  have hB154 := BT hB153 hb154
                  have h13_154 := h13_153.below hb154 (h13_153.lt2)
                  have h12_154 := h12_153.below hb154 (h12_153.lt2)
                  refine hK _ _ (hSG3.out _ hB154) ?_
                  clear hK K hB153 h13_153 h12_153 hb154
                  (try simp only [Act.put, List.setIfInBounds_toArray, List.set_cons_zero, List.set_cons_succ])
                  refine tr_step rfl (by rfl) (fun K hK => ?_)
                  go_simp
                  refine (hU3.out X154 hB154).mono ?_
                  rintro e X155 ⟨rfl, hb155⟩
                  have hB155 := BT hB154 hb155
                  have h13_155 := h13_154.below hb155 (h13_154.lt2)
                  have h12_155 := h12_154.below hb155 (h12_154.lt2)
                  refine hK _ _ (hSG3.out _ hB155) ?_
                  clear hK K hB154 h13_154 h12_154 hb155
                  (try simp only [Act.put, List.setIfInBounds_toArray, List.set_cons_zero, List.set_cons_succ])
                  refine tr_step rfl (by rfl) (fun K hK => ?_)
                  obtain ⟨u0_156, q0_156, f0_156⟩ := h12_155.get 0 (by omega)
                  obtain ⟨u1_156, q1_156, f1_156⟩ := h12_155.get 1 (by omega)
                  have hB156 := BC (BC hB155 g12 0 hg12 (.int .i64 (p1))) g12 1 hg12 (.int .i64 (p2))
                  have h13_156 := (h13_155.set ⟨g12, 0, none⟩ (.int .i64 (p1))).set ⟨g12, 1, none⟩ (.int .i64 (p2))
                  have h12_156 := two_set h12_155 (p1) (p2)
                  go_simp
                  clear q0_156 f0_156 q1_156 f1_156
                  generalize (X155.setCell ⟨g12, 0, none⟩ (.int .i64 (p1))).setCell ⟨g12, 1, none⟩ (.int .i64 (p2)) = X156 at *
                  refine hK _ _ (hSG3.out _ hB156) ?_
                  clear hK K hB155 h13_155 h12_155
                  (try simp only [Act.put, List.setIfInBounds_toArray, List.set_cons_zero, List.set_cons_succ])
                  refine tr_last rfl (by rfl) (by kernel_rfl) (fun K hK => ?_)
                  obtain ⟨u0_157, q0_157, f0_157⟩ := h13_156.get 0 (by omega)
                  obtain ⟨u1_157, q1_157, f1_157⟩ := h13_156.get 1 (by omega)
                  have hB157 := BC (BC hB156 g13 0 hg13 (.int .i64 (q1))) g13 1 hg13 (.int .i64 (q2))
                  have h12_157 := h12_156.far (g' := g13) (by omega) (q1) (q2)
                  have h13_157 := two_set h13_156 (q1) (q2)
                  go_simp
                  clear q0_157 f0_157 q1_157 f1_157
                  generalize (X156.setCell ⟨g13, 0, none⟩ (.int .i64 (q1))).setCell ⟨g13, 1, none⟩ (.int .i64 (q2)) = X157 at *
                  refine hK _ _ ?_
                  clear hK K hB156 h12_156 h13_156
                  (try simp only [Act.put, List.setIfInBounds_toArray, List.set_cons_zero, List.set_cons_succ])
                  show Exit.then _ _ Exit.normal _ _
                  go_wp2_with fail
                  go_meet
                  exact ⟨g12, g13, rfl, rfl, h12_157, h13_157, hB157⟩
              · skip
                refine tr_step rfl (by rfl) (fun K hK => ?_)
                have hB158 := BA hB135 (.cells #[.int .i64 0, .int .i64 0] 24)
                have h13_158 := h13_135.below (newB X135 (.cells #[.int .i64 0, .int .i64 0] 24)) (h13_135.lt2)
                have hlt13_158 := h13_135.lt2
                have h12_158 := slots_new2 X135 24
                have hg12 := hB135.size
                go_simp
                generalize X135.heap.size = g12 at *
                generalize X135.alloc (.cells #[.int .i64 0, .int .i64 0] 24) = X158 at *
                refine hK _ _ (hSG3.out _ hB158) ?_
                clear hK K hB135 h13_135
                (try simp only [Act.put, List.setIfInBounds_toArray, List.set_cons_zero, List.set_cons_succ])
                refine tr_step rfl (by rfl) (fun K hK => ?_)
                go_simp
                refine (hU1.out X158 hB158).mono ?_
                rintro e X159 ⟨rfl, hb159⟩
                have hB159 := BT hB158 hb159
                have h13_159 := h13_158.below hb159 (h13_158.lt2)
                have h12_159 := h12_158.below hb159 (h12_158.lt2)
                refine hK _ _ (hSG3.out _ hB159) ?_
                clear hK K hB158 h13_158 h12_158 hb159
                (try simp only [Act.put, List.setIfInBounds_toArray, List.set_cons_zero, List.set_cons_succ])
                refine tr_step rfl (by rfl) (fun K hK => ?_)
                go_simp
                refine (hU2.out X159 hB159).mono ?_
                rintro e X160 ⟨rfl, hb160⟩
                have hB160 := BT hB159 hb160
                have h13_160 := h13_159.below hb160 (h13_159.lt2)
                have h12_160 := h12_159.below hb160 (h12_159.lt2)
                refine hK _ _ (hSG3.out _ hB160) ?_
                clear hK K hB159 h13_159 h12_159 hb160
                (try simp only [Act.put, List.setIfInBounds_toArray, List.set_cons_zero, List.set_cons_succ])
                refine tr_step rfl (by rfl) (fun K hK => ?_)
                go_simp
                refine (hU1.out X160 hB160).mono ?_
                rintro e X161 ⟨rfl, hb161⟩
                have hB161 := BT hB160 hb161
                have h13_161 := h13_160.below hb161 (h13_160.lt2)
                have h12_161 := h12_160.below hb161 (h12_160.lt2)
                refine hK _ _ (hSG3.out _ hB161) ?_
                clear hK K hB160 h13_160 h12_160 hb161
                (try simp only [Act.put, List.setIfInBounds_toArray, List.set_cons_zero, List.set_cons_succ])
                refine tr_step rfl (by rfl) (fun K hK => ?_)
                go_simp
                refine (hU3.out X161 hB161).mono ?_
                rintro e X162 ⟨rfl, hb162⟩
                have hB162 := BT hB161 hb162
                have h13_162 := h13_161.below hb162 (h13_161.lt2)
                have h12_162 := h12_161.below hb162 (h12_161.lt2)
                refine hK _ _ (hSG3.out _ hB162) ?_
                clear hK K hB161 h13_161 h12_161 hb162
                (try simp only [Act.put, List.setIfInBounds_toArray, List.set_cons_zero, List.set_cons_succ])
                refine tr_step rfl (by rfl) (fun K hK => ?_)
                obtain ⟨u0_163, q0_163, f0_163⟩ := h12_162.get 0 (by omega)
                obtain ⟨u1_163, q1_163, f1_163⟩ := h12_162.get 1 (by omega)
                have hB163 := BC (BC hB162 g12 0 hg12 (.int .i64 (p1))) g12 1 hg12 (.int .i64 (p2))
                have h13_163 := (h13_162.set ⟨g12, 0, none⟩ (.int .i64 (p1))).set ⟨g12, 1, none⟩ (.int .i64 (p2))
                have h12_163 := two_set h12_162 (p1) (p2)
                go_simp
                clear q0_163 f0_163 q1_163 f1_163
                generalize (X162.setCell ⟨g12, 0, none⟩ (.int .i64 (p1))).setCell ⟨g12, 1, none⟩ (.int .i64 (p2)) = X163 at *
                refine hK _ _ (hSG3.out _ hB163) ?_
                clear hK K hB162 h13_162 h12_162
                (try simp only [Act.put, List.setIfInBounds_toArray, List.set_cons_zero, List.set_cons_succ])
                refine tr_last rfl (by rfl) (by kernel_rfl) (fun K hK => ?_)
                obtain ⟨u0_164, q0_164, f0_164⟩ := h13_163.get 0 (by omega)
                obtain ⟨u1_164, q1_164, f1_164⟩ := h13_163.get 1 (by omega)
                have hB164 := BC (BC hB163 g13 0 hg13 (.int .i64 (q1))) g13 1 hg13 (.int .i64 (q2))
                have h12_164 := h12_163.far (g' := g13) (by omega) (q1) (q2)
                have h13_164 := two_set h13_163 (q1) (q2)
                go_simp
                clear q0_164 f0_164 q1_164 f1_164
                generalize (X163.setCell ⟨g13, 0, none⟩ (.int .i64 (q1))).setCell ⟨g13, 1, none⟩ (.int .i64 (q2)) = X164 at *
                refine hK _ _ ?_
                clear hK K hB163 h12_163 h13_163
                (try simp only [Act.put, List.setIfInBounds_toArray, List.set_cons_zero, List.set_cons_succ])
                show Exit.then _ _ Exit.normal _ _
                go_wp2_with fail
                go_meet
                exact ⟨g12, g13, rfl, rfl, h12_164, h13_164, hB164⟩
          case rest =>
            obtain ⟨g12, g13, rfl, rfl, ⟨e0, e1⟩, ⟨e2, e3⟩, hb⟩ := hcut
            have HLq := Lib.hid (HLp.out.grown hb)
            clear hSG3 hU1 hU2 hU3 hB0 hb
            obtain ⟨_, _, ⟨j0, j1⟩, z0, z1, _, _⟩ := HLq.out
            obtain ⟨ml, hml⟩ : ∃ m, mnI (PT lo k).1 (q1 - p2) = m := ⟨_, rfl⟩
            obtain ⟨mh, hmh⟩ : ∃ m, mxI (PT lo k).2 (q2 - p1) = m := ⟨_, rfl⟩
            have HP1 : Hid (PT lo (k + 1) = (ml, mh)) := by show _ = _; rw [HPk.out, hml, hmh]
            have k1 : (if q1 - p2 < (PT lo k).1 then q1 - p2 else (PT lo k).1) = ml := hml
            have k2 : (if (PT lo k).2 < q2 - p1 then q2 - p1 else (PT lo k).2) = mh := hmh
            clear hml hmh
            have hput := Lib.hid (HLq.out.put hq1 hq2 hq4 ml mh)
            go_wp2
            go_roundw
            case rel => exact ⟨k + 1, by omega, by simp; omega, by rw [HP1.out]; exact hput.out⟩
            case measure => simp [intOf]; omega
        · obtain rfl : k = cnt := by omega
          have hd : decide (lo + (k : Int) ≤ hi) = false := by simp; omega
          obtain ⟨v0, u0, y0⟩ := hre.get 0 (by omega)
          obtain ⟨v1, u1, y1⟩ := hre.get 1 (by omega)
          clear hre
          go_wp2
          exact bodyPost_ret (v := .tuple #[.agg #[.int .i64 (PT lo k).1, .int .i64 (PT lo k).2], .int .i64 0]) (by simp [results, Try.results23, go_sem, u0, u1]) rfl ⟨by rw [HRc.out], by (repeat (first | assumption | exact Below.refl _ _ | refine BA ?_ _ | refine BC ?_ _ _ (by omega) _ | refine Below.drew ?_ | refine BT ?_ (by assumption)))⟩
    · have HR : Hid (R = (0, 0, er)) := by show _ = _; rw [HE.out, if_neg he]
      have d1 : (er != 0) = true := by simpa using he
      obtain ⟨v0, u0, y0⟩ := hS1.out.get 0 (by omega)
      obtain ⟨v1, u1, y1⟩ := hS1.out.get 1 (by omega)
      have hB1 := hW1.out
      clear he
      go_wp2
      exact bodyPost_ret (v := .tuple #[.agg #[.int .i64 0, .int .i64 0], .int .i64 er]) (by simp [results, Try.results23, go_sem, u0, u1]) rfl ⟨by rw [HR.out], by (repeat (first | assumption | exact Below.refl _ _ | refine BA ?_ _ | refine BC ?_ _ _ (by omega) _ | refine Below.drew ?_ | refine BT ?_ (by assumption)))⟩
end Go.Proofs.Ytmfbkgdlfackcaa
