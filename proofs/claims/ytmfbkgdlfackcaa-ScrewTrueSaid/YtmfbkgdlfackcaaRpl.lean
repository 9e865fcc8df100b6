/- The reference: the place: all sums are tried. -/
import Derived.Test.YtmfbkgdlfackcaaMrs
import Derived.Deep.CutRange
namespace Go.Proofs.Ytmfbkgdlfackcaa
open Fw Go.RowKit

/-- The places with the first sums from one on. -/
def plTo (ts : List Tell) (set im lo : Int) : Nat → Int × Int
  | 0 => placesS ts set im lo
  | k + 1 => (mnI (plTo ts set im lo k).1 (placesS ts set im (lo + k)).1, mxI (plTo ts set im lo k).2 (placesS ts set im (lo + k)).2)
def placeE (h : Hd) (xs : List (Int × Int)) (ss : List Sett) (im : Int) : Int × Int × Int :=
  if (openE h xs ss (inB im 0 (wrap64 (h.images - 1)))).2.2 = 0 then
    if hasC im (cntsOf ss) = true then ((plTo (tellsOf xs h.eLo h.eHi ss) (allS ss) im (openE h xs ss (inB im 0 (wrap64 (h.images - 1)))).1 ((openE h xs ss (inB im 0 (wrap64 (h.images - 1)))).2.1 - (openE h xs ss (inB im 0 (wrap64 (h.images - 1)))).1 + 1).toNat).1,
        (plTo (tellsOf xs h.eLo h.eHi ss) (allS ss) im (openE h xs ss (inB im 0 (wrap64 (h.images - 1)))).1 ((openE h xs ss (inB im 0 (wrap64 (h.images - 1)))).2.1 - (openE h xs ss (inB im 0 (wrap64 (h.images - 1)))).1 + 1).toNat).2, 0)
    else (0, 0, 12)
  else (0, 0, (openE h xs ss (inB im 0 (wrap64 (h.images - 1)))).2.2)
theorem openE_ok {h : Hd} {xs : List (Int × Int)} {ss : List Sett} {v : Bool} (he : (openE h xs ss v).2.2 = 0) : validH h xs ss = true ∧ v = true ∧ 0 ≤ (openE h xs ss v).1 ∧ (openE h xs ss v).1 ≤ (openE h xs ss v).2.1 ∧ (openE h xs ss v).2.1 ≤ 131072 := by
  unfold openE at *
  by_cases h1 : validH h xs ss = true
  · rw [if_pos h1] at *
    cases v
    · simp at he
    · rw [if_pos rfl] at *
      by_cases h2 : (sumsS h xs ss (allS ss)).1 > (sumsS h xs ss (allS ss)).2
      · rw [if_pos h2] at he; simp at he
      · rw [if_neg h2]
        refine ⟨h1, rfl, ?_⟩
        dsimp only
        obtain ⟨_, _, _, _, ve, _⟩ := valid_has h1
        cases hs : sumsTo (tellsOf xs h.eLo h.eHi ss) (allS ss) h.sLo h.sHi h.images.toNat with
        | none =>
          exfalso
          have : sumsS h xs ss (allS ss) = (1, 0) := by unfold sumsS; rw [hs]; rfl
          rw [this] at h2; simp at h2
        | some o =>
          have : sumsS h xs ss (allS ss) = o := by unfold sumsS; rw [hs]; rfl
          rw [this] at h2 ⊢
          have := sumsTo_rng (fair_of h1) (by omega) _ o hs
          omega
  · rw [if_neg h1] at he; simp at he
theorem allS_rng {ss : List Sett} (h : ss.length ≤ 12) : 0 ≤ allS ss ∧ allS ss ≤ 1000000 := by
  have : ∀ k : Fin 13, (1 : Int) ≤ 2 ^ k.val ∧ (2 : Int) ^ k.val ≤ 4096 := by decide
  have := this ⟨ss.length, by omega⟩
  unfold allS
  dsimp only at this
  omega

/-- What lies there while places are tried. -/
structure Lp (w X : World) (B g10 g7 : Nat) (h : Hd) (lo hi p q : Int) : Prop where
  box : BoxC X B h
  ends : Two g10 lo hi X
  out : Two g7 p q X
  z0 : X.frozen? ⟨g7, 0, none⟩ = false
  z1 : X.frozen? ⟨g7, 1, none⟩ = false
  res : Slots (B + 1) 2 X
  below : Below w.heap.size w X
theorem Lp.grown {w X X' : World} {B g10 g7 : Nat} {h : Hd} {lo hi p q : Int} (k : Lp w X B g10 g7 h lo hi p q) (hb : Below X.heap.size X X') : Lp w X' B g10 g7 h lo hi p q :=
  ⟨k.box.grown hb, k.ends.grown hb, k.out.grown hb, (hb.frozen (p := ⟨g7, 0, none⟩) k.out.lt2).trans k.z0, (hb.frozen (p := ⟨g7, 1, none⟩) k.out.lt2).trans k.z1, k.res.below hb k.res.lt2, BT k.below hb⟩
theorem Lp.put {w X : World} {B g10 g7 : Nat} {h : Hd} {lo hi p q : Int} (k : Lp w X B g10 g7 h lo hi p q) (h1 : B < g7) (h2 : g10 ≠ g7) (h4 : w.heap.size ≤ g7) (p' q' : Int) :
    Lp w ((X.setCell ⟨g7, 0, none⟩ (.int .i64 p')).setCell ⟨g7, 1, none⟩ (.int .i64 q')) B g10 g7 h lo hi p' q' := by
  have hx : BX g7 X ((X.setCell ⟨g7, 0, none⟩ (.int .i64 p')).setCell ⟨g7, 1, none⟩ (.int .i64 q')) := (BX.set _ _ _ _).trans (BX.set _ _ _ _)
  have hlt : B < X.heap.size := World.block_lt_of_cell? _ _ k.box.1
  have c : ∀ o v, X.cell? ⟨B, o, none⟩ = some v → ((X.setCell ⟨g7, 0, none⟩ (.int .i64 p')).setCell ⟨g7, 1, none⟩ (.int .i64 q')).cell? ⟨B, o, none⟩ = some v := fun o v hv => (hx.cell B o hlt (by omega)).trans hv
  obtain ⟨b0, b1, b2, b3, b4, b5, b6⟩ := k.box
  refine ⟨⟨c _ _ b0, c _ _ b1, c _ _ b2, c _ _ b3, c _ _ b4, c _ _ b5, c _ _ b6⟩, k.ends.far h2 p' q', ?_, ?_, ?_, (k.res.set _ _).set _ _, BC (BC k.below g7 0 h4 _) g7 1 h4 _⟩
  · constructor
    · rw [World.cell?_setCell_other _ _ _ _ (by simp), World.cell?_setCell_same _ _ _ k.out.1]
    · refine World.cell?_setCell_same _ _ _ (u := .int .i64 q) ?_
      rw [World.cell?_setCell_other _ _ _ _ (by simp)]; exact k.out.2
  · rw [World.frozen?_setCell, World.frozen?_setCell]; exact k.z0
  · rw [World.frozen?_setCell, World.frozen?_setCell]; exact k.z1

set_option maxRecDepth 100000 in
set_option maxHeartbeats 4000000 in
theorem place_anyR (h : Hd) (xs : List (Int × Int)) (ss : List Sett) (im : Int) (w : World) (hm : HasM w h xs ss) (hn : xs.length ≤ 100) (hns : ss.length ≤ 100) :
    Calls Try.prog 21 #[h.val, .int .i64 im] w (Ret (tup3 (placeE h xs ss im).1 (placeE h xs ss im).2.1 (placeE h xs ss im).2.2) w) := by
  have HM := Lib.hid hm
  have HNS := Lib.hid hm.ns
  have HO : Hid (∀ Y, Below w.heap.size w Y → Calls Try.prog 61 #[.agg #[.slice h.a h.n h.cap, .int .i64 h.eLo, .int .i64 h.eHi, .int .i64 h.images, .int .i64 h.sLo, .int .i64 h.sHi, .slice h.sa h.ns h.scap], .bool (inB im 0 (wrap64 (h.images - 1)))] Y (Ret (tup3 (openE h xs ss (inB im 0 (wrap64 (h.images - 1)))).1 (openE h xs ss (inB im 0 (wrap64 (h.images - 1)))).2.1 (openE h xs ss (inB im 0 (wrap64 (h.images - 1)))).2.2) Y)) := fun Y hY => open_anyR h xs ss _ Y (hm.below (Nat.le_refl _) hY) hn hns
  have HSe : Hid (∀ Y, Below w.heap.size w Y → Calls Try.prog 67 #[.agg #[.slice h.a h.n h.cap, .int .i64 h.eLo, .int .i64 h.eHi, .int .i64 h.images, .int .i64 h.sLo, .int .i64 h.sHi, .slice h.sa h.ns h.scap], .int .i64 im] Y (Ret (.bool (hasC im (cntsOf ss))) Y)) := fun Y hY => seen_anyR h xs ss im Y (hm.below (Nat.le_refl _) hY) hns
  have HP : Hid (validH h xs ss = true → ∀ Y s, Below w.heap.size w Y → -10000000 ≤ s ∧ s ≤ 10000000 → Calls Try.prog 68 #[.agg #[.slice h.a h.n h.cap, .int .i64 h.eLo, .int .i64 h.eHi, .int .i64 h.images, .int .i64 h.sLo, .int .i64 h.sHi, .slice h.sa h.ns h.scap], .int .i64 (2 ^ h.ns - 1), .int .i64 im, .int .i64 s] Y (Ret (.agg #[.int .i64 (placesS (tellsOf xs h.eLo h.eHi ss) (allS ss) im s).1, .int .i64 (placesS (tellsOf xs h.eLo h.eHi ss) (allS ss) im s).2]) Y)) := fun hv Y s hY hsr => by
    have := places_anyR h xs ss (allS ss) im s Y (HM.out.below (Nat.le_refl _) hY) hv (allS_rng (valid_has hv).2.2.2.2.2.1) hsr
    unfold allS at this ⊢
    rw [hm.ns] at this ⊢
    exact this
  have hC0 : Hid (BoxC ((w.alloc (.cells #[.slice h.a h.n h.cap, .int .i64 h.eLo, .int .i64 h.eHi, .int .i64 h.images, .int .i64 h.sLo, .int .i64 h.sHi, .slice h.sa h.ns h.scap] 29)).alloc (.cells #[.int .i64 0, .int .i64 0] 24)) w.heap.size h) := (boxC_new w h).grown (newB _ _)
  have hS0 : Hid (Slots (w.heap.size + 1) 2 ((w.alloc (.cells #[.slice h.a h.n h.cap, .int .i64 h.eLo, .int .i64 h.eHi, .int .i64 h.images, .int .i64 h.sLo, .int .i64 h.sHi, .slice h.sa h.ns h.scap] 29)).alloc (.cells #[.int .i64 0, .int .i64 0] 24))) := by
    have := slots_new2 (w.alloc (.cells #[.slice h.a h.n h.cap, .int .i64 h.eLo, .int .i64 h.eHi, .int .i64 h.images, .int .i64 h.sLo, .int .i64 h.sHi, .slice h.sa h.ns h.scap] 29)) 24
    show Slots _ _ _
    simpa using this
  have hW0 : Hid (Below w.heap.size w ((w.alloc (.cells #[.slice h.a h.n h.cap, .int .i64 h.eLo, .int .i64 h.eHi, .int .i64 h.images, .int .i64 h.sLo, .int .i64 h.sHi, .slice h.sa h.ns h.scap] 29)).alloc (.cells #[.int .i64 0, .int .i64 0] 24))) := by
    show Below _ _ _
    (repeat (first | assumption | exact Below.refl _ _ | refine BA ?_ _ | refine BC ?_ _ _ (by omega) _ | refine Below.drew ?_ | refine BT ?_ (by assumption)))
  have hns30 : h.ns ≤ 100 := by rw [← hm.ns]; exact hns
  have HV : Hid (validH h xs ss = true → h.ns ≤ 12) := fun hv => by rw [← hm.ns]; exact (valid_has hv).2.2.2.2.2.1
  have HOK := Lib.hid (fun he => openE_ok (h := h) (xs := xs) (ss := ss) (v := inB im 0 (wrap64 (h.images - 1))) he)
  have HE : Hid (placeE h xs ss im = if (openE h xs ss (inB im 0 (wrap64 (h.images - 1)))).2.2 = 0 then
    if hasC im (cntsOf ss) = true then ((plTo (tellsOf xs h.eLo h.eHi ss) (allS ss) im (openE h xs ss (inB im 0 (wrap64 (h.images - 1)))).1 ((openE h xs ss (inB im 0 (wrap64 (h.images - 1)))).2.1 - (openE h xs ss (inB im 0 (wrap64 (h.images - 1)))).1 + 1).toNat).1,
        (plTo (tellsOf xs h.eLo h.eHi ss) (allS ss) im (openE h xs ss (inB im 0 (wrap64 (h.images - 1)))).1 ((openE h xs ss (inB im 0 (wrap64 (h.images - 1)))).2.1 - (openE h xs ss (inB im 0 (wrap64 (h.images - 1)))).1 + 1).toNat).2, 0)
    else (0, 0, 12) else (0, 0, (openE h xs ss (inB im 0 (wrap64 (h.images - 1)))).2.2)) := rfl
  have HPT : Hid (∀ lo k, plTo (tellsOf xs h.eLo h.eHi ss) (allS ss) im lo (k + 1) = (mnI (plTo (tellsOf xs h.eLo h.eHi ss) (allS ss) im lo k).1 (placesS (tellsOf xs h.eLo h.eHi ss) (allS ss) im (lo + k)).1, mxI (plTo (tellsOf xs h.eLo h.eHi ss) (allS ss) im lo k).2 (placesS (tellsOf xs h.eLo h.eHi ss) (allS ss) im (lo + k)).2)) := fun _ _ => rfl
  have HP0 : Hid (∀ lo, plTo (tellsOf xs h.eLo h.eHi ss) (allS ss) im lo 0 = placesS (tellsOf xs h.eLo h.eHi ss) (allS ss) im lo) := fun _ => rfl
  generalize placeE h xs ss im = R at *
  generalize openE h xs ss (inB im 0 (wrap64 (h.images - 1))) = O at *
  generalize plTo (tellsOf xs h.eLo h.eHi ss) (allS ss) im = PT at *
  generalize placesS (tellsOf xs h.eLo h.eHi ss) (allS ss) im = PS at *
  generalize hasC im (cntsOf ss) = sn at *
  obtain ⟨lo, hi, er⟩ := O
  dsimp only at HO HOK HE
  have hIn : Hid (∀ Y, Calls Try.prog 66 #[.int .i64 im, .int .i64 0, .int .i64 (wrap64 (h.images - 1))] Y (Ret (.bool (inB im 0 (wrap64 (h.images - 1)))) Y)) := fun Y => inR_any _ _ _ Y
  generalize inB im 0 (wrap64 (h.images - 1)) = iv at *
  unfold tup3 at HO
  unfold Hd.val tup3
  clear hm
  go_enter Try.func21, Try.ntmps21
  go_upto_region 1 with fail
  generalize hBw : w.heap.size = B at hC0 hS0 ⊢
  generalize (w.alloc (.cells #[.slice h.a h.n h.cap, .int .i64 h.eLo, .int .i64 h.eHi, .int .i64 h.images, .int .i64 h.sLo, .int .i64 h.sHi, .slice h.sa h.ns h.scap] 29)).alloc (.cells #[.int .i64 0, .int .i64 0] 24) = W at *
  have hwB : w.heap.size ≤ B := by omega
  have hwB1 : w.heap.size ≤ B + 1 := by omega
  clear hBw
  have hSG : Hid (∀ X, Below W.heap.size W X → BoxC X B h) := fun X hX => hC0.out.grown hX
  have hU1 : Hid (∀ Y, Below W.heap.size W Y → Calls Try.prog 66 #[.int .i64 im, .int .i64 0, .int .i64 (wrap64 (h.images - 1))] Y (Ret (.bool iv) Y)) := fun Y _ => hIn.out Y
  have hU2 : Hid (∀ Y, Below W.heap.size W Y → Calls Try.prog 61 #[.agg #[.slice h.a h.n h.cap, .int .i64 h.eLo, .int .i64 h.eHi, .int .i64 h.images, .int .i64 h.sLo, .int .i64 h.sHi, .slice h.sa h.ns h.scap], .bool iv] Y (Ret (.tuple #[.agg #[.int .i64 lo, .int .i64 hi], .int .i64 er]) Y)) := fun Y hY => HO.out Y (BT hW0.out hY)
  have hB0 : Below W.heap.size W W.drew := Below.drew (Below.refl _ _)
  have kw : IntKind.i64.wrap (h.images - 1) = wrap64 (h.images - 1) := by first | rfl | (rw [IntKind.wrap_i64]; rfl) | (rw [IntKind.wrap_i64]; unfold wrap64; omega)
  clear HM HO hIn
  go_cut [6, 7] (fun a6 a7 X => ∃ g10 : Nat, a6 = .pointer (some ⟨g10, 0, none⟩) ∧ a7 = .int .i64 er ∧ Two g10 lo hi X ∧ Below W.heap.size W X)
  case first =>
    refine wp_region_tree (.read 0 (.read 1 (.read 2 (.read 3 (.read 4 (.two 5 (.two 6 (.read 7 (.read 8 (.read 9 (.one 10 (.one 11 (.read 12 (.leaf))))))) 10 (.one 6 (.read 7 (.read 8 (.read 9 (.one 11 (.read 12 (.leaf)))))))) 10 (.one 5 (.one 6 (.read 7 (.read 8 (.read 9 (.one 11 (.read 12 (.leaf)))))))))))))) (fun w' => w'.cell? ⟨B, 0, none⟩ = some (.slice h.a h.n h.cap) ∧ w'.cell? ⟨B, 1, none⟩ = some (.int .i64 h.eLo) ∧ w'.cell? ⟨B, 2, none⟩ = some (.int .i64 h.eHi) ∧ w'.cell? ⟨B, 3, none⟩ = some (.int .i64 h.images) ∧ w'.cell? ⟨B, 4, none⟩ = some (.int .i64 h.sLo) ∧ w'.cell? ⟨B, 5, none⟩ = some (.int .i64 h.sHi) ∧ w'.cell? ⟨B, 6, none⟩ = some (.slice h.sa h.ns h.scap)) (by kernel_rfl) (by kernel_rfl) (fun _ _ d _ _ h => by cases d <;> exact h) (hSG.out _ hB0) ?_
    generalize W.drew = X0 at *
    repeat (first | (refine tr_read rfl (by rfl) _ (fun w' hS => by (try dsimp only at hS); go_simp; (try with_reducible rfl)) ?_; (try simp only [Act.put, List.setIfInBounds_toArray, List.set_cons_zero, List.set_cons_succ])) | (refine tr_skip rfl (by rfl) ?_; (try simp only [Act.put, List.setIfInBounds_toArray, List.set_cons_zero, List.set_cons_succ])))
    refine ⟨?_, ?_⟩
    · skip
      refine tr_step rfl (by rfl) (fun K hK => ?_)
      go_simp
      refine (hU1.out X0 hB0).mono ?_
      rintro e X1 ⟨rfl, hb1⟩
      have hB1 := BT hB0 hb1
      refine hK _ _ (hSG.out _ hB1) ?_
      clear hK K hB0 hb1
      (try simp only [Act.put, List.setIfInBounds_toArray, List.set_cons_zero, List.set_cons_succ])
      refine ⟨?_, ?_⟩
      · skip
        refine tr_step rfl (by rfl) (fun K hK => ?_)
        go_simp
        refine (hU2.out X1 hB1).mono ?_
        rintro e X2 ⟨rfl, hb2⟩
        have hB2 := BT hB1 hb2
        refine hK _ _ (hSG.out _ hB2) ?_
        clear hK K hB1 hb2
        (try simp only [Act.put, List.setIfInBounds_toArray, List.set_cons_zero, List.set_cons_succ])
        repeat (first | (refine tr_read rfl (by rfl) _ (fun w' hS => by (try dsimp only at hS); go_simp; (try with_reducible rfl)) ?_; (try simp only [Act.put, List.setIfInBounds_toArray, List.set_cons_zero, List.set_cons_succ])) | (refine tr_skip rfl (by rfl) ?_; (try simp only [Act.put, List.setIfInBounds_toArray, List.set_cons_zero, List.set_cons_succ])))
        refine tr_step rfl (by rfl) (fun K hK => ?_)
        have hB3 := BA hB2 (.cells #[.int .i64 0, .int .i64 0] 24)
        have h10_3 := slots_new2 X2 24
        have hg10 := hB2.size
        go_simp
        generalize X2.heap.size = g10 at *
        generalize X2.alloc (.cells #[.int .i64 0, .int .i64 0] 24) = X3 at *
        refine hK _ _ (hSG.out _ hB3) ?_
        clear hK K hB2 
        (try simp only [Act.put, List.setIfInBounds_toArray, List.set_cons_zero, List.set_cons_succ])
        refine tr_step rfl (by rfl) (fun K hK => ?_)
        obtain ⟨u0_4, q0_4, f0_4⟩ := h10_3.get 0 (by omega)
        obtain ⟨u1_4, q1_4, f1_4⟩ := h10_3.get 1 (by omega)
        have hB4 := BC (BC hB3 g10 0 hg10 (.int .i64 (lo))) g10 1 hg10 (.int .i64 (hi))
        have h10_4 := two_set h10_3 (lo) (hi)
        go_simp
        clear q0_4 f0_4 q1_4 f1_4
        generalize (X3.setCell ⟨g10, 0, none⟩ (.int .i64 (lo))).setCell ⟨g10, 1, none⟩ (.int .i64 (hi)) = X4 at *
        refine hK _ _ (hSG.out _ hB4) ?_
        clear hK K hB3 h10_3
        (try simp only [Act.put, List.setIfInBounds_toArray, List.set_cons_zero, List.set_cons_succ])
        repeat (first | (refine tr_read rfl (by rfl) _ (fun w' hS => by (try dsimp only at hS); go_simp; (try with_reducible rfl)) ?_; (try simp only [Act.put, List.setIfInBounds_toArray, List.set_cons_zero, List.set_cons_succ])) | (refine tr_skip rfl (by rfl) ?_; (try simp only [Act.put, List.setIfInBounds_toArray, List.set_cons_zero, List.set_cons_succ])))
        show Exit.then _ _ Exit.normal _ _
        go_wp2_with fail
        go_meet
        exact ⟨g10, rfl, rfl, h10_4, hB4⟩
      · skip
        refine tr_step rfl (by rfl) (fun K hK => ?_)
        have hB5 := BA hB1 (.cells #[.int .i64 0, .int .i64 0] 24)
        have h10_5 := slots_new2 X1 24
        have hg10 := hB1.size
        go_simp
        generalize X1.heap.size = g10 at *
        generalize X1.alloc (.cells #[.int .i64 0, .int .i64 0] 24) = X5 at *
        refine hK _ _ (hSG.out _ hB5) ?_
        clear hK K hB1 
        (try simp only [Act.put, List.setIfInBounds_toArray, List.set_cons_zero, List.set_cons_succ])
        refine tr_step rfl (by rfl) (fun K hK => ?_)
        go_simp
        refine (hU2.out X5 hB5).mono ?_
        rintro e X6 ⟨rfl, hb6⟩
        have hB6 := BT hB5 hb6
        have h10_6 := h10_5.below hb6 (h10_5.lt2)
        refine hK _ _ (hSG.out _ hB6) ?_
        clear hK K hB5 h10_5 hb6
        (try simp only [Act.put, List.setIfInBounds_toArray, List.set_cons_zero, List.set_cons_succ])
        repeat (first | (refine tr_read rfl (by rfl) _ (fun w' hS => by (try dsimp only at hS); go_simp; (try with_reducible rfl)) ?_; (try simp only [Act.put, List.setIfInBounds_toArray, List.set_cons_zero, List.set_cons_succ])) | (refine tr_skip rfl (by rfl) ?_; (try simp only [Act.put, List.setIfInBounds_toArray, List.set_cons_zero, List.set_cons_succ])))
        refine tr_step rfl (by rfl) (fun K hK => ?_)
        obtain ⟨u0_7, q0_7, f0_7⟩ := h10_6.get 0 (by omega)
        obtain ⟨u1_7, q1_7, f1_7⟩ := h10_6.get 1 (by omega)
        have hB7 := BC (BC hB6 g10 0 hg10 (.int .i64 (lo))) g10 1 hg10 (.int .i64 (hi))
        have h10_7 := two_set h10_6 (lo) (hi)
        go_simp
        clear q0_7 f0_7 q1_7 f1_7
        generalize (X6.setCell ⟨g10, 0, none⟩ (.int .i64 (lo))).setCell ⟨g10, 1, none⟩ (.int .i64 (hi)) = X7 at *
        refine hK _ _ (hSG.out _ hB7) ?_
        clear hK K hB6 h10_6
        (try simp only [Act.put, List.setIfInBounds_toArray, List.set_cons_zero, List.set_cons_succ])
        repeat (first | (refine tr_read rfl (by rfl) _ (fun w' hS => by (try dsimp only at hS); go_simp; (try with_reducible rfl)) ?_; (try simp only [Act.put, List.setIfInBounds_toArray, List.set_cons_zero, List.set_cons_succ])) | (refine tr_skip rfl (by rfl) ?_; (try simp only [Act.put, List.setIfInBounds_toArray, List.set_cons_zero, List.set_cons_succ])))
        show Exit.then _ _ Exit.normal _ _
        go_wp2_with fail
        go_meet
        exact ⟨g10, rfl, rfl, h10_7, hB7⟩
    · skip
      refine tr_step rfl (by rfl) (fun K hK => ?_)
      have hB8 := BA hB0 (.cells #[.int .i64 0, .int .i64 0] 24)
      have h10_8 := slots_new2 X0 24
      have hg10 := hB0.size
      go_simp
      generalize X0.heap.size = g10 at *
      generalize X0.alloc (.cells #[.int .i64 0, .int .i64 0] 24) = X8 at *
      refine hK _ _ (hSG.out _ hB8) ?_
      clear hK K hB0 
      (try simp only [Act.put, List.setIfInBounds_toArray, List.set_cons_zero, List.set_cons_succ])
      refine tr_step rfl (by rfl) (fun K hK => ?_)
      go_simp
      refine (hU1.out X8 hB8).mono ?_
      rintro e X9 ⟨rfl, hb9⟩
      have hB9 := BT hB8 hb9
      have h10_9 := h10_8.below hb9 (h10_8.lt2)
      refine hK _ _ (hSG.out _ hB9) ?_
      clear hK K hB8 h10_8 hb9
      (try simp only [Act.put, List.setIfInBounds_toArray, List.set_cons_zero, List.set_cons_succ])
      refine tr_step rfl (by rfl) (fun K hK => ?_)
      go_simp
      refine (hU2.out X9 hB9).mono ?_
      rintro e X10 ⟨rfl, hb10⟩
      have hB10 := BT hB9 hb10
      have h10_10 := h10_9.below hb10 (h10_9.lt2)
      refine hK _ _ (hSG.out _ hB10) ?_
      clear hK K hB9 h10_9 hb10
      (try simp only [Act.put, List.setIfInBounds_toArray, List.set_cons_zero, List.set_cons_succ])
      repeat (first | (refine tr_read rfl (by rfl) _ (fun w' hS => by (try dsimp only at hS); go_simp; (try with_reducible rfl)) ?_; (try simp only [Act.put, List.setIfInBounds_toArray, List.set_cons_zero, List.set_cons_succ])) | (refine tr_skip rfl (by rfl) ?_; (try simp only [Act.put, List.setIfInBounds_toArray, List.set_cons_zero, List.set_cons_succ])))
      refine tr_step rfl (by rfl) (fun K hK => ?_)
      obtain ⟨u0_11, q0_11, f0_11⟩ := h10_10.get 0 (by omega)
      obtain ⟨u1_11, q1_11, f1_11⟩ := h10_10.get 1 (by omega)
      have hB11 := BC (BC hB10 g10 0 hg10 (.int .i64 (lo))) g10 1 hg10 (.int .i64 (hi))
      have h10_11 := two_set h10_10 (lo) (hi)
      go_simp
      clear q0_11 f0_11 q1_11 f1_11
      generalize (X10.setCell ⟨g10, 0, none⟩ (.int .i64 (lo))).setCell ⟨g10, 1, none⟩ (.int .i64 (hi)) = X11 at *
      refine hK _ _ (hSG.out _ hB11) ?_
      clear hK K hB10 h10_10
      (try simp only [Act.put, List.setIfInBounds_toArray, List.set_cons_zero, List.set_cons_succ])
      repeat (first | (refine tr_read rfl (by rfl) _ (fun w' hS => by (try dsimp only at hS); go_simp; (try with_reducible rfl)) ?_; (try simp only [Act.put, List.setIfInBounds_toArray, List.set_cons_zero, List.set_cons_succ])) | (refine tr_skip rfl (by rfl) ?_; (try simp only [Act.put, List.setIfInBounds_toArray, List.set_cons_zero, List.set_cons_succ])))
      show Exit.then _ _ Exit.normal _ _
      go_wp2_with fail
      go_meet
      exact ⟨g10, rfl, rfl, h10_11, hB11⟩
  case rest =>
    obtain ⟨g10, rfl, rfl, h10, hb⟩ := hcut
    clear kw
    have hC1 := Lib.hid (hC0.out.grown hb)
    have hS1 := Lib.hid (hS0.out.below hb hS0.out.lt2)
    have hW1 := Lib.hid (BT hW0.out hb)
    have H10 := Lib.hid h10
    clear hSG hU1 hU2 hB0 hb hC0 hS0 hW0 h10
    by_cases he : er = 0
    · subst he
      obtain ⟨hv, hiv, hlo0, hlh, hhi⟩ := HOK.out rfl
      have hn12 := HV.out hv
      have hPl := Lib.hid (HP.out hv)
      clear HP HOK HV hv hiv
      obtain ⟨c0, c1, c2, c3, c4, c5, c6⟩ := hC1.out
      go_wp2_with fail
      refine (HSe.out _ hW1.out).mono ?_
      rintro e w2 ⟨rfl, hb2⟩
      have hC2 := Lib.hid (hC1.out.grown hb2)
      have hS2 := Lib.hid (hS1.out.below hb2 hS1.out.lt2)
      have hW2 := Lib.hid (BT hW1.out hb2)
      have H12 := Lib.hid (H10.out.grown hb2)
      clear hC1 hS1 hW1 H10 hb2 c0 c1 c2 c3 c4 c5 c6 HSe
      obtain ⟨c0, c1, c2, c3, c4, c5, c6⟩ := hC2.out
      cases sn
      · have HR : Hid (R = (0, 0, 12)) := by show _ = _; rw [HE.out]; rfl
        obtain ⟨v0, u0, y0⟩ := hS2.out.get 0 (by omega)
        obtain ⟨v1, u1, y1⟩ := hS2.out.get 1 (by omega)
        have hB1 := hW2.out
        go_wp2
        exact bodyPost_ret (v := .tuple #[.agg #[.int .i64 0, .int .i64 0], .int .i64 12]) (by simp [results, Try.results21, go_sem, u0, u1]) rfl ⟨by rw [HR.out], by (repeat (first | assumption | exact Below.refl _ _ | refine BA ?_ _ | refine BC ?_ _ _ (by omega) _ | refine Below.drew ?_ | refine BT ?_ (by assumption)))⟩
      have HR : Hid (R = ((PT lo (hi - lo + 1).toNat).1, (PT lo (hi - lo + 1).toNat).2, 0)) := by show _ = _; rw [HE.out]; rfl
      clear HE
      obtain ⟨i0, i1⟩ := H12.out
      go_upto_region 6 with fail
      have hSG : Hid (∀ X, Below w2.heap.size w2 X → (BoxC X B h ∧ Two g10 lo hi X)) := fun X hX => ⟨hC2.out.grown hX, H12.out.grown hX⟩
      have hSG2 : Hid (∀ X, Below w2.heap.size w2 X → X.cell? ⟨B, 0, none⟩ = some (.slice h.a h.n h.cap) ∧ X.cell? ⟨B, 1, none⟩ = some (.int .i64 h.eLo) ∧ X.cell? ⟨B, 2, none⟩ = some (.int .i64 h.eHi) ∧ X.cell? ⟨B, 3, none⟩ = some (.int .i64 h.images) ∧ X.cell? ⟨B, 4, none⟩ = some (.int .i64 h.sLo) ∧ X.cell? ⟨B, 5, none⟩ = some (.int .i64 h.sHi) ∧ X.cell? ⟨B, 6, none⟩ = some (.slice h.sa h.ns h.scap) ∧ X.cell? ⟨g10, 0, none⟩ = some (.int .i64 lo) ∧ X.cell? ⟨g10, 1, none⟩ = some (.int .i64 hi)) := fun X hX => by
        obtain ⟨⟨d0, d1, d2, d3, d4, d5, d6⟩, d7, d8⟩ := hSG.out X hX
        exact ⟨d0, d1, d2, d3, d4, d5, d6, d7, d8⟩
      have hU1 : Hid (∀ Y, Below w2.heap.size w2 Y → Calls Try.prog 69 #[.agg #[.slice h.a h.n h.cap, .int .i64 h.eLo, .int .i64 h.eHi, .int .i64 h.images, .int .i64 h.sLo, .int .i64 h.sHi, .slice h.sa h.ns h.scap]] Y (Ret (.int .i64 (2 ^ h.ns - 1)) Y)) := fun Y _ => every_anyR h Y (by omega)
      have hPL : Hid (∀ Y s, Below w2.heap.size w2 Y → -10000000 ≤ s ∧ s ≤ 10000000 → Calls Try.prog 68 #[.agg #[.slice h.a h.n h.cap, .int .i64 h.eLo, .int .i64 h.eHi, .int .i64 h.images, .int .i64 h.sLo, .int .i64 h.sHi, .slice h.sa h.ns h.scap], .int .i64 (2 ^ h.ns - 1), .int .i64 im, .int .i64 s] Y (Ret (.agg #[.int .i64 (PS s).1, .int .i64 (PS s).2]) Y)) := fun Y s hY hs => hPl.out Y s (BT hW2.out hY) hs
      have hU2 : Hid (∀ Y, Below w2.heap.size w2 Y → Calls Try.prog 68 #[.agg #[.slice h.a h.n h.cap, .int .i64 h.eLo, .int .i64 h.eHi, .int .i64 h.images, .int .i64 h.sLo, .int .i64 h.sHi, .slice h.sa h.ns h.scap], .int .i64 (2 ^ h.ns - 1), .int .i64 im, .int .i64 lo] Y (Ret (.agg #[.int .i64 (PT lo 0).1, .int .i64 (PT lo 0).2]) Y)) := fun Y hY => by
        have := hPL.out Y lo hY ⟨by omega, by omega⟩
        rw [HP0.out]; exact this
      have hB0 : Below w2.heap.size w2 w2.drew := Below.drew (Below.refl _ _)
      have hPl2 := hPl
      clear hPl c0 c1 c2 c3 c4 c5 c6 i0 i1 HP0
      generalize hale : (2 : Int) ^ h.ns - 1 = al at *
      have hal := Lib.hid hale
      clear hale
      go_cut [8] (fun a8 X => ∃ g7 : Nat, a8 = .pointer (some ⟨g7, 0, none⟩) ∧ Two g7 (PT lo 0).1 (PT lo 0).2 X ∧ X.frozen? ⟨g7, 0, none⟩ = false ∧ X.frozen? ⟨g7, 1, none⟩ = false ∧ w2.heap.size ≤ g7 ∧ Below w2.heap.size w2 X)
      case first =>
        refine wp_region_tree (.read 0 (.read 1 (.read 3 (.read 4 (.read 5 (.two 2 (.two 6 (.one 7 (.one 8 (.leaf))) 7 (.one 6 (.one 8 (.leaf)))) 7 (.one 2 (.one 6 (.one 8 (.leaf)))))))))) (fun w' => w'.cell? ⟨B, 0, none⟩ = some (.slice h.a h.n h.cap) ∧ w'.cell? ⟨B, 1, none⟩ = some (.int .i64 h.eLo) ∧ w'.cell? ⟨B, 2, none⟩ = some (.int .i64 h.eHi) ∧ w'.cell? ⟨B, 3, none⟩ = some (.int .i64 h.images) ∧ w'.cell? ⟨B, 4, none⟩ = some (.int .i64 h.sLo) ∧ w'.cell? ⟨B, 5, none⟩ = some (.int .i64 h.sHi) ∧ w'.cell? ⟨B, 6, none⟩ = some (.slice h.sa h.ns h.scap) ∧ w'.cell? ⟨g10, 0, none⟩ = some (.int .i64 lo) ∧ w'.cell? ⟨g10, 1, none⟩ = some (.int .i64 hi)) (by kernel_rfl) (by kernel_rfl) (fun _ _ d _ _ h => by cases d <;> exact h) (hSG2.out _ hB0) ?_
        generalize w2.drew = X0 at *
        generalize (PT lo 0).1 = q1 at *
        generalize (PT lo 0).2 = q2 at *
        repeat (first | (refine tr_read rfl (by rfl) _ (fun w' hS => by (try dsimp only at hS); go_simp; (try with_reducible rfl)) ?_; (try simp only [Act.put, List.setIfInBounds_toArray, List.set_cons_zero, List.set_cons_succ])) | (refine tr_skip rfl (by rfl) ?_; (try simp only [Act.put, List.setIfInBounds_toArray, List.set_cons_zero, List.set_cons_succ])))
        refine ⟨?_, ?_⟩
        · skip
          refine tr_step rfl (by rfl) (fun K hK => ?_)
          go_simp
          refine (hU1.out X0 hB0).mono ?_
          rintro e X1 ⟨rfl, hb1⟩
          have hB1 := BT hB0 hb1
          refine hK _ _ (hSG2.out _ hB1) ?_
          clear hK K hB0 hb1
          (try simp only [Act.put, List.setIfInBounds_toArray, List.set_cons_zero, List.set_cons_succ])
          refine ⟨?_, ?_⟩
          · skip
            refine tr_step rfl (by rfl) (fun K hK => ?_)
            go_simp
            refine (hU2.out X1 hB1).mono ?_
            rintro e X2 ⟨rfl, hb2⟩
            have hB2 := BT hB1 hb2
            refine hK _ _ (hSG2.out _ hB2) ?_
            clear hK K hB1 hb2
            (try simp only [Act.put, List.setIfInBounds_toArray, List.set_cons_zero, List.set_cons_succ])
            refine tr_step rfl (by rfl) (fun K hK => ?_)
            have hB3 := BA hB2 (.cells #[.int .i64 0, .int .i64 0] 24)
            have h7_3 := slots_new2 X2 24
            have hg7 := hB2.size
            go_simp
            generalize X2.heap.size = g7 at *
            generalize X2.alloc (.cells #[.int .i64 0, .int .i64 0] 24) = X3 at *
            refine hK _ _ (hSG2.out _ hB3) ?_
            clear hK K hB2 
            (try simp only [Act.put, List.setIfInBounds_toArray, List.set_cons_zero, List.set_cons_succ])
            refine tr_last rfl (by rfl) (by kernel_rfl) (fun K hK => ?_)
            obtain ⟨u0_4, q0_4, f0_4⟩ := h7_3.get 0 (by omega)
            obtain ⟨u1_4, q1_4, f1_4⟩ := h7_3.get 1 (by omega)
            have hB4 := BC (BC hB3 g7 0 hg7 (.int .i64 (q1))) g7 1 hg7 (.int .i64 (q2))
            have h7_4 := two_set h7_3 (q1) (q2)
            go_simp
            have hz0 : ((X3.setCell ⟨g7, 0, none⟩ (.int .i64 (q1))).setCell ⟨g7, 1, none⟩ (.int .i64 (q2))).frozen? ⟨g7, 0, none⟩ = false := by rw [World.frozen?_setCell, World.frozen?_setCell]; exact f0_4
            have hz1 : ((X3.setCell ⟨g7, 0, none⟩ (.int .i64 (q1))).setCell ⟨g7, 1, none⟩ (.int .i64 (q2))).frozen? ⟨g7, 1, none⟩ = false := by rw [World.frozen?_setCell, World.frozen?_setCell]; exact f1_4
            clear q0_4 f0_4 q1_4 f1_4
            generalize (X3.setCell ⟨g7, 0, none⟩ (.int .i64 (q1))).setCell ⟨g7, 1, none⟩ (.int .i64 (q2)) = X4 at *
            refine hK _ _ ?_
            clear hK K hB3 h7_3
            (try simp only [Act.put, List.setIfInBounds_toArray, List.set_cons_zero, List.set_cons_succ])
            show Exit.then _ _ Exit.normal _ _
            go_wp2_with fail
            go_meet
            exact ⟨g7, rfl, h7_4, hz0, hz1, hg7, hB4⟩
          · skip
            refine tr_step rfl (by rfl) (fun K hK => ?_)
            have hB5 := BA hB1 (.cells #[.int .i64 0, .int .i64 0] 24)
            have h7_5 := slots_new2 X1 24
            have hg7 := hB1.size
            go_simp
            generalize X1.heap.size = g7 at *
            generalize X1.alloc (.cells #[.int .i64 0, .int .i64 0] 24) = X5 at *
            refine hK _ _ (hSG2.out _ hB5) ?_
            clear hK K hB1 
            (try simp only [Act.put, List.setIfInBounds_toArray, List.set_cons_zero, List.set_cons_succ])
            refine tr_step rfl (by rfl) (fun K hK => ?_)
            go_simp
            refine (hU2.out X5 hB5).mono ?_
            rintro e X6 ⟨rfl, hb6⟩
            have hB6 := BT hB5 hb6
            have h7_6 := h7_5.below hb6 (h7_5.lt2)
            refine hK _ _ (hSG2.out _ hB6) ?_
            clear hK K hB5 h7_5 hb6
            (try simp only [Act.put, List.setIfInBounds_toArray, List.set_cons_zero, List.set_cons_succ])
            refine tr_last rfl (by rfl) (by kernel_rfl) (fun K hK => ?_)
            obtain ⟨u0_7, q0_7, f0_7⟩ := h7_6.get 0 (by omega)
            obtain ⟨u1_7, q1_7, f1_7⟩ := h7_6.get 1 (by omega)
            have hB7 := BC (BC hB6 g7 0 hg7 (.int .i64 (q1))) g7 1 hg7 (.int .i64 (q2))
            have h7_7 := two_set h7_6 (q1) (q2)
            go_simp
            have hz0 : ((X6.setCell ⟨g7, 0, none⟩ (.int .i64 (q1))).setCell ⟨g7, 1, none⟩ (.int .i64 (q2))).frozen? ⟨g7, 0, none⟩ = false := by rw [World.frozen?_setCell, World.frozen?_setCell]; exact f0_7
            have hz1 : ((X6.setCell ⟨g7, 0, none⟩ (.int .i64 (q1))).setCell ⟨g7, 1, none⟩ (.int .i64 (q2))).frozen? ⟨g7, 1, none⟩ = false := by rw [World.frozen?_setCell, World.frozen?_setCell]; exact f1_7
            clear q0_7 f0_7 q1_7 f1_7
            generalize (X6.setCell ⟨g7, 0, none⟩ (.int .i64 (q1))).setCell ⟨g7, 1, none⟩ (.int .i64 (q2)) = X7 at *
            refine hK _ _ ?_
            clear hK K hB6 h7_6
            (try simp only [Act.put, List.setIfInBounds_toArray, List.set_cons_zero, List.set_cons_succ])
            show Exit.then _ _ Exit.normal _ _
            go_wp2_with fail
            go_meet
            exact ⟨g7, rfl, h7_7, hz0, hz1, hg7, hB7⟩
        · skip
          refine tr_step rfl (by rfl) (fun K hK => ?_)
          have hB8 := BA hB0 (.cells #[.int .i64 0, .int .i64 0] 24)
          have h7_8 := slots_new2 X0 24
          have hg7 := hB0.size
          go_simp
          generalize X0.heap.size = g7 at *
          generalize X0.alloc (.cells #[.int .i64 0, .int .i64 0] 24) = X8 at *
          refine hK _ _ (hSG2.out _ hB8) ?_
          clear hK K hB0 
          (try simp only [Act.put, List.setIfInBounds_toArray, List.set_cons_zero, List.set_cons_succ])
          refine tr_step rfl (by rfl) (fun K hK => ?_)
          go_simp
          refine (hU1.out X8 hB8).mono ?_
          rintro e X9 ⟨rfl, hb9⟩
          have hB9 := BT hB8 hb9
          have h7_9 := h7_8.below hb9 (h7_8.lt2)
          refine hK _ _ (hSG2.out _ hB9) ?_
          clear hK K hB8 h7_8 hb9
          (try simp only [Act.put, List.setIfInBounds_toArray, List.set_cons_zero, List.set_cons_succ])
          refine tr_step rfl (by rfl) (fun K hK => ?_)
          go_simp
          refine (hU2.out X9 hB9).mono ?_
          rintro e X10 ⟨rfl, hb10⟩
          have hB10 := BT hB9 hb10
          have h7_10 := h7_9.below hb10 (h7_9.lt2)
          refine hK _ _ (hSG2.out _ hB10) ?_
          clear hK K hB9 h7_9 hb10
          (try simp only [Act.put, List.setIfInBounds_toArray, List.set_cons_zero, List.set_cons_succ])
          refine tr_last rfl (by rfl) (by kernel_rfl) (fun K hK => ?_)
          obtain ⟨u0_11, q0_11, f0_11⟩ := h7_10.get 0 (by omega)
          obtain ⟨u1_11, q1_11, f1_11⟩ := h7_10.get 1 (by omega)
          have hB11 := BC (BC hB10 g7 0 hg7 (.int .i64 (q1))) g7 1 hg7 (.int .i64 (q2))
          have h7_11 := two_set h7_10 (q1) (q2)
          go_simp
          have hz0 : ((X10.setCell ⟨g7, 0, none⟩ (.int .i64 (q1))).setCell ⟨g7, 1, none⟩ (.int .i64 (q2))).frozen? ⟨g7, 0, none⟩ = false := by rw [World.frozen?_setCell, World.frozen?_setCell]; exact f0_11
          have hz1 : ((X10.setCell ⟨g7, 0, none⟩ (.int .i64 (q1))).setCell ⟨g7, 1, none⟩ (.int .i64 (q2))).frozen? ⟨g7, 1, none⟩ = false := by rw [World.frozen?_setCell, World.frozen?_setCell]; exact f1_11
          clear q0_11 f0_11 q1_11 f1_11
          generalize (X10.setCell ⟨g7, 0, none⟩ (.int .i64 (q1))).setCell ⟨g7, 1, none⟩ (.int .i64 (q2)) = X11 at *
          refine hK _ _ ?_
          clear hK K hB10 h7_10
          (try simp only [Act.put, List.setIfInBounds_toArray, List.set_cons_zero, List.set_cons_succ])
          show Exit.then _ _ Exit.normal _ _
          go_wp2_with fail
          go_meet
          exact ⟨g7, rfl, h7_11, hz0, hz1, hg7, hB11⟩
      case rest =>
        obtain ⟨g7, rfl, h7, z0, z1, hg7, hb⟩ := hcut
        have h10lt := H12.out.lt2
        have hS2lt := hS2.out.lt2
        have hw2s := hW2.out.size
        have HL := Lib.hid (Lp.mk (w := w) (hC2.out.grown hb) (H12.out.grown hb) h7 z0 z1 (hS2.out.below hb hS2.out.lt2) (BT hW2.out hb))
        have hPL2 : Hid (∀ Y s, Below w.heap.size w Y → w2.heap.size ≤ Y.heap.size → -10000000 ≤ s ∧ s ≤ 10000000 → Calls Try.prog 68 #[.agg #[.slice h.a h.n h.cap, .int .i64 h.eLo, .int .i64 h.eHi, .int .i64 h.images, .int .i64 h.sLo, .int .i64 h.sHi, .slice h.sa h.ns h.scap], .int .i64 al, .int .i64 im, .int .i64 s] Y (Ret (.agg #[.int .i64 (PS s).1, .int .i64 (PS s).2]) Y)) := fun Y s hY _ hs => hPl2.out Y s hY hs
        have hq1 : B < g7 := by omega
        have hq2 : g10 ≠ g7 := by omega
        have hq3 : B + 1 ≠ g7 := by omega
        have hq4 : w.heap.size ≤ g7 := by omega
        have hwcs := hb.size
        clear hC2 hS2 hW2 H12 hSG hSG2 hU2 hB0 hb h7 z0 z1 hg7 h10lt hS2lt hw2s hPL hPl2
        obtain ⟨⟨c0, c1, c2, c3, c4, c5, c6⟩, ⟨i0, i1⟩, _, _, _, _, _⟩ := HL.out
        go_wp2_with fail
        clear c0 c1 c2 c3 c4 c5 c6 i0 i1
        obtain ⟨cnt, hcnt⟩ : ∃ c : Nat, (hi - lo + 1).toNat = c := ⟨_, rfl⟩
        have hcn : (cnt : Int) = hi - lo + 1 := by omega
        have HRc : Hid (R = ((PT lo cnt).1, (PT lo cnt).2, 0)) := by show _ = _; rw [← hcnt]; exact HR.out
        clear HR hcnt
        have hUe : Hid (∀ Y, w2.heap.size ≤ Y.heap.size → Below w.heap.size w Y → Calls Try.prog 69 #[.agg #[.slice h.a h.n h.cap, .int .i64 h.eLo, .int .i64 h.eHi, .int .i64 h.images, .int .i64 h.sLo, .int .i64 h.sHi, .slice h.sa h.ns h.scap]] Y (Ret (.int .i64 al) Y)) := fun Y _ _ => by
          rw [← hal.out]; exact every_anyR h Y (by omega)
        clear hU1
        go_loopw [9] (fun n wr => ∃ k : Nat, k ≤ cnt ∧ n = .int .i64 (lo + k) ∧ w2.heap.size ≤ wr.heap.size ∧ Lp w wr B g10 g7 h lo hi (PT lo k).1 (PT lo k).2) (fun n _ => cnt - (intOf n - lo).toNat)
        case atStart => exact ⟨0, by omega, by simp, hwcs, HL.out⟩
        case round =>
          obtain ⟨k, hk, rfl, hws, hLp⟩ := hrel
          have HLp := Lib.hid hLp; clear hLp
          obtain ⟨⟨c0, c1, c2, c3, c4, c5, c6⟩, ⟨i0, i1⟩, ⟨j0, j1⟩, z0, z1, hre, hbl⟩ := HLp.out
          have hk0 : (0 : Int) ≤ (k : Int) := by omega
          have hn0 : 0 ≤ lo + (k : Int) := by omega
          have hn1 : lo + (k : Int) ≤ 131073 := by omega
          by_cases hlt : k < cnt
          · have hd : decide (lo + (k : Int) ≤ hi) = true := by simp; omega
            go_upto_region 10 with fail
            have hSG3 : Hid (∀ X, Below wr.heap.size wr X → X.cell? ⟨B, 0, none⟩ = some (.slice h.a h.n h.cap) ∧ X.cell? ⟨B, 1, none⟩ = some (.int .i64 h.eLo) ∧ X.cell? ⟨B, 2, none⟩ = some (.int .i64 h.eHi) ∧ X.cell? ⟨B, 3, none⟩ = some (.int .i64 h.images) ∧ X.cell? ⟨B, 4, none⟩ = some (.int .i64 h.sLo) ∧ X.cell? ⟨B, 5, none⟩ = some (.int .i64 h.sHi) ∧ X.cell? ⟨B, 6, none⟩ = some (.slice h.sa h.ns h.scap)) := fun X hX => (HLp.out.grown hX).box
            have hU1 : Hid (∀ Y, Below wr.heap.size wr Y → Calls Try.prog 69 #[.agg #[.slice h.a h.n h.cap, .int .i64 h.eLo, .int .i64 h.eHi, .int .i64 h.images, .int .i64 h.sLo, .int .i64 h.sHi, .slice h.sa h.ns h.scap]] Y (Ret (.int .i64 al) Y)) := fun Y hY => hUe.out Y (Nat.le_trans hws hY.size) (BT HLp.out.below hY)
            have hU2 : Hid (∀ Y, Below wr.heap.size wr Y → Calls Try.prog 68 #[.agg #[.slice h.a h.n h.cap, .int .i64 h.eLo, .int .i64 h.eHi, .int .i64 h.images, .int .i64 h.sLo, .int .i64 h.sHi, .slice h.sa h.ns h.scap], .int .i64 al, .int .i64 im, .int .i64 (lo + (k : Int))] Y (Ret (.agg #[.int .i64 (PS (lo + (k : Int))).1, .int .i64 (PS (lo + (k : Int))).2]) Y)) := fun Y hY => hPL2.out Y _ (BT HLp.out.below hY) (Nat.le_trans hws hY.size) ⟨by omega, by omega⟩
            have hPk := HPT.out lo k
            generalize PS (lo + (k : Int)) = ps at *
            obtain ⟨p1, p2⟩ := ps
            dsimp only at hPk hU2
            have HPk := Lib.hid hPk; clear hPk
            have hB0 : Below wr.heap.size wr wr.drew := Below.drew (Below.refl _ _)
            clear c0 c1 c2 c3 c4 c5 c6 i0 i1 j0 j1 z0 z1 hre hbl
            go_cut [10] from 39 to 61 (fun a10 X => ∃ g6 : Nat, a10 = .pointer (some ⟨g6, 0, none⟩) ∧ Two g6 p1 p2 X ∧ Below wr.heap.size wr X)
            case first =>
              refine wp_region_tree (.read 0 (.read 1 (.read 3 (.read 4 (.two 2 (.two 5 (.one 6 (.one 7 (.leaf))) 6 (.one 5 (.one 7 (.leaf)))) 6 (.one 2 (.one 5 (.one 7 (.leaf))))))))) (fun w' => w'.cell? ⟨B, 0, none⟩ = some (.slice h.a h.n h.cap) ∧ w'.cell? ⟨B, 1, none⟩ = some (.int .i64 h.eLo) ∧ w'.cell? ⟨B, 2, none⟩ = some (.int .i64 h.eHi) ∧ w'.cell? ⟨B, 3, none⟩ = some (.int .i64 h.images) ∧ w'.cell? ⟨B, 4, none⟩ = some (.int .i64 h.sLo) ∧ w'.cell? ⟨B, 5, none⟩ = some (.int .i64 h.sHi) ∧ w'.cell? ⟨B, 6, none⟩ = some (.slice h.sa h.ns h.scap)) (by kernel_rfl) (by kernel_rfl) (fun _ _ d _ _ h => by cases d <;> exact h) (hSG3.out _ hB0) ?_
              generalize wr.drew = X0 at *
              repeat (first | (refine tr_read rfl (by rfl) _ (fun w' hS => by (try dsimp only at hS); go_simp; (try with_reducible rfl)) ?_; (try simp only [Act.put, List.setIfInBounds_toArray, List.set_cons_zero, List.set_cons_succ])) | (refine tr_skip rfl (by rfl) ?_; (try simp only [Act.put, List.setIfInBounds_toArray, List.set_cons_zero, List.set_cons_succ])))
              refine ⟨?_, ?_⟩
              · skip
                refine tr_step rfl (by rfl) (fun K hK => ?_)
                go_simp
                refine (hU1.out X0 hB0).mono ?_
                rintro e X1 ⟨rfl, hb1⟩
                have hB1 := BT hB0 hb1
                refine hK _ _ (hSG3.out _ hB1) ?_
                clear hK K hB0 hb1
                (try simp only [Act.put, List.setIfInBounds_toArray, List.set_cons_zero, List.set_cons_succ])
                refine ⟨?_, ?_⟩
                · skip
                  refine tr_step rfl (by rfl) (fun K hK => ?_)
                  go_simp
                  refine (hU2.out X1 hB1).mono ?_
                  rintro e X2 ⟨rfl, hb2⟩
                  have hB2 := BT hB1 hb2
                  refine hK _ _ (hSG3.out _ hB2) ?_
                  clear hK K hB1 hb2
                  (try simp only [Act.put, List.setIfInBounds_toArray, List.set_cons_zero, List.set_cons_succ])
                  refine tr_step rfl (by rfl) (fun K hK => ?_)
                  have hB3 := BA hB2 (.cells #[.int .i64 0, .int .i64 0] 24)
                  have h6_3 := slots_new2 X2 24
                  have hg6 := hB2.size
                  go_simp
                  generalize X2.heap.size = g6 at *
                  generalize X2.alloc (.cells #[.int .i64 0, .int .i64 0] 24) = X3 at *
                  refine hK _ _ (hSG3.out _ hB3) ?_
                  clear hK K hB2 
                  (try simp only [Act.put, List.setIfInBounds_toArray, List.set_cons_zero, List.set_cons_succ])
                  refine tr_last rfl (by rfl) (by kernel_rfl) (fun K hK => ?_)
                  obtain ⟨u0_4, q0_4, f0_4⟩ := h6_3.get 0 (by omega)
                  obtain ⟨u1_4, q1_4, f1_4⟩ := h6_3.get 1 (by omega)
                  have hB4 := BC (BC hB3 g6 0 hg6 (.int .i64 (p1))) g6 1 hg6 (.int .i64 (p2))
                  have h6_4 := two_set h6_3 (p1) (p2)
                  go_simp
                  clear q0_4 f0_4 q1_4 f1_4
                  generalize (X3.setCell ⟨g6, 0, none⟩ (.int .i64 (p1))).setCell ⟨g6, 1, none⟩ (.int .i64 (p2)) = X4 at *
                  refine hK _ _ ?_
                  clear hK K hB3 h6_3
                  (try simp only [Act.put, List.setIfInBounds_toArray, List.set_cons_zero, List.set_cons_succ])
                  show Exit.then _ _ Exit.normal _ _
                  go_wp2_with fail
                  go_meet
                  exact ⟨g6, rfl, h6_4, hB4⟩
                · skip
                  refine tr_step rfl (by rfl) (fun K hK => ?_)
                  have hB5 := BA hB1 (.cells #[.int .i64 0, .int .i64 0] 24)
                  have h6_5 := slots_new2 X1 24
                  have hg6 := hB1.size
                  go_simp
                  generalize X1.heap.size = g6 at *
                  generalize X1.alloc (.cells #[.int .i64 0, .int .i64 0] 24) = X5 at *
                  refine hK _ _ (hSG3.out _ hB5) ?_
                  clear hK K hB1 
                  (try simp only [Act.put, List.setIfInBounds_toArray, List.set_cons_zero, List.set_cons_succ])
                  refine tr_step rfl (by rfl) (fun K hK => ?_)
                  go_simp
                  refine (hU2.out X5 hB5).mono ?_
                  rintro e X6 ⟨rfl, hb6⟩
                  have hB6 := BT hB5 hb6
                  have h6_6 := h6_5.below hb6 (h6_5.lt2)
                  refine hK _ _ (hSG3.out _ hB6) ?_
                  clear hK K hB5 h6_5 hb6
                  (try simp only [Act.put, List.setIfInBounds_toArray, List.set_cons_zero, List.set_cons_succ])
                  refine tr_last rfl (by rfl) (by kernel_rfl) (fun K hK => ?_)
                  obtain ⟨u0_7, q0_7, f0_7⟩ := h6_6.get 0 (by omega)
                  obtain ⟨u1_7, q1_7, f1_7⟩ := h6_6.get 1 (by omega)
                  have hB7 := BC (BC hB6 g6 0 hg6 (.int .i64 (p1))) g6 1 hg6 (.int .i64 (p2))
                  have h6_7 := two_set h6_6 (p1) (p2)
                  go_simp
                  clear q0_7 f0_7 q1_7 f1_7
                  generalize (X6.setCell ⟨g6, 0, none⟩ (.int .i64 (p1))).setCell ⟨g6, 1, none⟩ (.int .i64 (p2)) = X7 at *
                  refine hK _ _ ?_
                  clear hK K hB6 h6_6
                  (try simp only [Act.put, List.setIfInBounds_toArray, List.set_cons_zero, List.set_cons_succ])
                  show Exit.then _ _ Exit.normal _ _
                  go_wp2_with fail
                  go_meet
                  exact ⟨g6, rfl, h6_7, hB7⟩
              · skip
                refine tr_step rfl (by rfl) (fun K hK => ?_)
                have hB8 := BA hB0 (.cells #[.int .i64 0, .int .i64 0] 24)
                have h6_8 := slots_new2 X0 24
                have hg6 := hB0.size
                go_simp
                generalize X0.heap.size = g6 at *
                generalize X0.alloc (.cells #[.int .i64 0, .int .i64 0] 24) = X8 at *
                refine hK _ _ (hSG3.out _ hB8) ?_
                clear hK K hB0 
                (try simp only [Act.put, List.setIfInBounds_toArray, List.set_cons_zero, List.set_cons_succ])
                refine tr_step rfl (by rfl) (fun K hK => ?_)
                go_simp
                refine (hU1.out X8 hB8).mono ?_
                rintro e X9 ⟨rfl, hb9⟩
                have hB9 := BT hB8 hb9
                have h6_9 := h6_8.below hb9 (h6_8.lt2)
                refine hK _ _ (hSG3.out _ hB9) ?_
                clear hK K hB8 h6_8 hb9
                (try simp only [Act.put, List.setIfInBounds_toArray, List.set_cons_zero, List.set_cons_succ])
                refine tr_step rfl (by rfl) (fun K hK => ?_)
                go_simp
                refine (hU2.out X9 hB9).mono ?_
                rintro e X10 ⟨rfl, hb10⟩
                have hB10 := BT hB9 hb10
                have h6_10 := h6_9.below hb10 (h6_9.lt2)
                refine hK _ _ (hSG3.out _ hB10) ?_
                clear hK K hB9 h6_9 hb10
                (try simp only [Act.put, List.setIfInBounds_toArray, List.set_cons_zero, List.set_cons_succ])
                refine tr_last rfl (by rfl) (by kernel_rfl) (fun K hK => ?_)
                obtain ⟨u0_11, q0_11, f0_11⟩ := h6_10.get 0 (by omega)
                obtain ⟨u1_11, q1_11, f1_11⟩ := h6_10.get 1 (by omega)
                have hB11 := BC (BC hB10 g6 0 hg6 (.int .i64 (p1))) g6 1 hg6 (.int .i64 (p2))
                have h6_11 := two_set h6_10 (p1) (p2)
                go_simp
                clear q0_11 f0_11 q1_11 f1_11
                generalize (X10.setCell ⟨g6, 0, none⟩ (.int .i64 (p1))).setCell ⟨g6, 1, none⟩ (.int .i64 (p2)) = X11 at *
                refine hK _ _ ?_
                clear hK K hB10 h6_10
                (try simp only [Act.put, List.setIfInBounds_toArray, List.set_cons_zero, List.set_cons_succ])
                show Exit.then _ _ Exit.normal _ _
                go_wp2_with fail
                go_meet
                exact ⟨g6, rfl, h6_11, hB11⟩
            case rest =>
              obtain ⟨g6, rfl, ⟨e0, e1⟩, hb⟩ := hcut
              have HLq := Lib.hid (HLp.out.grown hb)
              have hws2 := Nat.le_trans hws hb.size
              clear hSG3 hU1 hU2 hB0 hb
              obtain ⟨_, _, ⟨j0, j1⟩, z0, z1, _, _⟩ := HLq.out
              obtain ⟨ml, hml⟩ : ∃ m, mnI (PT lo k).1 p1 = m := ⟨_, rfl⟩
              obtain ⟨mh, hmh⟩ : ∃ m, mxI (PT lo k).2 p2 = m := ⟨_, rfl⟩
              have HP1 : Hid (PT lo (k + 1) = (ml, mh)) := by show _ = _; rw [HPk.out, hml, hmh]
              have k1 : (if p1 < (PT lo k).1 then p1 else (PT lo k).1) = ml := hml
              have k2 : (if (PT lo k).2 < p2 then p2 else (PT lo k).2) = mh := hmh
              clear hml hmh
              have hput := Lib.hid (HLq.out.put hq1 hq2 hq4 ml mh)
              go_wp2
              go_roundw
              case rel => exact ⟨k + 1, by omega, by simp; omega, by simpa using hws2, by rw [HP1.out]; exact hput.out⟩
              case measure => simp [intOf]; omega
          · obtain rfl : k = cnt := by omega
            have hd : decide (lo + (k : Int) ≤ hi) = false := by simp; omega
            obtain ⟨v0, u0, y0⟩ := hre.get 0 (by omega)
            obtain ⟨v1, u1, y1⟩ := hre.get 1 (by omega)
            clear hre
            go_wp2
            exact bodyPost_ret (v := .tuple #[.agg #[.int .i64 (PT lo k).1, .int .i64 (PT lo k).2], .int .i64 0]) (by simp [results, Try.results21, go_sem, u0, u1]) rfl ⟨by rw [HRc.out], by (repeat (first | assumption | exact Below.refl _ _ | refine BA ?_ _ | refine BC ?_ _ _ (by omega) _ | refine Below.drew ?_ | refine BT ?_ (by assumption)))⟩
    · have HR : Hid (R = (0, 0, er)) := by show _ = _; rw [HE.out, if_neg he]
      have d1 : (er != 0) = true := by simpa using he
      obtain ⟨v0, u0, y0⟩ := hS1.out.get 0 (by omega)
      obtain ⟨v1, u1, y1⟩ := hS1.out.get 1 (by omega)
      have hB1 := hW1.out
      clear he
      go_wp2
      exact bodyPost_ret (v := .tuple #[.agg #[.int .i64 0, .int .i64 0], .int .i64 er]) (by simp [results, Try.results21, go_sem, u0, u1]) rfl ⟨by rw [HR.out], by (repeat (first | assumption | exact Below.refl _ _ | refine BA ?_ _ | refine BC ?_ _ _ (by omega) _ | refine Below.drew ?_ | refine BT ?_ (by assumption)))⟩
end Go.Proofs.Ytmfbkgdlfackcaa
