/- The closures that answer: a place, and how far apart. -/
import Derived.Test.YtmfbkgdlfackcaaSum
namespace Go.Proofs.Ytmfbkgdlfackcaa
open Go.RowKit

/-- The truths of a measure: whether there are, and their bounds. -/
def truthsS (h : Hd) (xs : List (Int × Int)) (ss : List Sett) : Bool × List Int := boundsS h.sLo h.sHi (tellsOf xs h.eLo h.eHi ss) (2 ^ (tellsOf xs h.eLo h.eHi ss).length - 1)
theorem len_truthsS (h : Hd) (xs : List (Int × Int)) (ss : List Sett) : (truthsS h xs ss).2.length = 64 := len_boundsS _ _ _ _
/-- By how much a point is greater than another one. -/
def spanS (M : List Int) (i j : Nat) : Value := .agg #[.int .i64 (wrap64 (-(gx M (j * 8 + i)))), .int .i64 (gx M (i * 8 + j))]
def placeR (h : Hd) (xs : List (Int × Int)) (ss : List Sett) (im : Int) : Except Int Value :=
  if isImg h.images im then if (truthsS h xs ss).1 then if hasC im (cntsOf ss) then .ok (spanS (truthsS h xs ss).2 0 (2 + im).toNat) else .error 12 else .error 10 else .error 2

theorem isB_grown {w w' : World} {B : Nat} {M : List Int} (h : IsB w B M) (hb : Below w.heap.size w w') : IsB w' B M := h.below hb h.lt
theorem img_of {h : Hd} {xs : List (Int × Int)} {ss : List Sett} (hv : validH h xs ss = true) {im : Int} (hi : isImg h.images im = true) : ∃ k : Nat, im = (k : Int) ∧ k < 6 := by
  simp only [validH, validM, headB, holdB, Bool.and_eq_true, decide_eq_true_eq] at hv
  simp only [isImg, Bool.and_eq_true, decide_eq_true_eq] at hi
  obtain ⟨⟨⟨⟨_, him⟩, _⟩, hn⟩, hs⟩ := hv
  exact ⟨im.toNat, by omega, by omega⟩

set_option maxRecDepth 100000 in
set_option maxHeartbeats 2000000 in
theorem placeC_no (B C : Nat) (h : Hd) (xs : List (Int × Int)) (ss : List Sett) (w : World) (hm : BoxM w B h xs ss) (hv : validH h xs ss = false) : Calls Try.prog 62 #[.pointer (some ⟨B, 0, none⟩), .pointer (some ⟨C, 0, none⟩)] w (Pan 1 w) := by
  have hg : BoxM (w.alloc (Obj.cells #[.int .i64 0, .int .i64 0] 24)) B h xs ss := hm.grown (by (repeat (first | assumption | exact Below.refl _ _ | refine BA ?_ _ | refine BC ?_ _ _ (by omega) _ | refine Below.drew ?_ | refine BT ?_ (by assumption))))
  obtain ⟨c0, c1, c2, c3, c4, c5, c6, hh⟩ := hg
  have hc := lookAt_no h xs ss _ hh hv
  clear hm hh hv
  obtain ⟨ha, hnn, hcap, heLo, heHi, him, hsLo, hsHi, hsa, hns, hscap⟩ := h
  unfold Hd.val at hc
  dsimp only at *
  go_enter Try.func62, Try.ntmps62
  go_wp2_with (go_at_call 58; refine hc.mono ?_; rintro e w1 ⟨rfl, hb1⟩)
  exact ⟨rfl, rfl, by (repeat (first | assumption | exact Below.refl _ _ | refine BA ?_ _ | refine BC ?_ _ _ (by omega) _ | refine Below.drew ?_ | refine BT ?_ (by assumption)))⟩

set_option maxRecDepth 100000 in
set_option maxHeartbeats 2000000 in
theorem placeC_yes (B C : Nat) (im : Int) (h : Hd) (xs : List (Int × Int)) (ss : List Sett) (w : World) (hm : BoxM w B h xs ss) (hC : w.cell? ⟨C, 0, none⟩ = some (.int .i64 im)) (hv : validH h xs ss = true) :
    Calls Try.prog 62 #[.pointer (some ⟨B, 0, none⟩), .pointer (some ⟨C, 0, none⟩)] w (Out (placeR h xs ss im) w) := by
  obtain ⟨hts, htm⟩ := tells_ok hv
  have hg : BoxM (w.alloc (Obj.cells #[.int .i64 0, .int .i64 0] 24)) B h xs ss := hm.grown (by (repeat (first | assumption | exact Below.refl _ _ | refine BA ?_ _ | refine BC ?_ _ _ (by omega) _ | refine Below.drew ?_ | refine BT ?_ (by assumption))))
  obtain ⟨c0, c1, c2, c3, c4, c5, c6, hh⟩ := hg
  have hc := lookAt_yes h xs ss _ hh hv
  have hpk : isImg h.images im = true → ∃ k : Nat, im = (k : Int) ∧ k < 6 := img_of hv
  have ht : Hid (∀ L mb tv w1, IsLook (w.alloc (Obj.cells #[.int .i64 0, .int .i64 0] 24)) w1 L mb h tv (tellsOf xs h.eLo h.eHi ss) (cntsOf ss) → Calls Try.prog 59 #[.pointer (some ⟨L, 0, none⟩)] w1 (Out (if (truthsS h xs ss).1 then .ok (bv (truthsS h xs ss).2) else .error 10) w1)) :=
    fun L mb tv w1 hL => truths_any (w.alloc (Obj.cells #[.int .i64 0, .int .i64 0] 24)) L mb h tv _ _ w1 hL hts htm
  have hl := len_truthsS h xs ss
  have hi : Hid (∀ L mb tv w1, IsLook (w.alloc (Obj.cells #[.int .i64 0, .int .i64 0] 24)) w1 L mb h tv (tellsOf xs h.eLo h.eHi ss) (cntsOf ss) → Calls Try.prog 63 #[.pointer (some ⟨L, 0, none⟩), .int .i64 im] w1 (Out (if isImg h.images im then .ok (.tuple #[]) else .error 2) w1)) :=
    fun L mb tv w1 hL => insistImage_any (w.alloc (Obj.cells #[.int .i64 0, .int .i64 0] 24)) L mb h tv _ _ im w1 hL
  have hs : Hid (∀ L mb tv w1, IsLook (w.alloc (Obj.cells #[.int .i64 0, .int .i64 0] 24)) w1 L mb h tv (tellsOf xs h.eLo h.eHi ss) (cntsOf ss) → Calls Try.prog 64 #[.pointer (some ⟨L, 0, none⟩), .int .i64 im] w1 (Ret (.bool (hasC im (cntsOf ss))) w1)) :=
    fun L mb tv w1 hL => isSet_any (w.alloc (Obj.cells #[.int .i64 0, .int .i64 0] 24)) L mb h tv _ _ im w1 hL
  unfold placeR
  generalize tellsOf xs h.eLo h.eHi ss = ts at *
  generalize (truthsS h xs ss).2 = M at *
  generalize (truthsS h xs ss).1 = b at *
  have s0 : (w.alloc (Obj.cells #[.int .i64 0, .int .i64 0] 24)).heap.size = w.heap.size + 1 := by simp
  have hW : Hid ((w.alloc (Obj.cells #[.int .i64 0, .int .i64 0] 24)).cell? ⟨w.heap.size, 0, none⟩ = some (.int .i64 0) ∧ (w.alloc (Obj.cells #[.int .i64 0, .int .i64 0] 24)).frozen? ⟨w.heap.size, 0, none⟩ = false ∧ (w.alloc (Obj.cells #[.int .i64 0, .int .i64 0] 24)).cell? ⟨w.heap.size, 1, none⟩ = some (.int .i64 0) ∧ (w.alloc (Obj.cells #[.int .i64 0, .int .i64 0] 24)).frozen? ⟨w.heap.size, 1, none⟩ = false) := ⟨by simp [go_sem], by simp, by simp [go_sem], by simp⟩
  have hBW : Below w.heap.size w (w.alloc (Obj.cells #[.int .i64 0, .int .i64 0] 24)) := by (repeat (first | assumption | exact Below.refl _ _ | refine BA ?_ _ | refine BC ?_ _ _ (by omega) _ | refine Below.drew ?_ | refine BT ?_ (by assumption)))
  have hCl := World.block_lt_of_cell? _ _ hC
  have HC := Lib.hid ((hBW.cell (p := ⟨C, 0, none⟩) hCl).trans hC)
  clear hC
  have HM := Lib.hid hl; clear hl
  clear hm hh hv
  unfold Hd.val at hc
  cases hii : isImg h.images im
  · rw [hii] at hi
    clear hii hpk ht hs
    go_enter Try.func62, Try.ntmps62
    go_wp2_with (first
      | (go_at_call 58; refine hc.mono ?_; rintro e w1 ⟨L, mb, tv, rfl, hb1, hL⟩; have hC1 := (hb1.cell (p := ⟨C, 0, none⟩) (by simp; omega)).trans HC.out)
      | (go_at_call 63; refine (hi.out _ _ _ _ hL).mono ?_; rintro e w2 ⟨rfl, hb2⟩; have hL2 := hL.grown hb2; have hC2 := (hb2.cell (p := ⟨C, 0, none⟩) (World.block_lt_of_cell? _ _ hC1)).trans hC1)
      | (go_at_call 59; refine (ht.out _ _ _ _ hL2).mono ?_; rintro e w3 ⟨rfl, hb3⟩; have hL3 := hL2.grown hb3; have hC3 := (hb3.cell (p := ⟨C, 0, none⟩) (World.block_lt_of_cell? _ _ hC2)).trans hC2)
      | (refine store78x rfl _ _ rfl w3.heap.size rfl M HM.out rfl (isB_zero w3).there ?_; intro X hIX hBX; dsimp only [Act.put, List.setIfInBounds_toArray, List.set_cons_zero, List.set_cons_succ]; have hX : Below w3.heap.size w3 X := BX.below ((Below.refl _ w3).alloc (Nat.le_refl _) _) hBX (Nat.le_refl _) (by simp); have hL4 := hL3.grown hX; have hC4 := (hX.cell (p := ⟨C, 0, none⟩) (World.block_lt_of_cell? _ _ hC3)).trans hC3))
    exact ⟨rfl, rfl, by (repeat (first | assumption | exact Below.refl _ _ | refine BA ?_ _ | refine BC ?_ _ _ (by omega) _ | refine Below.drew ?_ | refine BT ?_ (by assumption)))⟩
  obtain ⟨k, rfl, hk⟩ := hpk hii
  rw [hii] at hi
  clear hpk hii
  generalize hss : hasC (k : Int) (cntsOf ss) = s at *
  have hp : Hid (∀ w', Calls Try.prog 65 #[.int .i64 (k : Int)] w' (Ret (.int .i64 ((2 + k : Nat) : Int)) w')) := fun w' => by
    have := placeOf_any (k : Int) w'
    rwa [show wrap64 (2 + (k : Int)) = ((2 + k : Nat) : Int) by simp [wrap64]; omega] at this
  have hbt : Hid (∀ B' w', IsB w' B' M → Calls Try.prog 60 #[.pointer (some ⟨B', 0, none⟩), .int .i64 0, .int .i64 ((2 + k : Nat) : Int)] w' (Ret (spanS M 0 (2 + k)) w')) := fun B' w' h => between_any B' 0 (2 + k) (by omega) (by omega) M w' h
  have hsp : Hid (spanS M 0 (2 + (k : Int)).toNat = spanS M 0 (2 + k)) := by
    show _ = _
    rw [show (2 + (k : Int)).toNat = 2 + k by omega]
  rw [hsp.out]
  clear hsp
  generalize ((2 + k : Nat) : Int) = q at *
  have hsv : ∃ lo hi, spanS M 0 (2 + k) = .agg #[.int .i64 lo, .int .i64 hi] := ⟨_, _, rfl⟩
  obtain ⟨lo, hh, hsv⟩ := hsv
  rw [hsv] at hbt ⊢
  clear hsv
  generalize (k : Int) = im at *
  cases b
  · go_enter Try.func62, Try.ntmps62
    go_wp2_with (first
      | (go_at_call 58; refine hc.mono ?_; rintro e w1 ⟨L, mb, tv, rfl, hb1, hL⟩; have hC1 := (hb1.cell (p := ⟨C, 0, none⟩) (by simp; omega)).trans HC.out)
      | (go_at_call 63; refine (hi.out _ _ _ _ hL).mono ?_; rintro e w2 ⟨rfl, hb2⟩; have hL2 := hL.grown hb2; have hC2 := (hb2.cell (p := ⟨C, 0, none⟩) (World.block_lt_of_cell? _ _ hC1)).trans hC1)
      | (go_at_call 59; refine (ht.out _ _ _ _ hL2).mono ?_; rintro e w3 ⟨rfl, hb3⟩; have hL3 := hL2.grown hb3; have hC3 := (hb3.cell (p := ⟨C, 0, none⟩) (World.block_lt_of_cell? _ _ hC2)).trans hC2)
      | (refine store78x rfl _ _ rfl w3.heap.size rfl M HM.out rfl (isB_zero w3).there ?_; intro X hIX hBX; dsimp only [Act.put, List.setIfInBounds_toArray, List.set_cons_zero, List.set_cons_succ]; have hX : Below w3.heap.size w3 X := BX.below ((Below.refl _ w3).alloc (Nat.le_refl _) _) hBX (Nat.le_refl _) (by simp); have hL4 := hL3.grown hX; have hC4 := (hX.cell (p := ⟨C, 0, none⟩) (World.block_lt_of_cell? _ _ hC3)).trans hC3))
    exact ⟨rfl, rfl, by (repeat (first | assumption | exact Below.refl _ _ | refine BA ?_ _ | refine BC ?_ _ _ (by omega) _ | refine Below.drew ?_ | refine BT ?_ (by assumption)))⟩
  cases s
  · go_enter Try.func62, Try.ntmps62
    go_wp2_with (first
      | (go_at_call 58; refine hc.mono ?_; rintro e w1 ⟨L, mb, tv, rfl, hb1, hL⟩; have hC1 := (hb1.cell (p := ⟨C, 0, none⟩) (by simp; omega)).trans HC.out)
      | (go_at_call 63; refine (hi.out _ _ _ _ hL).mono ?_; rintro e w2 ⟨rfl, hb2⟩; have hL2 := hL.grown hb2; have hC2 := (hb2.cell (p := ⟨C, 0, none⟩) (World.block_lt_of_cell? _ _ hC1)).trans hC1)
      | (go_at_call 59; refine (ht.out _ _ _ _ hL2).mono ?_; rintro e w3 ⟨rfl, hb3⟩; have hL3 := hL2.grown hb3; have hC3 := (hb3.cell (p := ⟨C, 0, none⟩) (World.block_lt_of_cell? _ _ hC2)).trans hC2)
      | (refine store78x rfl _ _ rfl w3.heap.size rfl M HM.out rfl (isB_zero w3).there ?_; intro X hIX hBX; dsimp only [Act.put, List.setIfInBounds_toArray, List.set_cons_zero, List.set_cons_succ]; have hX : Below w3.heap.size w3 X := BX.below ((Below.refl _ w3).alloc (Nat.le_refl _) _) hBX (Nat.le_refl _) (by simp); have hL4 := hL3.grown hX; have hC4 := (hX.cell (p := ⟨C, 0, none⟩) (World.block_lt_of_cell? _ _ hC3)).trans hC3))
    refine (hs.out _ _ _ _ hL4).mono ?_
    rintro e w5 ⟨rfl, hb5⟩
    go_wp2_with (go_at_call 49; refine (insist_no _ _).mono ?_; rintro e w6 ⟨rfl, hb6⟩)
    exact ⟨rfl, rfl, by (repeat (first | assumption | exact Below.refl _ _ | refine BA ?_ _ | refine BC ?_ _ _ (by omega) _ | refine Below.drew ?_ | refine BT ?_ (by assumption)))⟩
  · go_enter Try.func62, Try.ntmps62
    go_wp2_with (first
      | (go_at_call 58; refine hc.mono ?_; rintro e w1 ⟨L, mb, tv, rfl, hb1, hL⟩; have hC1 := (hb1.cell (p := ⟨C, 0, none⟩) (by simp; omega)).trans HC.out)
      | (go_at_call 63; refine (hi.out _ _ _ _ hL).mono ?_; rintro e w2 ⟨rfl, hb2⟩; have hL2 := hL.grown hb2; have hC2 := (hb2.cell (p := ⟨C, 0, none⟩) (World.block_lt_of_cell? _ _ hC1)).trans hC1)
      | (go_at_call 59; refine (ht.out _ _ _ _ hL2).mono ?_; rintro e w3 ⟨rfl, hb3⟩; have hL3 := hL2.grown hb3; have hC3 := (hb3.cell (p := ⟨C, 0, none⟩) (World.block_lt_of_cell? _ _ hC2)).trans hC2)
      | (refine store78x rfl _ _ rfl w3.heap.size rfl M HM.out rfl (isB_zero w3).there ?_; intro X hIX hBX; dsimp only [Act.put, List.setIfInBounds_toArray, List.set_cons_zero, List.set_cons_succ]; have hX : Below w3.heap.size w3 X := BX.below ((Below.refl _ w3).alloc (Nat.le_refl _) _) hBX (Nat.le_refl _) (by simp); have hL4 := hL3.grown hX; have hC4 := (hX.cell (p := ⟨C, 0, none⟩) (World.block_lt_of_cell? _ _ hC3)).trans hC3))
    refine (hs.out _ _ _ _ hL4).mono ?_
    rintro e w5 ⟨rfl, hb5⟩
    have hC5 := (hb5.cell (p := ⟨C, 0, none⟩) (World.block_lt_of_cell? _ _ hC4)).trans hC4
    go_wp2_with (first
      | (go_at_call 49; refine (insist_yes _ _).mono ?_; rintro e w6 ⟨rfl, hb6⟩; have hC6 := (hb6.cell (p := ⟨C, 0, none⟩) (World.block_lt_of_cell? _ _ hC5)).trans hC5)
      | (go_at_call 65; refine (hp.out _).mono ?_; rintro e w7 ⟨rfl, hb7⟩)
      | (go_at_call 60; refine (hbt.out _ _ (isB_grown (isB_grown (isB_grown hIX hb5) hb6) hb7)).mono ?_; rintro e w8 ⟨rfl, hb8⟩)
      | (go_at_call 52; refine (span_any _ _ _).mono ?_; rintro e w9 ⟨rfl, hb9⟩
         have hA : Below (w.alloc (Obj.cells #[.int .i64 0, .int .i64 0] 24)).heap.size (w.alloc (Obj.cells #[.int .i64 0, .int .i64 0] 24)) w9 := by (repeat (first | assumption | exact Below.refl _ _ | refine BA ?_ _ | refine BC ?_ _ _ (by omega) _ | refine Below.drew ?_ | refine BT ?_ (by assumption)))
         have hB : Below w.heap.size w w9 := BT hBW hA
         have d0 := (hA.cell (p := ⟨w.heap.size, 0, none⟩) (by simp)).trans hW.out.1
         have f0 := (hA.frozen (p := ⟨w.heap.size, 0, none⟩) (by simp)).trans hW.out.2.1
         have d1 := (hA.cell (p := ⟨w.heap.size, 1, none⟩) (by simp)).trans hW.out.2.2.1
         have f1 := (hA.frozen (p := ⟨w.heap.size, 1, none⟩) (by simp)).trans hW.out.2.2.2
         clear hc ht hbt hb1 hL hb2 hIX hX hb3 hA hW hBW hb5 hb6 hb7 hb8 hb9))
    exact bodyPost_ret (v := .agg #[.int .i64 lo, .int .i64 hh]) (by simp [results, Try.results62, go_sem, d0, d1]) rfl ⟨rfl, by (repeat (first | assumption | exact Below.refl _ _ | refine BA ?_ _ | refine BC ?_ _ _ (by omega) _ | refine Below.drew ?_ | refine BT ?_ (by assumption)))⟩
end Go.Proofs.Ytmfbkgdlfackcaa
