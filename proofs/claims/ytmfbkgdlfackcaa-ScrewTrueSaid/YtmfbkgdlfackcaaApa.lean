/- How far apart images are. -/
import Derived.Test.YtmfbkgdlfackcaaPla
import Derived.Test.YtmfbkgdlfackcaaSeq
namespace Go.Proofs.Ytmfbkgdlfackcaa
open Go.RowKit

theorem cellG {w w' : World} {p : Addr} {v : Value} (h : w.cell? p = some v) (hb : Below w.heap.size w w') : w'.cell? p = some v := (hb.cell (World.block_lt_of_cell? _ _ h)).trans h
def apartR (h : Hd) (xs : List (Int × Int)) (ss : List Sett) (a b : Int) : Except Int Value :=
  if isImg h.images a then if isImg h.images b then if (truthsS h xs ss).1 then if (a == b) = true ∨ (hasC a (cntsOf ss) = true ∧ hasC b (cntsOf ss) = true) then .ok (spanS (truthsS h xs ss).2 (2 + a).toNat (2 + b).toNat) else .error 12 else .error 10 else .error 2 else .error 2

set_option maxRecDepth 100000 in
set_option maxHeartbeats 2000000 in
theorem apartC_no (B C D : Nat) (h : Hd) (xs : List (Int × Int)) (ss : List Sett) (w : World) (hm : BoxM w B h xs ss) (hv : validH h xs ss = false) : Calls Try.prog 70 #[.pointer (some ⟨B, 0, none⟩), .pointer (some ⟨C, 0, none⟩), .pointer (some ⟨D, 0, none⟩)] w (Pan 1 w) := by
  have hg : BoxM (w.alloc (Obj.cells #[.int .i64 0, .int .i64 0] 24)) B h xs ss := hm.grown (by (repeat (first | assumption | exact Below.refl _ _ | refine BA ?_ _ | refine BC ?_ _ _ (by omega) _ | refine Below.drew ?_ | refine BT ?_ (by assumption))))
  obtain ⟨c0, c1, c2, c3, c4, c5, c6, hh⟩ := hg
  have hc := lookAt_no h xs ss _ hh hv
  clear hm hh hv
  obtain ⟨ha, hnn, hcap, heLo, heHi, him, hsLo, hsHi, hsa, hns, hscap⟩ := h
  unfold Hd.val at hc
  dsimp only at *
  go_enter Try.func70, Try.ntmps70
  go_wp2_with (go_at_call 58; refine hc.mono ?_; rintro e w1 ⟨rfl, hb1⟩)
  exact ⟨rfl, rfl, by (repeat (first | assumption | exact Below.refl _ _ | refine BA ?_ _ | refine BC ?_ _ _ (by omega) _ | refine Below.drew ?_ | refine BT ?_ (by assumption)))⟩

set_option maxRecDepth 100000 in
set_option maxHeartbeats 4000000 in
theorem apartC_yes (B C D : Nat) (a b : Int) (h : Hd) (xs : List (Int × Int)) (ss : List Sett) (w : World) (hm : BoxM w B h xs ss) (hC : w.cell? ⟨C, 0, none⟩ = some (.int .i64 a)) (hD : w.cell? ⟨D, 0, none⟩ = some (.int .i64 b)) (hv : validH h xs ss = true) :
    Calls Try.prog 70 #[.pointer (some ⟨B, 0, none⟩), .pointer (some ⟨C, 0, none⟩), .pointer (some ⟨D, 0, none⟩)] w (Out (apartR h xs ss a b) w) := by
  obtain ⟨hts, htm⟩ := tells_ok hv
  have hg : BoxM (w.alloc (Obj.cells #[.int .i64 0, .int .i64 0] 24)) B h xs ss := hm.grown (by (repeat (first | assumption | exact Below.refl _ _ | refine BA ?_ _ | refine BC ?_ _ _ (by omega) _ | refine Below.drew ?_ | refine BT ?_ (by assumption))))
  obtain ⟨c0, c1, c2, c3, c4, c5, c6, hh⟩ := hg
  have hc := lookAt_yes h xs ss _ hh hv
  have hpa : isImg h.images a = true → ∃ k : Nat, a = (k : Int) ∧ k < 6 := img_of hv
  have hpb : isImg h.images b = true → ∃ k : Nat, b = (k : Int) ∧ k < 6 := img_of hv
  have ht : Hid (∀ L mb tv w1, IsLook (w.alloc (Obj.cells #[.int .i64 0, .int .i64 0] 24)) w1 L mb h tv (tellsOf xs h.eLo h.eHi ss) (cntsOf ss) → Calls Try.prog 59 #[.pointer (some ⟨L, 0, none⟩)] w1 (Out (if (truthsS h xs ss).1 then .ok (bv (truthsS h xs ss).2) else .error 10) w1)) :=
    fun L mb tv w1 hL => truths_any (w.alloc (Obj.cells #[.int .i64 0, .int .i64 0] 24)) L mb h tv _ _ w1 hL hts htm
  have hl := len_truthsS h xs ss
  have hi : Hid (∀ im L mb tv w1, IsLook (w.alloc (Obj.cells #[.int .i64 0, .int .i64 0] 24)) w1 L mb h tv (tellsOf xs h.eLo h.eHi ss) (cntsOf ss) → Calls Try.prog 63 #[.pointer (some ⟨L, 0, none⟩), .int .i64 im] w1 (Out (if isImg h.images im then .ok (.tuple #[]) else .error 2) w1)) :=
    fun im L mb tv w1 hL => insistImage_any (w.alloc (Obj.cells #[.int .i64 0, .int .i64 0] 24)) L mb h tv _ _ im w1 hL
  have hs : Hid (∀ im L mb tv w1, IsLook (w.alloc (Obj.cells #[.int .i64 0, .int .i64 0] 24)) w1 L mb h tv (tellsOf xs h.eLo h.eHi ss) (cntsOf ss) → Calls Try.prog 64 #[.pointer (some ⟨L, 0, none⟩), .int .i64 im] w1 (Ret (.bool (hasC im (cntsOf ss))) w1)) :=
    fun im L mb tv w1 hL => isSet_any (w.alloc (Obj.cells #[.int .i64 0, .int .i64 0] 24)) L mb h tv _ _ im w1 hL
  unfold apartR
  generalize tellsOf xs h.eLo h.eHi ss = ts at *
  generalize (truthsS h xs ss).2 = M at *
  generalize (truthsS h xs ss).1 = bt at *
  have s0 : (w.alloc (Obj.cells #[.int .i64 0, .int .i64 0] 24)).heap.size = w.heap.size + 1 := by simp
  have hW : Hid ((w.alloc (Obj.cells #[.int .i64 0, .int .i64 0] 24)).cell? ⟨w.heap.size, 0, none⟩ = some (.int .i64 0) ∧ (w.alloc (Obj.cells #[.int .i64 0, .int .i64 0] 24)).frozen? ⟨w.heap.size, 0, none⟩ = false ∧ (w.alloc (Obj.cells #[.int .i64 0, .int .i64 0] 24)).cell? ⟨w.heap.size, 1, none⟩ = some (.int .i64 0) ∧ (w.alloc (Obj.cells #[.int .i64 0, .int .i64 0] 24)).frozen? ⟨w.heap.size, 1, none⟩ = false) := ⟨by simp [go_sem], by simp, by simp [go_sem], by simp⟩
  have hBW : Below w.heap.size w (w.alloc (Obj.cells #[.int .i64 0, .int .i64 0] 24)) := by (repeat (first | assumption | exact Below.refl _ _ | refine BA ?_ _ | refine BC ?_ _ _ (by omega) _ | refine Below.drew ?_ | refine BT ?_ (by assumption)))
  have HC := Lib.hid (And.intro ((hBW.cell (p := ⟨C, 0, none⟩) (World.block_lt_of_cell? _ _ hC)).trans hC) ((hBW.cell (p := ⟨D, 0, none⟩) (World.block_lt_of_cell? _ _ hD)).trans hD))
  clear hC hD
  have HM := Lib.hid hl; clear hl
  clear hm hh hv
  unfold Hd.val at hc
  cases hia : isImg h.images a
  · have hia2 := hi.out a
    rw [hia] at hia2
    clear hia hpa hpb ht hs hi
    go_enter Try.func70, Try.ntmps70
    go_wp2_with (first
      | (go_at_call 58; refine hc.mono ?_; rintro e w1 ⟨L, mb, tv, rfl, hb1, hL⟩; have hC1 := (hb1.cell (p := ⟨C, 0, none⟩) (World.block_lt_of_cell? _ _ HC.out.1)).trans HC.out.1; have hD1 := (hb1.cell (p := ⟨D, 0, none⟩) (World.block_lt_of_cell? _ _ HC.out.2)).trans HC.out.2)
      | (go_at_call 63; refine (hia2 _ _ _ _ hL).mono ?_; clear hia2; rintro e w2 ⟨rfl, hb2⟩; have hL2 := hL.grown hb2; clear hL; have hD2 := (hb2.cell (p := ⟨D, 0, none⟩) (World.block_lt_of_cell? _ _ hD1)).trans hD1; have hC2 := (hb2.cell (p := ⟨C, 0, none⟩) (World.block_lt_of_cell? _ _ hC1)).trans hC1)
      | (go_at_call 63; refine (hib2 _ _ _ _ hL2).mono ?_; clear hib2; rintro e w4 ⟨rfl, hb4⟩; have hL4 := hL2.grown hb4; have hD4 := (hb4.cell (p := ⟨D, 0, none⟩) (World.block_lt_of_cell? _ _ hD2)).trans hD2; have hC4 := (hb4.cell (p := ⟨C, 0, none⟩) (World.block_lt_of_cell? _ _ hC2)).trans hC2)
      | (go_at_call 59; refine (ht.out _ _ _ _ hL4).mono ?_; rintro e w3 ⟨rfl, hb3⟩; have hL3 := hL4.grown hb3; have hC3 := (hb3.cell (p := ⟨C, 0, none⟩) (World.block_lt_of_cell? _ _ hC4)).trans hC4; have hD3 := (hb3.cell (p := ⟨D, 0, none⟩) (World.block_lt_of_cell? _ _ hD4)).trans hD4)
      | (refine store78x rfl _ _ rfl w3.heap.size rfl M HM.out rfl (isB_zero w3).there ?_; intro X hIX hBX; dsimp only [Act.put, List.setIfInBounds_toArray, List.set_cons_zero, List.set_cons_succ]; have hX : Below w3.heap.size w3 X := BX.below ((Below.refl _ w3).alloc (Nat.le_refl _) _) hBX (Nat.le_refl _) (by simp); have hL5 := hL3.grown hX; have hC5 := (hX.cell (p := ⟨C, 0, none⟩) (World.block_lt_of_cell? _ _ hC3)).trans hC3; have hD5 := (hX.cell (p := ⟨D, 0, none⟩) (World.block_lt_of_cell? _ _ hD3)).trans hD3))
    exact ⟨rfl, rfl, by (repeat (first | assumption | exact Below.refl _ _ | refine BA ?_ _ | refine BC ?_ _ _ (by omega) _ | refine Below.drew ?_ | refine BT ?_ (by assumption)))⟩
  have hia2 := hi.out a
  rw [hia] at hia2
  cases hib : isImg h.images b
  · have hib2 := hi.out b
    rw [hib] at hib2
    clear hia hib hpa hpb ht hs hi
    go_enter Try.func70, Try.ntmps70
    go_wp2_with (first
      | (go_at_call 58; refine hc.mono ?_; rintro e w1 ⟨L, mb, tv, rfl, hb1, hL⟩; have hC1 := (hb1.cell (p := ⟨C, 0, none⟩) (World.block_lt_of_cell? _ _ HC.out.1)).trans HC.out.1; have hD1 := (hb1.cell (p := ⟨D, 0, none⟩) (World.block_lt_of_cell? _ _ HC.out.2)).trans HC.out.2)
      | (go_at_call 63; refine (hia2 _ _ _ _ hL).mono ?_; clear hia2; rintro e w2 ⟨rfl, hb2⟩; have hL2 := hL.grown hb2; clear hL; have hD2 := (hb2.cell (p := ⟨D, 0, none⟩) (World.block_lt_of_cell? _ _ hD1)).trans hD1; have hC2 := (hb2.cell (p := ⟨C, 0, none⟩) (World.block_lt_of_cell? _ _ hC1)).trans hC1)
      | (go_at_call 63; refine (hib2 _ _ _ _ hL2).mono ?_; clear hib2; rintro e w4 ⟨rfl, hb4⟩; have hL4 := hL2.grown hb4; have hD4 := (hb4.cell (p := ⟨D, 0, none⟩) (World.block_lt_of_cell? _ _ hD2)).trans hD2; have hC4 := (hb4.cell (p := ⟨C, 0, none⟩) (World.block_lt_of_cell? _ _ hC2)).trans hC2)
      | (go_at_call 59; refine (ht.out _ _ _ _ hL4).mono ?_; rintro e w3 ⟨rfl, hb3⟩; have hL3 := hL4.grown hb3; have hC3 := (hb3.cell (p := ⟨C, 0, none⟩) (World.block_lt_of_cell? _ _ hC4)).trans hC4; have hD3 := (hb3.cell (p := ⟨D, 0, none⟩) (World.block_lt_of_cell? _ _ hD4)).trans hD4)
      | (refine store78x rfl _ _ rfl w3.heap.size rfl M HM.out rfl (isB_zero w3).there ?_; intro X hIX hBX; dsimp only [Act.put, List.setIfInBounds_toArray, List.set_cons_zero, List.set_cons_succ]; have hX : Below w3.heap.size w3 X := BX.below ((Below.refl _ w3).alloc (Nat.le_refl _) _) hBX (Nat.le_refl _) (by simp); have hL5 := hL3.grown hX; have hC5 := (hX.cell (p := ⟨C, 0, none⟩) (World.block_lt_of_cell? _ _ hC3)).trans hC3; have hD5 := (hX.cell (p := ⟨D, 0, none⟩) (World.block_lt_of_cell? _ _ hD3)).trans hD3))
    exact ⟨rfl, rfl, by (repeat (first | assumption | exact Below.refl _ _ | refine BA ?_ _ | refine BC ?_ _ _ (by omega) _ | refine Below.drew ?_ | refine BT ?_ (by assumption)))⟩
  have hib2 := hi.out b
  rw [hib] at hib2
  obtain ⟨k, rfl, hk⟩ := hpa hia
  obtain ⟨l, rfl, hl⟩ := hpb hib
  clear hpa hpb hia hib hi
  have hsa := hs.out (k : Int)
  have hsb := hs.out (l : Int)
  clear hs
  generalize hasC (k : Int) (cntsOf ss) = sa at *
  generalize hasC (l : Int) (cntsOf ss) = sb at *
  have hp : Hid (∀ (k : Nat) w', k < 6 → Calls Try.prog 65 #[.int .i64 (k : Int)] w' (Ret (.int .i64 ((2 + k : Nat) : Int)) w')) := fun k w' hk => by
    have := placeOf_any (k : Int) w'
    rwa [show wrap64 (2 + (k : Int)) = ((2 + k : Nat) : Int) by simp [wrap64]; omega] at this
  have hbt : Hid (∀ B' w', IsB w' B' M → Calls Try.prog 60 #[.pointer (some ⟨B', 0, none⟩), .int .i64 ((2 + k : Nat) : Int), .int .i64 ((2 + l : Nat) : Int)] w' (Ret (spanS M (2 + k) (2 + l)) w')) := fun B' w' h => between_any B' (2 + k) (2 + l) (by omega) (by omega) M w' h
  rw [show (2 + (k : Int)).toNat = 2 + k by omega, show (2 + (l : Int)).toNat = 2 + l by omega]
  have hpk := Lib.hid (hp.out k · hk)
  have hpl := Lib.hid (hp.out l · hl)
  clear hp
  have hsv : ∃ lo hi, spanS M (2 + k) (2 + l) = .agg #[.int .i64 lo, .int .i64 hi] := ⟨_, _, rfl⟩
  obtain ⟨lo, hh, hsv⟩ := hsv
  rw [hsv] at hbt ⊢
  clear hsv
  generalize ((2 + k : Nat) : Int) = qk at *
  generalize ((2 + l : Nat) : Int) = ql at *
  generalize (k : Int) = a at *
  generalize (l : Int) = b at *
  cases bt
  · go_enter Try.func70, Try.ntmps70
    go_wp2_with (first
      | (go_at_call 58; refine hc.mono ?_; rintro e w1 ⟨L, mb, tv, rfl, hb1, hL⟩; have hC1 := (hb1.cell (p := ⟨C, 0, none⟩) (World.block_lt_of_cell? _ _ HC.out.1)).trans HC.out.1; have hD1 := (hb1.cell (p := ⟨D, 0, none⟩) (World.block_lt_of_cell? _ _ HC.out.2)).trans HC.out.2)
      | (go_at_call 63; refine (hia2 _ _ _ _ hL).mono ?_; clear hia2; rintro e w2 ⟨rfl, hb2⟩; have hL2 := hL.grown hb2; clear hL; have hD2 := (hb2.cell (p := ⟨D, 0, none⟩) (World.block_lt_of_cell? _ _ hD1)).trans hD1; have hC2 := (hb2.cell (p := ⟨C, 0, none⟩) (World.block_lt_of_cell? _ _ hC1)).trans hC1)
      | (go_at_call 63; refine (hib2 _ _ _ _ hL2).mono ?_; clear hib2; rintro e w4 ⟨rfl, hb4⟩; have hL4 := hL2.grown hb4; have hD4 := (hb4.cell (p := ⟨D, 0, none⟩) (World.block_lt_of_cell? _ _ hD2)).trans hD2; have hC4 := (hb4.cell (p := ⟨C, 0, none⟩) (World.block_lt_of_cell? _ _ hC2)).trans hC2)
      | (go_at_call 59; refine (ht.out _ _ _ _ hL4).mono ?_; rintro e w3 ⟨rfl, hb3⟩; have hL3 := hL4.grown hb3; have hC3 := (hb3.cell (p := ⟨C, 0, none⟩) (World.block_lt_of_cell? _ _ hC4)).trans hC4; have hD3 := (hb3.cell (p := ⟨D, 0, none⟩) (World.block_lt_of_cell? _ _ hD4)).trans hD4)
      | (refine store78x rfl _ _ rfl w3.heap.size rfl M HM.out rfl (isB_zero w3).there ?_; intro X hIX hBX; dsimp only [Act.put, List.setIfInBounds_toArray, List.set_cons_zero, List.set_cons_succ]; have hX : Below w3.heap.size w3 X := BX.below ((Below.refl _ w3).alloc (Nat.le_refl _) _) hBX (Nat.le_refl _) (by simp); have hL5 := hL3.grown hX; have hC5 := (hX.cell (p := ⟨C, 0, none⟩) (World.block_lt_of_cell? _ _ hC3)).trans hC3; have hD5 := (hX.cell (p := ⟨D, 0, none⟩) (World.block_lt_of_cell? _ _ hD3)).trans hD3))
    exact ⟨rfl, rfl, by (repeat (first | assumption | exact Below.refl _ _ | refine BA ?_ _ | refine BC ?_ _ _ (by omega) _ | refine Below.drew ?_ | refine BT ?_ (by assumption)))⟩
  cases hab : (a == b)
  · cases sa
    · go_enter Try.func70, Try.ntmps70
      go_wp2_with (first
        | (go_at_call 58; refine hc.mono ?_; rintro e w1 ⟨L, mb, tv, rfl, hb1, hL⟩; have hC1 := (hb1.cell (p := ⟨C, 0, none⟩) (World.block_lt_of_cell? _ _ HC.out.1)).trans HC.out.1; have hD1 := (hb1.cell (p := ⟨D, 0, none⟩) (World.block_lt_of_cell? _ _ HC.out.2)).trans HC.out.2)
        | (go_at_call 63; refine (hia2 _ _ _ _ hL).mono ?_; clear hia2; rintro e w2 ⟨rfl, hb2⟩; have hL2 := hL.grown hb2; clear hL; have hD2 := (hb2.cell (p := ⟨D, 0, none⟩) (World.block_lt_of_cell? _ _ hD1)).trans hD1; have hC2 := (hb2.cell (p := ⟨C, 0, none⟩) (World.block_lt_of_cell? _ _ hC1)).trans hC1)
        | (go_at_call 63; refine (hib2 _ _ _ _ hL2).mono ?_; clear hib2; rintro e w4 ⟨rfl, hb4⟩; have hL4 := hL2.grown hb4; have hD4 := (hb4.cell (p := ⟨D, 0, none⟩) (World.block_lt_of_cell? _ _ hD2)).trans hD2; have hC4 := (hb4.cell (p := ⟨C, 0, none⟩) (World.block_lt_of_cell? _ _ hC2)).trans hC2)
        | (go_at_call 59; refine (ht.out _ _ _ _ hL4).mono ?_; rintro e w3 ⟨rfl, hb3⟩; have hL3 := hL4.grown hb3; have hC3 := (hb3.cell (p := ⟨C, 0, none⟩) (World.block_lt_of_cell? _ _ hC4)).trans hC4; have hD3 := (hb3.cell (p := ⟨D, 0, none⟩) (World.block_lt_of_cell? _ _ hD4)).trans hD4)
        | (refine store78x rfl _ _ rfl w3.heap.size rfl M HM.out rfl (isB_zero w3).there ?_; intro X hIX hBX; dsimp only [Act.put, List.setIfInBounds_toArray, List.set_cons_zero, List.set_cons_succ]; have hX : Below w3.heap.size w3 X := BX.below ((Below.refl _ w3).alloc (Nat.le_refl _) _) hBX (Nat.le_refl _) (by simp); have hL5 := hL3.grown hX; have hC5 := (hX.cell (p := ⟨C, 0, none⟩) (World.block_lt_of_cell? _ _ hC3)).trans hC3; have hD5 := (hX.cell (p := ⟨D, 0, none⟩) (World.block_lt_of_cell? _ _ hD3)).trans hD3)
        | (go_at_call 64; refine (hsa _ _ _ _ hL5).mono ?_; clear hsa; rintro e w6 ⟨rfl, hb6⟩; have hL6 := hL5.grown hb6; have hC6 := (hb6.cell (p := ⟨C, 0, none⟩) (World.block_lt_of_cell? _ _ hC5)).trans hC5; have hD6 := (hb6.cell (p := ⟨D, 0, none⟩) (World.block_lt_of_cell? _ _ hD5)).trans hD5)
        | (go_at_call 49; refine (insist_no _ _).mono ?_; rintro e w8 ⟨rfl, hb8⟩))
      exact ⟨rfl, rfl, by (repeat (first | assumption | exact Below.refl _ _ | refine BA ?_ _ | refine BC ?_ _ _ (by omega) _ | refine Below.drew ?_ | refine BT ?_ (by assumption)))⟩
    · cases sb
      · go_enter Try.func70, Try.ntmps70
        go_wp2_with (first
          | (go_at_call 58; refine hc.mono ?_; rintro e w1 ⟨L, mb, tv, rfl, hb1, hL⟩; have hC1 := (hb1.cell (p := ⟨C, 0, none⟩) (World.block_lt_of_cell? _ _ HC.out.1)).trans HC.out.1; have hD1 := (hb1.cell (p := ⟨D, 0, none⟩) (World.block_lt_of_cell? _ _ HC.out.2)).trans HC.out.2)
          | (go_at_call 63; refine (hia2 _ _ _ _ hL).mono ?_; clear hia2; rintro e w2 ⟨rfl, hb2⟩; have hL2 := hL.grown hb2; clear hL; have hD2 := (hb2.cell (p := ⟨D, 0, none⟩) (World.block_lt_of_cell? _ _ hD1)).trans hD1; have hC2 := (hb2.cell (p := ⟨C, 0, none⟩) (World.block_lt_of_cell? _ _ hC1)).trans hC1)
          | (go_at_call 63; refine (hib2 _ _ _ _ hL2).mono ?_; clear hib2; rintro e w4 ⟨rfl, hb4⟩; have hL4 := hL2.grown hb4; have hD4 := (hb4.cell (p := ⟨D, 0, none⟩) (World.block_lt_of_cell? _ _ hD2)).trans hD2; have hC4 := (hb4.cell (p := ⟨C, 0, none⟩) (World.block_lt_of_cell? _ _ hC2)).trans hC2)
          | (go_at_call 59; refine (ht.out _ _ _ _ hL4).mono ?_; rintro e w3 ⟨rfl, hb3⟩; have hL3 := hL4.grown hb3; have hC3 := (hb3.cell (p := ⟨C, 0, none⟩) (World.block_lt_of_cell? _ _ hC4)).trans hC4; have hD3 := (hb3.cell (p := ⟨D, 0, none⟩) (World.block_lt_of_cell? _ _ hD4)).trans hD4)
          | (refine store78x rfl _ _ rfl w3.heap.size rfl M HM.out rfl (isB_zero w3).there ?_; intro X hIX hBX; dsimp only [Act.put, List.setIfInBounds_toArray, List.set_cons_zero, List.set_cons_succ]; have hX : Below w3.heap.size w3 X := BX.below ((Below.refl _ w3).alloc (Nat.le_refl _) _) hBX (Nat.le_refl _) (by simp); have hL5 := hL3.grown hX; have hC5 := (hX.cell (p := ⟨C, 0, none⟩) (World.block_lt_of_cell? _ _ hC3)).trans hC3; have hD5 := (hX.cell (p := ⟨D, 0, none⟩) (World.block_lt_of_cell? _ _ hD3)).trans hD3)
          | (go_at_call 64; refine (hsa _ _ _ _ hL5).mono ?_; clear hsa; rintro e w6 ⟨rfl, hb6⟩; have hL6 := hL5.grown hb6; have hC6 := (hb6.cell (p := ⟨C, 0, none⟩) (World.block_lt_of_cell? _ _ hC5)).trans hC5; have hD6 := (hb6.cell (p := ⟨D, 0, none⟩) (World.block_lt_of_cell? _ _ hD5)).trans hD5)
          | (go_at_call 64; refine (hsb _ _ _ _ hL6).mono ?_; clear hsb; rintro e w7 ⟨rfl, hb7⟩; have hC7 := (hb7.cell (p := ⟨C, 0, none⟩) (World.block_lt_of_cell? _ _ hC6)).trans hC6; have hD7 := (hb7.cell (p := ⟨D, 0, none⟩) (World.block_lt_of_cell? _ _ hD6)).trans hD6)
          | (go_at_call 49; refine (insist_no _ _).mono ?_; rintro e w8 ⟨rfl, hb8⟩))
        exact ⟨rfl, rfl, by (repeat (first | assumption | exact Below.refl _ _ | refine BA ?_ _ | refine BC ?_ _ _ (by omega) _ | refine Below.drew ?_ | refine BT ?_ (by assumption)))⟩
      · go_enter Try.func70, Try.ntmps70
        go_wp2_with (first
          | (go_at_call 58; refine hc.mono ?_; rintro e w1 ⟨L, mb, tv, rfl, hb1, hL⟩; have hC1 := (hb1.cell (p := ⟨C, 0, none⟩) (World.block_lt_of_cell? _ _ HC.out.1)).trans HC.out.1; have hD1 := (hb1.cell (p := ⟨D, 0, none⟩) (World.block_lt_of_cell? _ _ HC.out.2)).trans HC.out.2)
          | (go_at_call 63; refine (hia2 _ _ _ _ hL).mono ?_; clear hia2; rintro e w2 ⟨rfl, hb2⟩; have hL2 := hL.grown hb2; clear hL; have hD2 := (hb2.cell (p := ⟨D, 0, none⟩) (World.block_lt_of_cell? _ _ hD1)).trans hD1; have hC2 := (hb2.cell (p := ⟨C, 0, none⟩) (World.block_lt_of_cell? _ _ hC1)).trans hC1)
          | (go_at_call 63; refine (hib2 _ _ _ _ hL2).mono ?_; clear hib2; rintro e w4 ⟨rfl, hb4⟩; have hL4 := hL2.grown hb4; have hD4 := (hb4.cell (p := ⟨D, 0, none⟩) (World.block_lt_of_cell? _ _ hD2)).trans hD2; have hC4 := (hb4.cell (p := ⟨C, 0, none⟩) (World.block_lt_of_cell? _ _ hC2)).trans hC2)
          | (go_at_call 59; refine (ht.out _ _ _ _ hL4).mono ?_; rintro e w3 ⟨rfl, hb3⟩; have hL3 := hL4.grown hb3; have hC3 := (hb3.cell (p := ⟨C, 0, none⟩) (World.block_lt_of_cell? _ _ hC4)).trans hC4; have hD3 := (hb3.cell (p := ⟨D, 0, none⟩) (World.block_lt_of_cell? _ _ hD4)).trans hD4)
          | (refine store78x rfl _ _ rfl w3.heap.size rfl M HM.out rfl (isB_zero w3).there ?_; intro X hIX hBX; dsimp only [Act.put, List.setIfInBounds_toArray, List.set_cons_zero, List.set_cons_succ]; have hX : Below w3.heap.size w3 X := BX.below ((Below.refl _ w3).alloc (Nat.le_refl _) _) hBX (Nat.le_refl _) (by simp); have hL5 := hL3.grown hX; have hC5 := (hX.cell (p := ⟨C, 0, none⟩) (World.block_lt_of_cell? _ _ hC3)).trans hC3; have hD5 := (hX.cell (p := ⟨D, 0, none⟩) (World.block_lt_of_cell? _ _ hD3)).trans hD3)
          | (go_at_call 64; refine (hsa _ _ _ _ hL5).mono ?_; clear hsa; rintro e w6 ⟨rfl, hb6⟩; have hL6 := hL5.grown hb6; have hC6 := (hb6.cell (p := ⟨C, 0, none⟩) (World.block_lt_of_cell? _ _ hC5)).trans hC5; have hD6 := (hb6.cell (p := ⟨D, 0, none⟩) (World.block_lt_of_cell? _ _ hD5)).trans hD5)
          | (go_at_call 64; refine (hsb _ _ _ _ hL6).mono ?_; clear hsb; rintro e w7 ⟨rfl, hb7⟩; have hC7 := (hb7.cell (p := ⟨C, 0, none⟩) (World.block_lt_of_cell? _ _ hC6)).trans hC6; have hD7 := (hb7.cell (p := ⟨D, 0, none⟩) (World.block_lt_of_cell? _ _ hD6)).trans hD6)
          | (go_at_call 49; refine (insist_yes _ _).mono ?_; rintro e w8 ⟨rfl, hb8⟩; have hC8 := (hb8.cell (p := ⟨C, 0, none⟩) (World.block_lt_of_cell? _ _ hC7)).trans hC7; have hD8 := (hb8.cell (p := ⟨D, 0, none⟩) (World.block_lt_of_cell? _ _ hD7)).trans hD7))
        have hI8 : IsB w8 w3.heap.size M := isB_grown (isB_grown (isB_grown hIX hb6) hb7) hb8
        have hA8 : Below (w.alloc (Obj.cells #[.int .i64 0, .int .i64 0] 24)).heap.size (w.alloc (Obj.cells #[.int .i64 0, .int .i64 0] 24)) w8 := by (repeat (first | assumption | exact Below.refl _ _ | refine BA ?_ _ | refine BC ?_ _ _ (by omega) _ | refine Below.drew ?_ | refine BT ?_ (by assumption)))
        have hS8 : w8.drew.cell? ⟨C, 0, none⟩ = some (.int .i64 a) ∧ w8.drew.cell? ⟨D, 0, none⟩ = some (.int .i64 b) := ⟨hC8, hD8⟩
        clear hc ht hb1 hb2 hb3 hb4 hL2 hL3 hL4 hL5 hX hIX hBX
        refine wp_region_seq [(0, true), (2, true), (1, false), (3, false), (4, false), (5, false), (6, false)]
          (fun w' => w'.cell? ⟨C, 0, none⟩ = some (.int .i64 a) ∧ w'.cell? ⟨D, 0, none⟩ = some (.int .i64 b)) (by kernel_rfl) (by kernel_rfl) (fun _ _ d _ _ h => by cases d <;> exact h) hS8 ?_
        repeat (first | (refine seq_read rfl (by rfl) _ (fun w' hS => by (try dsimp only at hS); go_simp; (try with_reducible rfl)) ?_; (try simp only [Act.put, List.setIfInBounds_toArray, List.set_cons_zero, List.set_cons_succ])) | (refine seq_skip rfl (by rfl) ?_; (try simp only [Act.put, List.setIfInBounds_toArray, List.set_cons_zero, List.set_cons_succ])))
        (refine seq_do rfl (by rfl) (fun K hK => ?_); go_simp)
        refine (hpk.out _).mono ?_
        rintro e y1 ⟨rfl, k1⟩
        have hS9 := And.intro (cellG hS8.1 k1) (cellG hS8.2 k1)
        refine hK _ _ hS9 ?_
        clear hK K
        (refine seq_do rfl (by rfl) (fun K hK => ?_); go_simp)
        refine (hpl.out _).mono ?_
        rintro e y2 ⟨rfl, k2⟩
        have hS10 := And.intro (cellG hS9.1 k2) (cellG hS9.2 k2)
        refine hK _ _ hS10 ?_
        clear hK K
        (refine seq_do rfl (by rfl) (fun K hK => ?_); go_simp)
        refine (hbt.out _ _ (isB_grown (isB_grown hI8.drew k1) k2)).mono ?_
        rintro e y3 ⟨rfl, k3⟩
        have hS11 := And.intro (cellG hS10.1 k3) (cellG hS10.2 k3)
        refine hK _ _ hS11 ?_
        clear hK K
        (refine seq_do rfl (by rfl) (fun K hK => ?_); go_simp)
        refine (span_any _ _ _).mono ?_
        rintro e y4 ⟨rfl, k4⟩
        refine hK _ _ (And.intro (cellG hS11.1 k4) (cellG hS11.2 k4)) ?_
        clear hK K
        have hA : Below (w.alloc (Obj.cells #[.int .i64 0, .int .i64 0] 24)).heap.size (w.alloc (Obj.cells #[.int .i64 0, .int .i64 0] 24)) y4 := BT (BT (BT (BT hA8.drew k1) k2) k3) k4
        have hB : Below w.heap.size w y4 := BT hBW hA
        have d0 := (hA.cell (p := ⟨w.heap.size, 0, none⟩) (by simp)).trans hW.out.1
        have f0 := (hA.frozen (p := ⟨w.heap.size, 0, none⟩) (by simp)).trans hW.out.2.1
        have d1 := (hA.cell (p := ⟨w.heap.size, 1, none⟩) (by simp)).trans hW.out.2.2.1
        have f1 := (hA.frozen (p := ⟨w.heap.size, 1, none⟩) (by simp)).trans hW.out.2.2.2
        clear hbt hpk hpl k1 k2 k3 k4 hA hA8 hW hBW hI8
        refine seq_last rfl (by rfl) (by kernel_rfl) (fun K hK => ?_)
        go_simp
        refine hK _ _ ?_
        go_wp2
        exact bodyPost_ret (v := .agg #[.int .i64 lo, .int .i64 hh]) (by simp [results, Try.results70, go_sem, d0, d1]) rfl ⟨rfl, by (repeat (first | assumption | exact Below.refl _ _ | refine BA ?_ _ | refine BC ?_ _ _ (by omega) _ | refine Below.drew ?_ | refine BT ?_ (by assumption)))⟩
    
  · go_enter Try.func70, Try.ntmps70
    go_wp2_with (first
      | (go_at_call 58; refine hc.mono ?_; rintro e w1 ⟨L, mb, tv, rfl, hb1, hL⟩; have hC1 := (hb1.cell (p := ⟨C, 0, none⟩) (World.block_lt_of_cell? _ _ HC.out.1)).trans HC.out.1; have hD1 := (hb1.cell (p := ⟨D, 0, none⟩) (World.block_lt_of_cell? _ _ HC.out.2)).trans HC.out.2)
      | (go_at_call 63; refine (hia2 _ _ _ _ hL).mono ?_; clear hia2; rintro e w2 ⟨rfl, hb2⟩; have hL2 := hL.grown hb2; clear hL; have hD2 := (hb2.cell (p := ⟨D, 0, none⟩) (World.block_lt_of_cell? _ _ hD1)).trans hD1; have hC2 := (hb2.cell (p := ⟨C, 0, none⟩) (World.block_lt_of_cell? _ _ hC1)).trans hC1)
      | (go_at_call 63; refine (hib2 _ _ _ _ hL2).mono ?_; clear hib2; rintro e w4 ⟨rfl, hb4⟩; have hL4 := hL2.grown hb4; have hD4 := (hb4.cell (p := ⟨D, 0, none⟩) (World.block_lt_of_cell? _ _ hD2)).trans hD2; have hC4 := (hb4.cell (p := ⟨C, 0, none⟩) (World.block_lt_of_cell? _ _ hC2)).trans hC2)
      | (go_at_call 59; refine (ht.out _ _ _ _ hL4).mono ?_; rintro e w3 ⟨rfl, hb3⟩; have hL3 := hL4.grown hb3; have hC3 := (hb3.cell (p := ⟨C, 0, none⟩) (World.block_lt_of_cell? _ _ hC4)).trans hC4; have hD3 := (hb3.cell (p := ⟨D, 0, none⟩) (World.block_lt_of_cell? _ _ hD4)).trans hD4)
      | (refine store78x rfl _ _ rfl w3.heap.size rfl M HM.out rfl (isB_zero w3).there ?_; intro X hIX hBX; dsimp only [Act.put, List.setIfInBounds_toArray, List.set_cons_zero, List.set_cons_succ]; have hX : Below w3.heap.size w3 X := BX.below ((Below.refl _ w3).alloc (Nat.le_refl _) _) hBX (Nat.le_refl _) (by simp); have hL5 := hL3.grown hX; have hC5 := (hX.cell (p := ⟨C, 0, none⟩) (World.block_lt_of_cell? _ _ hC3)).trans hC3; have hD5 := (hX.cell (p := ⟨D, 0, none⟩) (World.block_lt_of_cell? _ _ hD3)).trans hD3)
      | (go_at_call 49; refine (insist_yes _ _).mono ?_; rintro e w8 ⟨rfl, hb8⟩; have hC8 := (hb8.cell (p := ⟨C, 0, none⟩) (World.block_lt_of_cell? _ _ hC5)).trans hC5; have hD8 := (hb8.cell (p := ⟨D, 0, none⟩) (World.block_lt_of_cell? _ _ hD5)).trans hD5))
    have hI8 : IsB w8 w3.heap.size M := isB_grown hIX hb8
    have hA8 : Below (w.alloc (Obj.cells #[.int .i64 0, .int .i64 0] 24)).heap.size (w.alloc (Obj.cells #[.int .i64 0, .int .i64 0] 24)) w8 := by (repeat (first | assumption | exact Below.refl _ _ | refine BA ?_ _ | refine BC ?_ _ _ (by omega) _ | refine Below.drew ?_ | refine BT ?_ (by assumption)))
    have hS8 : w8.drew.cell? ⟨C, 0, none⟩ = some (.int .i64 a) ∧ w8.drew.cell? ⟨D, 0, none⟩ = some (.int .i64 b) := ⟨hC8, hD8⟩
    clear hc ht hb1 hb2 hb3 hb4 hL2 hL3 hL4 hL5 hX hIX hBX
    refine wp_region_seq [(0, true), (2, true), (1, false), (3, false), (4, false), (5, false), (6, false)]
      (fun w' => w'.cell? ⟨C, 0, none⟩ = some (.int .i64 a) ∧ w'.cell? ⟨D, 0, none⟩ = some (.int .i64 b)) (by kernel_rfl) (by kernel_rfl) (fun _ _ d _ _ h => by cases d <;> exact h) hS8 ?_
    repeat (first | (refine seq_read rfl (by rfl) _ (fun w' hS => by (try dsimp only at hS); go_simp; (try with_reducible rfl)) ?_; (try simp only [Act.put, List.setIfInBounds_toArray, List.set_cons_zero, List.set_cons_succ])) | (refine seq_skip rfl (by rfl) ?_; (try simp only [Act.put, List.setIfInBounds_toArray, List.set_cons_zero, List.set_cons_succ])))
    (refine seq_do rfl (by rfl) (fun K hK => ?_); go_simp)
    refine (hpk.out _).mono ?_
    rintro e y1 ⟨rfl, k1⟩
    have hS9 := And.intro (cellG hS8.1 k1) (cellG hS8.2 k1)
    refine hK _ _ hS9 ?_
    clear hK K
    (refine seq_do rfl (by rfl) (fun K hK => ?_); go_simp)
    refine (hpl.out _).mono ?_
    rintro e y2 ⟨rfl, k2⟩
    have hS10 := And.intro (cellG hS9.1 k2) (cellG hS9.2 k2)
    refine hK _ _ hS10 ?_
    clear hK K
    (refine seq_do rfl (by rfl) (fun K hK => ?_); go_simp)
    refine (hbt.out _ _ (isB_grown (isB_grown hI8.drew k1) k2)).mono ?_
    rintro e y3 ⟨rfl, k3⟩
    have hS11 := And.intro (cellG hS10.1 k3) (cellG hS10.2 k3)
    refine hK _ _ hS11 ?_
    clear hK K
    (refine seq_do rfl (by rfl) (fun K hK => ?_); go_simp)
    refine (span_any _ _ _).mono ?_
    rintro e y4 ⟨rfl, k4⟩
    refine hK _ _ (And.intro (cellG hS11.1 k4) (cellG hS11.2 k4)) ?_
    clear hK K
    have hA : Below (w.alloc (Obj.cells #[.int .i64 0, .int .i64 0] 24)).heap.size (w.alloc (Obj.cells #[.int .i64 0, .int .i64 0] 24)) y4 := BT (BT (BT (BT hA8.drew k1) k2) k3) k4
    have hB : Below w.heap.size w y4 := BT hBW hA
    have d0 := (hA.cell (p := ⟨w.heap.size, 0, none⟩) (by simp)).trans hW.out.1
    have f0 := (hA.frozen (p := ⟨w.heap.size, 0, none⟩) (by simp)).trans hW.out.2.1
    have d1 := (hA.cell (p := ⟨w.heap.size, 1, none⟩) (by simp)).trans hW.out.2.2.1
    have f1 := (hA.frozen (p := ⟨w.heap.size, 1, none⟩) (by simp)).trans hW.out.2.2.2
    clear hbt hpk hpl k1 k2 k3 k4 hA hA8 hW hBW hI8
    refine seq_last rfl (by rfl) (by kernel_rfl) (fun K hK => ?_)
    go_simp
    refine hK _ _ ?_
    go_wp2
    exact bodyPost_ret (v := .agg #[.int .i64 lo, .int .i64 hh]) (by simp [results, Try.results70, go_sem, d0, d1]) rfl ⟨rfl, by (repeat (first | assumption | exact Below.refl _ _ | refine BA ?_ _ | refine BC ?_ _ _ (by omega) _ | refine Below.drew ?_ | refine BT ?_ (by assumption)))⟩

end Go.Proofs.Ytmfbkgdlfackcaa
