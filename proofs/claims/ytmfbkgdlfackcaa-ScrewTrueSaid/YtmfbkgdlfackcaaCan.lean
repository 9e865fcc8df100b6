/- Whether the settings of a set can be right; the bounds of all truths. -/
import Derived.Test.YtmfbkgdlfackcaaBnd
namespace Go.Proofs.Ytmfbkgdlfackcaa
open Go.RowKit

theorem len_shortStep (M : List Int) (f b t : Nat) : (shortStep M f b t).length = M.length := by unfold shortStep; split <;> simp
theorem len_roundS (b : Nat) (M : List Int) : (roundS b M).length = M.length := len_itS _ (fun f M => len_itS _ (fun t M => len_shortStep M f b t) M 8) M 8
theorem len_shortS (M : List Int) : ∀ k, (shortS k M).2.length = M.length
  | 0 => rfl
  | k + 1 => by
    rw [shortS]
    split
    · rw [len_roundS]; exact len_shortS M k
    · exact len_shortS M k
theorem len_boundsS (sLo sHi : Int) (ts : List Tell) (set : Int) : (boundsS sLo sHi ts set).2.length = 64 := by
  unfold boundsS; rw [len_shortS, len_boundsTo]

set_option maxRecDepth 100000 in
set_option maxHeartbeats 2000000 in
theorem can_any (w0 : World) (L mb : Nat) (h : Hd) (tv : Value) (ts : List Tell) (cs : List Cnt) (set : Int) (w : World) (hL : IsLook w0 w L mb h tv ts cs) (ht : ts.length ≤ 12) (him : ∀ t ∈ ts, 0 ≤ t.2.1 ∧ t.2.1 < 6) :
    Calls Try.prog 73 #[.pointer (some ⟨L, 0, none⟩), .int .i64 set] w (Ret (.bool (boundsS h.sLo h.sHi ts set).1) w) := by
  have HL := Lib.hid hL; clear hL
  have HIM := Lib.hid him; clear him
  have hl := len_boundsS h.sLo h.sHi ts set
  have hc : Hid (Calls Try.prog 83 #[.pointer (some ⟨L, 0, none⟩), .int .i64 set] w (Ret (.tuple #[bv (boundsS h.sLo h.sHi ts set).2, .bool (boundsS h.sLo h.sHi ts set).1]) w)) := bounds_any w0 L mb h tv ts cs set w HL.out ht HIM.out
  generalize (boundsS h.sLo h.sHi ts set).2 = M at *
  generalize (boundsS h.sLo h.sHi ts set).1 = b at *
  have HM := Lib.hid hl; clear hl
  go_enter Try.func73, Try.ntmps73
  go_wp2_with fail
  refine hc.out.mono ?_
  rintro e w1 ⟨rfl, hb1⟩
  go_wp2_with (refine store78x rfl _ _ rfl w1.heap.size rfl M HM.out rfl (isB_zero w1).there ?_; intro X hIX hBX; dsimp only [Act.put, List.setIfInBounds_toArray, List.set_cons_zero, List.set_cons_succ])
  go_ret
  exact ⟨rfl, BX.below (BA hb1 zero64) hBX hb1.size (by have := hb1.size; simp; omega)⟩

set_option maxRecDepth 100000 in
set_option maxHeartbeats 2000000 in
theorem truths_any (w0 : World) (L mb : Nat) (h : Hd) (tv : Value) (ts : List Tell) (cs : List Cnt) (w : World) (hL : IsLook w0 w L mb h tv ts cs) (ht : ts.length ≤ 12) (him : ∀ t ∈ ts, 0 ≤ t.2.1 ∧ t.2.1 < 6) :
    Calls Try.prog 59 #[.pointer (some ⟨L, 0, none⟩)] w (Out (if (boundsS h.sLo h.sHi ts (2 ^ ts.length - 1)).1 then .ok (bv (boundsS h.sLo h.sHi ts (2 ^ ts.length - 1)).2) else .error 10) w) := by
  have HL := Lib.hid hL; clear hL
  have HIM := Lib.hid him; clear him
  have hl := len_boundsS h.sLo h.sHi ts (2 ^ ts.length - 1)
  have hc : Hid (∀ Y, Below w.heap.size w Y → Calls Try.prog 83 #[.pointer (some ⟨L, 0, none⟩), .int .i64 (2 ^ ts.length - 1)] Y (Ret (.tuple #[bv (boundsS h.sLo h.sHi ts (2 ^ ts.length - 1)).2, .bool (boundsS h.sLo h.sHi ts (2 ^ ts.length - 1)).1]) Y)) :=
    fun Y hY => bounds_any w0 L mb h tv ts cs _ Y (HL.out.grown hY) ht HIM.out
  have ha : Hid (∀ Y, Below w.heap.size w Y → Calls Try.prog 74 #[.pointer (some ⟨L, 0, none⟩)] Y (fun e w' => e = .returned (.int .i64 (2 ^ ts.length - 1)) ∧ w' = Y)) := fun Y hY => all_any w0 L mb h tv ts cs Y (HL.out.grown hY) ht
  generalize (2 : Int) ^ ts.length - 1 = set at *
  generalize (boundsS h.sLo h.sHi ts set).2 = M at *
  generalize (boundsS h.sLo h.sHi ts set).1 = b at *
  have HM := Lib.hid hl; clear hl
  have hZ0 := isB_zero w
  have hzb : Below w.heap.size w (w.alloc zero64) := by (repeat (first | assumption | exact Below.refl _ _ | refine BA ?_ _ | refine BC ?_ _ _ (by omega) _ | refine Below.drew ?_ | refine BT ?_ (by assumption)))
  cases b
  · go_enter Try.func59, Try.ntmps59
    go_wp2_with fail
    change Calls _ _ _ (w.alloc zero64) _
    generalize hWz : w.alloc zero64 = Wz at *
    have hz1 : w.heap.size < Wz.heap.size := hZ0.lt
    clear hWz
    refine (ha.out _ hzb).mono ?_
    rintro e w1 ⟨rfl, rfl⟩
    go_wp2_with fail
    refine (hc.out _ hzb).mono ?_
    rintro e w2 ⟨rfl, hb1⟩
    have hB2 := BT hzb hb1
    clear hb1
    go_wp2_with (first | (refine store78x rfl _ _ rfl w2.heap.size rfl M HM.out rfl (isB_zero w2).there ?_; intro X hIX hBX; have hBw := BX.below (BA hB2 zero64) hBX hB2.size (by have := hB2.size; simp; omega); clear hBX; dsimp only [Act.put, List.setIfInBounds_toArray, List.set_cons_zero, List.set_cons_succ]) | (go_at_call 49; refine (insist_no _ _).mono ?_; rintro e w3 ⟨rfl, hb3⟩))
    exact ⟨rfl, rfl, BT hBw hb3⟩
  · go_enter Try.func59, Try.ntmps59
    go_wp2_with fail
    change Calls _ _ _ (w.alloc zero64) _
    generalize hWz : w.alloc zero64 = Wz at *
    have hz1 : w.heap.size < Wz.heap.size := hZ0.lt
    clear hWz
    refine (ha.out _ hzb).mono ?_
    rintro e w1 ⟨rfl, rfl⟩
    go_wp2_with fail
    refine (hc.out _ hzb).mono ?_
    rintro e w2 ⟨rfl, hb1⟩
    have hB2 := BT hzb hb1
    have hZ2 := (hZ0.below hb1 hz1).alloc zero64
    have hsz : w.heap.size < w2.heap.size := Nat.lt_of_lt_of_le hz1 hb1.size
    clear hb1
    go_wp2_with (first | (refine store78x rfl _ _ rfl w2.heap.size rfl M HM.out rfl (isB_zero w2).there ?_; intro X hIX hBX; have hBw := BX.below (BA hB2 zero64) hBX hB2.size (by have := hB2.size; simp; omega); have hZX : X.there w.heap.size 0 64 := (fun j hj => by rw [hBX.cell _ _ (by simp; omega) (by omega), hBX.frozen _ _ (by simp; omega) (by omega)]; exact (hZ2.there j hj)); have hXs := hBX.size; rw [World.size_alloc] at hXs; clear hBX; dsimp only [Act.put, List.setIfInBounds_toArray, List.set_cons_zero, List.set_cons_succ]) | (go_at_call 49; refine (insist_yes _ _).mono ?_; rintro e w3 ⟨rfl, hb3⟩; have hI3 := hIX.below hb3 (by omega); have hB3 := BT hBw hb3; have hZ3 : w3.there w.heap.size 0 64 := (fun j hj => by rw [hb3.cell (p := ⟨w.heap.size, 0 + j, none⟩) (by show w.heap.size < _; omega), hb3.frozen (p := ⟨w.heap.size, 0 + j, none⟩) (by show w.heap.size < _; omega)]; exact hZX j hj)) | (refine load78 rfl _ rfl w2.heap.size rfl M hI3 ?_; dsimp only [Act.put, List.setIfInBounds_toArray, List.set_cons_zero, List.set_cons_succ]) | (refine store78x rfl _ _ rfl w.heap.size rfl M HM.out rfl hZ3 ?_; intro X2 hIX2 hBX2; dsimp only [Act.put, List.setIfInBounds_toArray, List.set_cons_zero, List.set_cons_succ]))
    exact bodyPost_ret (results_bv rfl _ _ w.heap.size M rfl hIX2) rfl ⟨rfl, BX.below hB3 hBX2 (Nat.le_refl _) hB3.size⟩
end Go.Proofs.Ytmfbkgdlfackcaa
