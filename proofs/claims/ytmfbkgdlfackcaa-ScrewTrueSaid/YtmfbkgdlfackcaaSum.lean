/- The closures that answer: the measure in its box, the sum. -/
import Derived.Test.YtmfbkgdlfackcaaCla
import Derived.Test.YtmfbkgdlfackcaaLookAt
namespace Go.Proofs.Ytmfbkgdlfackcaa
open Go.RowKit

/-- The box of a measure. -/
structure BoxM (w : World) (B : Nat) (h : Hd) (xs : List (Int × Int)) (ss : List Sett) : Prop where
  c0 : w.cell? ⟨B, 0, none⟩ = some (.slice h.a h.n h.cap)
  c1 : w.cell? ⟨B, 1, none⟩ = some (.int .i64 h.eLo)
  c2 : w.cell? ⟨B, 2, none⟩ = some (.int .i64 h.eHi)
  c3 : w.cell? ⟨B, 3, none⟩ = some (.int .i64 h.images)
  c4 : w.cell? ⟨B, 4, none⟩ = some (.int .i64 h.sLo)
  c5 : w.cell? ⟨B, 5, none⟩ = some (.int .i64 h.sHi)
  c6 : w.cell? ⟨B, 6, none⟩ = some (.slice h.sa h.ns h.scap)
  has : HasM w h xs ss
theorem BoxM.grown {w w' : World} {B : Nat} {h : Hd} {xs : List (Int × Int)} {ss : List Sett} (k : BoxM w B h xs ss) (hb : Below w.heap.size w w') : BoxM w' B h xs ss := by
  have hlt := World.block_lt_of_cell? _ _ k.c0
  exact ⟨(hb.cell (p := ⟨B, 0, none⟩) hlt).trans k.c0, (hb.cell (p := ⟨B, 1, none⟩) hlt).trans k.c1, (hb.cell (p := ⟨B, 2, none⟩) hlt).trans k.c2, (hb.cell (p := ⟨B, 3, none⟩) hlt).trans k.c3, (hb.cell (p := ⟨B, 4, none⟩) hlt).trans k.c4, (hb.cell (p := ⟨B, 5, none⟩) hlt).trans k.c5, (hb.cell (p := ⟨B, 6, none⟩) hlt).trans k.c6, k.has.below (Nat.le_refl _) hb⟩

theorem tells_ok {h : Hd} {xs : List (Int × Int)} {ss : List Sett} (hv : validH h xs ss = true) :
    (tellsOf xs h.eLo h.eHi ss).length ≤ 12 ∧ ∀ t ∈ tellsOf xs h.eLo h.eHi ss, 0 ≤ t.2.1 ∧ t.2.1 < 6 := by
  simp only [validH, validM, headB, holdB, setsB, Bool.and_eq_true, decide_eq_true_eq] at hv
  obtain ⟨⟨⟨⟨_, him⟩, _⟩, hn⟩, hs⟩ := hv
  rw [List.all_eq_true] at hs
  refine ⟨by simpa [tellsOf] using hn, ?_⟩
  intro t ht
  obtain ⟨s, hs1, rfl⟩ := List.mem_map.1 ht
  have := hs s hs1
  simp only [setB, isImg, Bool.and_eq_true, decide_eq_true_eq] at this
  simp only [tellOf]
  omega

set_option maxRecDepth 100000 in
set_option maxHeartbeats 2000000 in
theorem sumC_no (B : Nat) (h : Hd) (xs : List (Int × Int)) (ss : List Sett) (w : World) (hm : BoxM w B h xs ss) (hv : validH h xs ss = false) : Calls Try.prog 57 #[.pointer (some ⟨B, 0, none⟩)] w (Pan 1 w) := by
  have HM := Lib.hid hm
  have hg : BoxM (w.alloc (Obj.cells #[.int .i64 0, .int .i64 0] 24)) B h xs ss := hm.grown (by (repeat (first | assumption | exact Below.refl _ _ | refine BA ?_ _ | refine BC ?_ _ _ (by omega) _ | refine Below.drew ?_ | refine BT ?_ (by assumption))))
  obtain ⟨c0, c1, c2, c3, c4, c5, c6, hh⟩ := hg
  have hc := lookAt_no h xs ss _ hh hv
  clear hm hh hv
  obtain ⟨ha, hnn, hcap, heLo, heHi, him, hsLo, hsHi, hsa, hns, hscap⟩ := h
  unfold Hd.val at hc
  dsimp only at *
  go_enter Try.func57, Try.ntmps57
  go_wp2_with (go_at_call 58; refine hc.mono ?_; rintro e w1 ⟨rfl, hb1⟩)
  exact ⟨rfl, rfl, by (repeat (first | assumption | exact Below.refl _ _ | refine BA ?_ _ | refine BC ?_ _ _ (by omega) _ | refine Below.drew ?_ | refine BT ?_ (by assumption)))⟩

set_option maxRecDepth 100000 in
set_option maxHeartbeats 2000000 in
theorem sumC_yes (B : Nat) (h : Hd) (xs : List (Int × Int)) (ss : List Sett) (w : World) (hm : BoxM w B h xs ss) (hv : validH h xs ss = true) :
    Calls Try.prog 57 #[.pointer (some ⟨B, 0, none⟩)] w (Out (let r := boundsS h.sLo h.sHi (tellsOf xs h.eLo h.eHi ss) (2 ^ (tellsOf xs h.eLo h.eHi ss).length - 1); if r.1 then .ok (.agg #[.int .i64 (wrap64 (-(gx r.2 8))), .int .i64 (gx r.2 1)]) else .error 10) w) := by
  obtain ⟨hts, htm⟩ := tells_ok hv
  have hg : BoxM (w.alloc (Obj.cells #[.int .i64 0, .int .i64 0] 24)) B h xs ss := hm.grown (by (repeat (first | assumption | exact Below.refl _ _ | refine BA ?_ _ | refine BC ?_ _ _ (by omega) _ | refine Below.drew ?_ | refine BT ?_ (by assumption))))
  obtain ⟨c0, c1, c2, c3, c4, c5, c6, hh⟩ := hg
  have hc := lookAt_yes h xs ss _ hh hv
  generalize tellsOf xs h.eLo h.eHi ss = ts at *
  generalize cntsOf ss = cs at *
  have ht : Hid (∀ L mb tv w1, IsLook (w.alloc (Obj.cells #[.int .i64 0, .int .i64 0] 24)) w1 L mb h tv ts cs → Calls Try.prog 59 #[.pointer (some ⟨L, 0, none⟩)] w1 (Out (if (boundsS h.sLo h.sHi ts (2 ^ ts.length - 1)).1 then .ok (bv (boundsS h.sLo h.sHi ts (2 ^ ts.length - 1)).2) else .error 10) w1)) :=
    fun L mb tv w1 hL => truths_any (w.alloc (Obj.cells #[.int .i64 0, .int .i64 0] 24)) L mb h tv ts cs w1 hL hts htm
  have hl := len_boundsS h.sLo h.sHi ts (2 ^ ts.length - 1)
  dsimp only
  generalize (2 : Int) ^ ts.length - 1 = set at *
  generalize (boundsS h.sLo h.sHi ts set).2 = M at *
  generalize (boundsS h.sLo h.sHi ts set).1 = b at *
  have s0 : (w.alloc (Obj.cells #[.int .i64 0, .int .i64 0] 24)).heap.size = w.heap.size + 1 := by simp
  have hW : Hid ((w.alloc (Obj.cells #[.int .i64 0, .int .i64 0] 24)).cell? ⟨w.heap.size, 0, none⟩ = some (.int .i64 0) ∧ (w.alloc (Obj.cells #[.int .i64 0, .int .i64 0] 24)).frozen? ⟨w.heap.size, 0, none⟩ = false ∧ (w.alloc (Obj.cells #[.int .i64 0, .int .i64 0] 24)).cell? ⟨w.heap.size, 1, none⟩ = some (.int .i64 0) ∧ (w.alloc (Obj.cells #[.int .i64 0, .int .i64 0] 24)).frozen? ⟨w.heap.size, 1, none⟩ = false) := ⟨by simp [go_sem], by simp, by simp [go_sem], by simp⟩
  have hBW : Below w.heap.size w (w.alloc (Obj.cells #[.int .i64 0, .int .i64 0] 24)) := by (repeat (first | assumption | exact Below.refl _ _ | refine BA ?_ _ | refine BC ?_ _ _ (by omega) _ | refine Below.drew ?_ | refine BT ?_ (by assumption)))
  have hbt : Hid (∀ B' w', IsB w' B' M → Calls Try.prog 60 #[.pointer (some ⟨B', 0, none⟩), .int .i64 0, .int .i64 1] w' (Ret (.agg #[.int .i64 (wrap64 (-(gx M 8))), .int .i64 (gx M 1)]) w')) := fun B' w' h => between_any B' 0 1 (by omega) (by omega) M w' h
  have HM := Lib.hid hl; clear hl
  clear hm hh hv
  unfold Hd.val at hc
  generalize wrap64 (-(gx M 8)) = lo at *
  generalize gx M 1 = hi at *
  cases b
  · go_enter Try.func57, Try.ntmps57
    go_wp2_with (first | (go_at_call 58; refine hc.mono ?_; rintro e w1 ⟨L, mb, tv, rfl, hb1, hL⟩) | (go_at_call 59; refine (ht.out _ _ _ _ hL).mono ?_; rintro e w2 ⟨rfl, hb2⟩))
    exact ⟨rfl, rfl, by (repeat (first | assumption | exact Below.refl _ _ | refine BA ?_ _ | refine BC ?_ _ _ (by omega) _ | refine Below.drew ?_ | refine BT ?_ (by assumption)))⟩
  · go_enter Try.func57, Try.ntmps57
    go_wp2_with (first
      | (go_at_call 58; refine hc.mono ?_; rintro e w1 ⟨L, mb, tv, rfl, hb1, hL⟩)
      | (go_at_call 59; refine (ht.out _ _ _ _ hL).mono ?_; rintro e w2 ⟨rfl, hb2⟩)
      | (refine store78x rfl _ _ rfl w2.heap.size rfl M HM.out rfl (isB_zero w2).there ?_; intro X hIX hBX; dsimp only [Act.put, List.setIfInBounds_toArray, List.set_cons_zero, List.set_cons_succ]))
    have hX : Below w2.heap.size w2 X := BX.below ((Below.refl _ w2).alloc (Nat.le_refl _) _) hBX (Nat.le_refl _) (by simp)
    clear hBX
    refine (hbt.out _ _ hIX).mono ?_
    rintro e w3 ⟨rfl, hb3⟩
    go_wp2_with fail
    refine (span_any _ _ _).mono ?_
    rintro e w4 ⟨rfl, hb4⟩
    have hA : Below (w.alloc (Obj.cells #[.int .i64 0, .int .i64 0] 24)).heap.size (w.alloc (Obj.cells #[.int .i64 0, .int .i64 0] 24)) w4 := by (repeat (first | assumption | exact Below.refl _ _ | refine BA ?_ _ | refine BC ?_ _ _ (by omega) _ | refine Below.drew ?_ | refine BT ?_ (by assumption)))
    have hB : Below w.heap.size w w4 := BT hBW hA
    have d0 := (hA.cell (p := ⟨w.heap.size, 0, none⟩) (by simp)).trans hW.out.1
    have f0 := (hA.frozen (p := ⟨w.heap.size, 0, none⟩) (by simp)).trans hW.out.2.1
    have d1 := (hA.cell (p := ⟨w.heap.size, 1, none⟩) (by simp)).trans hW.out.2.2.1
    have f1 := (hA.frozen (p := ⟨w.heap.size, 1, none⟩) (by simp)).trans hW.out.2.2.2
    clear hc ht hbt hb1 hL hb2 hIX hX hb3 hb4 hA hW hBW
    go_wp2
    exact bodyPost_ret (v := .agg #[.int .i64 lo, .int .i64 hi]) (by simp [results, Try.results57, go_sem, d0, d1]) rfl ⟨rfl, by (repeat (first | assumption | exact Below.refl _ _ | refine BA ?_ _ | refine BC ?_ _ _ (by omega) _ | refine Below.drew ?_ | refine BT ?_ (by assumption)))⟩
end Go.Proofs.Ytmfbkgdlfackcaa
