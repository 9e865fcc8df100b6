/- The methods of a measure that is looked at. -/
import Derived.Test.YtmfbkgdlfackcaaLookAt
namespace Go.Proofs.Ytmfbkgdlfackcaa
open Go.RowKit

set_option maxHeartbeats 1000000 in
theorem told_up (im lo hi : Int) (w : World) : Calls Try.prog 126 #[.agg #[.int .i64 im, .int .i64 lo, .int .i64 hi]] w (Ret (.tuple #[.int .i64 0, .int .i64 (wrap64 (2 + im)), .agg #[.int .i64 lo, .int .i64 hi]]) w) := by
  go_enter Try.func126, Try.ntmps126
  go_wp2_with fail
  obtain ⟨W, hW⟩ : ∃ W, (w.alloc (Obj.cells #[Value.int IntKind.i64 im, Value.int IntKind.i64 lo, Value.int IntKind.i64 hi] 123)).alloc (Obj.cells #[Value.int IntKind.i64 0, Value.int IntKind.i64 0] 72) = W := ⟨_, rfl⟩
  have s0 : W.heap.size = w.heap.size + 2 := by rw [← hW]; simp
  have c0 : W.cell? ⟨w.heap.size, 0, none⟩ = some (.int .i64 im) := by rw [← hW]; simp [go_sem]
  have c1 : W.cell? ⟨w.heap.size, 1, none⟩ = some (.int .i64 lo) := by rw [← hW]; simp [go_sem]
  have c2 : W.cell? ⟨w.heap.size, 2, none⟩ = some (.int .i64 hi) := by rw [← hW]; simp [go_sem]
  have hsl : Slots (w.heap.size + 1) 2 W := by
    rw [← hW]; intro o ho
    have : o = 0 ∨ o = 1 := by omega
    rcases this with rfl | rfl <;> simp [go_sem]
  have hBW : Below w.heap.size w W := by rw [← hW]; (repeat (first | assumption | exact Below.refl _ _ | refine BA ?_ _ | refine BC ?_ _ _ (by omega) _ | refine Below.drew ?_ | refine BT ?_ (by assumption)))
  rw [hW]
  clear hW
  have HSL := Lib.hid hsl; clear hsl
  have hS : Hid (w.heap.size + 1 ≤ W.heap.size ∧ ∀ b' o', b' < w.heap.size + 1 → W.cell? ⟨b', o', none⟩ = W.cell? ⟨b', o', none⟩) := ⟨(by (first | omega | (simp; done) | (simp; omega))), fun _ _ _ => rfl⟩
  refine wp_region_seq [(0, true), (1, true), (3, true), (4, true), (2, false), (5, true), (6, true), (7, false)]
    (fun w' => w.heap.size + 1 ≤ w'.heap.size ∧ ∀ b' o', b' < w.heap.size + 1 → w'.cell? ⟨b', o', none⟩ = W.cell? ⟨b', o', none⟩) (by kernel_rfl) (by kernel_rfl) (fun _ _ d _ _ h => by cases d <;> exact h) (keepS (by (repeat (first | assumption | exact Below.refl _ _ | refine BA ?_ _ | refine BC ?_ _ _ (by omega) _ | refine Below.drew ?_ | refine BT ?_ (by assumption)))) hS.out) ?_
  repeat (first | (refine seq_read rfl (by rfl) _ (fun w' hS => by (try dsimp only at hS); go_simp; (try with_reducible rfl)) ?_; (try simp only [Act.put, List.setIfInBounds_toArray, List.set_cons_zero, List.set_cons_succ])) | (refine seq_skip rfl (by rfl) ?_; (try simp only [Act.put, List.setIfInBounds_toArray, List.set_cons_zero, List.set_cons_succ])))
  (refine seq_do rfl (by rfl) (fun K hK => ?_); go_simp)
  refine (placeOf_any _ _).mono ?_
  rintro e w1 ⟨rfl, hb1⟩
  have hX : Below W.heap.size W w1 := by (repeat (first | assumption | exact Below.refl _ _ | refine BA ?_ _ | refine BC ?_ _ _ (by omega) _ | refine Below.drew ?_ | refine BT ?_ (by assumption)))
  obtain ⟨x0, hx0, hxf0⟩ := (HSL.out.below hX (by omega)).get 0 (by omega)
  obtain ⟨x1, hx1, hxf1⟩ := (HSL.out.below hX (by omega)).get 1 (by omega)
  refine hK _ _ (keepS hX hS.out) ?_
  clear hK K hb1
  repeat (first | (refine seq_read rfl (by rfl) _ (fun w' hS => by (try dsimp only at hS); go_simp; (try with_reducible rfl)) ?_; (try simp only [Act.put, List.setIfInBounds_toArray, List.set_cons_zero, List.set_cons_succ])) | (refine seq_skip rfl (by rfl) ?_; (try simp only [Act.put, List.setIfInBounds_toArray, List.set_cons_zero, List.set_cons_succ])))
  refine seq_last rfl (by rfl) (by kernel_rfl) (fun K hK => ?_)
  go_simp
  refine hK _ _ ?_
  go_wp2
  refine bodyPost_ret (v := .tuple #[.int .i64 0, .int .i64 (wrap64 (2 + im)), .agg #[.int .i64 lo, .int .i64 hi]]) (by simp [results, Try.results126, go_sem, hx0, hx1]) rfl ⟨rfl, ?_⟩
  (repeat (first | assumption | exact Below.refl _ _ | refine BA ?_ _ | refine BC ?_ _ _ (by omega) _ | refine Below.drew ?_ | refine BT ?_ (by assumption)))
set_option maxHeartbeats 1000000 in
theorem told_re (im lo hi : Int) (w : World) : Calls Try.prog 125 #[.agg #[.int .i64 im, .int .i64 lo, .int .i64 hi]] w (Ret (.tuple #[.int .i64 (wrap64 (2 + im)), .int .i64 1, .agg #[.int .i64 lo, .int .i64 hi]]) w) := by
  go_enter Try.func125, Try.ntmps125
  go_wp2_with fail
  obtain ⟨W, hW⟩ : ∃ W, (w.alloc (Obj.cells #[Value.int IntKind.i64 im, Value.int IntKind.i64 lo, Value.int IntKind.i64 hi] 122)).alloc (Obj.cells #[Value.int IntKind.i64 0, Value.int IntKind.i64 0] 72) = W := ⟨_, rfl⟩
  have s0 : W.heap.size = w.heap.size + 2 := by rw [← hW]; simp
  have c0 : W.cell? ⟨w.heap.size, 0, none⟩ = some (.int .i64 im) := by rw [← hW]; simp [go_sem]
  have c1 : W.cell? ⟨w.heap.size, 1, none⟩ = some (.int .i64 lo) := by rw [← hW]; simp [go_sem]
  have c2 : W.cell? ⟨w.heap.size, 2, none⟩ = some (.int .i64 hi) := by rw [← hW]; simp [go_sem]
  have hsl : Slots (w.heap.size + 1) 2 W := by
    rw [← hW]; intro o ho
    have : o = 0 ∨ o = 1 := by omega
    rcases this with rfl | rfl <;> simp [go_sem]
  have hBW : Below w.heap.size w W := by rw [← hW]; (repeat (first | assumption | exact Below.refl _ _ | refine BA ?_ _ | refine BC ?_ _ _ (by omega) _ | refine Below.drew ?_ | refine BT ?_ (by assumption)))
  rw [hW]
  clear hW
  have HSL := Lib.hid hsl; clear hsl
  have hS : Hid (w.heap.size + 1 ≤ W.heap.size ∧ ∀ b' o', b' < w.heap.size + 1 → W.cell? ⟨b', o', none⟩ = W.cell? ⟨b', o', none⟩) := ⟨(by (first | omega | (simp; done) | (simp; omega))), fun _ _ _ => rfl⟩
  refine wp_region_seq [(0, true), (1, true), (3, true), (4, true), (2, false), (5, true), (6, true), (7, false)]
    (fun w' => w.heap.size + 1 ≤ w'.heap.size ∧ ∀ b' o', b' < w.heap.size + 1 → w'.cell? ⟨b', o', none⟩ = W.cell? ⟨b', o', none⟩) (by kernel_rfl) (by kernel_rfl) (fun _ _ d _ _ h => by cases d <;> exact h) (keepS (by (repeat (first | assumption | exact Below.refl _ _ | refine BA ?_ _ | refine BC ?_ _ _ (by omega) _ | refine Below.drew ?_ | refine BT ?_ (by assumption)))) hS.out) ?_
  repeat (first | (refine seq_read rfl (by rfl) _ (fun w' hS => by (try dsimp only at hS); go_simp; (try with_reducible rfl)) ?_; (try simp only [Act.put, List.setIfInBounds_toArray, List.set_cons_zero, List.set_cons_succ])) | (refine seq_skip rfl (by rfl) ?_; (try simp only [Act.put, List.setIfInBounds_toArray, List.set_cons_zero, List.set_cons_succ])))
  (refine seq_do rfl (by rfl) (fun K hK => ?_); go_simp)
  refine (placeOf_any _ _).mono ?_
  rintro e w1 ⟨rfl, hb1⟩
  have hX : Below W.heap.size W w1 := by (repeat (first | assumption | exact Below.refl _ _ | refine BA ?_ _ | refine BC ?_ _ _ (by omega) _ | refine Below.drew ?_ | refine BT ?_ (by assumption)))
  obtain ⟨x0, hx0, hxf0⟩ := (HSL.out.below hX (by omega)).get 0 (by omega)
  obtain ⟨x1, hx1, hxf1⟩ := (HSL.out.below hX (by omega)).get 1 (by omega)
  refine hK _ _ (keepS hX hS.out) ?_
  clear hK K hb1
  repeat (first | (refine seq_read rfl (by rfl) _ (fun w' hS => by (try dsimp only at hS); go_simp; (try with_reducible rfl)) ?_; (try simp only [Act.put, List.setIfInBounds_toArray, List.set_cons_zero, List.set_cons_succ])) | (refine seq_skip rfl (by rfl) ?_; (try simp only [Act.put, List.setIfInBounds_toArray, List.set_cons_zero, List.set_cons_succ])))
  refine seq_last rfl (by rfl) (by kernel_rfl) (fun K hK => ?_)
  go_simp
  refine hK _ _ ?_
  go_wp2
  refine bodyPost_ret (v := .tuple #[.int .i64 (wrap64 (2 + im)), .int .i64 1, .agg #[.int .i64 lo, .int .i64 hi]]) (by simp [results, Try.results125, go_sem, hx0, hx1]) rfl ⟨rfl, ?_⟩
  (repeat (first | assumption | exact Below.refl _ _ | refine BA ?_ _ | refine BC ?_ _ _ (by omega) _ | refine Below.drew ?_ | refine BT ?_ (by assumption)))

theorem insistImage_any (w0 : World) (L mb : Nat) (h : Hd) (tv : Value) (ts : List Tell) (cs : List Cnt) (im : Int) (w : World) (hL : IsLook w0 w L mb h tv ts cs) :
    Calls Try.prog 63 #[.pointer (some ⟨L, 0, none⟩), .int .i64 im] w (Out (if isImg h.images im then .ok (.tuple #[]) else .error 2) w) := by
  obtain ⟨k0, k1, k2, k3, k4, k5, k6, k7, k8, k9⟩ := hL.cell
  clear hL k7 k8 k9
  cases hi : isImg h.images im
  · have HI := Lib.hid hi; clear hi
    go_enter Try.func63, Try.ntmps63
    go_wp2_with (first | (go_at_call 97; refine (isImage_any _ _ _ _ _ _ _ _ _).mono ?_; rw [HI.out]; rintro e w1 ⟨rfl, hb1⟩) | (go_at_call 49; refine (insist_no _ _).mono ?_; rintro e w2 ⟨rfl, hb2⟩))
    exact ⟨rfl, rfl, by (repeat (first | assumption | exact Below.refl _ _ | refine BA ?_ _ | refine BC ?_ _ _ (by omega) _ | refine Below.drew ?_ | refine BT ?_ (by assumption)))⟩
  · have HI := Lib.hid hi; clear hi
    go_enter Try.func63, Try.ntmps63
    go_wp2_with (first | (go_at_call 97; refine (isImage_any _ _ _ _ _ _ _ _ _).mono ?_; rw [HI.out]; rintro e w1 ⟨rfl, hb1⟩) | (go_at_call 49; refine (insist_yes _ _).mono ?_; rintro e w2 ⟨rfl, hb2⟩))
    go_end0
    exact ⟨rfl, by (repeat (first | assumption | exact Below.refl _ _ | refine BA ?_ _ | refine BC ?_ _ _ (by omega) _ | refine Below.drew ?_ | refine BT ?_ (by assumption)))⟩
theorem isSet_any (w0 : World) (L mb : Nat) (h : Hd) (tv : Value) (ts : List Tell) (cs : List Cnt) (im : Int) (w : World) (hL : IsLook w0 w L mb h tv ts cs) :
    Calls Try.prog 64 #[.pointer (some ⟨L, 0, none⟩), .int .i64 im] w (Ret (.bool (hasC im cs)) w) := by
  obtain ⟨k0, k1, k2, k3, k4, k5, k6, k7, k8, k9⟩ := hL.cell
  have hrun := run_lookup93_ok hL.map im
  generalize hasC im cs = b at *
  generalize (getC im cs).1 = u at *
  generalize (getC im cs).2 = r at *
  clear hL k0 k1 k2 k3 k4 k5 k6 k7 k9
  go_enter Try.func64, Try.ntmps64
  go_wp2
  go_ret
  exact ⟨rfl, by (repeat (first | assumption | exact Below.refl _ _ | refine BA ?_ _ | refine BC ?_ _ _ (by omega) _ | refine Below.drew ?_ | refine BT ?_ (by assumption)))⟩
theorem all_any (w0 : World) (L mb : Nat) (h : Hd) (tv : Value) (ts : List Tell) (cs : List Cnt) (w : World) (hL : IsLook w0 w L mb h tv ts cs) (ht : ts.length ≤ 12) :
    Calls Try.prog 74 #[.pointer (some ⟨L, 0, none⟩)] w (fun e w' => e = .returned (.int .i64 (2 ^ ts.length - 1)) ∧ w' = w) := by
  obtain ⟨k0, k1, k2, k3, k4, k5, k6, k7, k8, k9⟩ := hL.cell
  have hv : ∃ a cap, tv = .slice a ts.length cap := by
    rcases hL.row.2 with ⟨h1, h2⟩ | ⟨g, cap, cur, h1, _⟩
    · exact ⟨none, 0, by rw [h1, h2]⟩
    · exact ⟨_, cap, h1⟩
  obtain ⟨a, cap, rfl⟩ := hv
  clear hL k0 k1 k2 k3 k4 k5 k6 k8 k9
  generalize ts.length = n at *
  have hn0 : (0 : Int) ≤ (n : Int) := by omega
  have hn1 : (n : Int) ≤ 12 := by omega
  go_enter Try.func74, Try.ntmps74
  have hp : Hid (wrap64 (wrap64 (2 ^ n) - 1) = 2 ^ n - 1) := by
    have h := (by decide +kernel : ∀ k : Fin 13, wrap64 (wrap64 (2 ^ k.val) - 1) = 2 ^ k.val - 1) ⟨n, by omega⟩
    exact h
  go_wp2
  go_ret
  exact ⟨by rw [← hp.out]; rfl, rfl⟩
end Go.Proofs.Ytmfbkgdlfackcaa
