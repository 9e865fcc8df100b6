/- Whether a screw is valid. -/
import Derived.Test.YtmfbkgdlfackcaaEv
import Derived.Test.YtmfbkgdlfackcaaSeq
import Derived.WalkSpells
namespace Go.Proofs.Ytmfbkgdlfackcaa
open Go.RowKit

def validB (xs : List (Int × Int)) (eLo eHi : Int) : Bool := holdB 1 40 xs.length xs.length && evB (-100) 100 xs && holdB (-100) 100 eLo eHi

set_option maxHeartbeats 1000000 in
theorem valid_a (a : Option Addr) (xs : List (Int × Int)) (cap : Nat) (eLo eHi : Int) (w : World) (h1 : holdB 1 40 xs.length xs.length = false) :
    Calls Try.prog 50 #[.agg #[.slice a xs.length cap, .int .i64 eLo, .int .i64 eHi]] w (Ret (.bool (validB xs eLo eHi)) w) := by
    have he : Hid (validB xs eLo eHi = false) := by show _ = _; simp [validB, h1]
    have H1 := Lib.hid h1; clear h1
    generalize hn : xs.length = n at *
    have HN := Lib.hid hn; clear hn
    go_enter Try.func50, Try.ntmps50
    go_wp2_with fail
    obtain ⟨W, hW⟩ : ∃ W, ((w.alloc (Obj.cells #[Value.slice a n cap, Value.int IntKind.i64 eLo, Value.int IntKind.i64 eHi] 26)).alloc (Obj.cells #[Value.int IntKind.i64 1, Value.int IntKind.i64 40] 72)).alloc (Obj.cells #[Value.int IntKind.i64 (-100), Value.int IntKind.i64 100] 72) = W := ⟨_, rfl⟩
    have s0 : W.heap.size = w.heap.size + 3 := by rw [← hW]; simp
    have c0 : W.cell? ⟨w.heap.size, 0, none⟩ = some (.slice a n cap) := by rw [← hW]; simp [go_sem]
    have c1 : W.cell? ⟨w.heap.size, 1, none⟩ = some (.int .i64 eLo) := by rw [← hW]; simp [go_sem]
    have c2 : W.cell? ⟨w.heap.size, 2, none⟩ = some (.int .i64 eHi) := by rw [← hW]; simp [go_sem]
    have c3 : W.cell? ⟨w.heap.size + 1, 0, none⟩ = some (.int .i64 1) := by rw [← hW]; simp [go_sem]
    have c4 : W.cell? ⟨w.heap.size + 1, 1, none⟩ = some (.int .i64 40) := by rw [← hW]; simp [go_sem]
    have c5 : W.cell? ⟨w.heap.size + 2, 0, none⟩ = some (.int .i64 (-100)) := by rw [← hW]; simp [go_sem]
    have c6 : W.cell? ⟨w.heap.size + 2, 1, none⟩ = some (.int .i64 100) := by rw [← hW]; simp [go_sem]
    have hBW : Below w.heap.size w W := by rw [← hW]; (repeat (first | assumption | exact Below.refl _ _ | refine BA ?_ _ | refine BC ?_ _ _ (by omega) _ | refine Below.drew ?_ | refine BT ?_ (by assumption)))
    rw [hW]
    refine wp_region_seq [(0, true), (1, true), (2, true), (3, true), (4, false), (5, true), (6, true), (7, true), (8, true), (9, true), (10, false), (11, true), (12, true), (13, true), (14, true), (15, true), (16, false), (17, false), (18, true), (19, true)]
      (fun w' => w.heap.size + 3 ≤ w'.heap.size ∧ ∀ b' o', b' < w.heap.size + 3 → w'.cell? ⟨b', o', none⟩ = W.cell? ⟨b', o', none⟩) (by kernel_rfl) (by kernel_rfl) (fun _ _ d _ _ h => by cases d <;> exact h) ⟨(by (first | omega | (simp; done) | (simp; omega))), fun _ _ _ => rfl⟩ ?_
    have hS0 : w.heap.size + 3 ≤ W.drew.heap.size ∧ ∀ b' o', b' < w.heap.size + 3 → W.drew.cell? ⟨b', o', none⟩ = W.cell? ⟨b', o', none⟩ := ⟨(by (first | omega | (simp; done) | (simp; omega))), fun _ _ _ => rfl⟩
    repeat (first | (refine seq_read rfl (by rfl) _ (fun w' hS => by (try dsimp only at hS); go_simp; (try with_reducible rfl)) ?_; (try simp only [Act.put, List.setIfInBounds_toArray, List.set_cons_zero, List.set_cons_succ])) | (refine seq_skip rfl (by rfl) ?_; (try simp only [Act.put, List.setIfInBounds_toArray, List.set_cons_zero, List.set_cons_succ])))
    (refine seq_do rfl (by rfl) (fun K hK => ?_); go_simp)
    refine (has_any _ _ _ _).mono ?_
    rw [H1.out]
    rintro e w1 ⟨rfl, hb1⟩
    refine hK _ _ (keepS hb1 hS0) ?_
    have hS1 := keepS hb1 hS0
    clear hK K
    repeat (first | (refine seq_read rfl (by rfl) _ (fun w' hS => by (try dsimp only at hS); go_simp; (try with_reducible rfl)) ?_; (try simp only [Act.put, List.setIfInBounds_toArray, List.set_cons_zero, List.set_cons_succ])) | (refine seq_skip rfl (by rfl) ?_; (try simp only [Act.put, List.setIfInBounds_toArray, List.set_cons_zero, List.set_cons_succ])))
    apply seq_end
    go_wp2
    go_ret
    exact ⟨by rw [he.out]; rfl, by (repeat (first | assumption | exact Below.refl _ _ | refine BA ?_ _ | refine BC ?_ _ _ (by omega) _ | refine Below.drew ?_ | refine BT ?_ (by assumption)))⟩
set_option maxHeartbeats 1000000 in
theorem valid_b (a : Option Addr) (xs : List (Int × Int)) (cap : Nat) (eLo eHi : Int) (w : World) (hl : xs.length ≤ 9223372036854775807) (hx : Spans w a xs) (h1 : holdB 1 40 xs.length xs.length = true) (h2 : evB (-100) 100 xs = false) :
    Calls Try.prog 50 #[.agg #[.slice a xs.length cap, .int .i64 eLo, .int .i64 eHi]] w (Ret (.bool (validB xs eLo eHi)) w) := by
    have he : Hid (validB xs eLo eHi = false) := by show _ = _; simp [validB, h2]
    have H1 := Lib.hid h1; clear h1
    have H2 := Lib.hid h2; clear h2
    have HX := Lib.hid hx; clear hx
    generalize hn : xs.length = n at *
    have HN := Lib.hid hn
    go_enter Try.func50, Try.ntmps50
    go_wp2_with fail
    obtain ⟨W, hW⟩ : ∃ W, ((w.alloc (Obj.cells #[Value.slice a n cap, Value.int IntKind.i64 eLo, Value.int IntKind.i64 eHi] 26)).alloc (Obj.cells #[Value.int IntKind.i64 1, Value.int IntKind.i64 40] 72)).alloc (Obj.cells #[Value.int IntKind.i64 (-100), Value.int IntKind.i64 100] 72) = W := ⟨_, rfl⟩
    have s0 : W.heap.size = w.heap.size + 3 := by rw [← hW]; simp
    have c0 : W.cell? ⟨w.heap.size, 0, none⟩ = some (.slice a n cap) := by rw [← hW]; simp [go_sem]
    have c1 : W.cell? ⟨w.heap.size, 1, none⟩ = some (.int .i64 eLo) := by rw [← hW]; simp [go_sem]
    have c2 : W.cell? ⟨w.heap.size, 2, none⟩ = some (.int .i64 eHi) := by rw [← hW]; simp [go_sem]
    have c3 : W.cell? ⟨w.heap.size + 1, 0, none⟩ = some (.int .i64 1) := by rw [← hW]; simp [go_sem]
    have c4 : W.cell? ⟨w.heap.size + 1, 1, none⟩ = some (.int .i64 40) := by rw [← hW]; simp [go_sem]
    have c5 : W.cell? ⟨w.heap.size + 2, 0, none⟩ = some (.int .i64 (-100)) := by rw [← hW]; simp [go_sem]
    have c6 : W.cell? ⟨w.heap.size + 2, 1, none⟩ = some (.int .i64 100) := by rw [← hW]; simp [go_sem]
    have hBW : Below w.heap.size w W := by rw [← hW]; (repeat (first | assumption | exact Below.refl _ _ | refine BA ?_ _ | refine BC ?_ _ _ (by omega) _ | refine Below.drew ?_ | refine BT ?_ (by assumption)))
    rw [hW]
    refine wp_region_seq [(0, true), (1, true), (2, true), (3, true), (4, false), (5, true), (6, true), (7, true), (8, true), (9, true), (10, false), (11, true), (12, true), (13, true), (14, true), (15, true), (16, false), (17, false), (18, true), (19, true)]
      (fun w' => w.heap.size + 3 ≤ w'.heap.size ∧ ∀ b' o', b' < w.heap.size + 3 → w'.cell? ⟨b', o', none⟩ = W.cell? ⟨b', o', none⟩) (by kernel_rfl) (by kernel_rfl) (fun _ _ d _ _ h => by cases d <;> exact h) ⟨(by (first | omega | (simp; done) | (simp; omega))), fun _ _ _ => rfl⟩ ?_
    have hS0 : w.heap.size + 3 ≤ W.drew.heap.size ∧ ∀ b' o', b' < w.heap.size + 3 → W.drew.cell? ⟨b', o', none⟩ = W.cell? ⟨b', o', none⟩ := ⟨(by (first | omega | (simp; done) | (simp; omega))), fun _ _ _ => rfl⟩
    repeat (first | (refine seq_read rfl (by rfl) _ (fun w' hS => by (try dsimp only at hS); go_simp; (try with_reducible rfl)) ?_; (try simp only [Act.put, List.setIfInBounds_toArray, List.set_cons_zero, List.set_cons_succ])) | (refine seq_skip rfl (by rfl) ?_; (try simp only [Act.put, List.setIfInBounds_toArray, List.set_cons_zero, List.set_cons_succ])))
    (refine seq_do rfl (by rfl) (fun K hK => ?_); go_simp)
    refine (has_any _ _ _ _).mono ?_
    rw [H1.out]
    rintro e w1 ⟨rfl, hb1⟩
    refine hK _ _ (keepS hb1 hS0) ?_
    have hS1 := keepS hb1 hS0
    clear hK K
    repeat (first | (refine seq_read rfl (by rfl) _ (fun w' hS => by (try dsimp only at hS); go_simp; (try with_reducible rfl)) ?_; (try simp only [Act.put, List.setIfInBounds_toArray, List.set_cons_zero, List.set_cons_succ])) | (refine seq_skip rfl (by rfl) ?_; (try simp only [Act.put, List.setIfInBounds_toArray, List.set_cons_zero, List.set_cons_succ])))
    (refine seq_do rfl (by rfl) (fun K hK => ?_); go_simp)
    subst hn
    refine (every_any _ _ _ _ _ _ hl (HX.out.below (Nat.le_refl _) (by (repeat (first | assumption | exact Below.refl _ _ | refine BA ?_ _ | refine BC ?_ _ _ (by omega) _ | refine Below.drew ?_ | refine BT ?_ (by assumption)))))).mono ?_
    rw [H2.out]
    rintro e w2 ⟨rfl, hb2⟩
    refine hK _ _ (keepS hb2 hS1) ?_
    have hS2 := keepS hb2 hS1
    clear hK K
    repeat (first | (refine seq_read rfl (by rfl) _ (fun w' hS => by (try dsimp only at hS); go_simp; (try with_reducible rfl)) ?_; (try simp only [Act.put, List.setIfInBounds_toArray, List.set_cons_zero, List.set_cons_succ])) | (refine seq_skip rfl (by rfl) ?_; (try simp only [Act.put, List.setIfInBounds_toArray, List.set_cons_zero, List.set_cons_succ])))
    apply seq_end
    go_wp2
    go_ret
    exact ⟨by rw [he.out]; rfl, by (repeat (first | assumption | exact Below.refl _ _ | refine BA ?_ _ | refine BC ?_ _ _ (by omega) _ | refine Below.drew ?_ | refine BT ?_ (by assumption)))⟩
set_option maxHeartbeats 1000000 in
theorem valid_c (a : Option Addr) (xs : List (Int × Int)) (cap : Nat) (eLo eHi : Int) (w : World) (hl : xs.length ≤ 9223372036854775807) (hx : Spans w a xs) (h1 : holdB 1 40 xs.length xs.length = true) (h2 : evB (-100) 100 xs = true) :
    Calls Try.prog 50 #[.agg #[.slice a xs.length cap, .int .i64 eLo, .int .i64 eHi]] w (Ret (.bool (validB xs eLo eHi)) w) := by
    have he : Hid (validB xs eLo eHi = holdB (-100) 100 eLo eHi) := by show _ = _; simp [validB, h1, h2]
    have H1 := Lib.hid h1; clear h1
    have H2 := Lib.hid h2; clear h2
    have HX := Lib.hid hx; clear hx
    generalize hn : xs.length = n at *
    have HN := Lib.hid hn
    go_enter Try.func50, Try.ntmps50
    go_wp2_with fail
    obtain ⟨W, hW⟩ : ∃ W, ((w.alloc (Obj.cells #[Value.slice a n cap, Value.int IntKind.i64 eLo, Value.int IntKind.i64 eHi] 26)).alloc (Obj.cells #[Value.int IntKind.i64 1, Value.int IntKind.i64 40] 72)).alloc (Obj.cells #[Value.int IntKind.i64 (-100), Value.int IntKind.i64 100] 72) = W := ⟨_, rfl⟩
    have s0 : W.heap.size = w.heap.size + 3 := by rw [← hW]; simp
    have c0 : W.cell? ⟨w.heap.size, 0, none⟩ = some (.slice a n cap) := by rw [← hW]; simp [go_sem]
    have c1 : W.cell? ⟨w.heap.size, 1, none⟩ = some (.int .i64 eLo) := by rw [← hW]; simp [go_sem]
    have c2 : W.cell? ⟨w.heap.size, 2, none⟩ = some (.int .i64 eHi) := by rw [← hW]; simp [go_sem]
    have c3 : W.cell? ⟨w.heap.size + 1, 0, none⟩ = some (.int .i64 1) := by rw [← hW]; simp [go_sem]
    have c4 : W.cell? ⟨w.heap.size + 1, 1, none⟩ = some (.int .i64 40) := by rw [← hW]; simp [go_sem]
    have c5 : W.cell? ⟨w.heap.size + 2, 0, none⟩ = some (.int .i64 (-100)) := by rw [← hW]; simp [go_sem]
    have c6 : W.cell? ⟨w.heap.size + 2, 1, none⟩ = some (.int .i64 100) := by rw [← hW]; simp [go_sem]
    have hBW : Below w.heap.size w W := by rw [← hW]; (repeat (first | assumption | exact Below.refl _ _ | refine BA ?_ _ | refine BC ?_ _ _ (by omega) _ | refine Below.drew ?_ | refine BT ?_ (by assumption)))
    rw [hW]
    refine wp_region_seq [(0, true), (1, true), (2, true), (3, true), (4, false), (5, true), (6, true), (7, true), (8, true), (9, true), (10, false), (11, true), (12, true), (13, true), (14, true), (15, true), (16, false), (17, false), (18, true), (19, true)]
      (fun w' => w.heap.size + 3 ≤ w'.heap.size ∧ ∀ b' o', b' < w.heap.size + 3 → w'.cell? ⟨b', o', none⟩ = W.cell? ⟨b', o', none⟩) (by kernel_rfl) (by kernel_rfl) (fun _ _ d _ _ h => by cases d <;> exact h) ⟨(by (first | omega | (simp; done) | (simp; omega))), fun _ _ _ => rfl⟩ ?_
    have hS0 : w.heap.size + 3 ≤ W.drew.heap.size ∧ ∀ b' o', b' < w.heap.size + 3 → W.drew.cell? ⟨b', o', none⟩ = W.cell? ⟨b', o', none⟩ := ⟨(by (first | omega | (simp; done) | (simp; omega))), fun _ _ _ => rfl⟩
    repeat (first | (refine seq_read rfl (by rfl) _ (fun w' hS => by (try dsimp only at hS); go_simp; (try with_reducible rfl)) ?_; (try simp only [Act.put, List.setIfInBounds_toArray, List.set_cons_zero, List.set_cons_succ])) | (refine seq_skip rfl (by rfl) ?_; (try simp only [Act.put, List.setIfInBounds_toArray, List.set_cons_zero, List.set_cons_succ])))
    (refine seq_do rfl (by rfl) (fun K hK => ?_); go_simp)
    refine (has_any _ _ _ _).mono ?_
    rw [H1.out]
    rintro e w1 ⟨rfl, hb1⟩
    refine hK _ _ (keepS hb1 hS0) ?_
    have hS1 := keepS hb1 hS0
    clear hK K
    repeat (first | (refine seq_read rfl (by rfl) _ (fun w' hS => by (try dsimp only at hS); go_simp; (try with_reducible rfl)) ?_; (try simp only [Act.put, List.setIfInBounds_toArray, List.set_cons_zero, List.set_cons_succ])) | (refine seq_skip rfl (by rfl) ?_; (try simp only [Act.put, List.setIfInBounds_toArray, List.set_cons_zero, List.set_cons_succ])))
    (refine seq_do rfl (by rfl) (fun K hK => ?_); go_simp)
    subst hn
    refine (every_any _ _ _ _ _ _ hl (HX.out.below (Nat.le_refl _) (by (repeat (first | assumption | exact Below.refl _ _ | refine BA ?_ _ | refine BC ?_ _ _ (by omega) _ | refine Below.drew ?_ | refine BT ?_ (by assumption)))))).mono ?_
    rw [H2.out]
    rintro e w2 ⟨rfl, hb2⟩
    refine hK _ _ (keepS hb2 hS1) ?_
    have hS2 := keepS hb2 hS1
    clear hK K
    repeat (first | (refine seq_read rfl (by rfl) _ (fun w' hS => by (try dsimp only at hS); go_simp; (try with_reducible rfl)) ?_; (try simp only [Act.put, List.setIfInBounds_toArray, List.set_cons_zero, List.set_cons_succ])) | (refine seq_skip rfl (by rfl) ?_; (try simp only [Act.put, List.setIfInBounds_toArray, List.set_cons_zero, List.set_cons_succ])))
    (refine seq_do rfl (by rfl) (fun K hK => ?_); go_simp)
    refine (known_any _ _ _).mono ?_
    rintro e w3 ⟨rfl, hb3⟩
    refine hK _ _ (keepS hb3 hS2) ?_
    have hS3 := keepS hb3 hS2
    clear hK K
    repeat (first | (refine seq_read rfl (by rfl) _ (fun w' hS => by (try dsimp only at hS); go_simp; (try with_reducible rfl)) ?_; (try simp only [Act.put, List.setIfInBounds_toArray, List.set_cons_zero, List.set_cons_succ])) | (refine seq_skip rfl (by rfl) ?_; (try simp only [Act.put, List.setIfInBounds_toArray, List.set_cons_zero, List.set_cons_succ])))
    (refine seq_do rfl (by rfl) (fun K hK => ?_); go_simp)
    refine (hold_any _ _ _ _ _).mono ?_
    rintro e w4 ⟨rfl, hb4⟩
    refine hK _ _ (keepS hb4 hS3) ?_
    have hS4 := keepS hb4 hS3
    clear hK K
    repeat (first | (refine seq_read rfl (by rfl) _ (fun w' hS => by (try dsimp only at hS); go_simp; (try with_reducible rfl)) ?_; (try simp only [Act.put, List.setIfInBounds_toArray, List.set_cons_zero, List.set_cons_succ])) | (refine seq_skip rfl (by rfl) ?_; (try simp only [Act.put, List.setIfInBounds_toArray, List.set_cons_zero, List.set_cons_succ])))
    apply seq_end
    go_wp2
    go_ret
    exact ⟨by rw [he.out]; rfl, by (repeat (first | assumption | exact Below.refl _ _ | refine BA ?_ _ | refine BC ?_ _ _ (by omega) _ | refine Below.drew ?_ | refine BT ?_ (by assumption)))⟩
theorem valid_any (a : Option Addr) (xs : List (Int × Int)) (cap : Nat) (eLo eHi : Int) (w : World) (hl : xs.length ≤ 9223372036854775807) (hx : Spans w a xs) :
    Calls Try.prog 50 #[.agg #[.slice a xs.length cap, .int .i64 eLo, .int .i64 eHi]] w (Ret (.bool (validB xs eLo eHi)) w) := by
  cases h1 : holdB 1 40 xs.length xs.length
  · exact valid_a a xs cap eLo eHi w h1
  · cases h2 : evB (-100) 100 xs
    · exact valid_b a xs cap eLo eHi w hl hx h1 h2
    · exact valid_c a xs cap eLo eHi w hl hx h1 h2
end Go.Proofs.Ytmfbkgdlfackcaa
