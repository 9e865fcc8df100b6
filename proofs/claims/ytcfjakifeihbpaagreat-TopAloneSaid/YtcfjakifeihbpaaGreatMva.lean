/- Whether a screw is valid. -/
import Derived.Test.YtcfjakifeihbpaaGreatEv
import Derived.Test.YtcfjakifeihbpaaGreatSeq
import Derived.WalkSpells
namespace Go.Proofs.YtcfjakifeihbpaaGreat
open Go.RowKit

def validB (xs : List (Int × Int)) (eLo eHi : Int) : Bool := holdB 1 40 xs.length xs.length && evB (-100) 100 xs && holdB (-100) 100 eLo eHi

set_option maxHeartbeats 1000000 in
theorem valid_a (a : Option Addr) (xs : List (Int × Int)) (cap : Nat) (eLo eHi : Int) (w : World) (h1 : holdB 1 40 xs.length xs.length = false) :
    Calls Tryz.prog 57 #[.agg #[.slice a xs.length cap, .int .i64 eLo, .int .i64 eHi]] w (Ret (.bool (validB xs eLo eHi)) w) := by
    have he : Hid (validB xs eLo eHi = false) := by show _ = _; simp [validB, h1]
    have H1 := Lib.hid h1; clear h1
    generalize hn : xs.length = n at *
    have HN := Lib.hid hn; clear hn
    go_enter Tryz.func57, Tryz.ntmps57
    go_wp2_with fail
    obtain ⟨W, hW⟩ : ∃ W, ((w.alloc (Obj.cells #[Value.slice a n cap, Value.int IntKind.i64 eLo, Value.int IntKind.i64 eHi] 26)).alloc (Obj.cells #[Value.int IntKind.i64 1, Value.int IntKind.i64 40] 90)).alloc (Obj.cells #[Value.int IntKind.i64 (-100), Value.int IntKind.i64 100] 90) = W := ⟨_, rfl⟩
    have s0 : W.heap.size = w.heap.size + 3 := by rw [← hW]; simp
    have c0 : W.cell? ⟨w.heap.size, 0, none⟩ = some (.slice a n cap) := by rw [← hW]; simp [go_sem]
    have c1 : W.cell? ⟨w.heap.size, 1, none⟩ = some (.int .i64 eLo) := by rw [← hW]; simp [go_sem]
    have c2 : W.cell? ⟨w.heap.size, 2, none⟩ = some (.int .i64 eHi) := by rw [← hW]; simp [go_sem]
    have c3 : W.cell? ⟨w.heap.size + 1, 0, none⟩ = some (.int .i64 1) := by rw [← hW]; simp [go_sem]
    have c4 : W.cell? ⟨w.heap.size + 1, 1, none⟩ = some (.int .i64 40) := by rw [← hW]; simp [go_sem]
    have c5 : W.cell? ⟨w.heap.size + 2, 0, none⟩ = some (.int .i64 (-100)) := by rw [← hW]; simp [go_sem]
    have c6 : W.cell? ⟨w.heap.size + 2, 1, none⟩ = some (.int .i64 100) := by rw [← hW]; simp [go_sem]
    have hBW : Below w.heap.size w W := by rw [← hW]; (repeat (first | assumption | exact Below.refl _ _ | refine BA ?_ _ | refine BC ?_ _ _ (by omega) _ | refine Below.drew ?_ | refine BT ?_ (by assumption)))
    rw [hW]
    refine wp_region_seq [(0, true), (1, true), (2, true), (3, true), (4, false), (5, true), (6, true), (7, true), (8, true), (9, true), (10, false), (11, true), (12, true), (13, true), (14, true), (15, true), (16, false), (17, false), (18, true), (19, true)]
      (fun w' => w.heap.size + 3 ≤ w'.heap.size ∧ ∀ b' o', b' < w.heap.size + 3 → w'.cell? ⟨b', o', none⟩ = W.cell? ⟨b', o', none⟩) (by kernel_rfl) (by kernel_rfl) (fun _ _ d _ _ h => by cases d <;> exact h) ⟨(by (first | omega | (simp; done) | (simp; omega))), fun _ _ _ => rfl⟩ ?_
    have hS0 : w.heap.size + 3 ≤ W.drew.heap.size ∧ ∀ b' o', b' < w.heap.size + 3 → W.drew.cell? ⟨b', o', none⟩ = W.cell? ⟨b', o', none⟩ := ⟨(by (first | omega | (simp; done) | (simp; omega))), fun _ _ _ => rfl⟩
    repeat (first | (refine seq_read rfl (by rfl) _ (fun w' hS => by (try dsimp only at hS); go_simp; (try with_reducible rfl)) ?_; (try simp only [Act.put, List.setIfInBounds_toArray, List.set_cons_zero, List.set_cons_succ])) | (refine seq_skip rfl (by rfl) ?_; (try simp only [Act.put, List.setIfInBounds_toArray, List.set_cons_zero, List.set_cons_succ])))
    (refine seq_do rfl (by rfl) (fun K hK => ?_); go_simp)
    refine (has_any _ _ _ _).mono ?_
    rw [H1.out]
    rintro e w1 ⟨rfl, hb1⟩
    refine hK _ _ (keepS hb1 hS0) ?_
    have hS1 := keepS hb1 hS0
    clear hK K
    repeat (first | (refine seq_read rfl (by rfl) _ (fun w' hS => by (try dsimp only at hS); go_simp; (try with_reducible rfl)) ?_; (try simp only [Act.put, List.setIfInBounds_toArray, List.set_cons_zero, List.set_cons_succ])) | (refine seq_skip rfl (by rfl) ?_; (try simp only [Act.put, List.setIfInBounds_toArray, List.set_cons_zero, List.set_cons_succ])))
    apply seq_end
    go_wp2
    go_ret
    exact ⟨by rw [he.out]; rfl, by (repeat (first | assumption | exact Below.refl _ _ | refine BA ?_ _ | refine BC ?_ _ _ (by omega) _ | refine Below.drew ?_ | refine BT ?_ (by assumption)))⟩
set_option maxHeartbeats 1000000 in
theorem valid_b (a : Option Addr) (xs : List (Int × Int)) (cap : Nat) (eLo eHi : Int) (w : World) (hl : xs.length ≤ 9223372036854775807) (hx : Spans w a xs) (h1 : holdB 1 40 xs.length xs.length = true) (h2 : evB (-100) 100 xs = false) :
    Calls Tryz.prog 57 #[.agg #[.slice a xs.length cap, .int .i64 eLo, .int .i64 eHi]] w (Ret (.bool (validB xs eLo eHi)) w) := by
    have he : Hid (validB xs eLo eHi = false) := by show _ = _; simp [validB, h2]
    have H1 := Lib.hid h1; clear h1
    have H2 := Lib.hid h2; clear h2
    have HX := Lib.hid hx; clear hx
    generalize hn : xs.length = n at *
    have HN := Lib.hid hn
    go_enter Tryz.func57, Tryz.ntmps57
    go_wp2_with fail
    obtain ⟨W, hW⟩ : ∃ W, ((w.alloc (Obj.cells #[Value.slice a n cap, Value.int IntKind.i64 eLo, Value.int IntKind.i64 eHi] 26)).alloc (Obj.cells #[Value.int IntKind.i64 1, Value.int IntKind.i64 40] 90)).alloc (Obj.cells #[Value.int IntKind.i64 (-100), Value.int IntKind.i64 100] 90) = W := ⟨_, rfl⟩
    have s0 : W.heap.size = w.heap.size + 3 := by rw [← hW]; simp
    have c0 : W.cell? ⟨w.heap.size, 0, none⟩ = some (.slice a n cap) := by rw [← hW]; simp [go_sem]
    have c1 : W.cell? ⟨w.heap.size, 1, none⟩ = some (.int .i64 eLo) := by rw [← hW]; simp [go_sem]
    have c2 : W.cell? ⟨w.heap.size, 2, none⟩ = some (.int .i64 eHi) := by rw [← hW]; simp [go_sem]
    have c3 : W.cell? ⟨w.heap.size + 1, 0, none⟩ = some (.int .i64 1) := by rw [← hW]; simp [go_sem]
    have c4 : W.cell? ⟨w.heap.size + 1, 1, none⟩ = some (.int .i64 40) := by rw [← hW]; simp [go_sem]
    have c5 : W.cell? ⟨w.heap.size + 2, 0, none⟩ = some (.int .i64 (-100)) := by rw [← hW]; simp [go_sem]
    have c6 : W.cell? ⟨w.heap.size + 2, 1, none⟩ = some (.int .i64 100) := by rw [← hW]; simp [go_sem]
    have hBW : Below w.heap.size w W := by rw [← hW]; (repeat (first | assumption | exact Below.refl _ _ | refine BA ?_ _ | refine BC ?_ _ _ (by omega) _ | refine Below.drew ?_ | refine BT ?_ (by assumption)))
    rw [hW]
    refine wp_region_seq [(0, true), (1, true), (2, true), (3, true), (4, false), (5, true), (6, true), (7, true), (8, true), (9, true), (10, false), (11, true), (12, true), (13, true), (14, true), (15, true), (16, false), (17, false), (18, true), (19, true)]
      (fun w' => w.heap.size + 3 ≤ w'.heap.size ∧ ∀ b' o', b' < w.heap.size + 3 → w'.cell? ⟨b', o', none⟩ = W.cell? ⟨b', o', none⟩) (by kernel_rfl) (by kernel_rfl) (fun _ _ d _ _ h => by cases d <;> exact h) ⟨(by (first | omega | (simp; done) | (simp; omega))), fun _ _ _ => rfl⟩ ?_
    have hS0 : w.heap.size + 3 ≤ W.drew.heap.size ∧ ∀ b' o', b' < w.heap.size + 3 → W.drew.cell? ⟨b', o', none⟩ = W.cell? ⟨b', o', none⟩ := ⟨(by (first | omega | (simp; done) | (simp; omega))), fun _ _ _ => rfl⟩
    repeat (first | (refine seq_read rfl (by rfl) _ (fun w' hS => by (try dsimp only at hS); go_simp; (try with_reducible rfl)) ?_; (try simp only [Act.put, List.setIfInBounds_toArray, List.set_cons_zero, List.set_cons_succ])) | (refine seq_skip rfl (by rfl) ?_; (try simp only [Act.put, List.setIfInBounds_toArray, List.set_cons_zero, List.set_cons_succ])))
    (refine seq_do rfl (by rfl) (fun K hK => ?_); go_simp)
    refine (has_any _ _ _ _).mono ?_
    rw [H1.out]
    rintro e w1 ⟨rfl, hb1⟩
    refine hK _ _ (keepS hb1 hS0) ?_
    have hS1 := keepS hb1 hS0
    clear hK K
    repeat (first | (refine seq_read rfl (by rfl) _ (fun w' hS => by (try dsimp only at hS); go_simp; (try with_reducible rfl)) ?_; (try simp only [Act.put, List.setIfInBounds_toArray, List.set_cons_zero, List.set_cons_succ])) | (refine seq_skip rfl (by rfl) ?_; (try simp only [Act.put, List.setIfInBounds_toArray, List.set_cons_zero, List.set_cons_succ])))
    (refine seq_do rfl (by rfl) (fun K hK => ?_); go_simp)
    subst hn
    refine (every_any _ _ _ _ _ _ hl (HX.out.below (Nat.le_refl _) (by (repeat (first | assumption | exact Below.refl _ _ | refine BA ?_ _ | refine BC ?_ _ _ (by omega) _ | refine Below.drew ?_ | refine BT ?_ (by assumption)))))).mono ?_
    rw [H2.out]
    rintro e w2 ⟨rfl, hb2⟩
    refine hK _ _ (keepS hb2 hS1) ?_
    have hS2 := keepS hb2 hS1
    clear hK K
    repeat (first | (refine seq_read rfl (by rfl) _ (fun w' hS => by (try dsimp only at hS); go_simp; (try with_reducible rfl)) ?_; (try simp only [Act.put, List.setIfInBounds_toArray, List.set_cons_zero, List.set_cons_succ])) | (refine seq_skip rfl (by rfl) ?_; (try simp only [Act.put, List.setIfInBounds_toArray, List.set_cons_zero, List.set_cons_succ])))
    apply seq_end
    go_wp2
    go_ret
    exact ⟨by rw [he.out]; rfl, by (repeat (first | assumption | exact Below.refl _ _ | refine BA ?_ _ | refine BC ?_ _ _ (by omega) _ | refine Below.drew ?_ | refine BT ?_ (by assumption)))⟩
set_option maxHeartbeats 1000000 in
theorem valid_c (a : Option Addr) (xs : List (Int × Int)) (cap : Nat) (eLo eHi : Int) (w : World) (hl : xs.length ≤ 9223372036854775807) (hx : Spans w a xs) (h1 : holdB 1 40 xs.length xs.length = true) (h2 : evB (-100) 100 xs = true) :
    Calls Tryz.prog 57 #[.agg #[.slice a xs.length cap, .int .i64 eLo, .int .i64 eHi]] w (Ret (.bool (validB xs eLo eHi)) w) := by
    have he : Hid (validB xs eLo eHi = holdB (-100) 100 eLo eHi) := by show _ = _; simp [validB, h1, h2]
    have H1 := Lib.hid h1; clear h1
    have H2 := Lib.hid h2; clear h2
    have HX := Lib.hid hx; clear hx
    generalize hn : xs.length = n at *
    have HN := Lib.hid hn
    go_enter Tryz.func57, Tryz.ntmps57
    go_wp2_with fail
    obtain ⟨W, hW⟩ : ∃ W, ((w.alloc (Obj.cells #[Value.slice a n cap, Value.int IntKind.i64 eLo, Value.int IntKind.i64 eHi] 26)).alloc (Obj.cells #[Value.int IntKind.i64 1, Value.int IntKind.i64 40] 90)).alloc (Obj.cells #[Value.int IntKind.i64 (-100), Value.int IntKind.i64 100] 90) = W := ⟨_, rfl⟩
    have s0 : W.heap.size = w.heap.size + 3 := by rw [← hW]; simp
    have c0 : W.cell? ⟨w.heap.size, 0, none⟩ = some (.slice a n cap) := by rw [← hW]; simp [go_sem]
    have c1 : W.cell? ⟨w.heap.size, 1, none⟩ = some (.int .i64 eLo) := by rw [← hW]; simp [go_sem]
    have c2 : W.cell? ⟨w.heap.size, 2, none⟩ = some (.int .i64 eHi) := by rw [← hW]; simp [go_sem]
    have c3 : W.cell? ⟨w.heap.size + 1, 0, none⟩ = some (.int .i64 1) := by rw [← hW]; simp [go_sem]
    have c4 : W.cell? ⟨w.heap.size + 1, 1, none⟩ = some (.int .i64 40) := by rw [← hW]; simp [go_sem]
    have c5 : W.cell? ⟨w.heap.size + 2, 0, none⟩ = some (.int .i64 (-100)) := by rw [← hW]; simp [go_sem]
    have c6 : W.cell? ⟨w.heap.size + 2, 1, none⟩ = some (.int .i64 100) := by rw [← hW]; simp [go_sem]
    have hBW : Below w.heap.size w W := by rw [← hW]; (repeat (first | assumption | exact Below.refl _ _ | refine BA ?_ _ | refine BC ?_ _ _ (by omega) _ | refine Below.drew ?_ | refine BT ?_ (by assumption)))
    rw [hW]
    refine wp_region_seq [(0, true), (1, true), (2, true), (3, true), (4, false), (5, true), (6, true), (7, true), (8, true), (9, true), (10, false), (11, true), (12, true), (13, true), (14, true), (15, true), (16, false), (17, false), (18, true), (19, true)]
      (fun w' => w.heap.size + 3 ≤ w'.heap.size ∧ ∀ b' o', b' < w.heap.size + 3 → w'.cell? ⟨b', o', none⟩ = W.cell? ⟨b', o', none⟩) (by kernel_rfl) (by kernel_rfl) (fun _ _ d _ _ h => by cases d <;> exact h) ⟨(by (first | omega | (simp; done) | (simp; omega))), fun _ _ _ => rfl⟩ ?_
    have hS0 : w.heap.size + 3 ≤ W.drew.heap.size ∧ ∀ b' o', b' < w.heap.size + 3 → W.drew.cell? ⟨b', o', none⟩ = W.cell? ⟨b', o', none⟩ := ⟨(by (first | omega | (simp; done) | (simp; omega))), fun _ _ _ => rfl⟩
    repeat (first | (refine seq_read rfl (by rfl) _ (fun w' hS => by (try dsimp only at hS); go_simp; (try with_reducible rfl)) ?_; (try simp only [Act.put, List.setIfInBounds_toArray, List.set_cons_zero, List.set_cons_succ])) | (refine seq_skip rfl (by rfl) ?_; (try simp only [Act.put, List.setIfInBounds_toArray, List.set_cons_zero, List.set_cons_succ])))
    (refine seq_do rfl (by rfl) (fun K hK => ?_); go_simp)
    refine (has_any _ _ _ _).mono ?_
    rw [H1.out]
    rintro e w1 ⟨rfl, hb1⟩
    refine hK _ _ (keepS hb1 hS0) ?_
    have hS1 := keepS hb1 hS0
    clear hK K
    repeat (first | (refine seq_read rfl (by rfl) _ (fun w' hS => by (try dsimp only at hS); go_simp; (try with_reducible rfl)) ?_; (try simp only [Act.put, List.setIfInBounds_toArray, List.set_cons_zero, List.set_cons_succ])) | (refine seq_skip rfl (by rfl) ?_; (try simp only [Act.put, List.setIfInBounds_toArray, List.set_cons_zero, List.set_cons_succ])))
    (refine seq_do rfl (by rfl) (fun K hK => ?_); go_simp)
    subst hn
    refine (every_any _ _ _ _ _ _ hl (HX.out.below (Nat.le_refl _) (by (repeat (first | assumption | exact Below.refl _ _ | refine BA ?_ _ | refine BC ?_ _ _ (by omega) _ | refine Below.drew ?_ | refine BT ?_ (by assumption)))))).mono ?_
    rw [H2.out]
    rintro e w2 ⟨rfl, hb2⟩
    refine hK _ _ (keepS hb2 hS1) ?_
    have hS2 := keepS hb2 hS1
    clear hK K
    repeat (first | (refine seq_read rfl (by rfl) _ (fun w' hS => by (try dsimp only at hS); go_simp; (try with_reducible rfl)) ?_; (try simp only [Act.put, List.setIfInBounds_toArray, List.set_cons_zero, List.set_cons_succ])) | (refine seq_skip rfl (by rfl) ?_; (try simp only [Act.put, List.setIfInBounds_toArray, List.set_cons_zero, List.set_cons_succ])))
    (refine seq_do rfl (by rfl) (fun K hK => ?_); go_simp)
    refine (known_any _ _ _).mono ?_
    rintro e w3 ⟨rfl, hb3⟩
    refine hK _ _ (keepS hb3 hS2) ?_
    have hS3 := keepS hb3 hS2
    clear hK K
    repeat (first | (refine seq_read rfl (by rfl) _ (fun w' hS => by (try dsimp only at hS); go_simp; (try with_reducible rfl)) ?_; (try simp only [Act.put, List.setIfInBounds_toArray, List.set_cons_zero, List.set_cons_succ])) | (refine seq_skip rfl (by rfl) ?_; (try simp only [Act.put, List.setIfInBounds_toArray, List.set_cons_zero, List.set_cons_succ])))
    (refine seq_do rfl (by rfl) (fun K hK => ?_); go_simp)
    refine (hold_any _ _ _ _ _).mono ?_
    rintro e w4 ⟨rfl, hb4⟩
    refine hK _ _ (keepS hb4 hS3) ?_
    have hS4 := keepS hb4 hS3
    clear hK K
    repeat (first | (refine seq_read rfl (by rfl) _ (fun w' hS => by (try dsimp only at hS); go_simp; (try with_reducible rfl)) ?_; (try simp only [Act.put, List.setIfInBounds_toArray, List.set_cons_zero, List.set_cons_succ])) | (refine seq_skip rfl (by rfl) ?_; (try simp only [Act.put, List.setIfInBounds_toArray, List.set_cons_zero, List.set_cons_succ])))
    apply seq_end
    go_wp2
    go_ret
    exact ⟨by rw [he.out]; rfl, by (repeat (first | assumption | exact Below.refl _ _ | refine BA ?_ _ | refine BC ?_ _ _ (by omega) _ | refine Below.drew ?_ | refine BT ?_ (by assumption)))⟩
theorem valid_any (a : Option Addr) (xs : List (Int × Int)) (cap : Nat) (eLo eHi : Int) (w : World) (hl : xs.length ≤ 9223372036854775807) (hx : Spans w a xs) :
    Calls Tryz.prog 57 #[.agg #[.slice a xs.length cap, .int .i64 eLo, .int .i64 eHi]] w (Ret (.bool (validB xs eLo eHi)) w) := by
  cases h1 : holdB 1 40 xs.length xs.length
  · exact valid_a a xs cap eLo eHi w h1
  · cases h2 : evB (-100) 100 xs
    · exact valid_b a xs cap eLo eHi w hl hx h1 h2
    · exact valid_c a xs cap eLo eHi w hl hx h1 h2
end Go.Proofs.YtcfjakifeihbpaaGreat

/- Whether a measure is valid. -/
namespace Go.Proofs.YtcfjakifeihbpaaGreat
open Go.RowKit

/-- At a lie settings, one after the other: image, reading, reversed. -/
def Setts (w : World) (a : Option Addr) (ss : List (Int × Int × Bool)) : Prop :=
  ss = [] ∨ ∃ b o, a = some ⟨b, o, none⟩ ∧ b < w.heap.size ∧ ∀ k, k < ss.length → w.cell? ⟨b, o + k * 3, none⟩ = some (.int .i64 (ss.getD k (0, 0, false)).1) ∧
    w.cell? ⟨b, o + k * 3 + 1, none⟩ = some (.int .i64 (ss.getD k (0, 0, false)).2.1) ∧ w.cell? ⟨b, o + k * 3 + 2, none⟩ = some (.bool (ss.getD k (0, 0, false)).2.2) ∧
    (ss.getD k (0, 0, false)).2.1 ≤ 9223372036854775807
theorem Setts.below {w w' : World} {a : Option Addr} {ss : List (Int × Int × Bool)} (h : Setts w a ss) {M : Nat} (hM : w.heap.size ≤ M) (hb : Below M w w') : Setts w' a ss := by
  rcases h with h | ⟨b, o, h1, h2, h3⟩
  · exact .inl h
  · have hs := hb.size
    exact .inr ⟨b, o, h1, by omega, fun k hk => by
      rw [hb.cell (p := ⟨b, o + k * 3, none⟩) (by show b < M; omega), hb.cell (p := ⟨b, o + k * 3 + 1, none⟩) (by show b < M; omega), hb.cell (p := ⟨b, o + k * 3 + 2, none⟩) (by show b < M; omega)]; exact h3 k hk⟩

theorem bcell {W w1 : World} (hb : Below W.heap.size W w1) : (∀ b o, b < W.heap.size → w1.cell? ⟨b, o, none⟩ = W.cell? ⟨b, o, none⟩) ∧ (∀ b o, b < W.heap.size → w1.frozen? ⟨b, o, none⟩ = W.frozen? ⟨b, o, none⟩) :=
  ⟨fun b o h => hb.cell (p := ⟨b, o, none⟩) h, fun b o h => hb.frozen (p := ⟨b, o, none⟩) h⟩
/-- One setting has an image, and a turn. -/
def setB (turns : Nat) (images : Int) (s : Int × Int × Bool) : Bool := isImg images s.1 && hasTrn turns s.2.1
def setsB (turns : Nat) (images : Int) (ss : List (Int × Int × Bool)) : Bool := ss.all (setB turns images)
theorem setsB_no {t : Nat} {im : Int} {ss : List (Int × Int × Bool)} {k : Nat} (hk : k < ss.length) (h : setB t im (ss.getD k (0, 0, false)) = false) : setsB t im ss = false := by
  unfold setsB
  rw [List.all_eq_false]
  refine ⟨ss[k], List.getElem_mem hk, ?_⟩
  have e : ss.getD k (0, 0, false) = ss[k] := by simp [List.getD, hk]
  rw [e] at h
  simp [h]
theorem setsB_snoc {t : Nat} {im : Int} {ss : List (Int × Int × Bool)} {k : Nat} (hk : k < ss.length) (h : setsB t im (ss.take k) = true) (h' : setB t im (ss.getD k (0, 0, false)) = true) : setsB t im (ss.take (k + 1)) = true := by
  unfold setsB at *
  have e : ss.getD k (0, 0, false) = ss[k] := by simp [List.getD, hk]
  rw [e] at h'
  rw [List.take_succ_eq_append_getElem hk, List.all_append, h]
  simp [h']
def headB (xs : List (Int × Int)) (eLo eHi images sLo sHi : Int) (n : Nat) : Bool := validB xs eLo eHi && holdB 1 6 images images && holdB 0 131072 sLo sHi && decide (n ≤ 12)
def validM (xs : List (Int × Int)) (eLo eHi images sLo sHi : Int) (ss : List (Int × Int × Bool)) : Bool := headB xs eLo eHi images sLo sHi ss.length && setsB xs.length images ss

set_option maxHeartbeats 1000000 in
theorem validM_a (a sa : Option Addr) (xs : List (Int × Int)) (ss : List (Int × Int × Bool)) (cap scap : Nat) (eLo eHi images sLo sHi : Int) (w : World) (hl : xs.length ≤ 9223372036854775807) (hx : Spans w a xs) (hls : ss.length ≤ 9223372036854775807) (h1 : validB xs eLo eHi = false) :
    Calls Tryz.prog 72 #[.agg #[.slice a xs.length cap, .int .i64 eLo, .int .i64 eHi, .int .i64 images, .int .i64 sLo, .int .i64 sHi, .slice sa ss.length scap]] w (Ret (.bool (validM xs eLo eHi images sLo sHi ss)) w) := by
    have he : Hid (validM xs eLo eHi images sLo sHi ss = false) := by show _ = _; simp [validM, headB, h1]
    have H1 := Lib.hid h1; clear h1
    have HX := Lib.hid hx; clear hx
    have HL := Lib.hid hl; clear hl
    have HLS := Lib.hid hls
    generalize hn : xs.length = n at *
    generalize hns : ss.length = ns at *
    have HN := Lib.hid hn; clear hn
    have HNS := Lib.hid hns; clear hns
    go_enter Tryz.func72, Tryz.ntmps72
    go_wp2_with fail
    obtain ⟨W, hW⟩ : ∃ W, ((w.alloc (Obj.cells #[Value.slice a n cap, Value.int IntKind.i64 eLo, Value.int IntKind.i64 eHi, Value.int IntKind.i64 images, Value.int IntKind.i64 sLo, Value.int IntKind.i64 sHi, Value.slice sa ns scap] 34)).alloc (Obj.cells #[Value.int IntKind.i64 1, Value.int IntKind.i64 6] 90)).alloc (Obj.cells #[Value.int IntKind.i64 0, Value.int IntKind.i64 131072] 90) = W := ⟨_, rfl⟩
    have s0 : W.heap.size = w.heap.size + 3 := by rw [← hW]; simp
    have c0_0 : W.cell? ⟨w.heap.size, 0, none⟩ = some (Value.slice a n cap) := by rw [← hW]; simp [go_sem]
    have c0_1 : W.cell? ⟨w.heap.size, 1, none⟩ = some (Value.int IntKind.i64 eLo) := by rw [← hW]; simp [go_sem]
    have c0_2 : W.cell? ⟨w.heap.size, 2, none⟩ = some (Value.int IntKind.i64 eHi) := by rw [← hW]; simp [go_sem]
    have c0_3 : W.cell? ⟨w.heap.size, 3, none⟩ = some (Value.int IntKind.i64 images) := by rw [← hW]; simp [go_sem]
    have c0_4 : W.cell? ⟨w.heap.size, 4, none⟩ = some (Value.int IntKind.i64 sLo) := by rw [← hW]; simp [go_sem]
    have c0_5 : W.cell? ⟨w.heap.size, 5, none⟩ = some (Value.int IntKind.i64 sHi) := by rw [← hW]; simp [go_sem]
    have c0_6 : W.cell? ⟨w.heap.size, 6, none⟩ = some (Value.slice sa ns scap) := by rw [← hW]; simp [go_sem]
    have c1_0 : W.cell? ⟨w.heap.size + 1, 0, none⟩ = some (Value.int IntKind.i64 1) := by rw [← hW]; simp [go_sem]
    have c1_1 : W.cell? ⟨w.heap.size + 1, 1, none⟩ = some (Value.int IntKind.i64 6) := by rw [← hW]; simp [go_sem]
    have c2_0 : W.cell? ⟨w.heap.size + 2, 0, none⟩ = some (Value.int IntKind.i64 0) := by rw [← hW]; simp [go_sem]
    have c2_1 : W.cell? ⟨w.heap.size + 2, 1, none⟩ = some (Value.int IntKind.i64 131072) := by rw [← hW]; simp [go_sem]
    have hBW : Below w.heap.size w W := by rw [← hW]; (repeat (first | assumption | exact Below.refl _ _ | refine BA ?_ _ | refine BC ?_ _ _ (by omega) _ | refine Below.drew ?_ | refine BT ?_ (by assumption)))
    rw [hW]
    refine wp_region_seq [(0, true), (1, true), (2, false), (3, true), (4, true), (5, true), (6, true), (7, true), (8, false), (9, true), (10, true), (11, true), (12, true), (13, true), (14, true), (15, false), (16, false), (17, true), (18, true), (19, true), (20, true), (21, true), (22, true), (23, true), (24, true)]
      (fun w' => w.heap.size + 3 ≤ w'.heap.size ∧ ∀ b' o', b' < w.heap.size + 3 → w'.cell? ⟨b', o', none⟩ = W.cell? ⟨b', o', none⟩) (by kernel_rfl) (by kernel_rfl) (fun _ _ d _ _ h => by cases d <;> exact h) ⟨(by (first | omega | (simp; done) | (simp; omega))), fun _ _ _ => rfl⟩ ?_
    have hS0 : w.heap.size + 3 ≤ W.drew.heap.size ∧ ∀ b' o', b' < w.heap.size + 3 → W.drew.cell? ⟨b', o', none⟩ = W.cell? ⟨b', o', none⟩ := ⟨(by (first | omega | (simp; done) | (simp; omega))), fun _ _ _ => rfl⟩
    repeat (first | (refine seq_read rfl (by rfl) _ (fun w' hS => by (try dsimp only at hS); go_simp; (try with_reducible rfl)) ?_; (try simp only [Act.put, List.setIfInBounds_toArray, List.set_cons_zero, List.set_cons_succ])) | (refine seq_skip rfl (by rfl) ?_; (try simp only [Act.put, List.setIfInBounds_toArray, List.set_cons_zero, List.set_cons_succ])))
    (refine seq_do rfl (by rfl) (fun K hK => ?_); go_simp)
    have hNe := HN.out; subst hNe
    refine (valid_any _ _ _ _ _ _ HL.out (HX.out.below (Nat.le_refl _) (by (repeat (first | assumption | exact Below.refl _ _ | refine BA ?_ _ | refine BC ?_ _ _ (by omega) _ | refine Below.drew ?_ | refine BT ?_ (by assumption)))))).mono ?_
    rw [H1.out]
    rintro e w1 ⟨rfl, hb1⟩
    refine hK _ _ (keepS hb1 hS0) ?_
    have hS1 := keepS hb1 hS0
    clear hK K
    repeat (first | (refine seq_read rfl (by rfl) _ (fun w' hS => by (try dsimp only at hS); go_simp; (try with_reducible rfl)) ?_; (try simp only [Act.put, List.setIfInBounds_toArray, List.set_cons_zero, List.set_cons_succ])) | (refine seq_skip rfl (by rfl) ?_; (try simp only [Act.put, List.setIfInBounds_toArray, List.set_cons_zero, List.set_cons_succ])))
    apply seq_end
    go_wp2
    go_ret
    exact ⟨by rw [he.out]; rfl, by (repeat (first | assumption | exact Below.refl _ _ | refine BA ?_ _ | refine BC ?_ _ _ (by omega) _ | refine Below.drew ?_ | refine BT ?_ (by assumption)))⟩
set_option maxHeartbeats 1000000 in
theorem validM_b (a sa : Option Addr) (xs : List (Int × Int)) (ss : List (Int × Int × Bool)) (cap scap : Nat) (eLo eHi images sLo sHi : Int) (w : World) (hl : xs.length ≤ 9223372036854775807) (hx : Spans w a xs) (hls : ss.length ≤ 9223372036854775807) (h1 : validB xs eLo eHi = true) (h2 : holdB 1 6 images images = false) :
    Calls Tryz.prog 72 #[.agg #[.slice a xs.length cap, .int .i64 eLo, .int .i64 eHi, .int .i64 images, .int .i64 sLo, .int .i64 sHi, .slice sa ss.length scap]] w (Ret (.bool (validM xs eLo eHi images sLo sHi ss)) w) := by
    have he : Hid (validM xs eLo eHi images sLo sHi ss = false) := by show _ = _; simp [validM, headB, h2]
    have H1 := Lib.hid h1; clear h1
    have H2 := Lib.hid h2; clear h2
    have HX := Lib.hid hx; clear hx
    have HL := Lib.hid hl; clear hl
    have HLS := Lib.hid hls
    generalize hn : xs.length = n at *
    generalize hns : ss.length = ns at *
    have HN := Lib.hid hn; clear hn
    have HNS := Lib.hid hns; clear hns
    go_enter Tryz.func72, Tryz.ntmps72
    go_wp2_with fail
    obtain ⟨W, hW⟩ : ∃ W, ((w.alloc (Obj.cells #[Value.slice a n cap, Value.int IntKind.i64 eLo, Value.int IntKind.i64 eHi, Value.int IntKind.i64 images, Value.int IntKind.i64 sLo, Value.int IntKind.i64 sHi, Value.slice sa ns scap] 34)).alloc (Obj.cells #[Value.int IntKind.i64 1, Value.int IntKind.i64 6] 90)).alloc (Obj.cells #[Value.int IntKind.i64 0, Value.int IntKind.i64 131072] 90) = W := ⟨_, rfl⟩
    have s0 : W.heap.size = w.heap.size + 3 := by rw [← hW]; simp
    have c0_0 : W.cell? ⟨w.heap.size, 0, none⟩ = some (Value.slice a n cap) := by rw [← hW]; simp [go_sem]
    have c0_1 : W.cell? ⟨w.heap.size, 1, none⟩ = some (Value.int IntKind.i64 eLo) := by rw [← hW]; simp [go_sem]
    have c0_2 : W.cell? ⟨w.heap.size, 2, none⟩ = some (Value.int IntKind.i64 eHi) := by rw [← hW]; simp [go_sem]
    have c0_3 : W.cell? ⟨w.heap.size, 3, none⟩ = some (Value.int IntKind.i64 images) := by rw [← hW]; simp [go_sem]
    have c0_4 : W.cell? ⟨w.heap.size, 4, none⟩ = some (Value.int IntKind.i64 sLo) := by rw [← hW]; simp [go_sem]
    have c0_5 : W.cell? ⟨w.heap.size, 5, none⟩ = some (Value.int IntKind.i64 sHi) := by rw [← hW]; simp [go_sem]
    have c0_6 : W.cell? ⟨w.heap.size, 6, none⟩ = some (Value.slice sa ns scap) := by rw [← hW]; simp [go_sem]
    have c1_0 : W.cell? ⟨w.heap.size + 1, 0, none⟩ = some (Value.int IntKind.i64 1) := by rw [← hW]; simp [go_sem]
    have c1_1 : W.cell? ⟨w.heap.size + 1, 1, none⟩ = some (Value.int IntKind.i64 6) := by rw [← hW]; simp [go_sem]
    have c2_0 : W.cell? ⟨w.heap.size + 2, 0, none⟩ = some (Value.int IntKind.i64 0) := by rw [← hW]; simp [go_sem]
    have c2_1 : W.cell? ⟨w.heap.size + 2, 1, none⟩ = some (Value.int IntKind.i64 131072) := by rw [← hW]; simp [go_sem]
    have hBW : Below w.heap.size w W := by rw [← hW]; (repeat (first | assumption | exact Below.refl _ _ | refine BA ?_ _ | refine BC ?_ _ _ (by omega) _ | refine Below.drew ?_ | refine BT ?_ (by assumption)))
    rw [hW]
    refine wp_region_seq [(0, true), (1, true), (2, false), (3, true), (4, true), (5, true), (6, true), (7, true), (8, false), (9, true), (10, true), (11, true), (12, true), (13, true), (14, true), (15, false), (16, false), (17, true), (18, true), (19, true), (20, true), (21, true), (22, true), (23, true), (24, true)]
      (fun w' => w.heap.size + 3 ≤ w'.heap.size ∧ ∀ b' o', b' < w.heap.size + 3 → w'.cell? ⟨b', o', none⟩ = W.cell? ⟨b', o', none⟩) (by kernel_rfl) (by kernel_rfl) (fun _ _ d _ _ h => by cases d <;> exact h) ⟨(by (first | omega | (simp; done) | (simp; omega))), fun _ _ _ => rfl⟩ ?_
    have hS0 : w.heap.size + 3 ≤ W.drew.heap.size ∧ ∀ b' o', b' < w.heap.size + 3 → W.drew.cell? ⟨b', o', none⟩ = W.cell? ⟨b', o', none⟩ := ⟨(by (first | omega | (simp; done) | (simp; omega))), fun _ _ _ => rfl⟩
    repeat (first | (refine seq_read rfl (by rfl) _ (fun w' hS => by (try dsimp only at hS); go_simp; (try with_reducible rfl)) ?_; (try simp only [Act.put, List.setIfInBounds_toArray, List.set_cons_zero, List.set_cons_succ])) | (refine seq_skip rfl (by rfl) ?_; (try simp only [Act.put, List.setIfInBounds_toArray, List.set_cons_zero, List.set_cons_succ])))
    (refine seq_do rfl (by rfl) (fun K hK => ?_); go_simp)
    have hNe := HN.out; subst hNe
    refine (valid_any _ _ _ _ _ _ HL.out (HX.out.below (Nat.le_refl _) (by (repeat (first | assumption | exact Below.refl _ _ | refine BA ?_ _ | refine BC ?_ _ _ (by omega) _ | refine Below.drew ?_ | refine BT ?_ (by assumption)))))).mono ?_
    rw [H1.out]
    rintro e w1 ⟨rfl, hb1⟩
    refine hK _ _ (keepS hb1 hS0) ?_
    have hS1 := keepS hb1 hS0
    clear hK K
    repeat (first | (refine seq_read rfl (by rfl) _ (fun w' hS => by (try dsimp only at hS); go_simp; (try with_reducible rfl)) ?_; (try simp only [Act.put, List.setIfInBounds_toArray, List.set_cons_zero, List.set_cons_succ])) | (refine seq_skip rfl (by rfl) ?_; (try simp only [Act.put, List.setIfInBounds_toArray, List.set_cons_zero, List.set_cons_succ])))
    (refine seq_do rfl (by rfl) (fun K hK => ?_); go_simp)
    refine (has_any _ _ _ _).mono ?_
    rw [H2.out]
    rintro e w2 ⟨rfl, hb2⟩
    refine hK _ _ (keepS hb2 hS1) ?_
    have hS2 := keepS hb2 hS1
    clear hK K
    repeat (first | (refine seq_read rfl (by rfl) _ (fun w' hS => by (try dsimp only at hS); go_simp; (try with_reducible rfl)) ?_; (try simp only [Act.put, List.setIfInBounds_toArray, List.set_cons_zero, List.set_cons_succ])) | (refine seq_skip rfl (by rfl) ?_; (try simp only [Act.put, List.setIfInBounds_toArray, List.set_cons_zero, List.set_cons_succ])))
    apply seq_end
    go_wp2
    go_ret
    exact ⟨by rw [he.out]; rfl, by (repeat (first | assumption | exact Below.refl _ _ | refine BA ?_ _ | refine BC ?_ _ _ (by omega) _ | refine Below.drew ?_ | refine BT ?_ (by assumption)))⟩
set_option maxHeartbeats 1000000 in
theorem validM_c (a sa : Option Addr) (xs : List (Int × Int)) (ss : List (Int × Int × Bool)) (cap scap : Nat) (eLo eHi images sLo sHi : Int) (w : World) (hl : xs.length ≤ 9223372036854775807) (hx : Spans w a xs) (hls : ss.length ≤ 9223372036854775807) (h1 : validB xs eLo eHi = true) (h2 : holdB 1 6 images images = true) (h4 : holdB 0 131072 sLo sHi = false) :
    Calls Tryz.prog 72 #[.agg #[.slice a xs.length cap, .int .i64 eLo, .int .i64 eHi, .int .i64 images, .int .i64 sLo, .int .i64 sHi, .slice sa ss.length scap]] w (Ret (.bool (validM xs eLo eHi images sLo sHi ss)) w) := by
    have he : Hid (validM xs eLo eHi images sLo sHi ss = false) := by show _ = _; simp [validM, headB, h4]
    have H1 := Lib.hid h1; clear h1
    have H2 := Lib.hid h2; clear h2
    have H4 := Lib.hid h4; clear h4
    have HX := Lib.hid hx; clear hx
    have HL := Lib.hid hl; clear hl
    have HLS := Lib.hid hls
    generalize hn : xs.length = n at *
    generalize hns : ss.length = ns at *
    have HN := Lib.hid hn; clear hn
    have HNS := Lib.hid hns; clear hns
    go_enter Tryz.func72, Tryz.ntmps72
    go_wp2_with fail
    obtain ⟨W, hW⟩ : ∃ W, ((w.alloc (Obj.cells #[Value.slice a n cap, Value.int IntKind.i64 eLo, Value.int IntKind.i64 eHi, Value.int IntKind.i64 images, Value.int IntKind.i64 sLo, Value.int IntKind.i64 sHi, Value.slice sa ns scap] 34)).alloc (Obj.cells #[Value.int IntKind.i64 1, Value.int IntKind.i64 6] 90)).alloc (Obj.cells #[Value.int IntKind.i64 0, Value.int IntKind.i64 131072] 90) = W := ⟨_, rfl⟩
    have s0 : W.heap.size = w.heap.size + 3 := by rw [← hW]; simp
    have c0_0 : W.cell? ⟨w.heap.size, 0, none⟩ = some (Value.slice a n cap) := by rw [← hW]; simp [go_sem]
    have c0_1 : W.cell? ⟨w.heap.size, 1, none⟩ = some (Value.int IntKind.i64 eLo) := by rw [← hW]; simp [go_sem]
    have c0_2 : W.cell? ⟨w.heap.size, 2, none⟩ = some (Value.int IntKind.i64 eHi) := by rw [← hW]; simp [go_sem]
    have c0_3 : W.cell? ⟨w.heap.size, 3, none⟩ = some (Value.int IntKind.i64 images) := by rw [← hW]; simp [go_sem]
    have c0_4 : W.cell? ⟨w.heap.size, 4, none⟩ = some (Value.int IntKind.i64 sLo) := by rw [← hW]; simp [go_sem]
    have c0_5 : W.cell? ⟨w.heap.size, 5, none⟩ = some (Value.int IntKind.i64 sHi) := by rw [← hW]; simp [go_sem]
    have c0_6 : W.cell? ⟨w.heap.size, 6, none⟩ = some (Value.slice sa ns scap) := by rw [← hW]; simp [go_sem]
    have c1_0 : W.cell? ⟨w.heap.size + 1, 0, none⟩ = some (Value.int IntKind.i64 1) := by rw [← hW]; simp [go_sem]
    have c1_1 : W.cell? ⟨w.heap.size + 1, 1, none⟩ = some (Value.int IntKind.i64 6) := by rw [← hW]; simp [go_sem]
    have c2_0 : W.cell? ⟨w.heap.size + 2, 0, none⟩ = some (Value.int IntKind.i64 0) := by rw [← hW]; simp [go_sem]
    have c2_1 : W.cell? ⟨w.heap.size + 2, 1, none⟩ = some (Value.int IntKind.i64 131072) := by rw [← hW]; simp [go_sem]
    have hBW : Below w.heap.size w W := by rw [← hW]; (repeat (first | assumption | exact Below.refl _ _ | refine BA ?_ _ | refine BC ?_ _ _ (by omega) _ | refine Below.drew ?_ | refine BT ?_ (by assumption)))
    rw [hW]
    refine wp_region_seq [(0, true), (1, true), (2, false), (3, true), (4, true), (5, true), (6, true), (7, true), (8, false), (9, true), (10, true), (11, true), (12, true), (13, true), (14, true), (15, false), (16, false), (17, true), (18, true), (19, true), (20, true), (21, true), (22, true), (23, true), (24, true)]
      (fun w' => w.heap.size + 3 ≤ w'.heap.size ∧ ∀ b' o', b' < w.heap.size + 3 → w'.cell? ⟨b', o', none⟩ = W.cell? ⟨b', o', none⟩) (by kernel_rfl) (by kernel_rfl) (fun _ _ d _ _ h => by cases d <;> exact h) ⟨(by (first | omega | (simp; done) | (simp; omega))), fun _ _ _ => rfl⟩ ?_
    have hS0 : w.heap.size + 3 ≤ W.drew.heap.size ∧ ∀ b' o', b' < w.heap.size + 3 → W.drew.cell? ⟨b', o', none⟩ = W.cell? ⟨b', o', none⟩ := ⟨(by (first | omega | (simp; done) | (simp; omega))), fun _ _ _ => rfl⟩
    repeat (first | (refine seq_read rfl (by rfl) _ (fun w' hS => by (try dsimp only at hS); go_simp; (try with_reducible rfl)) ?_; (try simp only [Act.put, List.setIfInBounds_toArray, List.set_cons_zero, List.set_cons_succ])) | (refine seq_skip rfl (by rfl) ?_; (try simp only [Act.put, List.setIfInBounds_toArray, List.set_cons_zero, List.set_cons_succ])))
    (refine seq_do rfl (by rfl) (fun K hK => ?_); go_simp)
    have hNe := HN.out; subst hNe
    refine (valid_any _ _ _ _ _ _ HL.out (HX.out.below (Nat.le_refl _) (by (repeat (first | assumption | exact Below.refl _ _ | refine BA ?_ _ | refine BC ?_ _ _ (by omega) _ | refine Below.drew ?_ | refine BT ?_ (by assumption)))))).mono ?_
    rw [H1.out]
    rintro e w1 ⟨rfl, hb1⟩
    refine hK _ _ (keepS hb1 hS0) ?_
    have hS1 := keepS hb1 hS0
    clear hK K
    repeat (first | (refine seq_read rfl (by rfl) _ (fun w' hS => by (try dsimp only at hS); go_simp; (try with_reducible rfl)) ?_; (try simp only [Act.put, List.setIfInBounds_toArray, List.set_cons_zero, List.set_cons_succ])) | (refine seq_skip rfl (by rfl) ?_; (try simp only [Act.put, List.setIfInBounds_toArray, List.set_cons_zero, List.set_cons_succ])))
    (refine seq_do rfl (by rfl) (fun K hK => ?_); go_simp)
    refine (has_any _ _ _ _).mono ?_
    rw [H2.out]
    rintro e w2 ⟨rfl, hb2⟩
    refine hK _ _ (keepS hb2 hS1) ?_
    have hS2 := keepS hb2 hS1
    clear hK K
    repeat (first | (refine seq_read rfl (by rfl) _ (fun w' hS => by (try dsimp only at hS); go_simp; (try with_reducible rfl)) ?_; (try simp only [Act.put, List.setIfInBounds_toArray, List.set_cons_zero, List.set_cons_succ])) | (refine seq_skip rfl (by rfl) ?_; (try simp only [Act.put, List.setIfInBounds_toArray, List.set_cons_zero, List.set_cons_succ])))
    (refine seq_do rfl (by rfl) (fun K hK => ?_); go_simp)
    refine (known_any _ _ _).mono ?_
    rintro e w3 ⟨rfl, hb3⟩
    refine hK _ _ (keepS hb3 hS2) ?_
    have hS3 := keepS hb3 hS2
    clear hK K
    repeat (first | (refine seq_read rfl (by rfl) _ (fun w' hS => by (try dsimp only at hS); go_simp; (try with_reducible rfl)) ?_; (try simp only [Act.put, List.setIfInBounds_toArray, List.set_cons_zero, List.set_cons_succ])) | (refine seq_skip rfl (by rfl) ?_; (try simp only [Act.put, List.setIfInBounds_toArray, List.set_cons_zero, List.set_cons_succ])))
    (refine seq_do rfl (by rfl) (fun K hK => ?_); go_simp)
    refine (hold_any _ _ _ _ _).mono ?_
    rw [H4.out]
    rintro e w4 ⟨rfl, hb4⟩
    refine hK _ _ (keepS hb4 hS3) ?_
    have hS4 := keepS hb4 hS3
    clear hK K
    repeat (first | (refine seq_read rfl (by rfl) _ (fun w' hS => by (try dsimp only at hS); go_simp; (try with_reducible rfl)) ?_; (try simp only [Act.put, List.setIfInBounds_toArray, List.set_cons_zero, List.set_cons_succ])) | (refine seq_skip rfl (by rfl) ?_; (try simp only [Act.put, List.setIfInBounds_toArray, List.set_cons_zero, List.set_cons_succ])))
    apply seq_end
    go_wp2
    go_ret
    exact ⟨by rw [he.out]; rfl, by (repeat (first | assumption | exact Below.refl _ _ | refine BA ?_ _ | refine BC ?_ _ _ (by omega) _ | refine Below.drew ?_ | refine BT ?_ (by assumption)))⟩
set_option maxHeartbeats 1000000 in
theorem validM_d (a sa : Option Addr) (xs : List (Int × Int)) (ss : List (Int × Int × Bool)) (cap scap : Nat) (eLo eHi images sLo sHi : Int) (w : World) (hl : xs.length ≤ 9223372036854775807) (hx : Spans w a xs) (hls : ss.length ≤ 9223372036854775807) (h1 : validB xs eLo eHi = true) (h2 : holdB 1 6 images images = true) (h4 : holdB 0 131072 sLo sHi = true) (h5 : 12 < ss.length) :
    Calls Tryz.prog 72 #[.agg #[.slice a xs.length cap, .int .i64 eLo, .int .i64 eHi, .int .i64 images, .int .i64 sLo, .int .i64 sHi, .slice sa ss.length scap]] w (Ret (.bool (validM xs eLo eHi images sLo sHi ss)) w) := by
    have h5n : ¬ ss.length ≤ 12 := by omega
    have he : Hid (validM xs eLo eHi images sLo sHi ss = false) := by show _ = _; simp [validM, headB, h5n]
    clear h5n
    have h5i : (12 : Int) < (ss.length : Int) := by omega
    clear h5
    have H1 := Lib.hid h1; clear h1
    have H2 := Lib.hid h2; clear h2
    have H4 := Lib.hid h4; clear h4
    have HX := Lib.hid hx; clear hx
    have HL := Lib.hid hl; clear hl
    have HLS := Lib.hid hls
    generalize hn : xs.length = n at *
    generalize hns : ss.length = ns at *
    have HN := Lib.hid hn; clear hn
    have HNS := Lib.hid hns; clear hns
    go_enter Tryz.func72, Tryz.ntmps72
    go_wp2_with fail
    obtain ⟨W, hW⟩ : ∃ W, ((w.alloc (Obj.cells #[Value.slice a n cap, Value.int IntKind.i64 eLo, Value.int IntKind.i64 eHi, Value.int IntKind.i64 images, Value.int IntKind.i64 sLo, Value.int IntKind.i64 sHi, Value.slice sa ns scap] 34)).alloc (Obj.cells #[Value.int IntKind.i64 1, Value.int IntKind.i64 6] 90)).alloc (Obj.cells #[Value.int IntKind.i64 0, Value.int IntKind.i64 131072] 90) = W := ⟨_, rfl⟩
    have s0 : W.heap.size = w.heap.size + 3 := by rw [← hW]; simp
    have c0_0 : W.cell? ⟨w.heap.size, 0, none⟩ = some (Value.slice a n cap) := by rw [← hW]; simp [go_sem]
    have c0_1 : W.cell? ⟨w.heap.size, 1, none⟩ = some (Value.int IntKind.i64 eLo) := by rw [← hW]; simp [go_sem]
    have c0_2 : W.cell? ⟨w.heap.size, 2, none⟩ = some (Value.int IntKind.i64 eHi) := by rw [← hW]; simp [go_sem]
    have c0_3 : W.cell? ⟨w.heap.size, 3, none⟩ = some (Value.int IntKind.i64 images) := by rw [← hW]; simp [go_sem]
    have c0_4 : W.cell? ⟨w.heap.size, 4, none⟩ = some (Value.int IntKind.i64 sLo) := by rw [← hW]; simp [go_sem]
    have c0_5 : W.cell? ⟨w.heap.size, 5, none⟩ = some (Value.int IntKind.i64 sHi) := by rw [← hW]; simp [go_sem]
    have c0_6 : W.cell? ⟨w.heap.size, 6, none⟩ = some (Value.slice sa ns scap) := by rw [← hW]; simp [go_sem]
    have c1_0 : W.cell? ⟨w.heap.size + 1, 0, none⟩ = some (Value.int IntKind.i64 1) := by rw [← hW]; simp [go_sem]
    have c1_1 : W.cell? ⟨w.heap.size + 1, 1, none⟩ = some (Value.int IntKind.i64 6) := by rw [← hW]; simp [go_sem]
    have c2_0 : W.cell? ⟨w.heap.size + 2, 0, none⟩ = some (Value.int IntKind.i64 0) := by rw [← hW]; simp [go_sem]
    have c2_1 : W.cell? ⟨w.heap.size + 2, 1, none⟩ = some (Value.int IntKind.i64 131072) := by rw [← hW]; simp [go_sem]
    have hBW : Below w.heap.size w W := by rw [← hW]; (repeat (first | assumption | exact Below.refl _ _ | refine BA ?_ _ | refine BC ?_ _ _ (by omega) _ | refine Below.drew ?_ | refine BT ?_ (by assumption)))
    rw [hW]
    refine wp_region_seq [(0, true), (1, true), (2, false), (3, true), (4, true), (5, true), (6, true), (7, true), (8, false), (9, true), (10, true), (11, true), (12, true), (13, true), (14, true), (15, false), (16, false), (17, true), (18, true), (19, true), (20, true), (21, true), (22, true), (23, true), (24, true)]
      (fun w' => w.heap.size + 3 ≤ w'.heap.size ∧ ∀ b' o', b' < w.heap.size + 3 → w'.cell? ⟨b', o', none⟩ = W.cell? ⟨b', o', none⟩) (by kernel_rfl) (by kernel_rfl) (fun _ _ d _ _ h => by cases d <;> exact h) ⟨(by (first | omega | (simp; done) | (simp; omega))), fun _ _ _ => rfl⟩ ?_
    have hS0 : w.heap.size + 3 ≤ W.drew.heap.size ∧ ∀ b' o', b' < w.heap.size + 3 → W.drew.cell? ⟨b', o', none⟩ = W.cell? ⟨b', o', none⟩ := ⟨(by (first | omega | (simp; done) | (simp; omega))), fun _ _ _ => rfl⟩
    repeat (first | (refine seq_read rfl (by rfl) _ (fun w' hS => by (try dsimp only at hS); go_simp; (try with_reducible rfl)) ?_; (try simp only [Act.put, List.setIfInBounds_toArray, List.set_cons_zero, List.set_cons_succ])) | (refine seq_skip rfl (by rfl) ?_; (try simp only [Act.put, List.setIfInBounds_toArray, List.set_cons_zero, List.set_cons_succ])))
    (refine seq_do rfl (by rfl) (fun K hK => ?_); go_simp)
    have hNe := HN.out; subst hNe
    refine (valid_any _ _ _ _ _ _ HL.out (HX.out.below (Nat.le_refl _) (by (repeat (first | assumption | exact Below.refl _ _ | refine BA ?_ _ | refine BC ?_ _ _ (by omega) _ | refine Below.drew ?_ | refine BT ?_ (by assumption)))))).mono ?_
    rw [H1.out]
    rintro e w1 ⟨rfl, hb1⟩
    refine hK _ _ (keepS hb1 hS0) ?_
    have hS1 := keepS hb1 hS0
    clear hK K
    repeat (first | (refine seq_read rfl (by rfl) _ (fun w' hS => by (try dsimp only at hS); go_simp; (try with_reducible rfl)) ?_; (try simp only [Act.put, List.setIfInBounds_toArray, List.set_cons_zero, List.set_cons_succ])) | (refine seq_skip rfl (by rfl) ?_; (try simp only [Act.put, List.setIfInBounds_toArray, List.set_cons_zero, List.set_cons_succ])))
    (refine seq_do rfl (by rfl) (fun K hK => ?_); go_simp)
    refine (has_any _ _ _ _).mono ?_
    rw [H2.out]
    rintro e w2 ⟨rfl, hb2⟩
    refine hK _ _ (keepS hb2 hS1) ?_
    have hS2 := keepS hb2 hS1
    clear hK K
    repeat (first | (refine seq_read rfl (by rfl) _ (fun w' hS => by (try dsimp only at hS); go_simp; (try with_reducible rfl)) ?_; (try simp only [Act.put, List.setIfInBounds_toArray, List.set_cons_zero, List.set_cons_succ])) | (refine seq_skip rfl (by rfl) ?_; (try simp only [Act.put, List.setIfInBounds_toArray, List.set_cons_zero, List.set_cons_succ])))
    (refine seq_do rfl (by rfl) (fun K hK => ?_); go_simp)
    refine (known_any _ _ _).mono ?_
    rintro e w3 ⟨rfl, hb3⟩
    refine hK _ _ (keepS hb3 hS2) ?_
    have hS3 := keepS hb3 hS2
    clear hK K
    repeat (first | (refine seq_read rfl (by rfl) _ (fun w' hS => by (try dsimp only at hS); go_simp; (try with_reducible rfl)) ?_; (try simp only [Act.put, List.setIfInBounds_toArray, List.set_cons_zero, List.set_cons_succ])) | (refine seq_skip rfl (by rfl) ?_; (try simp only [Act.put, List.setIfInBounds_toArray, List.set_cons_zero, List.set_cons_succ])))
    (refine seq_do rfl (by rfl) (fun K hK => ?_); go_simp)
    refine (hold_any _ _ _ _ _).mono ?_
    rw [H4.out]
    rintro e w4 ⟨rfl, hb4⟩
    refine hK _ _ (keepS hb4 hS3) ?_
    have hS4 := keepS hb4 hS3
    clear hK K
    repeat (first | (refine seq_read rfl (by rfl) _ (fun w' hS => by (try dsimp only at hS); go_simp; (try with_reducible rfl)) ?_; (try simp only [Act.put, List.setIfInBounds_toArray, List.set_cons_zero, List.set_cons_succ])) | (refine seq_skip rfl (by rfl) ?_; (try simp only [Act.put, List.setIfInBounds_toArray, List.set_cons_zero, List.set_cons_succ])))
    apply seq_end
    go_wp2
    go_ret
    exact ⟨by rw [he.out]; rfl, by (repeat (first | assumption | exact Below.refl _ _ | refine BA ?_ _ | refine BC ?_ _ _ (by omega) _ | refine Below.drew ?_ | refine BT ?_ (by assumption)))⟩
set_option maxHeartbeats 1000000 in
theorem validM_e (a sa : Option Addr) (xs : List (Int × Int)) (ss : List (Int × Int × Bool)) (cap scap : Nat) (eLo eHi images sLo sHi : Int) (w : World) (hl : xs.length ≤ 9223372036854775807) (hx : Spans w a xs) (hls : ss.length ≤ 9223372036854775807) (hss : Setts w sa ss) (h1 : validB xs eLo eHi = true) (h2 : holdB 1 6 images images = true) (h4 : holdB 0 131072 sLo sHi = true) (h5 : ss.length ≤ 12) :
    Calls Tryz.prog 72 #[.agg #[.slice a xs.length cap, .int .i64 eLo, .int .i64 eHi, .int .i64 images, .int .i64 sLo, .int .i64 sHi, .slice sa ss.length scap]] w (Ret (.bool (validM xs eLo eHi images sLo sHi ss)) w) := by
    have he : Hid (validM xs eLo eHi images sLo sHi ss = setsB xs.length images ss) := by show _ = _; simp [validM, headB, h1, h2, h4, h5]
    have h5i : (ss.length : Int) ≤ (12 : Int) := by omega
    have HSS := Lib.hid hss; clear hss
    have H1 := Lib.hid h1; clear h1
    have H2 := Lib.hid h2; clear h2
    have H4 := Lib.hid h4; clear h4
    have HX := Lib.hid hx; clear hx
    have HL := Lib.hid hl; clear hl
    have HLS := Lib.hid hls
    generalize hn : xs.length = n at *
    generalize hns : ss.length = ns at *
    have HN := Lib.hid hn; clear hn
    have HNS := Lib.hid hns; clear hns
    go_enter Tryz.func72, Tryz.ntmps72
    go_wp2_with fail
    obtain ⟨W, hW⟩ : ∃ W, ((w.alloc (Obj.cells #[Value.slice a n cap, Value.int IntKind.i64 eLo, Value.int IntKind.i64 eHi, Value.int IntKind.i64 images, Value.int IntKind.i64 sLo, Value.int IntKind.i64 sHi, Value.slice sa ns scap] 34)).alloc (Obj.cells #[Value.int IntKind.i64 1, Value.int IntKind.i64 6] 90)).alloc (Obj.cells #[Value.int IntKind.i64 0, Value.int IntKind.i64 131072] 90) = W := ⟨_, rfl⟩
    have s0 : W.heap.size = w.heap.size + 3 := by rw [← hW]; simp
    have c0_0 : W.cell? ⟨w.heap.size, 0, none⟩ = some (Value.slice a n cap) := by rw [← hW]; simp [go_sem]
    have c0_1 : W.cell? ⟨w.heap.size, 1, none⟩ = some (Value.int IntKind.i64 eLo) := by rw [← hW]; simp [go_sem]
    have c0_2 : W.cell? ⟨w.heap.size, 2, none⟩ = some (Value.int IntKind.i64 eHi) := by rw [← hW]; simp [go_sem]
    have c0_3 : W.cell? ⟨w.heap.size, 3, none⟩ = some (Value.int IntKind.i64 images) := by rw [← hW]; simp [go_sem]
    have c0_4 : W.cell? ⟨w.heap.size, 4, none⟩ = some (Value.int IntKind.i64 sLo) := by rw [← hW]; simp [go_sem]
    have c0_5 : W.cell? ⟨w.heap.size, 5, none⟩ = some (Value.int IntKind.i64 sHi) := by rw [← hW]; simp [go_sem]
    have c0_6 : W.cell? ⟨w.heap.size, 6, none⟩ = some (Value.slice sa ns scap) := by rw [← hW]; simp [go_sem]
    have c1_0 : W.cell? ⟨w.heap.size + 1, 0, none⟩ = some (Value.int IntKind.i64 1) := by rw [← hW]; simp [go_sem]
    have c1_1 : W.cell? ⟨w.heap.size + 1, 1, none⟩ = some (Value.int IntKind.i64 6) := by rw [← hW]; simp [go_sem]
    have c2_0 : W.cell? ⟨w.heap.size + 2, 0, none⟩ = some (Value.int IntKind.i64 0) := by rw [← hW]; simp [go_sem]
    have c2_1 : W.cell? ⟨w.heap.size + 2, 1, none⟩ = some (Value.int IntKind.i64 131072) := by rw [← hW]; simp [go_sem]
    have hBW : Below w.heap.size w W := by rw [← hW]; (repeat (first | assumption | exact Below.refl _ _ | refine BA ?_ _ | refine BC ?_ _ _ (by omega) _ | refine Below.drew ?_ | refine BT ?_ (by assumption)))
    rw [hW]
    refine wp_region_seq [(0, true), (1, true), (2, false), (3, true), (4, true), (5, true), (6, true), (7, true), (8, false), (9, true), (10, true), (11, true), (12, true), (13, true), (14, true), (15, false), (16, false), (17, true), (18, true), (19, true), (20, true), (21, true), (22, true), (23, true), (24, true)]
      (fun w' => w.heap.size + 3 ≤ w'.heap.size ∧ ∀ b' o', b' < w.heap.size + 3 → w'.cell? ⟨b', o', none⟩ = W.cell? ⟨b', o', none⟩) (by kernel_rfl) (by kernel_rfl) (fun _ _ d _ _ h => by cases d <;> exact h) ⟨(by (first | omega | (simp; done) | (simp; omega))), fun _ _ _ => rfl⟩ ?_
    have hS0 : w.heap.size + 3 ≤ W.drew.heap.size ∧ ∀ b' o', b' < w.heap.size + 3 → W.drew.cell? ⟨b', o', none⟩ = W.cell? ⟨b', o', none⟩ := ⟨(by (first | omega | (simp; done) | (simp; omega))), fun _ _ _ => rfl⟩
    repeat (first | (refine seq_read rfl (by rfl) _ (fun w' hS => by (try dsimp only at hS); go_simp; (try with_reducible rfl)) ?_; (try simp only [Act.put, List.setIfInBounds_toArray, List.set_cons_zero, List.set_cons_succ])) | (refine seq_skip rfl (by rfl) ?_; (try simp only [Act.put, List.setIfInBounds_toArray, List.set_cons_zero, List.set_cons_succ])))
    (refine seq_do rfl (by rfl) (fun K hK => ?_); go_simp)
    have hNe := HN.out; subst hNe
    refine (valid_any _ _ _ _ _ _ HL.out (HX.out.below (Nat.le_refl _) (by (repeat (first | assumption | exact Below.refl _ _ | refine BA ?_ _ | refine BC ?_ _ _ (by omega) _ | refine Below.drew ?_ | refine BT ?_ (by assumption)))))).mono ?_
    rw [H1.out]
    rintro e w1 ⟨rfl, hb1⟩
    refine hK _ _ (keepS hb1 hS0) ?_
    have hS1 := keepS hb1 hS0
    clear hK K
    repeat (first | (refine seq_read rfl (by rfl) _ (fun w' hS => by (try dsimp only at hS); go_simp; (try with_reducible rfl)) ?_; (try simp only [Act.put, List.setIfInBounds_toArray, List.set_cons_zero, List.set_cons_succ])) | (refine seq_skip rfl (by rfl) ?_; (try simp only [Act.put, List.setIfInBounds_toArray, List.set_cons_zero, List.set_cons_succ])))
    (refine seq_do rfl (by rfl) (fun K hK => ?_); go_simp)
    refine (has_any _ _ _ _).mono ?_
    rw [H2.out]
    rintro e w2 ⟨rfl, hb2⟩
    refine hK _ _ (keepS hb2 hS1) ?_
    have hS2 := keepS hb2 hS1
    clear hK K
    repeat (first | (refine seq_read rfl (by rfl) _ (fun w' hS => by (try dsimp only at hS); go_simp; (try with_reducible rfl)) ?_; (try simp only [Act.put, List.setIfInBounds_toArray, List.set_cons_zero, List.set_cons_succ])) | (refine seq_skip rfl (by rfl) ?_; (try simp only [Act.put, List.setIfInBounds_toArray, List.set_cons_zero, List.set_cons_succ])))
    (refine seq_do rfl (by rfl) (fun K hK => ?_); go_simp)
    refine (known_any _ _ _).mono ?_
    rintro e w3 ⟨rfl, hb3⟩
    refine hK _ _ (keepS hb3 hS2) ?_
    have hS3 := keepS hb3 hS2
    clear hK K
    repeat (first | (refine seq_read rfl (by rfl) _ (fun w' hS => by (try dsimp only at hS); go_simp; (try with_reducible rfl)) ?_; (try simp only [Act.put, List.setIfInBounds_toArray, List.set_cons_zero, List.set_cons_succ])) | (refine seq_skip rfl (by rfl) ?_; (try simp only [Act.put, List.setIfInBounds_toArray, List.set_cons_zero, List.set_cons_succ])))
    (refine seq_do rfl (by rfl) (fun K hK => ?_); go_simp)
    refine (hold_any _ _ _ _ _).mono ?_
    rw [H4.out]
    rintro e w4 ⟨rfl, hb4⟩
    refine hK _ _ (keepS hb4 hS3) ?_
    have hS4 := keepS hb4 hS3
    clear hK K
    repeat (first | (refine seq_read rfl (by rfl) _ (fun w' hS => by (try dsimp only at hS); go_simp; (try with_reducible rfl)) ?_; (try simp only [Act.put, List.setIfInBounds_toArray, List.set_cons_zero, List.set_cons_succ])) | (refine seq_skip rfl (by rfl) ?_; (try simp only [Act.put, List.setIfInBounds_toArray, List.set_cons_zero, List.set_cons_succ])))
    apply seq_end
    go_wp2_with fail
    have hS5 : (w.heap.size + 3 ≤ w4.heap.size ∧ ∀ b' o', b' < w.heap.size + 3 → w4.cell? ⟨b', o', none⟩ = W.cell? ⟨b', o', none⟩) ∧ Below w.heap.size w w4 := ⟨hS4, by (repeat (first | assumption | exact Below.refl _ _ | refine BA ?_ _ | refine BC ?_ _ _ (by omega) _ | refine Below.drew ?_ | refine BT ?_ (by assumption)))⟩
    clear hS0 hS1 hS2 hS3 hS4 hb1 hb2 hb3 hb4
    go_loopw [37] (fun i wr => ∃ k : Nat, k ≤ ns ∧ i = .int .i64 k ∧ ((w.heap.size + 3 ≤ wr.heap.size ∧ ∀ b' o', b' < w.heap.size + 3 → wr.cell? ⟨b', o', none⟩ = W.cell? ⟨b', o', none⟩) ∧ Below w.heap.size w wr) ∧ Hid (setsB xs.length images (ss.take k) = true)) (fun i _ => ns - (intOf i).toNat)
    case atStart => exact ⟨0, by omega, rfl, hS5, rfl⟩
    case round =>
      clear hS5
      obtain ⟨k, hk, rfl, ⟨hS, hB⟩, hE⟩ := hrel
      by_cases hlt : k < ns
      · rcases HSS.out with h | ⟨b, o, rfl, hb, hc⟩
        · exfalso; have := HNS.out; rw [h] at this; simp at this; omega
        · obtain ⟨d1, d2, d3, hrd⟩ := hc k (by rw [HNS.out]; exact hlt)
          have hE1 := Lib.hid (fun h => setsB_no (t := xs.length) (im := images) (ss := ss) (k := k) (by rw [HNS.out]; exact hlt) h)
          have hE2 := Lib.hid (fun h => setsB_snoc (t := xs.length) (im := images) (ss := ss) (k := k) (by rw [HNS.out]; exact hlt) hE.out h)
          clear hc
          generalize ss.getD k (0, 0, false) = s at *
          obtain ⟨im, rd, rv⟩ := s
          dsimp only at d1 d2 d3 hrd
          have f1 := (hB.cell (p := ⟨b, o + k * 3, none⟩) hb).trans d1
          have f2 := (hB.cell (p := ⟨b, o + k * 3 + 1, none⟩) hb).trans d2
          have f3 := (hB.cell (p := ⟨b, o + k * 3 + 2, none⟩) hb).trans d3
          clear d1 d2 d3
          have hbr : b < wr.heap.size := by have := hB.size; omega
          have hw0 : w.heap.size < wr.heap.size := by omega
          have hw1 : w.heap.size < wr.heap.size + 1 := by omega
          cases g1 : isImg images im
          · have G1 := Lib.hid g1; clear g1
            go_wp2_with (first | (go_at_call 79; refine (isImage_any _ _ _ _ _ _ _ _ _).mono ?_; rw [G1.out]; rintro e w1 ⟨rfl, hb1⟩))
            go_ret
            exact ⟨by rw [he.out, hE1.out (by simp [setB, G1.out])]; rfl, by (repeat (first | assumption | exact Below.refl _ _ | refine BA ?_ _ | refine BC ?_ _ _ (by omega) _ | refine Below.drew ?_ | refine BT ?_ (by assumption)))⟩
          · cases g2 : hasTrn xs.length rd
            · have G1 := Lib.hid g1; clear g1
              have G2 := Lib.hid g2; clear g2
              go_wp2_with (first | (go_at_call 79; refine (isImage_any _ _ _ _ _ _ _ _ _).mono ?_; rw [G1.out]; rintro e w1 ⟨rfl, hb1⟩; have hcc := (bcell hb1).1) | (go_at_call 58; refine (hasTurn_any _ _ _ _ _ _ _ hrd).mono ?_; rw [G2.out]; rintro e w2 ⟨rfl, hb2⟩))
              go_ret
              exact ⟨by rw [he.out, hE1.out (by simp [setB, G1.out, G2.out])]; rfl, by (repeat (first | assumption | exact Below.refl _ _ | refine BA ?_ _ | refine BC ?_ _ _ (by omega) _ | refine Below.drew ?_ | refine BT ?_ (by assumption)))⟩
            · have G1 := Lib.hid g1; clear g1
              have G2 := Lib.hid g2; clear g2
              go_wp2_with (first | (go_at_call 79; refine (isImage_any _ _ _ _ _ _ _ _ _).mono ?_; rw [G1.out]; rintro e w1 ⟨rfl, hb1⟩; have hcc := (bcell hb1).1) | (go_at_call 58; refine (hasTurn_any _ _ _ _ _ _ _ hrd).mono ?_; rw [G2.out]; rintro e w2 ⟨rfl, hb2⟩))
              go_roundw
              case rel => exact ⟨k + 1, by omega, by go_num, ⟨keepS hb2 (keepS hb1 (keepA _ hS)), by (repeat (first | assumption | exact Below.refl _ _ | refine BA ?_ _ | refine BC ?_ _ _ (by omega) _ | refine Below.drew ?_ | refine BT ?_ (by assumption)))⟩, hE2.out (by simp [setB, G1.out, G2.out])⟩
              case measure => simp [intOf]; omega
      · obtain rfl : k = ns := by omega
        go_wp2
        go_ret
        exact ⟨by have := hE.out; rw [List.take_of_length_le (by rw [HNS.out]; omega)] at this; rw [he.out, this]; rfl, hB⟩
theorem validM_any (a sa : Option Addr) (xs : List (Int × Int)) (ss : List (Int × Int × Bool)) (cap scap : Nat) (eLo eHi images sLo sHi : Int) (w : World) (hl : xs.length ≤ 9223372036854775807) (hx : Spans w a xs) (hls : ss.length ≤ 9223372036854775807) (hss : Setts w sa ss) :
    Calls Tryz.prog 72 #[.agg #[.slice a xs.length cap, .int .i64 eLo, .int .i64 eHi, .int .i64 images, .int .i64 sLo, .int .i64 sHi, .slice sa ss.length scap]] w (Ret (.bool (validM xs eLo eHi images sLo sHi ss)) w) := by
  cases h1 : validB xs eLo eHi
  · exact validM_a a sa xs ss cap scap eLo eHi images sLo sHi w hl hx hls h1
  · cases h2 : holdB 1 6 images images
    · exact validM_b a sa xs ss cap scap eLo eHi images sLo sHi w hl hx hls h1 h2
    · cases h4 : holdB 0 131072 sLo sHi
      · exact validM_c a sa xs ss cap scap eLo eHi images sLo sHi w hl hx hls h1 h2 h4
      · by_cases h5 : ss.length ≤ 12
        · exact validM_e a sa xs ss cap scap eLo eHi images sLo sHi w hl hx hls hss h1 h2 h4 h5
        · exact validM_d a sa xs ss cap scap eLo eHi images sLo sHi w hl hx hls h1 h2 h4 (by omega)
end Go.Proofs.YtcfjakifeihbpaaGreat
