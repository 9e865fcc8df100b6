/- Whether a screw is valid. -/
import Derived.Test.YtcfjakifeihbpaaEv
import Derived.Test.YtcfjakifeihbpaaSeq
import Derived.WalkSpells
namespace Go.Proofs.Ytcfjakifeihbpaa
open Go.RowKit

def validB (xs : List (Int × Int)) (eLo eHi : Int) : Bool := holdB 1 40 xs.length xs.length && evB (-100) 100 xs && holdB (-100) 100 eLo eHi

set_option maxHeartbeats 1000000 in
theorem valid_a (a : Option Addr) (xs : List (Int × Int)) (cap : Nat) (eLo eHi : Int) (w : World) (h1 : holdB 1 40 xs.length xs.length = false) :
    Calls Try.prog 74 #[.agg #[.slice a xs.length cap, .int .i64 eLo, .int .i64 eHi]] w (Ret (.bool (validB xs eLo eHi)) w) := by
    have he : Hid (validB xs eLo eHi = false) := by show _ = _; simp [validB, h1]
    have H1 := Lib.hid h1; clear h1
    generalize hn : xs.length = n at *
    have HN := Lib.hid hn; clear hn
    go_enter Try.func74, Try.ntmps74
    go_wp2_with fail
    obtain ⟨W, hW⟩ : ∃ W, ((w.alloc (Obj.cells #[Value.slice a n cap, Value.int IntKind.i64 eLo, Value.int IntKind.i64 eHi] 26)).alloc (Obj.cells #[Value.int IntKind.i64 1, Value.int IntKind.i64 40] 103)).alloc (Obj.cells #[Value.int IntKind.i64 (-100), Value.int IntKind.i64 100] 103) = W := ⟨_, rfl⟩
    have s0 : W.heap.size = w.heap.size + 3 := by rw [← hW]; simp
    have c0 : W.cell? ⟨w.heap.size, 0, none⟩ = some (.slice a n cap) := by rw [← hW]; simp [go_sem]
    have c1 : W.cell? ⟨w.heap.size, 1, none⟩ = some (.int .i64 eLo) := by rw [← hW]; simp [go_sem]
    have c2 : W.cell? ⟨w.heap.size, 2, none⟩ = some (.int .i64 eHi) := by rw [← hW]; simp [go_sem]
    have c3 : W.cell? ⟨w.heap.size + 1, 0, none⟩ = some (.int .i64 1) := by rw [← hW]; simp [go_sem]
    have c4 : W.cell? ⟨w.heap.size + 1, 1, none⟩ = some (.int .i64 40) := by rw [← hW]; simp [go_sem]
    have c5 : W.cell? ⟨w.heap.size + 2, 0, none⟩ = some (.int .i64 (-100)) := by rw [← hW]; simp [go_sem]
    have c6 : W.cell? ⟨w.heap.size + 2, 1, none⟩ = some (.int .i64 100) := by rw [← hW]; simp [go_sem]
    have hBW : Below w.heap.size w W := by rw [← hW]; (repeat (first | assumption | exact Below.refl _ _ | refine BA ?_ _ | refine BC ?_ _ _ (by omega) _ | refine Below.drew ?_ | refine BT ?_ (by assumption)))
    rw [hW]
    refine wp_region_seq [(0, true), (1, true), (2, true), (3, true), (4, false), (5, true), (6, true), (7, true), (8, true), (9, true), (10, false), (11, true), (12, true), (13, true), (14, true), (15, true), (16, false), (17, false), (18, true), (19, true)]
      (fun w' => w.heap.size + 3 ≤ w'.heap.size ∧ ∀ b' o', b' < w.heap.size + 3 → w'.cell? ⟨b', o', none⟩ = W.cell? ⟨b', o', none⟩) (by kernel_rfl) (by kernel_rfl) (fun _ _ d _ _ h => by cases d <;> exact h) ⟨(by (first | omega | (simp; done) | (simp; omega))), fun _ _ _ => rfl⟩ ?_
    have hS0 : w.heap.size + 3 ≤ W.drew.heap.size ∧ ∀ b' o', b' < w.heap.size + 3 → W.drew.cell? ⟨b', o', none⟩ = W.cell? ⟨b', o', none⟩ := ⟨(by (first | omega | (simp; done) | (simp; omega))), fun _ _ _ => rfl⟩
    repeat (first | (refine seq_read rfl (by rfl) _ (fun w' hS => by (try dsimp only at hS); go_simp; (try with_reducible rfl)) ?_; (try simp only [Act.put, List.setIfInBounds_toArray, List.set_cons_zero, List.set_cons_succ])) | (refine seq_skip rfl (by rfl) ?_; (try simp only [Act.put, List.setIfInBounds_toArray, List.set_cons_zero, List.set_cons_succ])))
    (refine seq_do rfl (by rfl) (fun K hK => ?_); go_simp)
    refine (has_any _ _ _ _).mono ?_
    rw [H1.out]
    rintro e w1 ⟨rfl, hb1⟩
    refine hK _ _ (keepS hb1 hS0) ?_
    have hS1 := keepS hb1 hS0
    clear hK K
    repeat (first | (refine seq_read rfl (by rfl) _ (fun w' hS => by (try dsimp only at hS); go_simp; (try with_reducible rfl)) ?_; (try simp only [Act.put, List.setIfInBounds_toArray, List.set_cons_zero, List.set_cons_succ])) | (refine seq_skip rfl (by rfl) ?_; (try simp only [Act.put, List.setIfInBounds_toArray, List.set_cons_zero, List.set_cons_succ])))
    apply seq_end
    go_wp2
    go_ret
    exact ⟨by rw [he.out]; rfl, by (repeat (first | assumption | exact Below.refl _ _ | refine BA ?_ _ | refine BC ?_ _ _ (by omega) _ | refine Below.drew ?_ | refine BT ?_ (by assumption)))⟩
set_option maxHeartbeats 1000000 in
theorem valid_b (a : Option Addr) (xs : List (Int × Int)) (cap : Nat) (eLo eHi : Int) (w : World) (hl : xs.length ≤ 9223372036854775807) (hx : Spans w a xs) (h1 : holdB 1 40 xs.length xs.length = true) (h2 : evB (-100) 100 xs = false) :
    Calls Try.prog 74 #[.agg #[.slice a xs.length cap, .int .i64 eLo, .int .i64 eHi]] w (Ret (.bool (validB xs eLo eHi)) w) := by
    have he : Hid (validB xs eLo eHi = false) := by show _ = _; simp [validB, h2]
    have H1 := Lib.hid h1; clear h1
    have H2 := Lib.hid h2; clear h2
    have HX := Lib.hid hx; clear hx
    generalize hn : xs.length = n at *
    have HN := Lib.hid hn
    go_enter Try.func74, Try.ntmps74
    go_wp2_with fail
    obtain ⟨W, hW⟩ : ∃ W, ((w.alloc (Obj.cells #[Value.slice a n cap, Value.int IntKind.i64 eLo, Value.int IntKind.i64 eHi] 26)).alloc (Obj.cells #[Value.int IntKind.i64 1, Value.int IntKind.i64 40] 103)).alloc (Obj.cells #[Value.int IntKind.i64 (-100), Value.int IntKind.i64 100] 103) = W := ⟨_, rfl⟩
    have s0 : W.heap.size = w.heap.size + 3 := by rw [← hW]; simp
    have c0 : W.cell? ⟨w.heap.size, 0, none⟩ = some (.slice a n cap) := by rw [← hW]; simp [go_sem]
    have c1 : W.cell? ⟨w.heap.size, 1, none⟩ = some (.int .i64 eLo) := by rw [← hW]; simp [go_sem]
    have c2 : W.cell? ⟨w.heap.size, 2, none⟩ = some (.int .i64 eHi) := by rw [← hW]; simp [go_sem]
    have c3 : W.cell? ⟨w.heap.size + 1, 0, none⟩ = some (.int .i64 1) := by rw [← hW]; simp [go_sem]
    have c4 : W.cell? ⟨w.heap.size + 1, 1, none⟩ = some (.int .i64 40) := by rw [← hW]; simp [go_sem]
    have c5 : W.cell? ⟨w.heap.size + 2, 0, none⟩ = some (.int .i64 (-100)) := by rw [← hW]; simp [go_sem]
    have c6 : W.cell? ⟨w.heap.size + 2, 1, none⟩ = some (.int .i64 100) := by rw [← hW]; simp [go_sem]
    have hBW : Below w.heap.size w W := by rw [← hW]; (repeat (first | assumption | exact Below.refl _ _ | refine BA ?_ _ | refine BC ?_ _ _ (by omega) _ | refine Below.drew ?_ | refine BT ?_ (by assumption)))
    rw [hW]
    refine wp_region_seq [(0, true), (1, true), (2, true), (3, true), (4, false), (5, true), (6, true), (7, true), (8, true), (9, true), (10, false), (11, true), (12, true), (13, true), (14, true), (15, true), (16, false), (17, false), (18, true), (19, true)]
      (fun w' => w.heap.size + 3 ≤ w'.heap.size ∧ ∀ b' o', b' < w.heap.size + 3 → w'.cell? ⟨b', o', none⟩ = W.cell? ⟨b', o', none⟩) (by kernel_rfl) (by kernel_rfl) (fun _ _ d _ _ h => by cases d <;> exact h) ⟨(by (first | omega | (simp; done) | (simp; omega))), fun _ _ _ => rfl⟩ ?_
    have hS0 : w.heap.size + 3 ≤ W.drew.heap.size ∧ ∀ b' o', b' < w.heap.size + 3 → W.drew.cell? ⟨b', o', none⟩ = W.cell? ⟨b', o', none⟩ := ⟨(by (first | omega | (simp; done) | (simp; omega))), fun _ _ _ => rfl⟩
    repeat (first | (refine seq_read rfl (by rfl) _ (fun w' hS => by (try dsimp only at hS); go_simp; (try with_reducible rfl)) ?_; (try simp only [Act.put, List.setIfInBounds_toArray, List.set_cons_zero, List.set_cons_succ])) | (refine seq_skip rfl (by rfl) ?_; (try simp only [Act.put, List.setIfInBounds_toArray, List.set_cons_zero, List.set_cons_succ])))
    (refine seq_do rfl (by rfl) (fun K hK => ?_); go_simp)
    refine (has_any _ _ _ _).mono ?_
    rw [H1.out]
    rintro e w1 ⟨rfl, hb1⟩
    refine hK _ _ (keepS hb1 hS0) ?_
    have hS1 := keepS hb1 hS0
    clear hK K
    repeat (first | (refine seq_read rfl (by rfl) _ (fun w' hS => by (try dsimp only at hS); go_simp; (try with_reducible rfl)) ?_; (try simp only [Act.put, List.setIfInBounds_toArray, List.set_cons_zero, List.set_cons_succ])) | (refine seq_skip rfl (by rfl) ?_; (try simp only [Act.put, List.setIfInBounds_toArray, List.set_cons_zero, List.set_cons_succ])))
    (refine seq_do rfl (by rfl) (fun K hK => ?_); go_simp)
    subst hn
    refine (every_any _ _ _ _ _ _ hl (HX.out.below (Nat.le_refl _) (by (repeat (first | assumption | exact Below.refl _ _ | refine BA ?_ _ | refine BC ?_ _ _ (by omega) _ | refine Below.drew ?_ | refine BT ?_ (by assumption)))))).mono ?_
    rw [H2.out]
    rintro e w2 ⟨rfl, hb2⟩
    refine hK _ _ (keepS hb2 hS1) ?_
    have hS2 := keepS hb2 hS1
    clear hK K
    repeat (first | (refine seq_read rfl (by rfl) _ (fun w' hS => by (try dsimp only at hS); go_simp; (try with_reducible rfl)) ?_; (try simp only [Act.put, List.setIfInBounds_toArray, List.set_cons_zero, List.set_cons_succ])) | (refine seq_skip rfl (by rfl) ?_; (try simp only [Act.put, List.setIfInBounds_toArray, List.set_cons_zero, List.set_cons_succ])))
    apply seq_end
    go_wp2
    go_ret
    exact ⟨by rw [he.out]; rfl, by (repeat (first | assumption | exact Below.refl _ _ | refine BA ?_ _ | refine BC ?_ _ _ (by omega) _ | refine Below.drew ?_ | refine BT ?_ (by assumption)))⟩
set_option maxHeartbeats 1000000 in
theorem valid_c (a : Option Addr) (xs : List (Int × Int)) (cap : Nat) (eLo eHi : Int) (w : World) (hl : xs.length ≤ 9223372036854775807) (hx : Spans w a xs) (h1 : holdB 1 40 xs.length xs.length = true) (h2 : evB (-100) 100 xs = true) :
    Calls Try.prog 74 #[.agg #[.slice a xs.length cap, .int .i64 eLo, .int .i64 eHi]] w (Ret (.bool (validB xs eLo eHi)) w) := by
    have he : Hid (validB xs eLo eHi = holdB (-100) 100 eLo eHi) := by show _ = _; simp [validB, h1, h2]
    have H1 := Lib.hid h1; clear h1
    have H2 := Lib.hid h2; clear h2
    have HX := Lib.hid hx; clear hx
    generalize hn : xs.length = n at *
    have HN := Lib.hid hn
    go_enter Try.func74, Try.ntmps74
    go_wp2_with fail
    obtain ⟨W, hW⟩ : ∃ W, ((w.alloc (Obj.cells #[Value.slice a n cap, Value.int IntKind.i64 eLo, Value.int IntKind.i64 eHi] 26)).alloc (Obj.cells #[Value.int IntKind.i64 1, Value.int IntKind.i64 40] 103)).alloc (Obj.cells #[Value.int IntKind.i64 (-100), Value.int IntKind.i64 100] 103) = W := ⟨_, rfl⟩
    have s0 : W.heap.size = w.heap.size + 3 := by rw [← hW]; simp
    have c0 : W.cell? ⟨w.heap.size, 0, none⟩ = some (.slice a n cap) := by rw [← hW]; simp [go_sem]
    have c1 : W.cell? ⟨w.heap.size, 1, none⟩ = some (.int .i64 eLo) := by rw [← hW]; simp [go_sem]
    have c2 : W.cell? ⟨w.heap.size, 2, none⟩ = some (.int .i64 eHi) := by rw [← hW]; simp [go_sem]
    have c3 : W.cell? ⟨w.heap.size + 1, 0, none⟩ = some (.int .i64 1) := by rw [← hW]; simp [go_sem]
    have c4 : W.cell? ⟨w.heap.size + 1, 1, none⟩ = some (.int .i64 40) := by rw [← hW]; simp [go_sem]
    have c5 : W.cell? ⟨w.heap.size + 2, 0, none⟩ = some (.int .i64 (-100)) := by rw [← hW]; simp [go_sem]
    have c6 : W.cell? ⟨w.heap.size + 2, 1, none⟩ = some (.int .i64 100) := by rw [← hW]; simp [go_sem]
    have hBW : Below w.heap.size w W := by rw [← hW]; (repeat (first | assumption | exact Below.refl _ _ | refine BA ?_ _ | refine BC ?_ _ _ (by omega) _ | refine Below.drew ?_ | refine BT ?_ (by assumption)))
    rw [hW]
    refine wp_region_seq [(0, true), (1, true), (2, true), (3, true), (4, false), (5, true), (6, true), (7, true), (8, true), (9, true), (10, false), (11, true), (12, true), (13, true), (14, true), (15, true), (16, false), (17, false), (18, true), (19, true)]
      (fun w' => w.heap.size + 3 ≤ w'.heap.size ∧ ∀ b' o', b' < w.heap.size + 3 → w'.cell? ⟨b', o', none⟩ = W.cell? ⟨b', o', none⟩) (by kernel_rfl) (by kernel_rfl) (fun _ _ d _ _ h => by cases d <;> exact h) ⟨(by (first | omega | (simp; done) | (simp; omega))), fun _ _ _ => rfl⟩ ?_
    have hS0 : w.heap.size + 3 ≤ W.drew.heap.size ∧ ∀ b' o', b' < w.heap.size + 3 → W.drew.cell? ⟨b', o', none⟩ = W.cell? ⟨b', o', none⟩ := ⟨(by (first | omega | (simp; done) | (simp; omega))), fun _ _ _ => rfl⟩
    repeat (first | (refine seq_read rfl (by rfl) _ (fun w' hS => by (try dsimp only at hS); go_simp; (try with_reducible rfl)) ?_; (try simp only [Act.put, List.setIfInBounds_toArray, List.set_cons_zero, List.set_cons_succ])) | (refine seq_skip rfl (by rfl) ?_; (try simp only [Act.put, List.setIfInBounds_toArray, List.set_cons_zero, List.set_cons_succ])))
    (refine seq_do rfl (by rfl) (fun K hK => ?_); go_simp)
    refine (has_any _ _ _ _).mono ?_
    rw [H1.out]
    rintro e w1 ⟨rfl, hb1⟩
    refine hK _ _ (keepS hb1 hS0) ?_
    have hS1 := keepS hb1 hS0
    clear hK K
    repeat (first | (refine seq_read rfl (by rfl) _ (fun w' hS => by (try dsimp only at hS); go_simp; (try with_reducible rfl)) ?_; (try simp only [Act.put, List.setIfInBounds_toArray, List.set_cons_zero, List.set_cons_succ])) | (refine seq_skip rfl (by rfl) ?_; (try simp only [Act.put, List.setIfInBounds_toArray, List.set_cons_zero, List.set_cons_succ])))
    (refine seq_do rfl (by rfl) (fun K hK => ?_); go_simp)
    subst hn
    refine (every_any _ _ _ _ _ _ hl (HX.out.below (Nat.le_refl _) (by (repeat (first | assumption | exact Below.refl _ _ | refine BA ?_ _ | refine BC ?_ _ _ (by omega) _ | refine Below.drew ?_ | refine BT ?_ (by assumption)))))).mono ?_
    rw [H2.out]
    rintro e w2 ⟨rfl, hb2⟩
    refine hK _ _ (keepS hb2 hS1) ?_
    have hS2 := keepS hb2 hS1
    clear hK K
    repeat (first | (refine seq_read rfl (by rfl) _ (fun w' hS => by (try dsimp only at hS); go_simp; (try with_reducible rfl)) ?_; (try simp only [Act.put, List.setIfInBounds_toArray, List.set_cons_zero, List.set_cons_succ])) | (refine seq_skip rfl (by rfl) ?_; (try simp only [Act.put, List.setIfInBounds_toArray, List.set_cons_zero, List.set_cons_succ])))
    (refine seq_do rfl (by rfl) (fun K hK => ?_); go_simp)
    refine (known_any _ _ _).mono ?_
    rintro e w3 ⟨rfl, hb3⟩
    refine hK _ _ (keepS hb3 hS2) ?_
    have hS3 := keepS hb3 hS2
    clear hK K
    repeat (first | (refine seq_read rfl (by rfl) _ (fun w' hS => by (try dsimp only at hS); go_simp; (try with_reducible rfl)) ?_; (try simp only [Act.put, List.setIfInBounds_toArray, List.set_cons_zero, List.set_cons_succ])) | (refine seq_skip rfl (by rfl) ?_; (try simp only [Act.put, List.setIfInBounds_toArray, List.set_cons_zero, List.set_cons_succ])))
    (refine seq_do rfl (by rfl) (fun K hK => ?_); go_simp)
    refine (hold_any _ _ _ _ _).mono ?_
    rintro e w4 ⟨rfl, hb4⟩
    refine hK _ _ (keepS hb4 hS3) ?_
    have hS4 := keepS hb4 hS3
    clear hK K
    repeat (first | (refine seq_read rfl (by rfl) _ (fun w' hS => by (try dsimp only at hS); go_simp; (try with_reducible rfl)) ?_; (try simp only [Act.put, List.setIfInBounds_toArray, List.set_cons_zero, List.set_cons_succ])) | (refine seq_skip rfl (by rfl) ?_; (try simp only [Act.put, List.setIfInBounds_toArray, List.set_cons_zero, List.set_cons_succ])))
    apply seq_end
    go_wp2
    go_ret
    exact ⟨by rw [he.out]; rfl, by (repeat (first | assumption | exact Below.refl _ _ | refine BA ?_ _ | refine BC ?_ _ _ (by omega) _ | refine Below.drew ?_ | refine BT ?_ (by assumption)))⟩
theorem valid_any (a : Option Addr) (xs : List (Int × Int)) (cap : Nat) (eLo eHi : Int) (w : World) (hl : xs.length ≤ 9223372036854775807) (hx : Spans w a xs) :
    Calls Try.prog 74 #[.agg #[.slice a xs.length cap, .int .i64 eLo, .int .i64 eHi]] w (Ret (.bool (validB xs eLo eHi)) w) := by
  cases h1 : holdB 1 40 xs.length xs.length
  · exact valid_a a xs cap eLo eHi w h1
  · cases h2 : evB (-100) 100 xs
    · exact valid_b a xs cap eLo eHi w hl hx h1 h2
    · exact valid_c a xs cap eLo eHi w hl hx h1 h2
end Go.Proofs.Ytcfjakifeihbpaa

/- Whether a measure is valid. -/
namespace Go.Proofs.Ytcfjakifeihbpaa
open Go.RowKit

/-- At a lie settings, one after the other: image, reading, reversed. -/
def Setts (w : World) (a : Option Addr) (ss : List (Int × Int × Bool)) : Prop :=
  ss = [] ∨ ∃ b o, a = some ⟨b, o, none⟩ ∧ b < w.heap.size ∧ ∀ k, k < ss.length → w.cell? ⟨b, o + k * 3, none⟩ = some (.int .i64 (ss.getD k (0, 0, false)).1) ∧
    w.cell? ⟨b, o + k * 3 + 1, none⟩ = some (.int .i64 (ss.getD k (0, 0, false)).2.1) ∧ w.cell? ⟨b, o + k * 3 + 2, none⟩ = some (.bool (ss.getD k (0, 0, false)).2.2) ∧
    (ss.getD k (0, 0, false)).2.1 ≤ 9223372036854775807
theorem Setts.below {w w' : World} {a : Option Addr} {ss : List (Int × Int × Bool)} (h : Setts w a ss) {M : Nat} (hM : w.heap.size ≤ M) (hb : Below M w w') : Setts w' a ss := by
  rcases h with h | ⟨b, o, h1, h2, h3⟩
  · exact .inl h
  · have hs := hb.size
    exact .inr ⟨b, o, h1, by omega, fun k hk => by
      rw [hb.cell (p := ⟨b, o + k * 3, none⟩) (by show b < M; omega), hb.cell (p := ⟨b, o + k * 3 + 1, none⟩) (by show b < M; omega), hb.cell (p := ⟨b, o + k * 3 + 2, none⟩) (by show b < M; omega)]; exact h3 k hk⟩

theorem bcell {W w1 : World} (hb : Below W.heap.size W w1) : (∀ b o, b < W.heap.size → w1.cell? ⟨b, o, none⟩ = W.cell? ⟨b, o, none⟩) ∧ (∀ b o, b < W.heap.size → w1.frozen? ⟨b, o, none⟩ = W.frozen? ⟨b, o, none⟩) :=
  ⟨fun b o h => hb.cell (p := ⟨b, o, none⟩) h, fun b o h => hb.frozen (p := ⟨b, o, none⟩) h⟩
/-- One setting has an image, and a turn. -/
def setB (turns : Nat) (images : Int) (s : Int × Int × Bool) : Bool := isImg images s.1 && hasTrn turns s.2.1
def setsB (turns : Nat) (images : Int) (ss : List (Int × Int × Bool)) : Bool := ss.all (setB turns images)
theorem setsB_no {t : Nat} {im : Int} {ss : List (Int × Int × Bool)} {k : Nat} (hk : k < ss.length) (h : setB t im (ss.getD k (0, 0, false)) = false) : setsB t im ss = false := by
  unfold setsB
  rw [List.all_eq_false]
  refine ⟨ss[k], List.getElem_mem hk, ?_⟩
  have e : ss.getD k (0, 0, false) = ss[k] := by simp [List.getD, hk]
  rw [e] at h
  simp [h]
theorem setsB_snoc {t : Nat} {im : Int} {ss : List (Int × Int × Bool)} {k : Nat} (hk : k < ss.length) (h : setsB t im (ss.take k) = true) (h' : setB t im (ss.getD k (0, 0, false)) = true) : setsB t im (ss.take (k + 1)) = true := by
  unfold setsB at *
  have e : ss.getD k (0, 0, false) = ss[k] := by simp [List.getD, hk]
  rw [e] at h'
  rw [List.take_succ_eq_append_getElem hk, List.all_append, h]
  simp [h']
def headB (xs : List (Int × Int)) (eLo eHi images sLo sHi : Int) (n : Nat) : Bool := validB xs eLo eHi && holdB 1 6 images images && holdB 0 131072 sLo sHi && decide (n ≤ 12)
def validM (xs : List (Int × Int)) (eLo eHi images sLo sHi : Int) (ss : List (Int × Int × Bool)) : Bool := headB xs eLo eHi images sLo sHi ss.length && setsB xs.length images ss

end Go.Proofs.Ytcfjakifeihbpaa
