/- Eye: the walks of the small functions. -/
import Derived.Test.YtcfjakifeihbpaaGreatTra
import Derived.Test.YtcfjakifeihbpaaGreatAnse
import Derived.Test.YtcfjakifeihbpaaGreatMd
namespace Go.Proofs.YtcfjakifeihbpaaGreat
namespace Ey
open Go.RowKit

/-- A watch as a value. -/
structure Wd where
  a : Option Addr
  n : Nat
  cap : Nat
  eLo : Int
  eHi : Int
  images : Int
  eyes : Int
  hLo : Int
  hHi : Int
  la : Option Addr
  ln : Nat
  lcap : Nat
def Wd.cells (h : Wd) : Array Value := #[.slice h.a h.n h.cap, .int .i64 h.eLo, .int .i64 h.eHi, .int .i64 h.images, .int .i64 h.eyes, .int .i64 h.hLo, .int .i64 h.hHi, .slice h.la h.ln h.lcap]
def Wd.val (h : Wd) : Value := .agg #[.slice h.a h.n h.cap, .int .i64 h.eLo, .int .i64 h.eHi, .int .i64 h.images, .int .i64 h.eyes, .int .i64 h.hLo, .int .i64 h.hHi, .slice h.la h.ln h.lcap]

theorem holds_any (a b c d : Int) (w : World) :
    Calls Tryz.prog 88 #[.agg #[.int .i64 a, .int .i64 b], .agg #[.int .i64 c, .int .i64 d]] w (Ret (.bool (holdB a b c d)) w) := by
  by_cases h1 : a ≤ c
  · by_cases h2 : c ≤ d
    · by_cases h3 : d ≤ b
      all_goals
        have he : Hid (holdB a b c d = decide (d ≤ b)) := by show _ = _; simp [holdB, h1, h2]
        go_enter Tryz.func88, Tryz.ntmps88
        go_wp2
        go_ret
        exact ⟨by rw [he.out]; simp [h3], ((Below.refl _ _).alloc (Nat.le_refl _) _).alloc (by simp) _⟩
    · have he : Hid (holdB a b c d = false) := by show _ = _; simp [holdB, h2]
      go_enter Tryz.func88, Tryz.ntmps88
      go_wp2
      go_ret
      exact ⟨by rw [he.out]; rfl, ((Below.refl _ _).alloc (Nat.le_refl _) _).alloc (by simp) _⟩
  · have he : Hid (holdB a b c d = false) := by show _ = _; simp [holdB, h1]
    go_enter Tryz.func88, Tryz.ntmps88
    go_wp2
    go_ret
    exact ⟨by rw [he.out]; rfl, ((Below.refl _ _).alloc (Nat.le_refl _) _).alloc (by simp) _⟩
theorem has_any (a b c : Int) (w : World) :
    Calls Tryz.prog 87 #[.agg #[.int .i64 a, .int .i64 b], .int .i64 c] w (Ret (.bool (holdB a b c c)) w) := by
  go_enter Tryz.func87, Tryz.ntmps87
  go_wp2_with (go_at_call 88; refine (holds_any _ _ _ _ _).mono ?_; rintro e w' ⟨rfl, hb⟩)
  go_ret
  exact ⟨rfl, ((Below.refl _ _).alloc (Nat.le_refl _) _).trans (hb.mono (by simp))⟩
theorem insist_yes (c : Int) (w : World) : Calls Tryz.prog 62 #[.bool true, .int .i64 c] w (Ret (.tuple #[]) w) := by
  go_enter Tryz.func62, Tryz.ntmps62
  go_wp2
  go_end0
  exact ⟨rfl, Below.refl _ _⟩
theorem insist_no (c : Int) (w : World) : Calls Tryz.prog 62 #[.bool false, .int .i64 c] w (Pan c w) := by
  go_enter Tryz.func62, Tryz.ntmps62
  go_wp2
  exact ⟨rfl, rfl, Below.refl _ _⟩
theorem add_any (a b c d : Int) (w : World) (h : (-1000000000 ≤ a ∧ a ≤ 1000000000) ∧ (-1000000000 ≤ b ∧ b ≤ 1000000000) ∧ (-1000000000 ≤ c ∧ c ≤ 1000000000) ∧ -1000000000 ≤ d ∧ d ≤ 1000000000) :
    Calls Tryz.prog 90 #[.agg #[.int .i64 a, .int .i64 b], .agg #[.int .i64 c, .int .i64 d]] w (Ret (.agg #[.int .i64 (a + c), .int .i64 (b + d)]) w) := by
  obtain ⟨⟨a0, a1⟩, ⟨b0, b1⟩, ⟨c0, c1⟩, d0, d1⟩ := h
  go_enter Tryz.func90, Tryz.ntmps90
  go_wp2
  exact bodyPost_ret (v := .agg #[.int .i64 (a + c), .int .i64 (b + d)]) (by simp [results, Tryz.results90, go_sem]) rfl ⟨rfl, by (repeat (first | assumption | exact Below.refl _ _ | refine BA ?_ _ | refine BC ?_ _ _ (by omega) _ | refine Below.drew ?_ | refine BT ?_ (by assumption)))⟩
theorem turn_any (a b : Int) (w : World) (h : (-1000000000 ≤ a ∧ a ≤ 1000000000) ∧ (-1000000000 ≤ b ∧ b ≤ 1000000000)) :
    Calls Tryz.prog 92 #[.agg #[.int .i64 a, .int .i64 b]] w (Ret (.agg #[.int .i64 (-b), .int .i64 (-a)]) w) := by
  obtain ⟨⟨a0, a1⟩, b0, b1⟩ := h
  go_enter Tryz.func92, Tryz.ntmps92
  go_wp2
  exact bodyPost_ret (v := .agg #[.int .i64 (-b), .int .i64 (-a)]) (by simp [results, Tryz.results92, go_sem]) rfl ⟨rfl, by (repeat (first | assumption | exact Below.refl _ _ | refine BA ?_ _ | refine BC ?_ _ _ (by omega) _ | refine Below.drew ?_ | refine BT ?_ (by assumption)))⟩
theorem isEye_any (h : Wd) (i : Int) (w : World) : Calls Tryz.prog 80 #[h.val, .int .i64 i] w (Ret (.bool (isImg h.eyes i)) w) := by
  unfold Wd.val
  by_cases h1 : 0 ≤ i
  · by_cases h2 : i < h.eyes
    all_goals
      have he : Hid (isImg h.eyes i = decide (i < h.eyes)) := by show _ = _; simp [isImg, h1]
      go_enter Tryz.func80, Tryz.ntmps80
      go_wp2
      go_ret
      exact ⟨by rw [he.out]; simp [h2], (Below.refl _ _).alloc (Nat.le_refl _) _⟩
  · have he : Hid (isImg h.eyes i = false) := by show _ = _; simp [isImg, h1]
    go_enter Tryz.func80, Tryz.ntmps80
    go_wp2
    go_ret
    exact ⟨by rw [he.out]; rfl, (Below.refl _ _).alloc (Nat.le_refl _) _⟩
theorem isImage_any (h : Wd) (i : Int) (w : World) : Calls Tryz.prog 77 #[h.val, .int .i64 i] w (Ret (.bool (isImg h.images i)) w) := by
  unfold Wd.val
  by_cases h1 : 0 ≤ i
  · by_cases h2 : i < h.images
    all_goals
      have he : Hid (isImg h.images i = decide (i < h.images)) := by show _ = _; simp [isImg, h1]
      go_enter Tryz.func77, Tryz.ntmps77
      go_wp2
      go_ret
      exact ⟨by rw [he.out]; simp [h2], (Below.refl _ _).alloc (Nat.le_refl _) _⟩
  · have he : Hid (isImg h.images i = false) := by show _ = _; simp [isImg, h1]
    go_enter Tryz.func77, Tryz.ntmps77
    go_wp2
    go_ret
    exact ⟨by rw [he.out]; rfl, (Below.refl _ _).alloc (Nat.le_refl _) _⟩
/-- What a screw says of a reading: whether its travel is told. -/
def saysB (xs : List (Int × Int)) (eLo eHi r : Int) : Bool := validB xs eLo eHi && hasTrn xs.length r
theorem travelR_says (xs : List (Int × Int)) (eLo eHi r : Int) : (saysB xs eLo eHi r = true ∧ ∃ lo hi : Int, travelR xs eLo eHi r = .ok (.agg #[.int .i64 lo, .int .i64 hi])) ∨ (saysB xs eLo eHi r = false ∧ ∃ c : Int, c ≠ 0 ∧ travelR xs eLo eHi r = .error c) := by
  unfold saysB travelR
  cases h1 : validB xs eLo eHi
  · exact .inr ⟨by simp, 1, by omega, by simp⟩
  · cases h2 : hasTrn xs.length r
    · exact .inr ⟨by simp, 2, by omega, by simp⟩
    · exact .inl ⟨by simp, _, _, by simp; exact ⟨rfl, rfl⟩⟩
set_option maxRecDepth 100000 in
theorem says_any (a : Option Addr) (cap : Nat) (eLo eHi r : Int) (xs : List (Int × Int)) (w : World) (hx : Spans w a xs) (hl : xs.length ≤ 9223372036854775807) (hr : r ≤ 9223372036854775807) :
    Calls Tryz.prog 86 #[.agg #[.slice a xs.length cap, .int .i64 eLo, .int .i64 eHi], .int .i64 r] w (Ret (.bool (saysB xs eLo eHi r)) w) := by
  have hT : Hid (∀ Y, Below w.heap.size w Y → Calls Tryz.prog 17 #[.agg #[.slice a xs.length cap, .int .i64 eLo, .int .i64 eHi], .int .i64 r] Y (Ret (reply (travelR xs eLo eHi r)) Y)) := fun Y hY => travel_any16 a cap eLo eHi r xs Y (hx.below (Nat.le_refl _) hY) hl hr
  have hZ := newB w (.cells #[.slice a xs.length cap, .int .i64 eLo, .int .i64 eHi] 26)
  clear hx
  rcases travelR_says xs eLo eHi r with ⟨e1, lo, hi, e2⟩ | ⟨e1, c, hc, e2⟩
  · rw [e1]
    rw [e2] at hT
    clear e1 e2
    go_enter Tryz.func86, Tryz.ntmps86
    go_wp2_with fail
    refine (hT.out _ hZ).mono ?_
    rintro e w1 ⟨rfl, hb⟩
    have hB := BT hZ hb
    clear hT hZ hb
    unfold reply
    go_wp2
    go_ret
    exact ⟨rfl, by (repeat (first | assumption | exact Below.refl _ _ | refine BA ?_ _ | refine BC ?_ _ _ (by omega) _ | refine Below.drew ?_ | refine BT ?_ (by assumption)))⟩
  · rw [e1]
    rw [e2] at hT
    clear e1 e2
    have hcb := beq_eq_false_iff_ne.2 hc
    go_enter Tryz.func86, Tryz.ntmps86
    go_wp2_with fail
    refine (hT.out _ hZ).mono ?_
    rintro e w1 ⟨rfl, hb⟩
    have hB := BT hZ hb
    clear hT hZ hb
    unfold reply
    go_wp2
    go_ret
    exact ⟨by first | rfl | simp [hc], by (repeat (first | assumption | exact Below.refl _ _ | refine BA ?_ _ | refine BC ?_ _ _ (by omega) _ | refine Below.drew ?_ | refine BT ?_ (by assumption)))⟩
end Ey
end Go.Proofs.YtcfjakifeihbpaaGreat
