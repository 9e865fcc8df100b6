/- The reference's checks: numbers within limits, spans, screws, readings. -/
import Derived.Test.YtmfbkgdlfackcaaLookAt
namespace Go.Proofs.Ytmfbkgdlfackcaa
open Go.RowKit

def inB (n lo hi : Int) : Bool := decide (lo ≤ n) && decide (n ≤ hi)
theorem inR_any (n lo hi : Int) (w : World) : Calls Try.prog 66 #[.int .i64 n, .int .i64 lo, .int .i64 hi] w (Ret (.bool (inB n lo hi)) w) := by
  by_cases h1 : lo ≤ n
  · by_cases h2 : n ≤ hi
    all_goals
      have he : Hid (inB n lo hi = decide (n ≤ hi)) := by show _ = _; simp [inB, h1]
      go_enter Try.func66, Try.ntmps66
      go_wp2
      go_ret
      exact ⟨by rw [he.out]; simp [h2], Below.refl _ _⟩
  · have he : Hid (inB n lo hi = false) := by show _ = _; simp [inB, h1]
    go_enter Try.func66, Try.ntmps66
    go_wp2
    go_ret
    exact ⟨by rw [he.out]; rfl, Below.refl _ _⟩
theorem spanR_any (a b c d : Int) (w : World) :
    Calls Try.prog 87 #[.agg #[.int .i64 c, .int .i64 d], .int .i64 a, .int .i64 b] w (Ret (.bool (holdB a b c d)) w) := by
  by_cases h1 : a ≤ c
  · by_cases h2 : c ≤ d
    · by_cases h3 : d ≤ b
      all_goals
        have he : Hid (holdB a b c d = decide (d ≤ b)) := by show _ = _; simp [holdB, h1, h2]
        go_enter Try.func87, Try.ntmps87
        go_wp2
        go_ret
        exact ⟨by rw [he.out]; simp [h3], by (repeat (first | assumption | exact Below.refl _ _ | refine BA ?_ _ | refine BC ?_ _ _ (by omega) _ | refine Below.drew ?_ | refine BT ?_ (by assumption)))⟩
    · have he : Hid (holdB a b c d = false) := by show _ = _; simp [holdB, h2]
      go_enter Try.func87, Try.ntmps87
      go_wp2
      go_ret
      exact ⟨by rw [he.out]; rfl, by (repeat (first | assumption | exact Below.refl _ _ | refine BA ?_ _ | refine BC ?_ _ _ (by omega) _ | refine Below.drew ?_ | refine BT ?_ (by assumption)))⟩
  · have he : Hid (holdB a b c d = false) := by show _ = _; simp [holdB, h1]
    go_enter Try.func87, Try.ntmps87
    go_wp2
    go_ret
    exact ⟨by rw [he.out]; rfl, by (repeat (first | assumption | exact Below.refl _ _ | refine BA ?_ _ | refine BC ?_ _ _ (by omega) _ | refine Below.drew ?_ | refine BT ?_ (by assumption)))⟩
theorem hasTrn_in (n : Nat) (r : Int) : inB r 0 (1000 * n - 1) = hasTrn n r := by
  unfold inB hasTrn
  by_cases h : 0 ≤ r
  · have : (r ≤ 1000 * (n : Int) - 1) ↔ (r / 1000 < (n : Int)) := by omega
    simp [h, this]
  · simp [h]
theorem readingR_any (a : Option Addr) (n cap : Nat) (eLo eHi : Int) (r : Int) (w : World) (hn : n ≤ 100) :
    Calls Try.prog 55 #[.agg #[.slice a n cap, .int .i64 eLo, .int .i64 eHi], .int .i64 r] w (Ret (.bool (hasTrn n r)) w) := by
  have he := Lib.hid (hasTrn_in n r)
  have hn0 : (n : Int) ≤ 100 := by omega
  have hn1 : (0 : Int) ≤ (n : Int) := by omega
  go_enter Try.func55, Try.ntmps55
  go_wp2_with fail
  refine (inR_any _ _ _ _).mono ?_
  rintro e w1 ⟨rfl, hb1⟩
  go_wp2
  go_ret
  exact ⟨by rw [← he.out]; rfl, by (repeat (first | assumption | exact Below.refl _ _ | refine BA ?_ _ | refine BC ?_ _ _ (by omega) _ | refine Below.drew ?_ | refine BT ?_ (by assumption)))⟩
theorem in_hold (n lo hi : Int) : inB n lo hi = holdB lo hi n n := by simp [inB, holdB]
/-- A screw's box. -/
structure InS (w : World) (B : Nat) (a : Option Addr) (n cap : Nat) (eLo eHi : Int) : Prop where
  c0 : w.cell? ⟨B, 0, none⟩ = some (.slice a n cap)
  c1 : w.cell? ⟨B, 1, none⟩ = some (.int .i64 eLo)
  c2 : w.cell? ⟨B, 2, none⟩ = some (.int .i64 eHi)
theorem cellB {w w' : World} {p : Addr} {v : Value} (h : w.cell? p = some v) (hb : Below w.heap.size w w') : w'.cell? p = some v := (hb.cell (World.block_lt_of_cell? _ _ h)).trans h
theorem InS.grown {w w' : World} {B : Nat} {a : Option Addr} {n cap : Nat} {eLo eHi : Int} (h : InS w B a n cap eLo eHi) (hb : Below w.heap.size w w') : InS w' B a n cap eLo eHi := ⟨cellB h.c0 hb, cellB h.c1 hb, cellB h.c2 hb⟩

set_option maxHeartbeats 1000000 in
theorem screwR_any (a : Option Addr) (xs : List (Int × Int)) (cap : Nat) (eLo eHi : Int) (w : World) (hl : xs.length ≤ 100) (hx : Spans w a xs) :
    Calls Try.prog 54 #[.agg #[.slice a xs.length cap, .int .i64 eLo, .int .i64 eHi]] w (Ret (.bool (validB xs eLo eHi)) w) := by
  have HX := Lib.hid hx; clear hx
  have HV : Hid (validB xs eLo eHi = (inB xs.length 1 40 && evB (-100) 100 xs && holdB (-100) 100 eLo eHi)) := by show _ = _; rw [in_hold]; rfl
  generalize validB xs eLo eHi = V at *
  generalize hn : xs.length = n at *
  have HN := Lib.hid hn; clear hn
  have hn0 : (n : Int) ≤ 100 := by omega
  have hnx : n ≤ 9223372036854775807 := by omega
  have hI : Hid (InS (w.alloc (.cells #[.slice a n cap, .int .i64 eLo, .int .i64 eHi] 26)) w.heap.size a n cap eLo eHi) := ⟨by simp [go_sem], by simp [go_sem], by simp [go_sem]⟩
  have hB0 : Below w.heap.size w (w.alloc (.cells #[.slice a n cap, .int .i64 eLo, .int .i64 eHi] 26)) := by (repeat (first | assumption | exact Below.refl _ _ | refine BA ?_ _ | refine BC ?_ _ _ (by omega) _ | refine Below.drew ?_ | refine BT ?_ (by assumption)))
  go_enter Try.func54, Try.ntmps54
  go_wp2_with fail
  generalize w.heap.size = B at hI ⊢
  generalize w.alloc (.cells #[.slice a n cap, .int .i64 eLo, .int .i64 eHi] 26) = W at *
  go_loopw [3] (fun i wr => ∃ k : Nat, k ≤ n ∧ i = .int .i64 k ∧ Below W.heap.size W wr ∧ Hid (evB (-100) 100 (xs.take k) = true)) (fun i _ => n - (intOf i).toNat)
  case atStart => exact ⟨0, by omega, rfl, Below.refl _ _, rfl⟩
  case round =>
    obtain ⟨k, hk, rfl, hB, hE⟩ := hrel
    obtain ⟨i0, i1, i2⟩ := hI.out.grown hB
    have hX := HX.out.below (Nat.le_refl _) (BT hB0 hB)
    have hk0 : (0 : Int) ≤ (k : Int) := by omega
    by_cases hlt : k < n
    · rcases hX with h | ⟨b, o, rfl, hb, hc⟩
      · exfalso; have := HN.out; rw [h] at this; simp at this; omega
      · obtain ⟨d1, d2⟩ := hc k (by rw [HN.out]; exact hlt)
        have hE1 := Lib.hid (fun h => evB_no (lo := -100) (hi := 100) (xs := xs) (k := k) (by rw [HN.out]; exact hlt) h)
        have hE2 := Lib.hid (fun h => evB_snoc (lo := -100) (hi := 100) (xs := xs) (k := k) (by rw [HN.out]; exact hlt) hE.out h)
        clear hc
        generalize (xs.getD k (0, 0)).1 = l at *
        generalize (xs.getD k (0, 0)).2 = h at *
        cases hh : holdB (-100) 100 l h
        all_goals
          have HH := Lib.hid hh; clear hh
          go_wp2_with (refine (spanR_any _ _ _ _ _).mono ?_; rw [HH.out]; rintro e w2 ⟨rfl, hb2⟩)
        · go_ret
          exact ⟨by rw [HV.out, hE1.out HH.out]; simp, by (repeat (first | assumption | exact Below.refl _ _ | refine BA ?_ _ | refine BC ?_ _ _ (by omega) _ | refine Below.drew ?_ | refine BT ?_ (by assumption)))⟩
        · go_roundw
          case rel => exact ⟨k + 1, by omega, by go_num, by (repeat (first | assumption | exact Below.refl _ _ | refine BA ?_ _ | refine BC ?_ _ _ (by omega) _ | refine Below.drew ?_ | refine BT ?_ (by assumption))), hE2.out HH.out⟩
          case measure => simp [intOf]; omega
    · obtain rfl : k = n := by omega
      have hE' : Hid (evB (-100) 100 xs = true) := by have := hE.out; rw [List.take_of_length_le (by rw [HN.out]; omega)] at this; exact this
      cases hin : inB (k : Int) 1 40
      · have HI := Lib.hid hin; clear hin
        go_wp2_with (refine (inR_any _ _ _ _).mono ?_; rw [HI.out]; rintro e w2 ⟨rfl, hb2⟩)
        go_ret
        exact ⟨by rw [HV.out, HI.out]; rfl, by (repeat (first | assumption | exact Below.refl _ _ | refine BA ?_ _ | refine BC ?_ _ _ (by omega) _ | refine Below.drew ?_ | refine BT ?_ (by assumption)))⟩
      · have HI := Lib.hid hin; clear hin
        go_wp2_with fail
        refine (inR_any _ _ _ _).mono ?_
        rw [HI.out]
        rintro e w2 ⟨rfl, hb2⟩
        have j1 := cellB i1 hb2
        have j2 := cellB i2 hb2
        go_wp2_with fail
        refine (spanR_any _ _ _ _ _).mono ?_
        rintro e w3 ⟨rfl, hb3⟩
        go_wp2
        go_ret
        exact ⟨by rw [HV.out, HI.out, hE'.out]; rfl, by (repeat (first | assumption | exact Below.refl _ _ | refine BA ?_ _ | refine BC ?_ _ _ (by omega) _ | refine Below.drew ?_ | refine BT ?_ (by assumption)))⟩
end Go.Proofs.Ytmfbkgdlfackcaa
