/- Eye: the methods of a watch that is looked at, and looking at one that is not valid. -/
import Derived.Test.YtcfjakifeihbpaaEva
namespace Go.Proofs.Ytcfjakifeihbpaa
namespace Ey
open Go.RowKit

set_option maxHeartbeats 1000000 in
theorem lookAt_no (h : Wd) (xs : List (Int × Int)) (ls : List LkV) (w : World) (hm : HasW w h xs ls) (hv : validW h xs ls = false) : Calls Try.prog 43 #[h.val] w (Pan 1 w) := by
  have HM := Lib.hid hm; clear hm
  have HV := Lib.hid hv; clear hv
  have hc : Hid (∀ Y, Below w.heap.size w Y → Calls Try.prog 83 #[h.val] Y (Ret (.bool false) Y)) := fun Y hY => by rw [← HV.out]; exact valid_any h xs ls Y (HM.out.below hY)
  unfold Wd.val at hc ⊢
  go_enter Try.func43, Try.ntmps43
  go_wp2_with (first | (go_at_call 83; refine (hc.out _ (by (repeat (first | assumption | exact Below.refl _ _ | refine BA ?_ _ | refine BC ?_ _ _ (by omega) _ | refine Below.drew ?_ | refine BT ?_ (by assumption))))).mono ?_; rintro e w1 ⟨rfl, hb1⟩) | (go_at_call 82; refine (insist_no _ _).mono ?_; rintro e w2 ⟨rfl, hb2⟩))
  exact ⟨rfl, rfl, by (repeat (first | assumption | exact Below.refl _ _ | refine BA ?_ _ | refine BC ?_ _ _ (by omega) _ | refine Below.drew ?_ | refine BT ?_ (by assumption)))⟩

theorem insistEye_any (L : Nat) (h : Wd) (i : Int) (w : World) (hL : BoxW w L h) :
    Calls Try.prog 44 #[.pointer (some ⟨L, 0, none⟩), .int .i64 i] w (Out (if isImg h.eyes i then .ok (.tuple #[]) else .error 2) w) := by
  obtain ⟨k0, k1, k2, k3, k4, k5, k6, k7⟩ := hL
  have hc : Hid (∀ Y, Calls Try.prog 84 #[h.val, .int .i64 i] Y (Ret (.bool (isImg h.eyes i)) Y)) := fun Y => isEye_any h i Y
  unfold Wd.val at hc
  cases hi : isImg h.eyes i
  all_goals
    rw [hi] at hc
    clear hi
    go_enter Try.func44, Try.ntmps44
  · go_wp2_with (first | (go_at_call 84; refine (hc.out _).mono ?_; rintro e w1 ⟨rfl, hb1⟩) | (go_at_call 82; refine (insist_no _ _).mono ?_; rintro e w2 ⟨rfl, hb2⟩))
    exact ⟨rfl, rfl, by (repeat (first | assumption | exact Below.refl _ _ | refine BA ?_ _ | refine BC ?_ _ _ (by omega) _ | refine Below.drew ?_ | refine BT ?_ (by assumption)))⟩
  · go_wp2_with (first | (go_at_call 84; refine (hc.out _).mono ?_; rintro e w1 ⟨rfl, hb1⟩) | (go_at_call 82; refine (insist_yes _ _).mono ?_; rintro e w2 ⟨rfl, hb2⟩))
    go_end0
    exact ⟨rfl, by (repeat (first | assumption | exact Below.refl _ _ | refine BA ?_ _ | refine BC ?_ _ _ (by omega) _ | refine Below.drew ?_ | refine BT ?_ (by assumption)))⟩
theorem insistImage_any (L : Nat) (h : Wd) (i : Int) (w : World) (hL : BoxW w L h) :
    Calls Try.prog 51 #[.pointer (some ⟨L, 0, none⟩), .int .i64 i] w (Out (if isImg h.images i then .ok (.tuple #[]) else .error 2) w) := by
  obtain ⟨k0, k1, k2, k3, k4, k5, k6, k7⟩ := hL
  have hc : Hid (∀ Y, Calls Try.prog 88 #[h.val, .int .i64 i] Y (Ret (.bool (isImg h.images i)) Y)) := fun Y => isImage_any h i Y
  unfold Wd.val at hc
  cases hi : isImg h.images i
  all_goals
    rw [hi] at hc
    clear hi
    go_enter Try.func51, Try.ntmps51
  · go_wp2_with (first | (go_at_call 88; refine (hc.out _).mono ?_; rintro e w1 ⟨rfl, hb1⟩) | (go_at_call 82; refine (insist_no _ _).mono ?_; rintro e w2 ⟨rfl, hb2⟩))
    exact ⟨rfl, rfl, by (repeat (first | assumption | exact Below.refl _ _ | refine BA ?_ _ | refine BC ?_ _ _ (by omega) _ | refine Below.drew ?_ | refine BT ?_ (by assumption)))⟩
  · go_wp2_with (first | (go_at_call 88; refine (hc.out _).mono ?_; rintro e w1 ⟨rfl, hb1⟩) | (go_at_call 82; refine (insist_yes _ _).mono ?_; rintro e w2 ⟨rfl, hb2⟩))
    go_end0
    exact ⟨rfl, by (repeat (first | assumption | exact Below.refl _ _ | refine BA ?_ _ | refine BC ?_ _ _ (by omega) _ | refine Below.drew ?_ | refine BT ?_ (by assumption)))⟩

theorem all_any (n : Nat) (w : World) (hn : n ≤ 12) : Calls Try.prog 91 #[.int .i64 n] w (Ret (.int .i64 (2 ^ n - 1)) w) := by
  have hn0 : (0 : Int) ≤ (n : Int) := by omega
  have hn1 : (n : Int) ≤ 12 := by omega
  go_enter Try.func91, Try.ntmps91
  have hp : Hid (wrap64 (wrap64 (2 ^ n) - 1) = 2 ^ n - 1) := by
    have h := (by decide +kernel : ∀ k : Fin 13, wrap64 (wrap64 (2 ^ k.val) - 1) = 2 ^ k.val - 1) ⟨n, by omega⟩
    exact h
  go_wp2
  go_ret
  exact ⟨by rw [← hp.out]; rfl, Below.refl _ _⟩
theorem looks_any (L : Nat) (h : Wd) (w : World) (hL : BoxW w L h) (hn : h.ln ≤ 12) : Calls Try.prog 58 #[.pointer (some ⟨L, 0, none⟩)] w (Ret (.int .i64 (2 ^ h.ln - 1)) w) := by
  obtain ⟨k0, k1, k2, k3, k4, k5, k6, k7⟩ := hL
  have hc : Hid (∀ Y, Calls Try.prog 91 #[.int .i64 h.ln] Y (Ret (.int .i64 (2 ^ h.ln - 1)) Y)) := fun Y => all_any h.ln Y hn
  generalize (2 ^ h.ln - 1 : Int) = r at hc ⊢
  go_enter Try.func58, Try.ntmps58
  go_wp2_with (go_at_call 91; refine (hc.out _).mono ?_; rintro e w1 ⟨rfl, hb1⟩)
  go_ret
  exact ⟨rfl, by (repeat (first | assumption | exact Below.refl _ _ | refine BA ?_ _ | refine BC ?_ _ _ (by omega) _ | refine Below.drew ?_ | refine BT ?_ (by assumption)))⟩
theorem eyes_any (L n : Nat) (h : Wd) (w : World) (hL : BoxW w L h) (he : h.eyes = n) (hn : n ≤ 12) : Calls Try.prog 59 #[.pointer (some ⟨L, 0, none⟩)] w (Ret (.int .i64 (2 ^ n - 1)) w) := by
  obtain ⟨k0, k1, k2, k3, k4, k5, k6, k7⟩ := hL
  rw [he] at k4
  have hc : Hid (∀ Y, Calls Try.prog 91 #[.int .i64 n] Y (Ret (.int .i64 (2 ^ n - 1)) Y)) := fun Y => all_any n Y hn
  generalize (2 ^ n - 1 : Int) = r at hc ⊢
  go_enter Try.func59, Try.ntmps59
  go_wp2_with (go_at_call 91; refine (hc.out _).mono ?_; rintro e w1 ⟨rfl, hb1⟩)
  go_ret
  exact ⟨rfl, by (repeat (first | assumption | exact Below.refl _ _ | refine BA ?_ _ | refine BC ?_ _ _ (by omega) _ | refine Below.drew ?_ | refine BT ?_ (by assumption)))⟩
end Ey
end Go.Proofs.Ytcfjakifeihbpaa
