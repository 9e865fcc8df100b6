/- Eye: the methods of a watch that is looked at, and looking at one that is not valid. -/
import Derived.Test.YtcfjakifeihbpaaGreatEva
namespace Go.Proofs.YtcfjakifeihbpaaGreat
namespace Ey
open Go.RowKit

set_option maxHeartbeats 1000000 in
theorem lookAt_no (h : Wd) (xs : List (Int × Int)) (ls : List LkV) (w : World) (hm : HasW w h xs ls) (hv : validW h xs ls = false) : Calls Tryz.prog 20 #[h.val] w (Pan 1 w) := by
  have HM := Lib.hid hm; clear hm
  have HV := Lib.hid hv; clear hv
  have hc : Hid (∀ Y, Below w.heap.size w Y → Calls Tryz.prog 63 #[h.val] Y (Ret (.bool false) Y)) := fun Y hY => by rw [← HV.out]; exact valid_any h xs ls Y (HM.out.below hY)
  unfold Wd.val at hc ⊢
  go_enter Tryz.func20, Tryz.ntmps20
  go_wp2_with (first | (go_at_call 63; refine (hc.out _ (by (repeat (first | assumption | exact Below.refl _ _ | refine BA ?_ _ | refine BC ?_ _ _ (by omega) _ | refine Below.drew ?_ | refine BT ?_ (by assumption))))).mono ?_; rintro e w1 ⟨rfl, hb1⟩) | (go_at_call 62; refine (insist_no _ _).mono ?_; rintro e w2 ⟨rfl, hb2⟩))
  exact ⟨rfl, rfl, by (repeat (first | assumption | exact Below.refl _ _ | refine BA ?_ _ | refine BC ?_ _ _ (by omega) _ | refine Below.drew ?_ | refine BT ?_ (by assumption)))⟩

theorem insistEye_any (L : Nat) (h : Wd) (i : Int) (w : World) (hL : BoxW w L h) :
    Calls Tryz.prog 55 #[.pointer (some ⟨L, 0, none⟩), .int .i64 i] w (Out (if isImg h.eyes i then .ok (.tuple #[]) else .error 2) w) := by
  obtain ⟨k0, k1, k2, k3, k4, k5, k6, k7⟩ := hL
  have hc : Hid (∀ Y, Calls Tryz.prog 80 #[h.val, .int .i64 i] Y (Ret (.bool (isImg h.eyes i)) Y)) := fun Y => isEye_any h i Y
  unfold Wd.val at hc
  cases hi : isImg h.eyes i
  all_goals
    rw [hi] at hc
    clear hi
    go_enter Tryz.func55, Tryz.ntmps55
  · go_wp2_with (first | (go_at_call 80; refine (hc.out _).mono ?_; rintro e w1 ⟨rfl, hb1⟩) | (go_at_call 62; refine (insist_no _ _).mono ?_; rintro e w2 ⟨rfl, hb2⟩))
    exact ⟨rfl, rfl, by (repeat (first | assumption | exact Below.refl _ _ | refine BA ?_ _ | refine BC ?_ _ _ (by omega) _ | refine Below.drew ?_ | refine BT ?_ (by assumption)))⟩
  · go_wp2_with (first | (go_at_call 80; refine (hc.out _).mono ?_; rintro e w1 ⟨rfl, hb1⟩) | (go_at_call 62; refine (insist_yes _ _).mono ?_; rintro e w2 ⟨rfl, hb2⟩))
    go_end0
    exact ⟨rfl, by (repeat (first | assumption | exact Below.refl _ _ | refine BA ?_ _ | refine BC ?_ _ _ (by omega) _ | refine Below.drew ?_ | refine BT ?_ (by assumption)))⟩
theorem insistImage_any (L : Nat) (h : Wd) (i : Int) (w : World) (hL : BoxW w L h) :
    Calls Tryz.prog 40 #[.pointer (some ⟨L, 0, none⟩), .int .i64 i] w (Out (if isImg h.images i then .ok (.tuple #[]) else .error 2) w) := by
  obtain ⟨k0, k1, k2, k3, k4, k5, k6, k7⟩ := hL
  have hc : Hid (∀ Y, Calls Tryz.prog 77 #[h.val, .int .i64 i] Y (Ret (.bool (isImg h.images i)) Y)) := fun Y => isImage_any h i Y
  unfold Wd.val at hc
  cases hi : isImg h.images i
  all_goals
    rw [hi] at hc
    clear hi
    go_enter Tryz.func40, Tryz.ntmps40
  · go_wp2_with (first | (go_at_call 77; refine (hc.out _).mono ?_; rintro e w1 ⟨rfl, hb1⟩) | (go_at_call 62; refine (insist_no _ _).mono ?_; rintro e w2 ⟨rfl, hb2⟩))
    exact ⟨rfl, rfl, by (repeat (first | assumption | exact Below.refl _ _ | refine BA ?_ _ | refine BC ?_ _ _ (by omega) _ | refine Below.drew ?_ | refine BT ?_ (by assumption)))⟩
  · go_wp2_with (first | (go_at_call 77; refine (hc.out _).mono ?_; rintro e w1 ⟨rfl, hb1⟩) | (go_at_call 62; refine (insist_yes _ _).mono ?_; rintro e w2 ⟨rfl, hb2⟩))
    go_end0
    exact ⟨rfl, by (repeat (first | assumption | exact Below.refl _ _ | refine BA ?_ _ | refine BC ?_ _ _ (by omega) _ | refine Below.drew ?_ | refine BT ?_ (by assumption)))⟩

theorem all_any (n : Nat) (w : World) (hn : n ≤ 12) : Calls Tryz.prog 67 #[.int .i64 n] w (Ret (.int .i64 (2 ^ n - 1)) w) := by
  have hn0 : (0 : Int) ≤ (n : Int) := by omega
  have hn1 : (n : Int) ≤ 12 := by omega
  go_enter Tryz.func67, Tryz.ntmps67
  have hp : Hid (wrap64 (wrap64 (2 ^ n) - 1) = 2 ^ n - 1) := by
    have h := (by decide +kernel : ∀ k : Fin 13, wrap64 (wrap64 (2 ^ k.val) - 1) = 2 ^ k.val - 1) ⟨n, by omega⟩
    exact h
  go_wp2
  go_ret
  exact ⟨by rw [← hp.out]; rfl, Below.refl _ _⟩
theorem looks_any (L : Nat) (h : Wd) (w : World) (hL : BoxW w L h) (hn : h.ln ≤ 12) : Calls Tryz.prog 22 #[.pointer (some ⟨L, 0, none⟩)] w (Ret (.int .i64 (2 ^ h.ln - 1)) w) := by
  obtain ⟨k0, k1, k2, k3, k4, k5, k6, k7⟩ := hL
  have hc : Hid (∀ Y, Calls Tryz.prog 67 #[.int .i64 h.ln] Y (Ret (.int .i64 (2 ^ h.ln - 1)) Y)) := fun Y => all_any h.ln Y hn
  generalize (2 ^ h.ln - 1 : Int) = r at hc ⊢
  go_enter Tryz.func22, Tryz.ntmps22
  go_wp2_with (go_at_call 67; refine (hc.out _).mono ?_; rintro e w1 ⟨rfl, hb1⟩)
  go_ret
  exact ⟨rfl, by (repeat (first | assumption | exact Below.refl _ _ | refine BA ?_ _ | refine BC ?_ _ _ (by omega) _ | refine Below.drew ?_ | refine BT ?_ (by assumption)))⟩
theorem eyes_any (L n : Nat) (h : Wd) (w : World) (hL : BoxW w L h) (he : h.eyes = n) (hn : n ≤ 12) : Calls Tryz.prog 23 #[.pointer (some ⟨L, 0, none⟩)] w (Ret (.int .i64 (2 ^ n - 1)) w) := by
  obtain ⟨k0, k1, k2, k3, k4, k5, k6, k7⟩ := hL
  rw [he] at k4
  have hc : Hid (∀ Y, Calls Tryz.prog 67 #[.int .i64 n] Y (Ret (.int .i64 (2 ^ n - 1)) Y)) := fun Y => all_any n Y hn
  generalize (2 ^ n - 1 : Int) = r at hc ⊢
  go_enter Tryz.func23, Tryz.ntmps23
  go_wp2_with (go_at_call 67; refine (hc.out _).mono ?_; rintro e w1 ⟨rfl, hb1⟩)
  go_ret
  exact ⟨rfl, by (repeat (first | assumption | exact Below.refl _ _ | refine BA ?_ _ | refine BC ?_ _ _ (by omega) _ | refine Below.drew ?_ | refine BT ?_ (by assumption)))⟩
end Ey
end Go.Proofs.YtcfjakifeihbpaaGreat
