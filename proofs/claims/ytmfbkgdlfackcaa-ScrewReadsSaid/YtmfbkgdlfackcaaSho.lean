/- The bounds made as short as all of them together do. -/
import Derived.Test.YtmfbkgdlfackcaaNar
namespace Go.Proofs.Ytmfbkgdlfackcaa
open Go.RowKit

def itS (f : Nat → List Int → List Int) : Nat → List Int → List Int
  | 0, M => M
  | k + 1, M => f k (itS f k M)
def rowS (b f : Nat) (M : List Int) : List Int := itS (fun t M => shortStep M f b t) 8 M
def roundS (b : Nat) (M : List Int) : List Int := itS (fun f M => rowS b f M) 8 M
/-- Whether no contradiction was found in the first rounds, and what the bounds are then. -/
def shortS : Nat → List Int → Bool × List Int
  | 0, M => (true, M)
  | k + 1, M => if (shortS k M).1 then (!contra (roundS k (shortS k M).2), roundS k (shortS k M).2) else shortS k M
theorem contradict_b (B : Nat) (M : List Int) (b : Bool) (w : World) (h : IsB w B M) (hb : contra M = b) :
    Calls Try.prog 107 #[.pointer (some ⟨B, 0, none⟩)] w (fun e w' => e = .returned (.bool b) ∧ w' = w) := by
  rw [← hb]; exact contradict_any B M w h
theorem shortS_stop (M : List Int) (k : Nat) (h : (shortS k M).1 = false) : ∀ j, shortS (k + j) M = shortS k M := by
  intro j
  induction j with
  | zero => rfl
  | succ j ih => show shortS ((k + j) + 1) M = _; rw [shortS, ih, h]; rfl

set_option maxRecDepth 100000 in
set_option maxHeartbeats 1000000 in
theorem shorten_any (B : Nat) (M : List Int) (w : World) (h : IsB w B M) :
    Calls Try.prog 102 #[.pointer (some ⟨B, 0, none⟩)] w (fun e w' => e = .returned (.bool (shortS 8 M).1) ∧ BX B w w' ∧ IsB w' B (shortS 8 M).2) := by
  have hbw : B < w.heap.size := h.lt
  have HB := Lib.hid h; clear h
  go_enter Try.func102, Try.ntmps102
  go_wp2
  go_loopw [8] (fun i wr => ∃ k : Nat, k ≤ 8 ∧ i = .int .i64 k ∧ Hid ((shortS k M).1 = true) ∧ IsB wr B (shortS k M).2 ∧ BX B w wr ∧ wr.cell? ⟨w.heap.size, 0, none⟩ = some (.pointer (some ⟨B, 0, none⟩)) ∧ w.heap.size < wr.heap.size) (fun i _ => 8 - (intOf i).toNat)
  case atStart => exact ⟨0, by omega, rfl, rfl, HB.out.alloc _, BX.alloc _ _ _, by simp, by simp⟩
  case round =>
    obtain ⟨k, hk, rfl, HT, hI, hX, hV, hN⟩ := hrel
    by_cases hlt : k < 8
    · have HE : Hid (shortS (k + 1) M = (!contra (roundS k (shortS k M).2), roundS k (shortS k M).2)) := by show _ = _; rw [shortS, if_pos HT.out]
      have HS := Lib.hid (shortS_stop M (k + 1))
      generalize (shortS k M).2 = M1 at *
      have hkb : decide ((k : Int) < 8) = true := by simp; omega
      obtain ⟨wo, rfl⟩ : ∃ wo : World, wo = wr := ⟨_, rfl⟩
      have HI := Lib.hid hI; clear hI
      have HX := Lib.hid hX; clear hX
      go_wp2_with fail
      go_loopw [11] (fun i wr => ∃ j : Nat, j ≤ 8 ∧ i = .int .i64 j ∧ IsB wr B (itS (fun f M => rowS k f M) j M1) ∧ BX B wo wr ∧ wr.cell? ⟨w.heap.size, 0, none⟩ = some (.pointer (some ⟨B, 0, none⟩)) ∧ w.heap.size < wr.heap.size) (fun i _ => 8 - (intOf i).toNat)
      case atStart => exact ⟨0, by omega, rfl, HI.out, BX.refl _ _, hV, hN⟩
      case round =>
        clear hV hN
        obtain ⟨j, hj, rfl, hI, hX, hV, hN⟩ := hrel
        by_cases hlj : j < 8
        · have HE2 : Hid (itS (fun f M => rowS k f M) (j + 1) M1 = rowS k j (itS (fun f M => rowS k f M) j M1)) := rfl
          generalize itS (fun f M => rowS k f M) j M1 = M2 at *
          have hjb : decide ((j : Int) < 8) = true := by simp; omega
          obtain ⟨wi, rfl⟩ : ∃ wi : World, wi = wr := ⟨_, rfl⟩
          have HI2 := Lib.hid hI; clear hI
          have HX2 := Lib.hid hX; clear hX
          go_wp2_with fail
          go_loopw [14] (fun i wr => ∃ t : Nat, t ≤ 8 ∧ i = .int .i64 t ∧ IsB wr B (itS (fun t M => shortStep M j k t) t M2) ∧ BX B wi wr ∧ wr.cell? ⟨w.heap.size, 0, none⟩ = some (.pointer (some ⟨B, 0, none⟩)) ∧ w.heap.size < wr.heap.size) (fun i _ => 8 - (intOf i).toNat)
          case atStart => exact ⟨0, by omega, rfl, HI2.out, BX.refl _ _, hV, hN⟩
          case round =>
            clear hV hN
            obtain ⟨t, ht, rfl, hI, hX, hV, hN⟩ := hrel
            by_cases hltt : t < 8
            · have HI3 := Lib.hid hI; clear hI
              have HX3 := Lib.hid hX; clear hX
              go_wp2_with (first | (go_at_call 106; refine (short1_any B w.heap.size j k t hlj hlt hltt _ _ HI3.out hV).mono ?_; rintro e w1 ⟨rfl, hx1, hi1⟩))
              go_roundw
              case rel => exact ⟨t + 1, by omega, by go_num, hi1, HX3.out.trans hx1, (hx1.cell _ _ hN (by omega)).trans hV, Nat.lt_of_lt_of_le hN hx1.size⟩
              case measure => simp [intOf]; omega
            · obtain rfl : t = 8 := by omega
              go_wp2_with fail
              go_roundw
              case rel => exact ⟨j + 1, by omega, by go_num, by rw [HE2.out]; exact hI, HX2.out.trans hX, hV, hN⟩
              case measure => simp [intOf]; omega
        · obtain rfl : j = 8 := by omega
          have HI2 := Lib.hid hI; clear hI
          have HX2 := Lib.hid hX; clear hX
          have hcc2 : (itS (fun f M => rowS k f M) 8 M1) = roundS k M1 := rfl
          rw [hcc2] at HI2
          clear hcc2
          generalize roundS k M1 = M3 at *
          cases hct : contra M3
          · have HC := Lib.hid hct; clear hct
            go_wp2_with (first | (go_at_call 107; refine (contradict_b B _ _ _ HI2.out HC.out).mono ?_; rintro e w1 ⟨rfl, rfl⟩))
            go_roundw
            case rel => exact ⟨k + 1, by omega, by go_num, by show _ = _; rw [HE.out, HC.out]; rfl, by rw [HE.out]; exact HI2.out, HX.out.trans HX2.out, hV, hN⟩
            case measure => simp [intOf]; omega
          · have HC := Lib.hid hct; clear hct
            go_wp2_with (first | (go_at_call 107; refine (contradict_b B _ _ _ HI2.out HC.out).mono ?_; rintro e w1 ⟨rfl, rfl⟩))
            go_ret
            have h8 : shortS 8 M = shortS (k + 1) M := by
              have := HS.out (by rw [HE.out, HC.out]; rfl) (7 - k)
              rwa [show k + 1 + (7 - k) = 8 by omega] at this
            exact ⟨by rw [h8, HE.out, HC.out]; rfl, HX.out.trans HX2.out, by rw [h8, HE.out]; exact HI2.out⟩
    · obtain rfl : k = 8 := by omega
      go_wp2
      go_ret
      exact ⟨by rw [HT.out]; rfl, hX, hI⟩
end Go.Proofs.Ytmfbkgdlfackcaa
