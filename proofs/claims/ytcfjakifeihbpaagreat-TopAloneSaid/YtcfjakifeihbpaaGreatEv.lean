/- Whether all spans of a list are within bounds; whether a screw is valid. -/
import Derived.Test.YtcfjakifeihbpaaGreatLeaf
import Derived.WalkSpells
import Derived.Deep.RegionHeld3
namespace Go.Proofs.YtcfjakifeihbpaaGreat
open Go.RowKit

/-- At a lie spans, one after the other. -/
def Spans (w : World) (a : Option Addr) (xs : List (Int × Int)) : Prop :=
  xs = [] ∨ ∃ b o, a = some ⟨b, o, none⟩ ∧ b < w.heap.size ∧ ∀ k, k < xs.length → w.cell? ⟨b, o + k * 2, none⟩ = some (.int .i64 (xs.getD k (0, 0)).1) ∧ w.cell? ⟨b, o + k * 2 + 1, none⟩ = some (.int .i64 (xs.getD k (0, 0)).2)
theorem Spans.below {w w' : World} {a : Option Addr} {xs : List (Int × Int)} (h : Spans w a xs) {M : Nat} (hM : w.heap.size ≤ M) (hb : Below M w w') : Spans w' a xs := by
  rcases h with h | ⟨b, o, h1, h2, h3⟩
  · exact .inl h
  · have hs := hb.size
    exact .inr ⟨b, o, h1, by omega, fun k hk => by
      rw [hb.cell (p := ⟨b, o + k * 2, none⟩) (by show b < M; omega), hb.cell (p := ⟨b, o + k * 2 + 1, none⟩) (by show b < M; omega)]; exact h3 k hk⟩

def evB (lo hi : Int) (xs : List (Int × Int)) : Bool := xs.all fun x => holdB lo hi x.1 x.2
theorem evB_no {lo hi : Int} {xs : List (Int × Int)} {k : Nat} (hk : k < xs.length) (h : holdB lo hi (xs.getD k (0, 0)).1 (xs.getD k (0, 0)).2 = false) : evB lo hi xs = false := by
  unfold evB
  rw [List.all_eq_false]
  refine ⟨xs[k], List.getElem_mem hk, ?_⟩
  have e : xs.getD k (0, 0) = xs[k] := by simp [List.getD, hk]
  rw [e] at h
  simp [h]
theorem evB_snoc {lo hi : Int} {xs : List (Int × Int)} {k : Nat} (hk : k < xs.length) (h : evB lo hi (xs.take k) = true) (h' : holdB lo hi (xs.getD k (0, 0)).1 (xs.getD k (0, 0)).2 = true) : evB lo hi (xs.take (k + 1)) = true := by
  unfold evB at *
  have e : xs.getD k (0, 0) = xs[k] := by simp [List.getD, hk]
  rw [e] at h'
  rw [List.take_succ_eq_append_getElem hk, List.all_append, h]
  simp [h']

set_option maxHeartbeats 400000 in
theorem every_any (a : Option Addr) (xs : List (Int × Int)) (cap : Nat) (lo hi : Int) (w : World) (hl : xs.length ≤ 9223372036854775807) (hx : Spans w a xs) :
    Calls Tryz.prog 82 #[.slice a xs.length cap, .func (.func 83) #[.agg #[.int .i64 lo, .int .i64 hi]] #[]] w (Ret (.bool (evB lo hi xs)) w) := by
  have HX := Lib.hid hx; clear hx
  generalize hn : xs.length = n at *
  have HN := Lib.hid hn; clear hn
  go_enter Tryz.func82, Tryz.ntmps82
  go_wp2
  go_loopw [9] (fun i wr => ∃ k : Nat, k ≤ n ∧ i = .int .i64 k ∧ Below w.heap.size w wr ∧ Hid (evB lo hi (xs.take k) = true)) (fun i _ => n - (intOf i).toNat)
  case atStart => exact ⟨0, by omega, rfl, Below.refl _ _, rfl⟩
  case round =>
    obtain ⟨k, hk, rfl, hB, hE⟩ := hrel
    by_cases hlt : k < n
    · rcases HX.out with h | ⟨b, o, rfl, hb, hc⟩
      · exfalso; have := HN.out; rw [h] at this; simp at this; omega
      · obtain ⟨c1, c2⟩ := hc k (by rw [HN.out]; exact hlt)
        have hE1 := Lib.hid (fun h => evB_no (lo := lo) (hi := hi) (xs := xs) (k := k) (by rw [HN.out]; exact hlt) h)
        have hE2 := Lib.hid (fun h => evB_snoc (lo := lo) (hi := hi) (xs := xs) (k := k) (by rw [HN.out]; exact hlt) hE.out h)
        clear hc
        generalize (xs.getD k (0, 0)).1 = l at *
        generalize (xs.getD k (0, 0)).2 = h at *
        have d1 := (hB.cell (p := ⟨b, o + k * 2, none⟩) hb).trans c1
        have d2 := (hB.cell (p := ⟨b, o + k * 2 + 1, none⟩) hb).trans c2
        clear c1 c2
        have hbr : b < wr.heap.size := by have := hB.size; omega
        cases hh : holdB lo hi l h
        all_goals
          have HH := Lib.hid hh; clear hh
          go_wp2_with (first | (go_at_call 84; refine (known_any _ _ _).mono ?_; rintro e w1 ⟨rfl, hb1⟩) | (go_at_call 83; refine (hold_any _ _ _ _ _).mono ?_; rw [HH.out]; rintro e w2 ⟨rfl, hb2⟩))
        · go_ret
          exact ⟨by rw [hE1.out HH.out]; rfl, by (repeat (first | assumption | exact Below.refl _ _ | refine BA ?_ _ | refine BC ?_ _ _ (by omega) _ | refine Below.drew ?_ | refine BT ?_ (by assumption)))⟩
        · go_roundw
          case rel => exact ⟨k + 1, by omega, by go_num, by (repeat (first | assumption | exact Below.refl _ _ | refine BA ?_ _ | refine BC ?_ _ _ (by omega) _ | refine Below.drew ?_ | refine BT ?_ (by assumption))), hE2.out HH.out⟩
          case measure => simp [intOf]; omega
    · obtain rfl : k = n := by omega
      go_wp2
      go_ret
      exact ⟨by have := hE.out; rw [List.take_of_length_le (by rw [HN.out]; omega)] at this; rw [this]; rfl, hB⟩
end Go.Proofs.YtcfjakifeihbpaaGreat
