/- ScrewIdle: the settings that tell nothing. -/
import Derived.Test.YtmfbkgdlfackcaaIdr
import Derived.Test.YtmfbkgdlfackcaaHea
import Derived.Test.YtmfbkgdlfackcaaWit
namespace Go.Proofs.Ytmfbkgdlfackcaa
open Fw Go.RowKit

set_option maxRecDepth 100000 in
set_option maxHeartbeats 4000000 in
theorem idleL_any (h : Hd) (xs : List (Int × Int)) (ss : List Sett) (w : World) (hm : HasM w h xs ss) :
    Calls Try.prog 5 #[h.val] w (Ret (.bool true) w) := by
  have hb0 := boxM_new hm
  have hB0 : Below w.heap.size w (w.alloc (.cells #[.slice h.a h.n h.cap, .int .i64 h.eLo, .int .i64 h.eHi, .int .i64 h.images, .int .i64 h.sLo, .int .i64 h.sHi, .slice h.sa h.ns h.scap] 29)) := newB _ _
  clear hm
  unfold Hd.val
  go_enter Try.func5, Try.ntmps5
  obtain ⟨c0, c1, c2, c3, c4, c5, c6, hh⟩ := id hb0
  go_wp2_with fail
  generalize w.heap.size = B at hb0 c0 c1 c2 c3 c4 c5 c6 ⊢
  generalize w.alloc (.cells #[.slice h.a h.n h.cap, .int .i64 h.eLo, .int .i64 h.eHi, .int .i64 h.images, .int .i64 h.sLo, .int .i64 h.sHi, .slice h.sa h.ns h.scap] 29) = W at *
  refine (great_any h W).mono ?_
  rintro e w1 ⟨rfl, hb1⟩
  have hB1 := BT hB0 hb1
  have HB1 := Lib.hid (hb0.grown hb1)
  clear hb0 hb1 hB0 hh c0 c1 c2 c3 c4 c5 c6
  cases hg : greatB h.n h.ns
  case true =>
    clear HB1
    go_wp2_with fail
    refine (alive_any _).mono ?_
    rintro e w2 ⟨rfl, hb2⟩
    go_wp2
    go_ret
    exact ⟨rfl, by (repeat (first | assumption | exact Below.refl _ _ | refine BA ?_ _ | refine BC ?_ _ _ (by omega) _ | refine Below.drew ?_ | refine BT ?_ (by assumption)))⟩
  have hg1 : h.ns ≤ 30 ∧ h.n ≤ 100 := by simp [greatB] at hg; omega
  clear hg
  obtain ⟨c0, c1, c2, c3, c4, c5, c6, hh⟩ := HB1.out
  have hnx : xs.length ≤ 100 := by rw [hh.nx]; omega
  have hns : ss.length ≤ 100 := by rw [hh.ns]; omega
  have hhv := heavy_any h xs ss 8 600 w1 hh hnx hns
  unfold Hd.val at hhv
  clear hh
  go_wp2_with fail
  refine hhv.mono ?_
  rintro e w2 ⟨rfl, hb2⟩
  have hB2 := BT hB1 hb2
  have HB2 := Lib.hid (HB1.out.grown hb2)
  clear HB1 hb2 hB1 c0 c1 c2 c3 c4 c5 c6 hhv
  cases hv : heavyB h xs ss 8 600
  case true =>
    clear HB2
    go_wp2_with fail
    refine (alive_any _).mono ?_
    rintro e w3 ⟨rfl, hb3⟩
    go_wp2
    go_ret
    exact ⟨rfl, by (repeat (first | assumption | exact Below.refl _ _ | refine BA ?_ _ | refine BC ?_ _ _ (by omega) _ | refine Below.drew ?_ | refine BT ?_ (by assumption)))⟩
  clear hv
  obtain ⟨l0, e0, q0⟩ := replyI_eq (idleA h xs ss)
  have HC30 : Hid (∀ Y, HasM Y h xs ss → Calls Try.prog 30 #[.agg #[.slice h.a h.n h.cap, .int .i64 h.eLo, .int .i64 h.eHi, .int .i64 h.images, .int .i64 h.sLo, .int .i64 h.sHi, .slice h.sa h.ns h.scap]] Y (Ret (.tuple #[.int .i64 l0, .int .i64 e0]) Y)) := fun Y hY => by
    have := idle_any h xs ss Y hY
    rw [q0] at this; exact this
  have HC31 : Hid (∀ Y, HasM Y h xs ss → Calls Try.prog 31 #[.agg #[.slice h.a h.n h.cap, .int .i64 h.eLo, .int .i64 h.eHi, .int .i64 h.images, .int .i64 h.sLo, .int .i64 h.sHi, .slice h.sa h.ns h.scap]] Y (Ret (.tuple #[.int .i64 l0, .int .i64 e0]) Y)) := fun Y hY => by
    have := idle_anyR h xs ss Y hY hnx hns
    rw [q0] at this; exact this
  clear hnx hns q0
  obtain ⟨c0, c1, c2, c3, c4, c5, c6, hh⟩ := HB2.out
  go_wp2_with fail
  refine (HC30.out _ hh).mono ?_
  rintro e w3 ⟨rfl, hb3⟩
  have HB3 := Lib.hid (HB2.out.grown hb3)
  have hB3 := BT hB2 hb3
  clear HC30 hb3 HB2 hB2 hh c0 c1 c2 c3 c4 c5 c6
  obtain ⟨c0, c1, c2, c3, c4, c5, c6, hh⟩ := HB3.out
  go_wp2_with fail
  refine (HC31.out _ hh).mono ?_
  rintro e w4 ⟨rfl, hb4⟩
  have HB4 := Lib.hid (HB3.out.grown hb4)
  have hB4 := BT hB3 hb4
  clear HC31 hb4 HB3 hB3 hh c0 c1 c2 c3 c4 c5 c6
  go_wp2_with fail
  refine (alive_any _).mono ?_
  rintro e w5 ⟨rfl, hb5⟩
  go_wp2
  go_ret
  exact ⟨rfl, by (repeat (first | assumption | exact Below.refl _ _ | refine BA ?_ _ | refine BC ?_ _ _ (by omega) _ | refine Below.drew ?_ | refine BT ?_ (by assumption)))⟩
end Go.Proofs.Ytmfbkgdlfackcaa
