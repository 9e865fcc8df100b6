/- ScrewWrong: the settings that clash, those that must be wrong, and the images that were measured once. -/
import Derived.Test.YtmfbkgdlfackcaaRon
import Derived.Test.YtmfbkgdlfackcaaHea
import Derived.Test.YtmfbkgdlfackcaaWit
namespace Go.Proofs.Ytmfbkgdlfackcaa
open Fw Go.RowKit

set_option maxRecDepth 100000 in
set_option maxHeartbeats 4000000 in
theorem wrong_any (h : Hd) (xs : List (Int × Int)) (ss : List Sett) (w : World) (hm : HasM w h xs ss) :
    Calls Try.prog 4 #[h.val] w (Ret (.bool true) w) := by
  have hb0 := boxM_new hm
  have hB0 : Below w.heap.size w (w.alloc (.cells #[.slice h.a h.n h.cap, .int .i64 h.eLo, .int .i64 h.eHi, .int .i64 h.images, .int .i64 h.sLo, .int .i64 h.sHi, .slice h.sa h.ns h.scap] 29)) := newB _ _
  clear hm
  unfold Hd.val
  go_enter Try.func4, Try.ntmps4
  obtain ⟨c0, c1, c2, c3, c4, c5, c6, hh⟩ := id hb0
  go_wp2_with fail
  generalize w.heap.size = B at hb0 c0 c1 c2 c3 c4 c5 c6 ⊢
  generalize w.alloc (.cells #[.slice h.a h.n h.cap, .int .i64 h.eLo, .int .i64 h.eHi, .int .i64 h.images, .int .i64 h.sLo, .int .i64 h.sHi, .slice h.sa h.ns h.scap] 29) = W at *
  refine (great_any h W).mono ?_
  rintro e w1 ⟨rfl, hb1⟩
  have hB1 := BT hB0 hb1
  have HB1 := Lib.hid (hb0.grown hb1)
  clear hb0 hb1 hB0 hh c0 c1 c2 c3 c4 c5 c6
  cases hg : greatB h.n h.ns
  case true =>
    clear HB1
    go_wp2_with fail
    refine (alive_any _).mono ?_
    rintro e w2 ⟨rfl, hb2⟩
    go_wp2
    go_ret
    exact ⟨rfl, by (repeat (first | assumption | exact Below.refl _ _ | refine BA ?_ _ | refine BC ?_ _ _ (by omega) _ | refine Below.drew ?_ | refine BT ?_ (by assumption)))⟩
  have hg1 : h.ns ≤ 30 ∧ h.n ≤ 100 := by simp [greatB] at hg; omega
  clear hg
  obtain ⟨c0, c1, c2, c3, c4, c5, c6, hh⟩ := HB1.out
  have hnx : xs.length ≤ 100 := by rw [hh.nx]; omega
  have hns : ss.length ≤ 100 := by rw [hh.ns]; omega
  have hhv := heavy_any h xs ss 9 131072 w1 hh hnx hns
  unfold Hd.val at hhv
  clear hh
  go_wp2_with fail
  refine hhv.mono ?_
  rintro e w2 ⟨rfl, hb2⟩
  have hB2 := BT hB1 hb2
  have HB2 := Lib.hid (HB1.out.grown hb2)
  clear HB1 hb2 hB1 c0 c1 c2 c3 c4 c5 c6 hhv
  cases hv : heavyB h xs ss 9 131072
  case true =>
    clear HB2
    go_wp2_with fail
    refine (alive_any _).mono ?_
    rintro e w3 ⟨rfl, hb3⟩
    go_wp2
    go_ret
    exact ⟨rfl, by (repeat (first | assumption | exact Below.refl _ _ | refine BA ?_ _ | refine BC ?_ _ _ (by omega) _ | refine Below.drew ?_ | refine BT ?_ (by assumption)))⟩
  clear hv
  obtain ⟨l0, e0, q0⟩ := replyI_eq (clashA h xs ss)
  have HC24 : Hid (∀ Y, HasM Y h xs ss → Calls Try.prog 24 #[.agg #[.slice h.a h.n h.cap, .int .i64 h.eLo, .int .i64 h.eHi, .int .i64 h.images, .int .i64 h.sLo, .int .i64 h.sHi, .slice h.sa h.ns h.scap]] Y (Ret (.tuple #[.int .i64 l0, .int .i64 e0]) Y)) := fun Y hY => by
    have := clash_any h xs ss Y hY
    rw [q0] at this; exact this
  have HC25 : Hid (∀ Y, HasM Y h xs ss → Calls Try.prog 25 #[.agg #[.slice h.a h.n h.cap, .int .i64 h.eLo, .int .i64 h.eHi, .int .i64 h.images, .int .i64 h.sLo, .int .i64 h.sHi, .slice h.sa h.ns h.scap]] Y (Ret (.tuple #[.int .i64 l0, .int .i64 e0]) Y)) := fun Y hY => by
    have := clash_anyR h xs ss Y hY hnx hns
    rw [clash_same, q0] at this; exact this
  obtain ⟨l1, e1, q1⟩ := replyI_eq (dropA h xs ss)
  have HC26 : Hid (∀ Y, HasM Y h xs ss → Calls Try.prog 26 #[.agg #[.slice h.a h.n h.cap, .int .i64 h.eLo, .int .i64 h.eHi, .int .i64 h.images, .int .i64 h.sLo, .int .i64 h.sHi, .slice h.sa h.ns h.scap]] Y (Ret (.tuple #[.int .i64 l1, .int .i64 e1]) Y)) := fun Y hY => by
    have := drop_any h xs ss Y hY
    rw [q1] at this; exact this
  have HC27 : Hid (∀ Y, HasM Y h xs ss → Calls Try.prog 27 #[.agg #[.slice h.a h.n h.cap, .int .i64 h.eLo, .int .i64 h.eHi, .int .i64 h.images, .int .i64 h.sLo, .int .i64 h.sHi, .slice h.sa h.ns h.scap]] Y (Ret (.tuple #[.int .i64 l1, .int .i64 e1]) Y)) := fun Y hY => by
    have := drop_anyR h xs ss Y hY hnx hns
    rw [drop_same, q1] at this; exact this
  obtain ⟨l2, e2, q2⟩ := replyI_eq (onceA h xs ss)
  have HC28 : Hid (∀ Y, HasM Y h xs ss → Calls Try.prog 28 #[.agg #[.slice h.a h.n h.cap, .int .i64 h.eLo, .int .i64 h.eHi, .int .i64 h.images, .int .i64 h.sLo, .int .i64 h.sHi, .slice h.sa h.ns h.scap]] Y (Ret (.tuple #[.int .i64 l2, .int .i64 e2]) Y)) := fun Y hY => by
    have := once_any h xs ss Y hY
    rw [q2] at this; exact this
  have HC29 : Hid (∀ Y, HasM Y h xs ss → Calls Try.prog 29 #[.agg #[.slice h.a h.n h.cap, .int .i64 h.eLo, .int .i64 h.eHi, .int .i64 h.images, .int .i64 h.sLo, .int .i64 h.sHi, .slice h.sa h.ns h.scap]] Y (Ret (.tuple #[.int .i64 l2, .int .i64 e2]) Y)) := fun Y hY => by
    have := once_anyR h xs ss Y hY hnx hns
    rw [once_same, q2] at this; exact this
  clear hnx hns q0 q1 q2
  obtain ⟨c0, c1, c2, c3, c4, c5, c6, hh⟩ := HB2.out
  go_wp2_with fail
  refine (HC24.out _ hh).mono ?_
  rintro e w3 ⟨rfl, hb3⟩
  have HB3 := Lib.hid (HB2.out.grown hb3)
  have hB3 := BT hB2 hb3
  clear HC24 hb3 HB2 hB2 hh c0 c1 c2 c3 c4 c5 c6
  obtain ⟨c0, c1, c2, c3, c4, c5, c6, hh⟩ := HB3.out
  go_wp2_with fail
  refine (HC25.out _ hh).mono ?_
  rintro e w4 ⟨rfl, hb4⟩
  have HB4 := Lib.hid (HB3.out.grown hb4)
  have hB4 := BT hB3 hb4
  clear HC25 hb4 HB3 hB3 hh c0 c1 c2 c3 c4 c5 c6
  obtain ⟨c0, c1, c2, c3, c4, c5, c6, hh⟩ := HB4.out
  go_wp2_with fail
  refine (HC26.out _ hh).mono ?_
  rintro e w5 ⟨rfl, hb5⟩
  have HB5 := Lib.hid (HB4.out.grown hb5)
  have hB5 := BT hB4 hb5
  clear HC26 hb5 HB4 hB4 hh c0 c1 c2 c3 c4 c5 c6
  obtain ⟨c0, c1, c2, c3, c4, c5, c6, hh⟩ := HB5.out
  go_wp2_with fail
  refine (HC27.out _ hh).mono ?_
  rintro e w6 ⟨rfl, hb6⟩
  have HB6 := Lib.hid (HB5.out.grown hb6)
  have hB6 := BT hB5 hb6
  clear HC27 hb6 HB5 hB5 hh c0 c1 c2 c3 c4 c5 c6
  obtain ⟨c0, c1, c2, c3, c4, c5, c6, hh⟩ := HB6.out
  go_wp2_with fail
  refine (HC28.out _ hh).mono ?_
  rintro e w7 ⟨rfl, hb7⟩
  have HB7 := Lib.hid (HB6.out.grown hb7)
  have hB7 := BT hB6 hb7
  clear HC28 hb7 HB6 hB6 hh c0 c1 c2 c3 c4 c5 c6
  obtain ⟨c0, c1, c2, c3, c4, c5, c6, hh⟩ := HB7.out
  go_wp2_with fail
  refine (HC29.out _ hh).mono ?_
  rintro e w8 ⟨rfl, hb8⟩
  have HB8 := Lib.hid (HB7.out.grown hb8)
  have hB8 := BT hB7 hb8
  clear HC29 hb8 HB7 hB7 hh c0 c1 c2 c3 c4 c5 c6
  go_wp2_with fail
  refine (alive_any _).mono ?_
  rintro e w9 ⟨rfl, hb9⟩
  go_wp2
  go_ret
  exact ⟨rfl, by (repeat (first | assumption | exact Below.refl _ _ | refine BA ?_ _ | refine BC ?_ _ _ (by omega) _ | refine Below.drew ?_ | refine BT ?_ (by assumption)))⟩
end Go.Proofs.Ytmfbkgdlfackcaa
