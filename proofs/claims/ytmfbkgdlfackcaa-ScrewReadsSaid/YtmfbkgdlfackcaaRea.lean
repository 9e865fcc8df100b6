/- ScrewReads: what the package answers is what the reference does. -/
import Derived.Test.YtmfbkgdlfackcaaRma
import Derived.Test.YtmfbkgdlfackcaaHea
import Derived.Test.YtmfbkgdlfackcaaWit
namespace Go.Proofs.Ytmfbkgdlfackcaa
open Fw Go.RowKit

set_option maxRecDepth 100000 in
set_option maxHeartbeats 4000000 in
theorem reads_any (h : Hd) (xs : List (Int × Int)) (ss : List Sett) (r a b : Int) (w : World) (hm : HasM w h xs ss) (hr : r ≤ 9223372036854775807) :
    Calls Try.prog 3 #[h.val, .int .i64 r, .int .i64 a, .int .i64 b] w (Ret (.bool true) w) := by
  have hmf : ∀ (fn : Fn) (first cap : Array Value) (w : World), (Instr.makeFunc fn first cap).run Try.prog w = .ok (.func fn first cap) w := fun _ _ _ _ => rfl
  have hb0 := boxM_new hm
  have hB0 : Below w.heap.size w (w.alloc (.cells #[.slice h.a h.n h.cap, .int .i64 h.eLo, .int .i64 h.eHi, .int .i64 h.images, .int .i64 h.sLo, .int .i64 h.sHi, .slice h.sa h.ns h.scap] 29)) := newB _ _
  clear hm
  unfold Hd.val
  go_enter Try.func3, Try.ntmps3
  obtain ⟨c0, c1, c2, c3, c4, c5, c6, hh⟩ := id hb0
  go_wp2_with fail
  generalize w.heap.size = B at hb0 c0 c1 c2 c3 c4 c5 c6 ⊢
  generalize w.alloc (.cells #[.slice h.a h.n h.cap, .int .i64 h.eLo, .int .i64 h.eHi, .int .i64 h.images, .int .i64 h.sLo, .int .i64 h.sHi, .slice h.sa h.ns h.scap] 29) = W at *
  refine (great_any h W).mono ?_
  rintro e w1 ⟨rfl, hb1⟩
  have hB1 := BT hB0 hb1
  have HB1 := Lib.hid (hb0.grown hb1)
  clear hb0 hb1 hB0 hh c0 c1 c2 c3 c4 c5 c6
  cases hg : greatB h.n h.ns
  case true =>
    clear HB1
    go_wp2_with fail
    refine (alive_any _).mono ?_
    rintro e w2 ⟨rfl, hb2⟩
    go_wp2
    go_ret
    exact ⟨rfl, by (repeat (first | assumption | exact Below.refl _ _ | refine BA ?_ _ | refine BC ?_ _ _ (by omega) _ | refine Below.drew ?_ | refine BT ?_ (by assumption)))⟩
  have hg1 : h.ns ≤ 30 ∧ h.n ≤ 100 := by simp [greatB] at hg; omega
  clear hg
  obtain ⟨c0, c1, c2, c3, c4, c5, c6, hh⟩ := HB1.out
  have hnx : xs.length ≤ 100 := by rw [hh.nx]; omega
  have hns : ss.length ≤ 100 := by rw [hh.ns]; omega
  have hhv := heavy_any h xs ss 12 5000 w1 hh hnx hns
  unfold Hd.val at hhv
  clear hh
  go_wp2_with fail
  refine hhv.mono ?_
  rintro e w2 ⟨rfl, hb2⟩
  have hB2 := BT hB1 hb2
  have HB2 := Lib.hid (HB1.out.grown hb2)
  clear HB1 hb2 hB1 c0 c1 c2 c3 c4 c5 c6 hhv
  cases hv : heavyB h xs ss 12 5000
  case true =>
    clear HB2
    go_wp2_with fail
    refine (alive_any _).mono ?_
    rintro e w3 ⟨rfl, hb3⟩
    go_wp2
    go_ret
    exact ⟨rfl, by (repeat (first | assumption | exact Below.refl _ _ | refine BA ?_ _ | refine BC ?_ _ _ (by omega) _ | refine Below.drew ?_ | refine BT ?_ (by assumption)))⟩
  clear hv
  obtain ⟨l1, u1, e1, q1⟩ := reply_eq (travelR_sp xs h.eLo h.eHi r)
  obtain ⟨l2, u2, e2, q2⟩ := reply_eq (sumA_sp h xs ss)
  obtain ⟨l3, u3, e3, q3⟩ := reply_eq (placeA_sp h xs ss a)
  obtain ⟨l4, u4, e4, q4⟩ := reply_eq (apartA_sp h xs ss a b)
  have HC16 : Hid (∀ Y, HasM Y h xs ss → Calls Try.prog 16 #[.agg #[.slice h.a h.n h.cap, .int .i64 h.eLo, .int .i64 h.eHi], .int .i64 r] Y (Ret (.tuple #[.agg #[.int .i64 l1, .int .i64 u1], .int .i64 e1]) Y)) := fun Y hY => by
    have := travel_any16 h.a h.cap h.eLo h.eHi r xs Y hY.sp (by omega) hr
    rw [hY.nx, q1] at this; exact this
  have HC17 : Hid (∀ Y, HasM Y h xs ss → Calls Try.prog 17 #[.agg #[.slice h.a h.n h.cap, .int .i64 h.eLo, .int .i64 h.eHi], .int .i64 r] Y (Ret (.tuple #[.agg #[.int .i64 l1, .int .i64 u1], .int .i64 e1]) Y)) := fun Y hY => by
    have := travelR_any h.a h.cap xs h.eLo h.eHi r Y hY.sp hnx
    rw [hY.nx, q1] at this; exact this
  have HC18 : Hid (∀ Y, HasM Y h xs ss → Calls Try.prog 18 #[.agg #[.slice h.a h.n h.cap, .int .i64 h.eLo, .int .i64 h.eHi, .int .i64 h.images, .int .i64 h.sLo, .int .i64 h.sHi, .slice h.sa h.ns h.scap]] Y (Ret (.tuple #[.agg #[.int .i64 l2, .int .i64 u2], .int .i64 e2]) Y)) := fun Y hY => by
    have := sum_any h xs ss Y hY
    rw [q2] at this; exact this
  have HC19 : Hid (∀ Y, HasM Y h xs ss → Calls Try.prog 19 #[.agg #[.slice h.a h.n h.cap, .int .i64 h.eLo, .int .i64 h.eHi, .int .i64 h.images, .int .i64 h.sLo, .int .i64 h.sHi, .slice h.sa h.ns h.scap]] Y (Ret (.tuple #[.agg #[.int .i64 l2, .int .i64 u2], .int .i64 e2]) Y)) := fun Y hY => by
    have := sum_anyR h xs ss Y hY hnx hns
    rw [← sum_same, q2] at this; exact this
  have HC20 : Hid (∀ Y, HasM Y h xs ss → Calls Try.prog 20 #[.agg #[.slice h.a h.n h.cap, .int .i64 h.eLo, .int .i64 h.eHi, .int .i64 h.images, .int .i64 h.sLo, .int .i64 h.sHi, .slice h.sa h.ns h.scap], .int .i64 a] Y (Ret (.tuple #[.agg #[.int .i64 l3, .int .i64 u3], .int .i64 e3]) Y)) := fun Y hY => by
    have := place_any a h xs ss Y hY
    rw [q3] at this; exact this
  have HC21 : Hid (∀ Y, HasM Y h xs ss → Calls Try.prog 21 #[.agg #[.slice h.a h.n h.cap, .int .i64 h.eLo, .int .i64 h.eHi, .int .i64 h.images, .int .i64 h.sLo, .int .i64 h.sHi, .slice h.sa h.ns h.scap], .int .i64 a] Y (Ret (.tuple #[.agg #[.int .i64 l3, .int .i64 u3], .int .i64 e3]) Y)) := fun Y hY => by
    have := place_anyR h xs ss a Y hY hnx hns
    rw [← place_same, q3] at this; exact this
  have HC22 : Hid (∀ Y, HasM Y h xs ss → Calls Try.prog 22 #[.agg #[.slice h.a h.n h.cap, .int .i64 h.eLo, .int .i64 h.eHi, .int .i64 h.images, .int .i64 h.sLo, .int .i64 h.sHi, .slice h.sa h.ns h.scap], .int .i64 a, .int .i64 b] Y (Ret (.tuple #[.agg #[.int .i64 l4, .int .i64 u4], .int .i64 e4]) Y)) := fun Y hY => by
    have := apart_any a b h xs ss Y hY
    rw [q4] at this; exact this
  have HC23 : Hid (∀ Y, HasM Y h xs ss → Calls Try.prog 23 #[.agg #[.slice h.a h.n h.cap, .int .i64 h.eLo, .int .i64 h.eHi, .int .i64 h.images, .int .i64 h.sLo, .int .i64 h.sHi, .slice h.sa h.ns h.scap], .int .i64 a, .int .i64 b] Y (Ret (.tuple #[.agg #[.int .i64 l4, .int .i64 u4], .int .i64 e4]) Y)) := fun Y hY => by
    have := apart_anyR h xs ss a b Y hY hnx hns
    rw [← apart_same, q4] at this; exact this
  clear q1 q2 q3 q4 hnx hns hr
  obtain ⟨c0, c1, c2, c3, c4, c5, c6, hh⟩ := HB2.out
  go_wp2_with fail
  refine (HC16.out _ hh).mono ?_
  rintro e w3 ⟨rfl, hb3⟩
  have hA3 := BT hb3 (newB w3 (.cells #[.int .i64 l1, .int .i64 u1] 24))
  have HB3 := Lib.hid (HB2.out.grown hA3)
  have hB3 := BT hB2 hA3
  have HT3_3 : Hid (Two w3.heap.size l1 u1 (w3.alloc (.cells #[.int .i64 l1, .int .i64 u1] 24))) := two_newT w3 l1 u1 24
  clear HC16 hb3 hA3 HB2 hB2 hh c0 c1 c2 c3 c4 c5 c6 
  obtain ⟨c0, c1, c2, c3, c4, c5, c6, hh⟩ := HB3.out
  go_wp2_with fail
  generalize w3.heap.size = g3 at *
  generalize w3.alloc (.cells #[.int .i64 l1, .int .i64 u1] 24) = W3 at *
  refine (HC17.out _ hh).mono ?_
  rintro e w4 ⟨rfl, hb4⟩
  have hA4 := BT hb4 (newB w4 (.cells #[.int .i64 l1, .int .i64 u1] 24))
  have HB4 := Lib.hid (HB3.out.grown hA4)
  have hB4 := BT hB3 hA4
  have HT3_4 := Lib.hid (HT3_3.out.grown hA4)
  have HT4_4 : Hid (Two w4.heap.size l1 u1 (w4.alloc (.cells #[.int .i64 l1, .int .i64 u1] 24))) := two_newT w4 l1 u1 24
  clear HC17 hb4 hA4 HB3 hB3 hh c0 c1 c2 c3 c4 c5 c6 HT3_3
  obtain ⟨c0, c1, c2, c3, c4, c5, c6, hh⟩ := HB4.out
  go_wp2_with fail
  generalize w4.heap.size = g4 at *
  generalize w4.alloc (.cells #[.int .i64 l1, .int .i64 u1] 24) = W4 at *
  refine (HC18.out _ hh).mono ?_
  rintro e w5 ⟨rfl, hb5⟩
  have hA5 := BT hb5 (newB w5 (.cells #[.int .i64 l2, .int .i64 u2] 24))
  have HB5 := Lib.hid (HB4.out.grown hA5)
  have hB5 := BT hB4 hA5
  have HT3_5 := Lib.hid (HT3_4.out.grown hA5)
  have HT4_5 := Lib.hid (HT4_4.out.grown hA5)
  have HT5_5 : Hid (Two w5.heap.size l2 u2 (w5.alloc (.cells #[.int .i64 l2, .int .i64 u2] 24))) := two_newT w5 l2 u2 24
  clear HC18 hb5 hA5 HB4 hB4 hh c0 c1 c2 c3 c4 c5 c6 HT3_4 HT4_4
  obtain ⟨c0, c1, c2, c3, c4, c5, c6, hh⟩ := HB5.out
  go_wp2_with fail
  generalize w5.heap.size = g5 at *
  generalize w5.alloc (.cells #[.int .i64 l2, .int .i64 u2] 24) = W5 at *
  refine (HC19.out _ hh).mono ?_
  rintro e w6 ⟨rfl, hb6⟩
  have hA6 := BT hb6 (newB w6 (.cells #[.int .i64 l2, .int .i64 u2] 24))
  have HB6 := Lib.hid (HB5.out.grown hA6)
  have hB6 := BT hB5 hA6
  have HT3_6 := Lib.hid (HT3_5.out.grown hA6)
  have HT4_6 := Lib.hid (HT4_5.out.grown hA6)
  have HT5_6 := Lib.hid (HT5_5.out.grown hA6)
  have HT6_6 : Hid (Two w6.heap.size l2 u2 (w6.alloc (.cells #[.int .i64 l2, .int .i64 u2] 24))) := two_newT w6 l2 u2 24
  clear HC19 hb6 hA6 HB5 hB5 hh c0 c1 c2 c3 c4 c5 c6 HT3_5 HT4_5 HT5_5
  obtain ⟨c0, c1, c2, c3, c4, c5, c6, hh⟩ := HB6.out
  go_wp2_with fail
  generalize w6.heap.size = g6 at *
  generalize w6.alloc (.cells #[.int .i64 l2, .int .i64 u2] 24) = W6 at *
  refine (HC20.out _ hh).mono ?_
  rintro e w7 ⟨rfl, hb7⟩
  have hA7 := BT hb7 (newB w7 (.cells #[.int .i64 l3, .int .i64 u3] 24))
  have HB7 := Lib.hid (HB6.out.grown hA7)
  have hB7 := BT hB6 hA7
  have HT3_7 := Lib.hid (HT3_6.out.grown hA7)
  have HT4_7 := Lib.hid (HT4_6.out.grown hA7)
  have HT5_7 := Lib.hid (HT5_6.out.grown hA7)
  have HT6_7 := Lib.hid (HT6_6.out.grown hA7)
  have HT7_7 : Hid (Two w7.heap.size l3 u3 (w7.alloc (.cells #[.int .i64 l3, .int .i64 u3] 24))) := two_newT w7 l3 u3 24
  clear HC20 hb7 hA7 HB6 hB6 hh c0 c1 c2 c3 c4 c5 c6 HT3_6 HT4_6 HT5_6 HT6_6
  obtain ⟨c0, c1, c2, c3, c4, c5, c6, hh⟩ := HB7.out
  go_wp2_with fail
  generalize w7.heap.size = g7 at *
  generalize w7.alloc (.cells #[.int .i64 l3, .int .i64 u3] 24) = W7 at *
  refine (HC21.out _ hh).mono ?_
  rintro e w8 ⟨rfl, hb8⟩
  have hA8 := BT hb8 (newB w8 (.cells #[.int .i64 l3, .int .i64 u3] 24))
  have HB8 := Lib.hid (HB7.out.grown hA8)
  have hB8 := BT hB7 hA8
  have HT3_8 := Lib.hid (HT3_7.out.grown hA8)
  have HT4_8 := Lib.hid (HT4_7.out.grown hA8)
  have HT5_8 := Lib.hid (HT5_7.out.grown hA8)
  have HT6_8 := Lib.hid (HT6_7.out.grown hA8)
  have HT7_8 := Lib.hid (HT7_7.out.grown hA8)
  have HT8_8 : Hid (Two w8.heap.size l3 u3 (w8.alloc (.cells #[.int .i64 l3, .int .i64 u3] 24))) := two_newT w8 l3 u3 24
  clear HC21 hb8 hA8 HB7 hB7 hh c0 c1 c2 c3 c4 c5 c6 HT3_7 HT4_7 HT5_7 HT6_7 HT7_7
  obtain ⟨c0, c1, c2, c3, c4, c5, c6, hh⟩ := HB8.out
  go_wp2_with fail
  generalize w8.heap.size = g8 at *
  generalize w8.alloc (.cells #[.int .i64 l3, .int .i64 u3] 24) = W8 at *
  refine (HC22.out _ hh).mono ?_
  rintro e w9 ⟨rfl, hb9⟩
  have hA9 := BT hb9 (newB w9 (.cells #[.int .i64 l4, .int .i64 u4] 24))
  have HB9 := Lib.hid (HB8.out.grown hA9)
  have hB9 := BT hB8 hA9
  have HT3_9 := Lib.hid (HT3_8.out.grown hA9)
  have HT4_9 := Lib.hid (HT4_8.out.grown hA9)
  have HT5_9 := Lib.hid (HT5_8.out.grown hA9)
  have HT6_9 := Lib.hid (HT6_8.out.grown hA9)
  have HT7_9 := Lib.hid (HT7_8.out.grown hA9)
  have HT8_9 := Lib.hid (HT8_8.out.grown hA9)
  have HT9_9 : Hid (Two w9.heap.size l4 u4 (w9.alloc (.cells #[.int .i64 l4, .int .i64 u4] 24))) := two_newT w9 l4 u4 24
  clear HC22 hb9 hA9 HB8 hB8 hh c0 c1 c2 c3 c4 c5 c6 HT3_8 HT4_8 HT5_8 HT6_8 HT7_8 HT8_8
  obtain ⟨c0, c1, c2, c3, c4, c5, c6, hh⟩ := HB9.out
  go_wp2_with fail
  generalize w9.heap.size = g9 at *
  generalize w9.alloc (.cells #[.int .i64 l4, .int .i64 u4] 24) = W9 at *
  refine (HC23.out _ hh).mono ?_
  rintro e w10 ⟨rfl, hb10⟩
  have hA10 := BT hb10 (newB w10 (.cells #[.int .i64 l4, .int .i64 u4] 24))
  have HB10 := Lib.hid (HB9.out.grown hA10)
  have hB10 := BT hB9 hA10
  have HT3_10 := Lib.hid (HT3_9.out.grown hA10)
  have HT4_10 := Lib.hid (HT4_9.out.grown hA10)
  have HT5_10 := Lib.hid (HT5_9.out.grown hA10)
  have HT6_10 := Lib.hid (HT6_9.out.grown hA10)
  have HT7_10 := Lib.hid (HT7_9.out.grown hA10)
  have HT8_10 := Lib.hid (HT8_9.out.grown hA10)
  have HT9_10 := Lib.hid (HT9_9.out.grown hA10)
  have HT10_10 : Hid (Two w10.heap.size l4 u4 (w10.alloc (.cells #[.int .i64 l4, .int .i64 u4] 24))) := two_newT w10 l4 u4 24
  clear HC23 hb10 hA10 HB9 hB9 hh c0 c1 c2 c3 c4 c5 c6 HT3_9 HT4_9 HT5_9 HT6_9 HT7_9 HT8_9 HT9_9
  obtain ⟨x3, y3⟩ := HT3_10.out
  obtain ⟨x4, y4⟩ := HT4_10.out
  obtain ⟨x5, y5⟩ := HT5_10.out
  obtain ⟨x6, y6⟩ := HT6_10.out
  obtain ⟨x7, y7⟩ := HT7_10.out
  obtain ⟨x8, y8⟩ := HT8_10.out
  obtain ⟨x9, y9⟩ := HT9_10.out
  obtain ⟨x10, y10⟩ := HT10_10.out
  go_wp2_with fail
  refine (alive_any _).mono ?_
  rintro e w11 ⟨rfl, hb11⟩
  go_wp2
  go_ret
  exact ⟨rfl, by (repeat (first | assumption | exact Below.refl _ _ | refine BA ?_ _ | refine BC ?_ _ _ (by omega) _ | refine Below.drew ?_ | refine BT ?_ (by assumption)))⟩
end Go.Proofs.Ytmfbkgdlfackcaa
