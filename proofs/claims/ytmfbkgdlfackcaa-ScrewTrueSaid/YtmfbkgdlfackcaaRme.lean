/- The reference's measures: which are valid. -/
import Derived.Test.YtmfbkgdlfackcaaRla
import Derived.Test.YtmfbkgdlfackcaaApi
namespace Go.Proofs.Ytmfbkgdlfackcaa
open Go.RowKit

theorem valid_parts (h : Hd) (xs : List (Int × Int)) (ss : List Sett) : validH h xs ss = (validB xs h.eLo h.eHi && inB h.images 1 6 && holdB 0 131072 h.sLo h.sHi && decide (ss.length ≤ 12) && setsB xs.length h.images ss) := by
  rw [in_hold]; rfl
theorem isImg_in (images n : Int) : inB n 0 (images - 1) = isImg images n := by
  unfold inB isImg
  by_cases h : 0 ≤ n
  · have : (n ≤ images - 1) ↔ n < images := by omega
    simp [h, this]
  · simp [h]

set_option maxRecDepth 100000 in
set_option maxHeartbeats 2000000 in
theorem measureR_any (h : Hd) (xs : List (Int × Int)) (ss : List Sett) (w : World) (hm : HasM w h xs ss) (hn : xs.length ≤ 100) (hns : ss.length ≤ 100) :
    Calls Try.prog 37 #[h.val] w (Ret (.bool (validH h xs ss)) w) := by
  have HV := Lib.hid (valid_parts h xs ss)
  generalize validH h xs ss = V at *
  have hb0 := boxM_new hm
  have HM := Lib.hid hm
  have hnx := hm.nx
  have hnS := hm.ns
  have hB0 : Below w.heap.size w (w.alloc (.cells #[.slice h.a h.n h.cap, .int .i64 h.eLo, .int .i64 h.eHi, .int .i64 h.images, .int .i64 h.sLo, .int .i64 h.sHi, .slice h.sa h.ns h.scap] 29)) := by (repeat (first | assumption | exact Below.refl _ _ | refine BA ?_ _ | refine BC ?_ _ _ (by omega) _ | refine Below.drew ?_ | refine BT ?_ (by assumption)))
  clear hm
  rw [hnx] at hn
  rw [hnS] at hns
  have HNX := Lib.hid hnx; clear hnx
  have HNS := Lib.hid hnS; clear hnS
  have hs0 : (h.ns : Int) ≤ 100 := by omega
  have hs1 : (0 : Int) ≤ (h.ns : Int) := by omega
  have hs2 : h.ns ≤ 9223372036854775807 := by omega
  unfold Hd.val
  go_enter Try.func37, Try.ntmps37
  go_wp2_with fail
  generalize w.heap.size = B at hb0 ⊢
  generalize w.alloc (.cells #[.slice h.a h.n h.cap, .int .i64 h.eLo, .int .i64 h.eHi, .int .i64 h.images, .int .i64 h.sLo, .int .i64 h.sHi, .slice h.sa h.ns h.scap] 29) = W at *
  have HB := Lib.hid hb0
  obtain ⟨c0, c1, c2, c3, c4, c5, c6, hh⟩ := hb0
  have hsc : Calls Try.prog 54 #[.agg #[.slice h.a h.n h.cap, .int .i64 h.eLo, .int .i64 h.eHi]] W (Ret (.bool (validB xs h.eLo h.eHi)) W) := by
    have := screwR_any h.a xs h.cap h.eLo h.eHi W (by rw [HNX.out]; exact hn) hh.sp
    rw [HNX.out] at this; exact this
  refine hsc.mono ?_
  rintro e w1 ⟨rfl, hb1⟩
  clear hsc hh c0 c1 c2 c3 c4 c5 c6
  have hB1 := BT hB0 hb1
  have HB1 := Lib.hid (HB.out.grown hb1)
  obtain ⟨c0, c1, c2, c3, c4, c5, c6, hh⟩ := HB1.out
  clear hb1 hB0 HB hh
  cases h1 : validB xs h.eLo h.eHi
  · have H1 := Lib.hid h1; clear h1
    go_wp2
    go_ret
    exact ⟨by rw [HV.out, H1.out]; rfl, by (repeat (first | assumption | exact Below.refl _ _ | refine BA ?_ _ | refine BC ?_ _ _ (by omega) _ | refine Below.drew ?_ | refine BT ?_ (by assumption)))⟩
  have H1 := Lib.hid h1; clear h1
  cases h2 : inB h.images 1 6
  · have H2 := Lib.hid h2; clear h2
    go_wp2_with (refine (inR_any _ _ _ _).mono ?_; rw [H2.out]; rintro e w2 ⟨rfl, hb2⟩)
    go_ret
    exact ⟨by rw [HV.out, H1.out, H2.out]; rfl, by (repeat (first | assumption | exact Below.refl _ _ | refine BA ?_ _ | refine BC ?_ _ _ (by omega) _ | refine Below.drew ?_ | refine BT ?_ (by assumption)))⟩
  have hi6 : 1 ≤ h.images ∧ h.images ≤ 6 := by simpa [inB] using h2
  have H2 := Lib.hid h2; clear h2
  have hi1 : 1 ≤ h.images := hi6.1
  have hi2 : h.images ≤ 6 := hi6.2
  clear hi6
  go_wp2_with fail
  refine (inR_any _ _ _ _).mono ?_
  rw [H2.out]
  rintro e w2 ⟨rfl, hb2⟩
  have hB2 := BT hB1 hb2
  have HB2 := Lib.hid (HB1.out.grown hb2)
  clear c0 c1 c2 c3 c4 c5 c6 hB1 HB1 hb2
  obtain ⟨c0, c1, c2, c3, c4, c5, c6, hh⟩ := HB2.out
  clear hh
  go_wp2_with fail
  refine (spanR_any _ _ _ _ _).mono ?_
  rintro e w3 ⟨rfl, hb3⟩
  have hB3 := BT hB2 hb3
  have HB3 := Lib.hid (HB2.out.grown hb3)
  clear c0 c1 c2 c3 c4 c5 c6 hB2 HB2 hb3
  obtain ⟨c0, c1, c2, c3, c4, c5, c6, hh⟩ := HB3.out
  clear hh
  cases h3 : holdB 0 131072 h.sLo h.sHi
  · have H3 := Lib.hid h3; clear h3
    go_wp2
    go_ret
    exact ⟨by rw [HV.out, H1.out, H2.out, H3.out]; rfl, by (repeat (first | assumption | exact Below.refl _ _ | refine BA ?_ _ | refine BC ?_ _ _ (by omega) _ | refine Below.drew ?_ | refine BT ?_ (by assumption)))⟩
  have H3 := Lib.hid h3; clear h3
  by_cases h4 : h.ns ≤ 12
  · have hd : decide ((h.ns : Int) > 12) = false := by simp; omega
    have HD : Hid (V = setsB xs.length h.images ss) := by show _ = _; rw [HV.out, H1.out, H2.out, H3.out, HNS.out]; simp [h4]
    clear HV H1 H2 H3
    go_wp2_with fail
    clear c0 c1 c2 c3 c4 c5 c6
    go_loopw [3] (fun i wr => ∃ k : Nat, k ≤ h.ns ∧ i = .int .i64 k ∧ Below w3.heap.size w3 wr ∧ Hid (setsB xs.length h.images (ss.take k) = true)) (fun i _ => h.ns - (intOf i).toNat)
    case atStart => exact ⟨0, by omega, rfl, Below.refl _ _, rfl⟩
    case round =>
      obtain ⟨k, hk, rfl, hB, hE⟩ := hrel
      obtain ⟨c0, c1, c2, c3, c4, c5, c6, hh⟩ := HB3.out.grown hB
      have hk0 : (0 : Int) ≤ (k : Int) := by omega
      have hBr := BT hB3 hB
      have hst := hh.st
      have hBlt : B < wr.heap.size := World.block_lt_of_cell? _ _ c0
      clear hh
      by_cases hlt : k < h.ns
      · rcases hst with hnil | ⟨b, o, hsa, hb, hc⟩
        · exfalso; have := HNS.out; rw [hnil] at this; simp at this; omega
        · obtain ⟨d0, d1, d2, _⟩ := hc k (by rw [HNS.out]; exact hlt)
          rw [hsa] at c6
          clear hsa hc
          have hE1 := Lib.hid (fun hh => setsB_no (t := xs.length) (im := h.images) (ss := ss) (k := k) (by rw [HNS.out]; exact hlt) hh)
          have hE2 := Lib.hid (fun hh => setsB_snoc (t := xs.length) (im := h.images) (ss := ss) (k := k) (by rw [HNS.out]; exact hlt) hE.out hh)
          generalize ss.getD k (0, 0, false) = s at *
          obtain ⟨im, rd, rv⟩ := s
          dsimp only at d0 d1 d2
          have hsb : setB xs.length h.images (im, rd, rv) = (isImg h.images im && hasTrn xs.length rd) := rfl
          have HSB := Lib.hid hsb; clear hsb
          cases h5 : isImg h.images im
          · have H5 := Lib.hid h5; clear h5
            go_wp2_with (refine (inR_any _ _ _ _).mono ?_; rw [isImg_in, H5.out]; rintro e w4 ⟨rfl, hb4⟩)
            go_ret
            exact ⟨by rw [HD.out, hE1.out (by rw [HSB.out, H5.out]; rfl)]; rfl, by (repeat (first | assumption | exact Below.refl _ _ | refine BA ?_ _ | refine BC ?_ _ _ (by omega) _ | refine Below.drew ?_ | refine BT ?_ (by assumption)))⟩
          · have H5 := Lib.hid h5; clear h5
            go_wp2_with fail
            refine (inR_any _ _ _ _).mono ?_
            rw [isImg_in, H5.out]
            rintro e w4 ⟨rfl, hb4⟩
            have c0' := (hb4.cell (p := ⟨B, 0, none⟩) (by have := World.block_lt_of_cell? _ _ c0; simp; omega)).trans ((((Below.refl wr.heap.size wr).alloc (Nat.le_refl _) (.cells #[.int .i64 im, .int .i64 rd, .bool rv] 44)).cell (p := ⟨B, 0, none⟩) (World.block_lt_of_cell? _ _ c0)).trans c0)
            have c1' := (hb4.cell (p := ⟨B, 1, none⟩) (by have := World.block_lt_of_cell? _ _ c1; simp; omega)).trans ((((Below.refl wr.heap.size wr).alloc (Nat.le_refl _) (.cells #[.int .i64 im, .int .i64 rd, .bool rv] 44)).cell (p := ⟨B, 1, none⟩) (World.block_lt_of_cell? _ _ c1)).trans c1)
            have c2' := (hb4.cell (p := ⟨B, 2, none⟩) (by have := World.block_lt_of_cell? _ _ c2; simp; omega)).trans ((((Below.refl wr.heap.size wr).alloc (Nat.le_refl _) (.cells #[.int .i64 im, .int .i64 rd, .bool rv] 44)).cell (p := ⟨B, 2, none⟩) (World.block_lt_of_cell? _ _ c2)).trans c2)
            have d1' := (hb4.cell (p := ⟨wr.heap.size, 1, none⟩) (by simp)).trans (show (wr.alloc (.cells #[.int .i64 im, .int .i64 rd, .bool rv] 44)).cell? ⟨wr.heap.size, 1, none⟩ = some (.int .i64 rd) by simp [go_sem])
            have hBw4 : Below wr.heap.size wr w4 := by (repeat (first | assumption | exact Below.refl _ _ | refine BA ?_ _ | refine BC ?_ _ _ (by omega) _ | refine Below.drew ?_ | refine BT ?_ (by assumption)))
            clear c0 c1 c2 c3 c4 c5 c6 d0 d1 d2 hb4
            have hrd := readingR_any h.a h.n h.cap h.eLo h.eHi rd w4 hn
            go_wp2_with fail
            refine hrd.mono ?_
            rintro e w5 ⟨rfl, hb5⟩
            clear hrd
            cases h6 : hasTrn h.n rd
            all_goals
              have H6 := Lib.hid h6; clear h6
              go_wp2
            · go_ret
              exact ⟨by rw [HD.out, hE1.out (by rw [HSB.out, HNX.out, H6.out]; simp)]; rfl, by (repeat (first | assumption | exact Below.refl _ _ | refine BA ?_ _ | refine BC ?_ _ _ (by omega) _ | refine Below.drew ?_ | refine BT ?_ (by assumption)))⟩
            · go_roundw
              case rel => exact ⟨k + 1, by omega, by go_num, by (repeat (first | assumption | exact Below.refl _ _ | refine BA ?_ _ | refine BC ?_ _ _ (by omega) _ | refine Below.drew ?_ | refine BT ?_ (by assumption))), hE2.out (by rw [HSB.out, HNX.out, H5.out, H6.out]; rfl)⟩
              case measure => simp [intOf]; omega
      · obtain rfl : k = h.ns := by omega
        clear hst
        go_wp2
        go_ret
        exact ⟨by have := hE.out; rw [List.take_of_length_le (by rw [HNS.out]; omega)] at this; rw [HD.out, this]; rfl, hBr⟩
  · have hd : decide ((h.ns : Int) > 12) = true := by simp; omega
    go_wp2
    go_ret
    exact ⟨by rw [HV.out, HNS.out]; simp [h4], by (repeat (first | assumption | exact Below.refl _ _ | refine BA ?_ _ | refine BC ?_ _ _ (by omega) _ | refine Below.drew ?_ | refine BT ?_ (by assumption)))⟩
end Go.Proofs.Ytmfbkgdlfackcaa
