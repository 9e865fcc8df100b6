/- Eye: the walk of EyePlaces. -/
import Derived.Test.YtcfjakifeihbpaaEpf
namespace Go.Proofs.Ytcfjakifeihbpaa
namespace Ey
open Go.RowKit

theorem farB_no {h : Wd} {xs : List (Int × Int)} {ls : List LkV} {q : Int} (hf : farB h xs ls q = false) (hv : validW h xs ls = true) : (ls.length : Int) ≤ q := by
  unfold farB at hf
  rw [hv] at hf
  simp only [Bool.or_eq_false_iff, Bool.and_true, decide_eq_false_iff_not] at hf
  omega
theorem farB_le {h : Wd} {xs : List (Int × Int)} {ls : List LkV} {q : Int} (hf : farB h xs ls q = false) : ls.length ≤ 40 ∧ xs.length ≤ 100 := by
  unfold farB at hf
  simp only [Bool.or_eq_false_iff, decide_eq_false_iff_not] at hf
  omega
set_option maxRecDepth 100000 in
set_option maxHeartbeats 16000000 in
theorem places_walk (h : Wd) (xs : List (Int × Int)) (ls : List LkV) (w : World) (hm : HasW w h xs ls) : Calls Try.prog 7 #[h.val] w (Ret (.bool true) w) := by
  have hX := newB w (.cells #[.slice h.a h.n h.cap, .int .i64 h.eLo, .int .i64 h.eHi, .int .i64 h.images, .int .i64 h.eyes, .int .i64 h.hLo, .int .i64 h.hHi, .slice h.la h.ln h.lcap] 29)
  obtain ⟨c0, c1, c2, c3, c4, c5, c6, c7⟩ := boxW_new w h 29
  have HB : Hid (BoxA _ _ h xs ls) := (⟨⟨c0, c1, c2, c3, c4, c5, c6, c7⟩, hm.below hX⟩ : BoxA _ _ h xs ls)
  have HM := Lib.hid hm
  have hfar : Hid (∀ Y, Below w.heap.size w Y → Calls Try.prog 12 #[h.val, .int .i64 12] Y (Ret (.bool (farB h xs ls 12)) Y)) := fun Y hY => far_any h xs ls 12 Y (hm.below hY)
  have hwat : Hid (∀ Y, Below w.heap.size w Y → farB h xs ls 12 = false → Calls Try.prog 33 #[h.val] Y (Ret (.bool (validW h xs ls)) Y)) := fun Y hY hf => watchR_any h xs ls Y (hm.below hY) (farB_le hf).2 (farB_le hf).1
  have hpl : Hid (∀ (i : Int) Y, Below w.heap.size w Y → Calls Try.prog 18 #[h.val, .int .i64 i] Y (Ret (reply (placeR h xs ls i)) Y)) := fun i Y hY => place_any i h xs ls Y (hm.below hY)
  have hha : Hid (∀ (i : Int) Y, Below w.heap.size w Y → Calls Try.prog 14 #[h.val, .int .i64 i] Y (Ret (reply (habitR h xs ls i)) Y)) := fun i Y hY => habit_any i h xs ls Y (hm.below hY)
  have hnl := Lib.hid hm.nl
  unfold Wd.val at hfar hwat hpl hha ⊢
  go_enter Try.func7, Try.ntmps7
  go_wp2_with fail
  refine (hfar.out _ hX).mono ?_
  rintro e w1 ⟨rfl, hb1⟩
  cases hf : farB h xs ls 12 with
  | true =>
    have hB := BT hX hb1
    go_wp2_with fail
    refine (awake_any _).mono ?_
    rintro e w2 ⟨rfl, hb2⟩
    have hB2 := BT hB hb2
    go_wp2
    go_ret
    exact ⟨rfl, hB2⟩
  | false =>
  have hB := BT hX hb1
  have HB := Lib.hid (HB.out.grown hb1)
  clear c0 c1 c2 c3 c4 c5 c6 c7 hfar hX hb1
  obtain ⟨⟨c0, c1, c2, c3, c4, c5, c6, c7⟩, hh⟩ := HB.out
  clear hh
  go_wp2_with fail
  refine (hwat.out _ hB hf).mono ?_
  rintro e w2 ⟨rfl, hb2⟩
  have hB2 := BT hB hb2
  have HB := Lib.hid (HB.out.grown hb2)
  clear c0 c1 c2 c3 c4 c5 c6 c7 hb2 hwat hB
  cases hv : validW h xs ls with
  | false =>
    go_wp2_with fail
    refine (awake_any _).mono ?_
    rintro e w3 ⟨rfl, hb3⟩
    have hB3 := BT hB2 hb3
    go_wp2
    go_ret
    exact ⟨rfl, hB3⟩
  | true =>
  have HV := Lib.hid hv
  have HVW := validW_iff hv
  obtain ⟨M, hM⟩ : ∃ M : Nat, h.images = (M : Int) := ⟨h.images.toNat, by have := HVW.im; omega⟩
  have hM6 : M ≤ 6 := by have := HVW.im; omega
  have hl12 : h.ln ≤ 12 := by rw [← hnl.out]; exact HVW.l12
  have HF : Hid (∀ i : Int, 0 ≤ i → i < (M : Int) → ∃ s1 s2 c, PF h xs ls i s1 s2 c) := fun i a b => place_facts hv hnl.out ⟨a, by rw [hM]; exact b⟩
  have hsy : Hid (∀ k, k < ls.length → saysB xs h.eLo h.eHi (ls.getD k (0, 0, 0)).2.2 = true) := fun k hk => by
    have e : ls.getD k (0, 0, 0) = ls[k] := by simp [List.getD, hk]
    rw [e]; exact (HVW.lk _ (List.getElem_mem hk)).2.2
  have HMI := Lib.hid hM
  clear hv hf HVW
  obtain ⟨⟨c0, c1, c2, c3, c4, c5, c6, c7⟩, hh⟩ := HB.out
  clear hh
  rw [hM] at c3
  clear hM
  go_wp2_with fail
  clear c0 c1 c2 c3 c4 c5 c6 c7
  go_loopw [23] (fun i wr => ∃ k : Nat, k ≤ M ∧ i = .int .i64 k ∧ Below w2.heap.size w2 wr) (fun i _ => M - (intOf i).toNat)
  case atStart => exact ⟨0, by omega, rfl, Below.refl _ _⟩
  case round =>
    obtain ⟨i, hi, rfl, hBr⟩ := hrel
    by_cases hlt : i < M
    · have hlt' : (i : Int) < (M : Int) := by omega
      have hi0 : (0 : Int) ≤ (i : Int) := by omega
      have hi6 : (i : Int) ≤ 6 := by omega
      obtain ⟨s1, s2, c, pf⟩ := HF.out i hi0 hlt'
      have PF' := Lib.hid pf
      obtain ⟨⟨c0, c1, c2, c3, c4, c5, c6, c7⟩, _⟩ := HB.out.grown hBr
      have hBw := BT hB2 hBr
      clear pf
      go_wp2_with fail
      refine (hpl.out _ _ hBw).mono ?_
      rw [PF'.out.rep]
      rintro e v1 ⟨rfl, hb1⟩
      have hP := newB v1 (.cells #[.int .i64 s1, .int .i64 s2] 24)
      have p0 := (two_newT v1 s1 s2 24).1
      have p1 := (two_newT v1 s1 s2 24).2
      have hB4 := BT (BT hBr hb1) hP
      clear c0 c1 c2 c3 c4 c5 c6 c7
      obtain ⟨⟨c0, c1, c2, c3, c4, c5, c6, c7⟩, _⟩ := HB.out.grown hB4
      have HB4 := Lib.hid (HB.out.grown hB4)
      have hBw4 := BT hB2 hB4
      clear hBw hBr hb1 hP c0 c1 c2 c3 c4 c5 c6
      go_upto_region 9 with fail
      clear c7
      generalize v1.alloc (.cells #[.int .i64 s1, .int .i64 s2] 24) = W4 at *
      generalize v1.heap.size = bP at *
      obtain ⟨wo, hwo⟩ : ∃ wo : World, wo = wr := ⟨_, rfl⟩
      clear hwo
      have hln0 : (h.ln : Int) ≤ 12 := by omega
      go_loopw [6, 35] (fun v j wr => ∃ k : Nat, k ≤ h.ln ∧ j = .int .i64 k ∧ v = .bool (seenB ls i k) ∧ Below W4.heap.size W4 wr) (fun _ j _ => h.ln - (intOf j).toNat)
      case atStart => exact ⟨0, by omega, rfl, rfl, Below.refl _ _⟩
      case round =>
        obtain ⟨k, hk, rfl, rfl, hBx⟩ := hrel
        by_cases hlk : k < h.ln
        · have hlk' : (k : Int) < (h.ln : Int) := by omega
          have hk0 : (0 : Int) ≤ (k : Int) := by omega
          have hkl : k < ls.length := by rw [hnl.out]; exact hlk
          have hG := HB4.out.grown hBx
          rcases hG.has.lk with hnil | ⟨bt, ot, hla, hbt, hct⟩
          · exfalso; rw [hnil] at hkl; simp at hkl
          obtain ⟨d0, d1, d2, d3⟩ := hct k hkl
          rw [hla] at ⊢
          have HLA := Lib.hid hla
          have hsyk := hsy.out k hkl
          have hlkf : Hid ((ls.getD k (0, 0, 0)).2.1 = i → _) := fun hki => PF'.out.lk k hkl hki
          have hse1 : Hid ((ls.getD k (0, 0, 0)).2.1 = (i : Int) → seenB ls i (k + 1) = true) := fun hki => seen_yes hkl hki
          have hse2 : Hid (¬ (ls.getD k (0, 0, 0)).2.1 = (i : Int) → seenB ls i (k + 1) = seenB ls i k) := fun hki => seen_no hkl hki
          clear hla hct
          generalize ls.getD k (0, 0, 0) = lv at *
          obtain ⟨ey, im, rd⟩ := lv
          dsimp only at d0 d1 d2 d3 hsyk hlkf hse1 hse2
          generalize seenB ls (i : Int) k = sk at *
          go_upto_region 11 with fail
          have hZ := newB wr (.cells #[.int .i64 ey, .int .i64 im, .int .i64 rd] 47)
          have t0 : (wr.alloc (.cells #[.int .i64 ey, .int .i64 im, .int .i64 rd] 47)).cell? ⟨wr.heap.size, 0, none⟩ = some (.int .i64 ey) := by simp [go_sem]
          have t1 : (wr.alloc (.cells #[.int .i64 ey, .int .i64 im, .int .i64 rd] 47)).cell? ⟨wr.heap.size, 1, none⟩ = some (.int .i64 im) := by simp [go_sem]
          have t2 : (wr.alloc (.cells #[.int .i64 ey, .int .i64 im, .int .i64 rd] 47)).cell? ⟨wr.heap.size, 2, none⟩ = some (.int .i64 rd) := by simp [go_sem]
          have hBZ := BT hBx hZ
          clear d0 d1 d2 hZ hG hbt
          generalize wr.alloc (.cells #[.int .i64 ey, .int .i64 im, .int .i64 rd] 47) = X at *
          generalize wr.heap.size = gT at *
          by_cases hki : im = (i : Int)
          · subst hki
            obtain ⟨h1, h2, q1, q2, hrep, htr, ⟨⟨bh10, bh11⟩, ⟨bh20, bh21⟩, ⟨bq10, bq11⟩, bq20, bq21⟩, hc0⟩ := hlkf.out rfl
            have hse := Lib.hid (hse1.out rfl)
            obtain ⟨⟨bs10, bs11⟩, bs20, bs21⟩ := PF'.out.b
            clear hse1 hse2 hlkf
            obtain ⟨⟨c0, c1, c2, c3, c4, c5, c6, c7⟩, hh⟩ := HB4.out.grown hBZ
            clear hh
            go_wp2_with fail
            refine (hha.out _ _ (BT hBw4 hBZ)).mono ?_
            rw [hrep]
            rintro e x1 ⟨rfl, hx1⟩
            have hN := newB x1 (.cells #[.int .i64 h1, .int .i64 h2] 24)
            have n0 := (two_newT x1 h1 h2 24).1
            have n1 := (two_newT x1 h1 h2 24).2
            have hBN := BT (BT hBZ hx1) hN
            have t2 := cellB (cellB t2 hx1) hN
            clear c0 c1 c2 c3 c4 c5 c6 c7 t0 t1 hx1 hN
            obtain ⟨⟨c0, c1, c2, c3, c4, c5, c6, c7⟩, hh⟩ := HB4.out.grown hBN
            have htv := travel_any16 h.a h.cap h.eLo h.eHi rd xs _ hh.sp hh.lx d3
            rw [hh.nx, travelR_of h xs (ey, i, rd) hsyk, htr] at htv
            dsimp only [reply] at htv
            clear hh c3 c4 c5 c6 c7
            go_upto_region 14 with fail
            generalize x1.alloc (.cells #[.int .i64 h1, .int .i64 h2] 24) = X2 at *
            generalize x1.heap.size = bH at *
            go_wp2_with fail
            refine htv.mono ?_
            rintro e x3 ⟨rfl, hx3⟩
            have hN := newB x3 (.cells #[.int .i64 q1, .int .i64 q2] 24)
            have m0 := (two_newT x3 q1 q2 24).1
            have m1 := (two_newT x3 q1 q2 24).2
            have n0 := cellB (cellB n0 hx3) hN
            have n1 := cellB (cellB n1 hx3) hN
            have hBN := BT (BT hBN hx3) hN
            have p0 := cellB p0 hBN
            have p1 := cellB p1 hBN
            clear c0 c1 c2 t2 hx3 hN htv
            go_upto_region 15 with fail
            generalize x3.alloc (.cells #[.int .i64 q1, .int .i64 q2] 24) = X4 at *
            generalize x3.heap.size = bQ at *
            by_cases hcz : c = 0
            · obtain ⟨g1, g2, g3⟩ := hc0 hcz
              subst hcz
              go_wp2_with fail
              go_roundw
              case rel => exact ⟨k + 1, by omega, by go_num, by rw [hse.out], hBN⟩
              case measure => simp [intOf]; omega
            · go_wp2_with fail
              go_roundw
              case rel => exact ⟨k + 1, by omega, by go_num, by rw [hse.out], hBN⟩
              case measure => simp [intOf]; omega
          · have hse := Lib.hid (hse2.out hki)
            clear hse1 hse2 hlkf
            go_wp2_with fail
            go_roundw
            case rel => exact ⟨k + 1, by omega, by go_num, by rw [hse.out], hBZ⟩
            case measure => simp [intOf]; omega
        · obtain rfl : k = h.ln := by omega
          have p0 := cellB p0 hBx
          have p1 := cellB p1 hBx
          have hBe := BT hB4 hBx
          have hsn : seenB ls i h.ln = seenB ls i ls.length := by rw [hnl.out]
          rw [hsn]
          have hy := PF'.out.yes
          have hno := PF'.out.no
          have hz := PF'.out.z
          have hcs := PF'.out.cs
          clear hsn
          generalize seenB ls (i : Int) ls.length = sn at *
          rcases hcs with hc | hc | hc
          · have hy' : sn = true := hy hc
            clear hno hz hy
            subst hc
            subst hy'
            go_wp2_with fail
            go_roundw
            case rel => exact ⟨i + 1, by omega, by go_num, hBe⟩
            case measure => simp [intOf]; omega
          · obtain ⟨z1, z2⟩ := hz (by omega)
            clear hno hy hz
            subst hc
            subst z1
            subst z2
            cases sn <;> (
              go_wp2_with fail
              go_roundw
              case rel => exact ⟨i + 1, by omega, by go_num, hBe⟩
              case measure => simp [intOf]; omega)
          · obtain ⟨z1, z2⟩ := hz (by omega)
            have hno' : sn = false := hno hc
            clear hy hz hno
            subst hc
            subst z1
            subst z2
            subst hno'
            go_wp2_with fail
            go_roundw
            case rel => exact ⟨i + 1, by omega, by go_num, hBe⟩
            case measure => simp [intOf]; omega
    · obtain rfl : i = M := by omega
      have hBw := BT hB2 hBr
      go_wp2_with fail
      refine (awake_any _).mono ?_
      rintro e v3 ⟨rfl, hb3⟩
      have hB3 := BT hBw hb3
      go_wp2
      go_ret
      exact ⟨rfl, hB3⟩
end Ey
end Go.Proofs.Ytcfjakifeihbpaa
