/- Eye: the walk of EyeExplain. -/
import Derived.Test.YtcfjakifeihbpaaEdw
import Derived.Test.YtcfjakifeihbpaaExf
namespace Go.Proofs.Ytcfjakifeihbpaa
namespace Ey
open Go.RowKit

set_option maxRecDepth 100000 in
set_option maxHeartbeats 16000000 in
theorem explain_walk (h : Wd) (xs : List (Int × Int)) (ls : List LkV) (a : Int) (w : World) (hm : HasW w h xs ls) (ha : 0 ≤ a ∧ a ≤ 255) :
    Calls Try.prog 9 #[h.val, .int .u8 a] w (Ret (.bool true) w) := by
  have hX := newB w (.cells #[.slice h.a h.n h.cap, .int .i64 h.eLo, .int .i64 h.eHi, .int .i64 h.images, .int .i64 h.eyes, .int .i64 h.hLo, .int .i64 h.hHi, .slice h.la h.ln h.lcap] 29)
  obtain ⟨c0, c1, c2, c3, c4, c5, c6, c7⟩ := boxW_new w h 29
  have HB : Hid (BoxA _ _ h xs ls) := (⟨⟨c0, c1, c2, c3, c4, c5, c6, c7⟩, hm.below hX⟩ : BoxA _ _ h xs ls)
  have HM := Lib.hid hm
  have hfar : Hid (∀ Y, Below w.heap.size w Y → Calls Try.prog 12 #[h.val, .int .i64 12] Y (Ret (.bool (farB h xs ls 12)) Y)) := fun Y hY => far_any h xs ls 12 Y (hm.below hY)
  have hwat : Hid (∀ Y, Below w.heap.size w Y → farB h xs ls 12 = false → Calls Try.prog 33 #[h.val] Y (Ret (.bool (validW h xs ls)) Y)) := fun Y hY hf => watchR_any h xs ls Y (hm.below hY) (farB_le hf).2 (farB_le hf).1
  have hex : Hid (∀ Y, Below w.heap.size w Y → Calls Try.prog 26 #[h.val] Y (Ret (replyI (explainA h xs ls)) Y)) := fun Y hY => explain_any h xs ls Y (hm.below hY)
  have hsu : Hid (∀ Y, Below w.heap.size w Y → Calls Try.prog 20 #[h.val] Y (Ret (replyI (sureA h xs ls)) Y)) := fun Y hY => sure_any h xs ls Y (hm.below hY)
  have hno : Hid (∀ Y, Below w.heap.size w Y → Calls Try.prog 14 #[(noneH h).val, .int .i64 0] Y (Ret (reply (habitR (noneH h) xs ls 0)) Y)) := fun Y hY => habit_any 0 (noneH h) xs ls Y (let k := hm.below hY; ⟨k.sp, k.lk, k.nx, k.nl, k.lx, k.ll⟩)
  have hnl := Lib.hid hm.nl
  obtain ⟨ha0, ha1⟩ := ha
  clear hm
  unfold Wd.val at hfar hwat hex hsu hno ⊢
  unfold noneH at hno
  dsimp only at hno
  go_enter Try.func9, Try.ntmps9
  go_wp2_with fail
  refine (hfar.out _ hX).mono ?_
  rintro e w1 ⟨rfl, hx1⟩
  cases hf : farB h xs ls 12 with
  | true =>
    have hB := BT hX hx1
    go_wp2_with fail
    refine (awake_any _).mono ?_
    rintro e w2 ⟨rfl, hb2⟩
    have hB2 := BT hB hb2
    go_wp2
    go_ret
    exact ⟨rfl, hB2⟩
  | false =>
  have hB := BT hX hx1
  have HB := Lib.hid (HB.out.grown hx1)
  clear c0 c1 c2 c3 c4 c5 c6 c7 hfar hX hx1
  obtain ⟨⟨c0, c1, c2, c3, c4, c5, c6, c7⟩, hh⟩ := HB.out
  clear hh
  go_wp2_with fail
  refine (hwat.out _ hB hf).mono ?_
  rintro e w2 ⟨rfl, hx2⟩
  have hB2 := BT hB hx2
  have HB := Lib.hid (HB.out.grown hx2)
  clear c0 c1 c2 c3 c4 c5 c6 c7 hx2 hwat hB
  cases hv : validW h xs ls with
  | false =>
    go_wp2_with fail
    refine (awake_any _).mono ?_
    rintro e w3 ⟨rfl, hb3⟩
    have hB3 := BT hB2 hb3
    go_wp2
    go_ret
    exact ⟨rfl, hB3⟩
  | true =>
  have HVW := validW_iff hv
  have hE0 : ¬ h.eyes = 0 := by have := HVW.ey; omega
  have hE4 : h.eyes ≤ 4 := by have := HVW.ey; omega
  have hE1 : (0 : Int) < h.eyes := by have := HVW.ey; omega
  have hl12 : h.ln ≤ 12 := by rw [← hnl.out]; exact HVW.l12
  have hi : 0 ≤ a % h.eyes ∧ a % h.eyes < h.eyes := ⟨Int.emod_nonneg _ (by omega), Int.emod_lt_of_pos _ hE1⟩
  have HF : Hid (∃ c who sure g, XF h xs ls (a % h.eyes) c who sure g) := explain_facts hv hnl.out hi
  have HV := Lib.hid hv
  clear hv hf HVW
  obtain ⟨c, who, sure, g, xf⟩ := HF.out
  have XF' := Lib.hid xf
  clear xf HF
  obtain ⟨⟨c0, c1, c2, c3, c4, c5, c6, c7⟩, hh⟩ := HB.out
  clear hh
  go_wp2_with fail
  refine (hex.out _ hB2).mono ?_
  rw [XF'.out.w]
  rintro e w3 ⟨rfl, hx3⟩
  have hB3 := BT hB2 hx3
  have HB := Lib.hid (HB.out.grown hx3)
  clear c0 c1 c2 c3 c4 c5 c6 c7 hx3 hB2 hex
  obtain ⟨⟨c0, c1, c2, c3, c4, c5, c6, c7⟩, hh⟩ := HB.out
  clear hh
  go_wp2_with fail
  refine (hsu.out _ hB3).mono ?_
  rw [XF'.out.s]
  rintro e w4 ⟨rfl, hx4⟩
  have hB4 := BT hB3 hx4
  have HB := Lib.hid (HB.out.grown hx4)
  clear c0 c1 c2 c3 c4 c5 c6 c7 hx4 hB3 hsu
  rcases XF'.out.cs with ⟨hc, z1, z2⟩ | ⟨hc, ⟨hw0, hw1⟩, ⟨q1, q2, hq⟩, hwg, handn, hless⟩
  · subst hc
    subst z1
    subst z2
    go_wp2_with fail
    refine (awake_any _).mono ?_
    rintro e w5 ⟨rfl, hb5⟩
    have hB5 := BT hB4 hb5
    go_wp2
    go_ret
    exact ⟨rfl, hB5⟩
  subst hc
  have HLE := Lib.hid hless
  clear hless XF'
  obtain ⟨⟨c0, c1, c2, c3, c4, c5, c6, c7⟩, hh⟩ := HB.out
  clear hh
  go_upto_region 10 with fail
  have hN := newB w4 (.cells #[.slice h.a h.n h.cap, .int .i64 h.eLo, .int .i64 h.eHi, .int .i64 h.images, .int .i64 h.eyes, .int .i64 h.hLo, .int .i64 h.hHi, .slice h.la h.ln h.lcap] 29)
  have sN := slots8 w4 (.slice h.a h.n h.cap) (.slice h.la h.ln h.lcap) h.eLo h.eHi h.images h.eyes h.hLo h.hHi 29
  have hNl : w4.heap.size < (w4.alloc (.cells #[.slice h.a h.n h.cap, .int .i64 h.eLo, .int .i64 h.eHi, .int .i64 h.images, .int .i64 h.eyes, .int .i64 h.hLo, .int .i64 h.hHi, .slice h.la h.ln h.lcap] 29)).heap.size := by simp
  have bN := boxW_new w4 h 29
  have hB5 := BT hB4 hN
  have HB := Lib.hid (HB.out.grown hN)
  have hwN' : w.heap.size < w4.heap.size := World.block_lt_of_cell? _ _ c0
  have hwN : w.heap.size ≤ w4.heap.size := hB4.size
  clear c0 c1 c2 c3 c4 c5 c6 c7 hN hB4
  generalize w4.alloc (.cells #[.slice h.a h.n h.cap, .int .i64 h.eLo, .int .i64 h.eHi, .int .i64 h.images, .int .i64 h.eyes, .int .i64 h.hLo, .int .i64 h.hHi, .slice h.la h.ln h.lcap] 29) = W4 at *
  generalize w4.heap.size = N at *
  go_wp2_with fail
  refine (spanL_any _ _ _).mono ?_
  rintro e w5 ⟨rfl, hx5⟩
  have hB6 := BT hB5 hx5
  have HB := Lib.hid (HB.out.grown hx5)
  have sN := sN.below hx5 hNl
  have bN := bN.grown hx5
  have hNl : N < w5.heap.size := Nat.lt_of_lt_of_le hNl hx5.size
  clear hx5 hB5
  obtain ⟨u5, p5, f5⟩ := sN.get 5 (by omega)
  obtain ⟨u6, p6, f6⟩ := sN.get 6 (by omega)
  go_upto_region 11 with fail
  have ho : ∀ (o : Nat) (v : Value), o ≠ 5 → o ≠ 6 → w5.cell? ⟨N, o, none⟩ = some v → ((w5.setCell ⟨N, 5, none⟩ (.int .i64 0)).setCell ⟨N, 6, none⟩ (.int .i64 0)).cell? ⟨N, o, none⟩ = some v := fun o v h5 h6 hc => by
    rw [World.cell?_setCell_other _ _ _ _ (by intro he; injection he; omega), World.cell?_setCell_other _ _ _ _ (by intro he; injection he; omega)]
    exact hc
  have n0 := ho _ _ (by omega) (by omega) bN.c0
  have n1 := ho _ _ (by omega) (by omega) bN.c1
  have n2 := ho _ _ (by omega) (by omega) bN.c2
  have n3 := ho _ _ (by omega) (by omega) bN.c3
  have n4 := ho _ _ (by omega) (by omega) bN.c4
  have n7 := ho _ _ (by omega) (by omega) bN.c7
  have p6' := (World.cell?_setCell_other w5 ⟨N, 5, none⟩ ⟨N, 6, none⟩ (.int .i64 0) (by intro he; injection he; omega)).trans p6
  have n5 := (World.cell?_setCell_other (w5.setCell ⟨N, 5, none⟩ (.int .i64 0)) ⟨N, 6, none⟩ ⟨N, 5, none⟩ (.int .i64 0) (by intro he; injection he; omega)).trans (World.cell?_setCell_same w5 ⟨N, 5, none⟩ (.int .i64 0) p5)
  have n6 := World.cell?_setCell_same (w5.setCell ⟨N, 5, none⟩ (.int .i64 0)) ⟨N, 6, none⟩ (.int .i64 0) p6'
  have hB7 := BC (BC hB6 N 5 hwN (.int .i64 0)) N 6 hwN (.int .i64 0)
  -- what the box of the watch keeps
  obtain ⟨⟨c0, c1, c2, c3, c4, c5, c6, c7⟩, hh⟩ := HB.out
  clear hh
  have hbx : ∀ (o : Nat) (v : Value), w5.cell? ⟨w.heap.size, o, none⟩ = some v → ((w5.setCell ⟨N, 5, none⟩ (.int .i64 0)).setCell ⟨N, 6, none⟩ (.int .i64 0)).cell? ⟨w.heap.size, o, none⟩ = some v := fun o v hc => by
    rw [World.cell?_setCell_other _ _ _ _ (by intro he; injection he; omega), World.cell?_setCell_other _ _ _ _ (by intro he; injection he; omega)]
    exact hc
  have HB : Hid (BoxA ((w5.setCell ⟨N, 5, none⟩ (.int .i64 0)).setCell ⟨N, 6, none⟩ (.int .i64 0)) w.heap.size h xs ls) := (⟨⟨hbx _ _ c0, hbx _ _ c1, hbx _ _ c2, hbx _ _ c3, hbx _ _ c4, hbx _ _ c5, hbx _ _ c6, hbx _ _ c7⟩, HM.out.below hB7⟩ : BoxA _ _ h xs ls)
  clear hbx ho bN sN p5 p6 p6' f5 f6 hNl hB6 c0 c1 c2 c3 c4 c5 c6 c7
  generalize (w5.setCell ⟨N, 5, none⟩ (.int .i64 0)).setCell ⟨N, 6, none⟩ (.int .i64 0) = W7 at *
  go_wp2_with fail
  refine (hno.out _ hB7).mono ?_
  unfold noneH at hq
  rw [hq]
  rintro e w8 ⟨rfl, hx8⟩
  have hN := newB w8 (.cells #[.int .i64 q1, .int .i64 q2] 24)
  have hBc := BT hx8 hN
  have hB9 := BT hB7 hBc
  have HB := Lib.hid (HB.out.grown hBc)
  clear n0 n1 n2 n3 n4 n5 n6 n7 hno hx8 hN hB7 hBc
  go_upto_region 12 with fail
  generalize w8.alloc (.cells #[.int .i64 q1, .int .i64 q2] 24) = W9 at *
  obtain ⟨⟨c0, c1, c2, c3, c4, c5, c6, c7⟩, hh⟩ := HB.out
  clear hh c0 c1 c2 c3 c5 c6
  have ed : who / 2 ^ h.eyes.toNat = 0 := Int.ediv_eq_zero_of_lt hw0 hw1
  have hn0 : ¬ who < 0 := by omega
  have hwho16 : who < 16 := by have := pow_eyes hE4; omega
  have hln0 : (h.ln : Int) ≤ 12 := by omega
  clear hq
  go_upto_region 15 with fail
  have HWG := Lib.hid hwg
  have HAN := Lib.hid handn
  have HED := Lib.hid ed
  clear hwg handn ed
  generalize a % h.eyes = m at *
  obtain ⟨hm0, hm1⟩ := hi
  have HP : Hid (∀ k, k < h.ln → bits .or .i64 (sureTo (notOf ls m) k) (wrap64 (2 ^ k)) = sureTo (notOf ls m) k + 2 ^ k) := fun k hk => or_bit12 (by omega) (sure_rng _ k).1 (sure_rng _ k).2
  have HQ : Hid (∀ k, sureTo (notOf ls m) (k + 1) = if notOf ls m k then sureTo (notOf ls m) k + 2 ^ k else sureTo (notOf ls m) k) := fun k => rfl
  go_upto_region 17 with fail
  go_loopw [13, 92] (fun v p wr => ∃ k : Nat, k ≤ h.ln ∧ p = .int .i64 k ∧ v = .int .i64 (sureTo (notOf ls m) k) ∧ Below W9.heap.size W9 wr) (fun _ p _ => h.ln - (intOf p).toNat)
  case atStart => exact ⟨0, by omega, rfl, rfl, Below.refl _ _⟩
  case round =>
    obtain ⟨k, hk, rfl, rfl, hBx⟩ := hrel
    by_cases hlt : k < h.ln
    · have hlt' : (k : Int) < (h.ln : Int) := by omega
      have hk0 : (0 : Int) ≤ (k : Int) := by omega
      have hk12 : (k : Int) ≤ 12 := by omega
      have hkl : k < ls.length := by rw [hnl.out]; exact hlt
      rcases (HB.out.grown hBx).has.lk with hnil | ⟨bt, ot, hla, hbt, hct⟩
      · exfalso; rw [hnil] at hkl; simp at hkl
      obtain ⟨d0, d1, d2, d3⟩ := hct k hkl
      rw [hla]
      have hor := Lib.hid (HP.out k hlt)
      have hst := Lib.hid (HQ.out k)
      have hnt : notOf ls m k = ((ls.getD k (0, 0, 0)).1 != m) := rfl
      rw [hnt] at hst
      clear hla hct hnt
      generalize ls.getD k (0, 0, 0) = lv at *
      obtain ⟨ey, im, rd⟩ := lv
      dsimp only at d0 d1 d2 d3 hst
      have hs0 := (sure_rng (notOf ls m) k)
      have hpk : (2 : Int) ^ k ≤ 4096 := (by decide +kernel : ∀ k : Fin 13, (2 : Int) ^ k.val ≤ 4096) ⟨k, by omega⟩
      have hBk : Hid (0 ≤ sureTo (notOf ls m) k ∧ sureTo (notOf ls m) k < 2 ^ k) := hs0
      clear hs0 hpk
      generalize sureTo (notOf ls m) k = acc at *
      have hBn := Lib.hid (BT hBx (newB wr (.cells #[.int .i64 ey, .int .i64 im, .int .i64 rd] 47)))
      by_cases hem : ey = m
      · subst hem
        have hst2 : Hid (sureTo (notOf ls ey) (k + 1) = acc) := by show _ = _; rw [hst.out]; simp
        clear hst
        go_wp2_with fail
        go_roundw
        case rel => exact ⟨k + 1, by omega, by go_num, by rw [hst2.out], hBn.out⟩
        case measure => simp [intOf]; omega
      · have hst2 : Hid (sureTo (notOf ls m) (k + 1) = acc + 2 ^ k) := by
          show _ = _
          rw [hst.out]
          have : (ey != m) = true := by simpa using hem
          rw [this]; rfl
        clear hst
        go_wp2_with fail
        go_roundw
        case rel => exact ⟨k + 1, by omega, by go_num, by rw [hst2.out, ← hor.out], hBn.out⟩
        case measure => simp [intOf]; omega
    · obtain rfl : k = h.ln := by omega
      have hBw := BT hB9 hBx
      have hsr := sure_rng (notOf ls m) h.ln
      have hp12 := pow_12 (n := h.ln) (by omega)
      have hpart := part_any h xs ls (sureTo (notOf ls m) h.ln) wr (HM.out.below hBw) (by rw [hnl.out]; exact hl12) ⟨hsr.1, by rw [hp12.2.2] at hsr; omega⟩
      have HLE2 := Lib.hid HLE.out
      rw [hnl.out] at HLE2
      obtain ⟨⟨c0, c1, c2, c3, c4, c5, c6, c7⟩, hh⟩ := HB.out.grown hBx
      clear hh hsr hp12 HLE
      generalize sureTo (notOf ls m) h.ln = set at *
      unfold Wd.val at hpart
      have hpart := Lib.hid hpart
      go_wp2_with fail
      refine hpart.out.mono ?_
      rintro e y1 ⟨sa, cap, rfl, hpm, hb1⟩
      obtain ⟨less, hrep, ⟨l0, l1⟩, l2, l3⟩ := HLE2.out sa cap
      have hexp := explain_any (partH h sa (partS ls set).length cap) xs (partS ls set) y1 hpm
      rw [hrep] at hexp
      have hB1 := BT hBw hb1
      clear c0 c1 c2 c3 c4 c5 c6 c7 hpart HLE2 hpm hrep hb1
      unfold Wd.val partH at hexp
      dsimp only at hexp
      have hexp := Lib.hid hexp
      unfold partH
      dsimp only
      go_wp2_with fail
      refine hexp.out.mono ?_
      rintro e y2 ⟨rfl, hb2⟩
      have hB2 := BT hB1 hb2
      clear hexp hb2
      have hmt : m.toNat < 4 := by omega
      have hlr : 0 ≤ less / 2 ^ m.toNat ∧ less / 2 ^ m.toNat < 16 := by
        have h2 : (0 : Int) < 2 ^ m.toNat := Int.pow_pos (by decide)
        exact ⟨Int.ediv_nonneg l0 (by omega), Int.lt_of_le_of_lt (Int.ediv_le_self _ l0) l1⟩
      have hand := and_one hlr
      rw [l2] at hand
      have hs1 := Lib.hid (sizeR_any less ⟨l0, by omega⟩)
      have hs2 := Lib.hid (sizeR_any who ⟨hw0, by omega⟩)
      have hle : Hid (popc less ≤ popc who) := l3
      clear hlr l2 l3
      go_wp2_with fail
      refine (hs1.out _).mono ?_
      rintro e y3 ⟨rfl, hb3⟩
      have hB3 := BT hB2 hb3
      go_wp2_with fail
      refine (hs2.out _).mono ?_
      rintro e y4 ⟨rfl, hb4⟩
      have hB4 := BT hB3 hb4
      have hle' := hle.out
      clear hb3 hb4 hs1 hs2
      generalize popc less = pl at *
      generalize popc who = pw at *
      go_wp2_with fail
      refine (awake_any _).mono ?_
      rintro e y5 ⟨rfl, hb5⟩
      have hB5 := BT hB4 hb5
      go_wp2
      go_ret
      exact ⟨rfl, hB5⟩
end Ey
end Go.Proofs.Ytcfjakifeihbpaa
