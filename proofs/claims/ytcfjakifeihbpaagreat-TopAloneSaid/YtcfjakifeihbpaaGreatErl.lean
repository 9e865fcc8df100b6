/- The reference: its checks of screws, readings and watches. -/
import Derived.Test.YtcfjakifeihbpaaGreatEaw
namespace Go.Proofs.YtcfjakifeihbpaaGreat
namespace Ey
open Go.RowKit

def inB (n lo hi : Int) : Bool := decide (lo ≤ n) && decide (n ≤ hi)
theorem inR_any (n lo hi : Int) (w : World) : Calls Tryz.prog 53 #[.int .i64 n, .int .i64 lo, .int .i64 hi] w (Ret (.bool (inB n lo hi)) w) := by
  by_cases h1 : lo ≤ n
  · by_cases h2 : n ≤ hi
    all_goals
      have he : Hid (inB n lo hi = decide (n ≤ hi)) := by show _ = _; simp [inB, h1]
      go_enter Tryz.func53, Tryz.ntmps53
      go_wp2
      go_ret
      exact ⟨by rw [he.out]; simp [h2], Below.refl _ _⟩
  · have he : Hid (inB n lo hi = false) := by show _ = _; simp [inB, h1]
    go_enter Tryz.func53, Tryz.ntmps53
    go_wp2
    go_ret
    exact ⟨by rw [he.out]; rfl, Below.refl _ _⟩
theorem spanR_any (a b c d : Int) (w : World) :
    Calls Tryz.prog 52 #[.agg #[.int .i64 c, .int .i64 d], .int .i64 a, .int .i64 b] w (Ret (.bool (holdB a b c d)) w) := by
  by_cases h1 : a ≤ c
  · by_cases h2 : c ≤ d
    · by_cases h3 : d ≤ b
      all_goals
        have he : Hid (holdB a b c d = decide (d ≤ b)) := by show _ = _; simp [holdB, h1, h2]
        go_enter Tryz.func52, Tryz.ntmps52
        go_wp2
        go_ret
        exact ⟨by rw [he.out]; simp [h3], by (repeat (first | assumption | exact Below.refl _ _ | refine BA ?_ _ | refine BC ?_ _ _ (by omega) _ | refine Below.drew ?_ | refine BT ?_ (by assumption)))⟩
    · have he : Hid (holdB a b c d = false) := by show _ = _; simp [holdB, h2]
      go_enter Tryz.func52, Tryz.ntmps52
      go_wp2
      go_ret
      exact ⟨by rw [he.out]; rfl, by (repeat (first | assumption | exact Below.refl _ _ | refine BA ?_ _ | refine BC ?_ _ _ (by omega) _ | refine Below.drew ?_ | refine BT ?_ (by assumption)))⟩
  · have he : Hid (holdB a b c d = false) := by show _ = _; simp [holdB, h1]
    go_enter Tryz.func52, Tryz.ntmps52
    go_wp2
    go_ret
    exact ⟨by rw [he.out]; rfl, by (repeat (first | assumption | exact Below.refl _ _ | refine BA ?_ _ | refine BC ?_ _ _ (by omega) _ | refine Below.drew ?_ | refine BT ?_ (by assumption)))⟩
theorem hasTrn_in (n : Nat) (r : Int) : inB r 0 (1000 * n - 1) = hasTrn n r := by
  unfold inB hasTrn
  by_cases h : 0 ≤ r
  · have : (r ≤ 1000 * (n : Int) - 1) ↔ (r / 1000 < (n : Int)) := by omega
    simp [h, this]
  · simp [h]
theorem readingR_any (a : Option Addr) (n cap : Nat) (eLo eHi : Int) (r : Int) (w : World) (hn : n ≤ 100) :
    Calls Tryz.prog 14 #[.agg #[.slice a n cap, .int .i64 eLo, .int .i64 eHi], .int .i64 r] w (Ret (.bool (hasTrn n r)) w) := by
  have he := Lib.hid (hasTrn_in n r)
  have hn0 : (n : Int) ≤ 100 := by omega
  have hn1 : (0 : Int) ≤ (n : Int) := by omega
  go_enter Tryz.func14, Tryz.ntmps14
  go_wp2_with fail
  refine (inR_any _ _ _ _).mono ?_
  rintro e w1 ⟨rfl, hb1⟩
  go_wp2
  go_ret
  exact ⟨by rw [← he.out]; rfl, by (repeat (first | assumption | exact Below.refl _ _ | refine BA ?_ _ | refine BC ?_ _ _ (by omega) _ | refine Below.drew ?_ | refine BT ?_ (by assumption)))⟩
theorem in_hold (n lo hi : Int) : inB n lo hi = holdB lo hi n n := by simp [inB, holdB]
/-- A screw's box. -/
structure InS (w : World) (B : Nat) (a : Option Addr) (n cap : Nat) (eLo eHi : Int) : Prop where
  c0 : w.cell? ⟨B, 0, none⟩ = some (.slice a n cap)
  c1 : w.cell? ⟨B, 1, none⟩ = some (.int .i64 eLo)
  c2 : w.cell? ⟨B, 2, none⟩ = some (.int .i64 eHi)
theorem InS.grown {w w' : World} {B : Nat} {a : Option Addr} {n cap : Nat} {eLo eHi : Int} (h : InS w B a n cap eLo eHi) (hb : Below w.heap.size w w') : InS w' B a n cap eLo eHi := ⟨cellB h.c0 hb, cellB h.c1 hb, cellB h.c2 hb⟩

set_option maxHeartbeats 1000000 in
theorem screwR_any (a : Option Addr) (xs : List (Int × Int)) (cap : Nat) (eLo eHi : Int) (w : World) (hl : xs.length ≤ 100) (hx : Spans w a xs) :
    Calls Tryz.prog 12 #[.agg #[.slice a xs.length cap, .int .i64 eLo, .int .i64 eHi]] w (Ret (.bool (validB xs eLo eHi)) w) := by
  have HX := Lib.hid hx; clear hx
  have HV : Hid (validB xs eLo eHi = (inB xs.length 1 40 && evB (-100) 100 xs && holdB (-100) 100 eLo eHi)) := by show _ = _; rw [in_hold]; rfl
  generalize validB xs eLo eHi = V at *
  generalize hn : xs.length = n at *
  have HN := Lib.hid hn; clear hn
  have hn0 : (n : Int) ≤ 100 := by omega
  have hnx : n ≤ 9223372036854775807 := by omega
  have hI : Hid (InS (w.alloc (.cells #[.slice a n cap, .int .i64 eLo, .int .i64 eHi] 26)) w.heap.size a n cap eLo eHi) := ⟨by simp [go_sem], by simp [go_sem], by simp [go_sem]⟩
  have hB0 : Below w.heap.size w (w.alloc (.cells #[.slice a n cap, .int .i64 eLo, .int .i64 eHi] 26)) := by (repeat (first | assumption | exact Below.refl _ _ | refine BA ?_ _ | refine BC ?_ _ _ (by omega) _ | refine Below.drew ?_ | refine BT ?_ (by assumption)))
  go_enter Tryz.func12, Tryz.ntmps12
  go_wp2_with fail
  generalize w.heap.size = B at hI ⊢
  generalize w.alloc (.cells #[.slice a n cap, .int .i64 eLo, .int .i64 eHi] 26) = W at *
  go_loopw [3] (fun i wr => ∃ k : Nat, k ≤ n ∧ i = .int .i64 k ∧ Below W.heap.size W wr ∧ Hid (evB (-100) 100 (xs.take k) = true)) (fun i _ => n - (intOf i).toNat)
  case atStart => exact ⟨0, by omega, rfl, Below.refl _ _, rfl⟩
  case round =>
    obtain ⟨k, hk, rfl, hB, hE⟩ := hrel
    obtain ⟨i0, i1, i2⟩ := hI.out.grown hB
    have hX := HX.out.below (Nat.le_refl _) (BT hB0 hB)
    have hk0 : (0 : Int) ≤ (k : Int) := by omega
    by_cases hlt : k < n
    · rcases hX with h | ⟨b, o, rfl, hb, hc⟩
      · exfalso; have := HN.out; rw [h] at this; simp at this; omega
      · obtain ⟨d1, d2⟩ := hc k (by rw [HN.out]; exact hlt)
        have hE1 := Lib.hid (fun h => evB_no (lo := -100) (hi := 100) (xs := xs) (k := k) (by rw [HN.out]; exact hlt) h)
        have hE2 := Lib.hid (fun h => evB_snoc (lo := -100) (hi := 100) (xs := xs) (k := k) (by rw [HN.out]; exact hlt) hE.out h)
        clear hc
        generalize (xs.getD k (0, 0)).1 = l at *
        generalize (xs.getD k (0, 0)).2 = h at *
        cases hh : holdB (-100) 100 l h
        all_goals
          have HH := Lib.hid hh; clear hh
          go_wp2_with (refine (spanR_any _ _ _ _ _).mono ?_; rw [HH.out]; rintro e w2 ⟨rfl, hb2⟩)
        · go_ret
          exact ⟨by rw [HV.out, hE1.out HH.out]; simp, by (repeat (first | assumption | exact Below.refl _ _ | refine BA ?_ _ | refine BC ?_ _ _ (by omega) _ | refine Below.drew ?_ | refine BT ?_ (by assumption)))⟩
        · go_roundw
          case rel => exact ⟨k + 1, by omega, by go_num, by (repeat (first | assumption | exact Below.refl _ _ | refine BA ?_ _ | refine BC ?_ _ _ (by omega) _ | refine Below.drew ?_ | refine BT ?_ (by assumption))), hE2.out HH.out⟩
          case measure => simp [intOf]; omega
    · obtain rfl : k = n := by omega
      have hE' : Hid (evB (-100) 100 xs = true) := by have := hE.out; rw [List.take_of_length_le (by rw [HN.out]; omega)] at this; exact this
      cases hin : inB (k : Int) 1 40
      · have HI := Lib.hid hin; clear hin
        go_wp2_with (refine (inR_any _ _ _ _).mono ?_; rw [HI.out]; rintro e w2 ⟨rfl, hb2⟩)
        go_ret
        exact ⟨by rw [HV.out, HI.out]; rfl, by (repeat (first | assumption | exact Below.refl _ _ | refine BA ?_ _ | refine BC ?_ _ _ (by omega) _ | refine Below.drew ?_ | refine BT ?_ (by assumption)))⟩
      · have HI := Lib.hid hin; clear hin
        go_wp2_with fail
        refine (inR_any _ _ _ _).mono ?_
        rw [HI.out]
        rintro e w2 ⟨rfl, hb2⟩
        have j1 := cellB i1 hb2
        have j2 := cellB i2 hb2
        go_wp2_with fail
        refine (spanR_any _ _ _ _ _).mono ?_
        rintro e w3 ⟨rfl, hb3⟩
        go_wp2
        go_ret
        exact ⟨by rw [HV.out, HI.out, hE'.out]; rfl, by (repeat (first | assumption | exact Below.refl _ _ | refine BA ?_ _ | refine BC ?_ _ _ (by omega) _ | refine Below.drew ?_ | refine BT ?_ (by assumption)))⟩

theorem in3_any (n lo hi : Int) (w : World) : Calls Tryz.prog 13 #[.int .i64 n, .int .i64 lo, .int .i64 hi] w (Ret (.bool (inB n lo hi)) w) := by
  by_cases h1 : lo ≤ n
  · by_cases h2 : n ≤ hi
    all_goals
      have he : Hid (inB n lo hi = decide (n ≤ hi)) := by show _ = _; simp [inB, h1]
      go_enter Tryz.func13, Tryz.ntmps13
      go_wp2
      go_ret
      exact ⟨by rw [he.out]; simp [h2], Below.refl _ _⟩
  · have he : Hid (inB n lo hi = false) := by show _ = _; simp [inB, h1]
    go_enter Tryz.func13, Tryz.ntmps13
    go_wp2
    go_ret
    exact ⟨by rw [he.out]; rfl, Below.refl _ _⟩

theorem isImg_in (images n : Int) : inB n 0 (images - 1) = isImg images n := by
  unfold inB isImg
  congr 1
  simp only [decide_eq_decide]
  omega
/-- What the reference asks of a look. -/
def lookQ (h : Wd) (n : Nat) (l : LkV) : Bool := isImg h.eyes l.1 && isImg h.images l.2.1 && hasTrn n l.2.2
def watchQ (h : Wd) (xs : List (Int × Int)) (ls : List LkV) : Bool := validB xs h.eLo h.eHi && inB h.images 1 6 && inB h.eyes 1 4 && inB h.hLo (-200) 0 && inB h.hHi 0 200 && decide (ls.length ≤ 12) && ls.all (lookQ h xs.length)
theorem watchQ_eq (h : Wd) (xs : List (Int × Int)) (ls : List LkV) : watchQ h xs ls = validW h xs ls := by
  unfold watchQ validW
  cases hb : validB xs h.eLo h.eHi
  · unfold saysB; rw [hb]; rfl
  · have h0 : saysB xs h.eLo h.eHi 0 = true := by
      unfold saysB hasTrn
      rw [hb]
      unfold validB at hb
      rw [Bool.and_eq_true, Bool.and_eq_true, hold_iff] at hb
      simp
      omega
    have hl : lookQ h xs.length = lookB h xs := by
      funext l
      unfold lookQ lookB saysB
      rw [hb]; rfl
    rw [h0, hl, in_hold, in_hold]
    have hh : (inB h.hLo (-200) 0 && inB h.hHi 0 200) = (holdB (-200) 200 h.hLo h.hHi && holdB h.hLo h.hHi 0 0) := by
      unfold inB holdB
      rw [Bool.eq_iff_iff]
      simp only [Bool.and_eq_true, decide_eq_true_eq]
      omega
    have : ∀ a b c d e f g i : Bool, (c && d) = (e && f) → (true && a && b && c && d && g && i) = (true && a && b && e && f && g && i) := by decide
    exact this _ _ _ _ _ _ _ _ hh
theorem lookQ_no {h : Wd} {n : Nat} {ls : List LkV} {k : Nat} (hk : k < ls.length) (hh : lookQ h n (ls.getD k (0, 0, 0)) = false) : ls.all (lookQ h n) = false := by
  rw [List.all_eq_false]
  refine ⟨ls[k], List.getElem_mem hk, ?_⟩
  have e : ls.getD k (0, 0, 0) = ls[k] := by simp [List.getD, hk]
  rw [e] at hh
  simp [hh]
theorem lookQ_snoc {h : Wd} {n : Nat} {ls : List LkV} {k : Nat} (hk : k < ls.length) (h1 : (ls.take k).all (lookQ h n) = true) (hh : lookQ h n (ls.getD k (0, 0, 0)) = true) : (ls.take (k + 1)).all (lookQ h n) = true := by
  have e : ls.getD k (0, 0, 0) = ls[k] := by simp [List.getD, hk]
  rw [e] at hh
  rw [List.take_succ_eq_append_getElem hk, List.all_append, h1]
  simp [hh]
set_option maxRecDepth 100000 in
set_option maxHeartbeats 8000000 in
theorem watchR_any (h : Wd) (xs : List (Int × Int)) (ls : List LkV) (w : World) (hm : HasW w h xs ls) (hn : xs.length ≤ 100) (hns : ls.length ≤ 40) : Calls Tryz.prog 4 #[h.val] w (Ret (.bool (validW h xs ls)) w) := by
  rw [← watchQ_eq]
  have hX := newB w (.cells #[.slice h.a h.n h.cap, .int .i64 h.eLo, .int .i64 h.eHi, .int .i64 h.images, .int .i64 h.eyes, .int .i64 h.hLo, .int .i64 h.hHi, .slice h.la h.ln h.lcap] 29)
  have hb0 : BoxA (w.alloc (.cells #[.slice h.a h.n h.cap, .int .i64 h.eLo, .int .i64 h.eHi, .int .i64 h.images, .int .i64 h.eyes, .int .i64 h.hLo, .int .i64 h.hHi, .slice h.la h.ln h.lcap] 29)) w.heap.size h xs ls := ⟨boxW_new w h _, hm.below hX⟩
  have HV : Hid (watchQ h xs ls = (validB xs h.eLo h.eHi && inB h.images 1 6 && inB h.eyes 1 4 && inB h.hLo (-200) 0 && inB h.hHi 0 200 && decide (ls.length ≤ 12) && ls.all (lookQ h xs.length))) := rfl
  generalize watchQ h xs ls = V at *
  have HNX := Lib.hid hm.nx
  have HNS := Lib.hid hm.nl
  have hn2 : h.n ≤ 100 := by rw [← hm.nx]; exact hn
  have hln : h.ln ≤ 40 := by rw [← hm.nl]; exact hns
  clear hm hn hns
  unfold Wd.val
  go_enter Tryz.func4, Tryz.ntmps4
  obtain ⟨⟨c0, c1, c2, c3, c4, c5, c6, c7⟩, hh⟩ := hb0
  have HB := Lib.hid (show BoxA _ _ h xs ls from ⟨⟨c0, c1, c2, c3, c4, c5, c6, c7⟩, hh⟩)
  have hsc := screwR_any h.a xs h.cap h.eLo h.eHi _ (by rw [HNX.out]; exact hn2) hh.sp
  rw [HNX.out] at hsc
  clear hh
  go_wp2_with fail
  refine hsc.mono ?_
  rintro e w1 ⟨rfl, hb1⟩
  have hB := BT hX hb1
  have HB := Lib.hid (HB.out.grown hb1)
  clear c0 c1 c2 c3 c4 c5 c6 c7 hX hb1 hsc
  cases h1 : validB xs h.eLo h.eHi
  · have hRn : Hid (V = false) := by show _ = _; rw [HV.out, h1]; simp
    clear HV
    go_wp2
    go_ret
    exact ⟨by rw [hRn.out]; rfl, hB⟩
  have H1 := Lib.hid h1
  clear h1
  obtain ⟨⟨c0, c1, c2, c3, c4, c5, c6, c7⟩, hh⟩ := HB.out
  clear hh
  go_wp2_with fail
  refine (in3_any _ _ _ _).mono ?_
  rintro e w2 ⟨rfl, hb2⟩
  have hB := BT hB hb2
  have HB := Lib.hid (HB.out.grown hb2)
  clear c0 c1 c2 c3 c4 c5 c6 c7 hb2
  cases h2 : inB h.images 1 6
  · have hRn : Hid (V = false) := by show _ = _; rw [HV.out, H1.out, h2]; simp
    clear HV
    go_wp2
    go_ret
    exact ⟨by rw [hRn.out]; rfl, hB⟩
  have H2 := Lib.hid h2
  clear h2
  obtain ⟨⟨c0, c1, c2, c3, c4, c5, c6, c7⟩, hh⟩ := HB.out
  clear hh
  go_wp2_with fail
  refine (in3_any _ _ _ _).mono ?_
  rintro e w3 ⟨rfl, hb3⟩
  have hB := BT hB hb3
  have HB := Lib.hid (HB.out.grown hb3)
  clear c0 c1 c2 c3 c4 c5 c6 c7 hb3
  cases h3 : inB h.eyes 1 4
  · have hRn : Hid (V = false) := by show _ = _; rw [HV.out, H1.out, H2.out, h3]; simp
    clear HV
    go_wp2
    go_ret
    exact ⟨by rw [hRn.out]; rfl, hB⟩
  have H3 := Lib.hid h3
  clear h3
  obtain ⟨⟨c0, c1, c2, c3, c4, c5, c6, c7⟩, hh⟩ := HB.out
  clear hh
  go_wp2_with fail
  refine (in3_any _ _ _ _).mono ?_
  rintro e w4 ⟨rfl, hb4⟩
  have hB := BT hB hb4
  have HB := Lib.hid (HB.out.grown hb4)
  clear c0 c1 c2 c3 c4 c5 c6 c7 hb4
  cases h4 : inB h.hLo (-200) 0
  · have hRn : Hid (V = false) := by show _ = _; rw [HV.out, H1.out, H2.out, H3.out, h4]; simp
    clear HV
    go_wp2
    go_ret
    exact ⟨by rw [hRn.out]; rfl, hB⟩
  have H4 := Lib.hid h4
  clear h4
  obtain ⟨⟨c0, c1, c2, c3, c4, c5, c6, c7⟩, hh⟩ := HB.out
  clear hh
  go_wp2_with fail
  refine (in3_any _ _ _ _).mono ?_
  rintro e w5 ⟨rfl, hb5⟩
  have hB := BT hB hb5
  have HB := Lib.hid (HB.out.grown hb5)
  clear c0 c1 c2 c3 c4 c5 c6 c7 hb5
  cases h5 : inB h.hHi 0 200
  · have hRn : Hid (V = false) := by show _ = _; rw [HV.out, H1.out, H2.out, H3.out, H4.out, h5]; simp
    clear HV
    go_wp2
    go_ret
    exact ⟨by rw [hRn.out]; rfl, hB⟩
  have H5 := Lib.hid h5
  clear h5
  obtain ⟨⟨c0, c1, c2, c3, c4, c5, c6, c7⟩, hh⟩ := HB.out
  clear hh
  have hBB := HB
  clear HB
  have HB := hBB
  have HD0 : Hid (V = (decide (ls.length ≤ 12) && ls.all (lookQ h xs.length))) := by show _ = _; rw [HV.out, H1.out, H2.out, H3.out, H4.out, H5.out]; simp
  have hey := H3.out
  have him := H2.out
  unfold inB at hey him
  simp only [Bool.and_eq_true, decide_eq_true_eq] at hey him
  obtain ⟨hey0, hey1⟩ := hey
  obtain ⟨him0, him1⟩ := him
  clear HV H1 H2 H3 H4 H5 hBB
  have hln0 : (h.ln : Int) ≤ 40 := by omega
  by_cases h4 : h.ln ≤ 12
  · have hd : decide ((h.ln : Int) > 12) = false := by simp; omega
    have HD : Hid (V = ls.all (lookQ h xs.length)) := by show _ = _; rw [HD0.out, HNS.out]; simp [h4]
    clear HD0
    go_wp2_with fail
    clear c0 c1 c2 c3 c4 c5 c6 c7
    go_loopw [3] (fun i wr => ∃ k : Nat, k ≤ h.ln ∧ i = .int .i64 k ∧ Below w5.heap.size w5 wr ∧ Hid ((ls.take k).all (lookQ h xs.length) = true)) (fun i _ => h.ln - (intOf i).toNat)
    case atStart => exact ⟨0, by omega, rfl, Below.refl _ _, rfl⟩
    case round =>
      obtain ⟨k, hk, rfl, hBr0, hE⟩ := hrel
      obtain ⟨⟨c0, c1, c2, c3, c4, c5, c6, c7⟩, hh⟩ := HB.out.grown hBr0
      have hk0 : (0 : Int) ≤ (k : Int) := by omega
      have hBr := BT hB hBr0
      have hst := hh.lk
      clear hh
      by_cases hlt : k < h.ln
      · rcases hst with hnil | ⟨b, o, hsa, hb, hc⟩
        · exfalso; have := HNS.out; rw [hnil] at this; simp at this; omega
        · obtain ⟨d0, d1, d2, d3⟩ := hc k (by rw [HNS.out]; exact hlt)
          rw [hsa] at c7
          clear hsa hc
          have hE1 := Lib.hid (fun hh => lookQ_no (h := h) (n := xs.length) (ls := ls) (k := k) (by rw [HNS.out]; exact hlt) hh)
          have hE2 := Lib.hid (fun hh => lookQ_snoc (h := h) (n := xs.length) (ls := ls) (k := k) (by rw [HNS.out]; exact hlt) hE.out hh)
          generalize ls.getD k (0, 0, 0) = lv at *
          obtain ⟨ey, im, rd⟩ := lv
          dsimp only at d0 d1 d2 d3
          have HSB : Hid (lookQ h xs.length (ey, im, rd) = (isImg h.eyes ey && isImg h.images im && hasTrn h.n rd)) := by show _ = _; rw [← HNX.out]; rfl
          go_upto_region 7 with fail
          have hZ := newB wr (.cells #[.int .i64 ey, .int .i64 im, .int .i64 rd] 36)
          have t0 : (wr.alloc (.cells #[.int .i64 ey, .int .i64 im, .int .i64 rd] 36)).cell? ⟨wr.heap.size, 0, none⟩ = some (.int .i64 ey) := by simp [go_sem]
          have t1 : (wr.alloc (.cells #[.int .i64 ey, .int .i64 im, .int .i64 rd] 36)).cell? ⟨wr.heap.size, 1, none⟩ = some (.int .i64 im) := by simp [go_sem]
          have t2 : (wr.alloc (.cells #[.int .i64 ey, .int .i64 im, .int .i64 rd] 36)).cell? ⟨wr.heap.size, 2, none⟩ = some (.int .i64 rd) := by simp [go_sem]
          have hBZ := BT hBr0 hZ
          have hBB := BT hBr hZ
          obtain ⟨⟨c0, c1, c2, c3, c4, c5, c6, c7⟩, _⟩ := HB.out.grown hBZ
          clear d0 d1 d2 d3 hZ
          generalize wr.alloc (.cells #[.int .i64 ey, .int .i64 im, .int .i64 rd] 36) = X at *
          generalize wr.heap.size = gT at *
          go_wp2_with fail
          refine (in3_any _ _ _ _).mono ?_
          rw [isImg_in]
          rintro e x1 ⟨rfl, hx1⟩
          have hBZ := BT hBZ hx1
          have hBB := BT hBB hx1
          have t1 := cellB t1 hx1
          have t2 := cellB t2 hx1
          clear c0 c1 c2 c3 c4 c5 c6 c7 t0 hx1
          obtain ⟨⟨c0, c1, c2, c3, c4, c5, c6, c7⟩, _⟩ := HB.out.grown hBZ
          cases q1 : isImg h.eyes ey
          · have hRn : Hid (V = false) := by show _ = _; rw [HD.out, hE1.out (by rw [HSB.out, q1]; rfl)]
            go_wp2
            go_ret
            exact ⟨by rw [hRn.out]; rfl, hBB⟩
          go_wp2_with fail
          refine (in3_any _ _ _ _).mono ?_
          rw [isImg_in]
          rintro e x2 ⟨rfl, hx2⟩
          have hBZ := BT hBZ hx2
          have hBB := BT hBB hx2
          have t2 := cellB t2 hx2
          clear c0 c1 c2 c3 c4 c5 c6 c7 t1 hx2
          obtain ⟨⟨c0, c1, c2, c3, c4, c5, c6, c7⟩, _⟩ := HB.out.grown hBZ
          cases q2 : isImg h.images im
          · have hRn : Hid (V = false) := by show _ = _; rw [HD.out, hE1.out (by rw [HSB.out, q1, q2]; rfl)]
            go_wp2
            go_ret
            exact ⟨by rw [hRn.out]; rfl, hBB⟩
          go_wp2_with fail
          refine (readingR_any h.a h.n h.cap h.eLo h.eHi rd _ hn2).mono ?_
          rintro e x3 ⟨rfl, hx3⟩
          have hBZ := BT hBZ hx3
          have hBB := BT hBB hx3
          clear c0 c1 c2 c3 c4 c5 c6 c7 t2 hx3
          cases q3 : hasTrn h.n rd
          · have hRn : Hid (V = false) := by show _ = _; rw [HD.out, hE1.out (by rw [HSB.out, q1, q2, q3]; rfl)]
            go_wp2
            go_ret
            exact ⟨by rw [hRn.out]; rfl, hBB⟩
          have hE3 := Lib.hid (hE2.out (by rw [HSB.out, q1, q2, q3]; rfl))
          clear hE1 hE2 hBr hBr0
          go_wp2_with fail
          go_roundw
          case rel => exact ⟨k + 1, by omega, by go_num, hBZ, hE3.out⟩
          case measure => simp [intOf]; omega
      · obtain rfl : k = h.ln := by omega
        have hRn : Hid (V = true) := by
          show _ = _
          have := hE.out
          rw [List.take_of_length_le (by rw [HNS.out]; omega)] at this
          rw [HD.out, this]
        clear hst
        go_wp2
        go_ret
        exact ⟨by rw [hRn.out]; rfl, hBr⟩
  · have hd : decide ((h.ln : Int) > 12) = true := by simp; omega
    go_wp2
    go_ret
    exact ⟨by rw [HD0.out, HNS.out]; simp [h4], hB⟩
end Ey
end Go.Proofs.YtcfjakifeihbpaaGreat
