/- The reference: can the settings of a set all be right; the fewest that clash; the fewest that must be wrong. -/
import Derived.Test.YtmfbkgdlfackcaaMcs
namespace Go.Proofs.Ytmfbkgdlfackcaa
open Fw Go.RowKit

set_option maxRecDepth 100000 in
theorem can_anyR (h : Hd) (xs : List (Int × Int)) (ss : List Sett) (set : Int) (w : World) (hm : HasM w h xs ss) (hv : validH h xs ss = true) (hs : 0 ≤ set ∧ set ≤ 1000000) :
    Calls Try.prog 77 #[h.val, .int .i64 set] w (Ret (.bool (canB h xs ss set)) w) := by
  have HM := Lib.hid hm
  have hC0 : Hid (BoxC (w.alloc (.cells #[.slice h.a h.n h.cap, .int .i64 h.eLo, .int .i64 h.eHi, .int .i64 h.images, .int .i64 h.sLo, .int .i64 h.sHi, .slice h.sa h.ns h.scap] 29)) w.heap.size h) := boxC_new w h
  have hW0 : Hid (Below w.heap.size w (w.alloc (.cells #[.slice h.a h.n h.cap, .int .i64 h.eLo, .int .i64 h.eHi, .int .i64 h.images, .int .i64 h.sLo, .int .i64 h.sHi, .slice h.sa h.ns h.scap] 29))) := newB _ _
  have hSU := sums_anyR h xs ss set _ (hm.below (Nat.le_refl _) hW0.out) hv hs
  have HC : Hid (canB h xs ss set = decide ((sumsS h xs ss set).1 ≤ (sumsS h xs ss set).2)) := rfl
  unfold Hd.val at hSU
  generalize canB h xs ss set = R at *
  generalize sumsS h xs ss set = S at *
  obtain ⟨s1, s2⟩ := S
  unfold Hd.val
  clear hm
  go_enter Try.func77, Try.ntmps77
  obtain ⟨c0, c1, c2, c3, c4, c5, c6⟩ := hC0.out
  go_wp2_with fail
  generalize hBw : w.heap.size = B at hC0 c0 c1 c2 c3 c4 c5 c6 ⊢
  generalize w.alloc (.cells #[.slice h.a h.n h.cap, .int .i64 h.eLo, .int .i64 h.eHi, .int .i64 h.images, .int .i64 h.sLo, .int .i64 h.sHi, .slice h.sa h.ns h.scap] 29) = W at *
  clear hBw c0 c1 c2 c3 c4 c5 c6
  refine hSU.mono ?_
  rintro e w1 ⟨rfl, hb1⟩
  obtain ⟨d0, f0, d1, f1⟩ := two_new w1 s1 s2
  have hB1 := BT (BT hW0.out hb1) (newB w1 (.cells #[.int .i64 s1, .int .i64 s2] 24))
  clear hSU hb1
  go_wp2
  go_ret
  exact ⟨by rw [HC.out]; rfl, by (repeat (first | assumption | exact Below.refl _ _ | refine BA ?_ _ | refine BC ?_ _ _ (by omega) _ | refine Below.drew ?_ | refine BT ?_ (by assumption)))⟩

def clashE (h : Hd) (xs : List (Int × Int)) (ss : List Sett) : Except Int Int := if validH h xs ss then .ok (bestC (canB h xs ss) (2 ^ ss.length - 1)) else .error 1
theorem clash_same (h : Hd) (xs : List (Int × Int)) (ss : List Sett) : clashE h xs ss = clashA h xs ss := by
  unfold clashE clashA
  cases hv : validH h xs ss
  · rw [if_neg (by simp), if_neg (by simp)]
  · rw [if_pos rfl, if_pos rfl, clash_eq hv]
set_option maxRecDepth 100000 in
set_option maxHeartbeats 4000000 in
theorem clash_anyR (h : Hd) (xs : List (Int × Int)) (ss : List Sett) (w : World) (hm : HasM w h xs ss) (hn : xs.length ≤ 100) (hns : ss.length ≤ 100) :
    Calls Try.prog 25 #[h.val] w (Ret (replyI (clashE h xs ss)) w) := by
  have HM := Lib.hid hm
  have HNS := Lib.hid hm.ns
  have hC0 : Hid (BoxC (w.alloc (.cells #[.slice h.a h.n h.cap, .int .i64 h.eLo, .int .i64 h.eHi, .int .i64 h.images, .int .i64 h.sLo, .int .i64 h.sHi, .slice h.sa h.ns h.scap] 29)) w.heap.size h) := boxC_new w h
  have hW0 : Hid (Below w.heap.size w (w.alloc (.cells #[.slice h.a h.n h.cap, .int .i64 h.eLo, .int .i64 h.eHi, .int .i64 h.images, .int .i64 h.sLo, .int .i64 h.sHi, .slice h.sa h.ns h.scap] 29))) := newB _ _
  have hME := measureR_any h xs ss _ (hm.below (Nat.le_refl _) hW0.out) hn hns
  unfold Hd.val at hME
  have HE : Hid (∀ r, clashE h xs ss = r ↔ (if validH h xs ss then .ok (bestC (canB h xs ss) (2 ^ ss.length - 1)) else .error 1) = r) := fun r => Iff.rfl
  have HV : Hid (validH h xs ss = true → h.ns ≤ 12) := fun hv => by rw [← hm.ns]; exact (valid_has hv).2.2.2.2.2.1
  have HCA : Hid (validH h xs ss = true → ∀ Y s, Below w.heap.size w Y → 0 ≤ s → s ≤ 4096 → Calls Try.prog 77 #[.agg #[.slice h.a h.n h.cap, .int .i64 h.eLo, .int .i64 h.eHi, .int .i64 h.images, .int .i64 h.sLo, .int .i64 h.sHi, .slice h.sa h.ns h.scap], .int .i64 s] Y (Ret (.bool (canB h xs ss s)) Y)) := fun hv Y s hY h1 h2 =>
    can_anyR h xs ss s Y (HM.out.below (Nat.le_refl _) hY) hv (by omega)
  generalize clashE h xs ss = R at *
  generalize canB h xs ss = c at *
  unfold Hd.val
  clear hm
  go_enter Try.func25, Try.ntmps25
  obtain ⟨c0, c1, c2, c3, c4, c5, c6⟩ := hC0.out
  go_wp2_with fail
  generalize hBw : w.heap.size = B at hC0 c0 c1 c2 c3 c4 c5 c6 ⊢
  generalize w.alloc (.cells #[.slice h.a h.n h.cap, .int .i64 h.eLo, .int .i64 h.eHi, .int .i64 h.images, .int .i64 h.sLo, .int .i64 h.sHi, .slice h.sa h.ns h.scap] 29) = W at *
  clear hBw
  refine hME.mono ?_
  rintro e w1 ⟨rfl, hb1⟩
  have hC1 := Lib.hid (hC0.out.grown hb1)
  have hW1 := BT hW0.out hb1
  clear hC0 hW0 hb1 hME c0 c1 c2 c3 c4 c5 c6
  cases hv : validH h xs ss
  · have HR : Hid (R = .error 1) := ((HE.out R).1 rfl).symm.trans (by rw [hv]; rfl)
    clear hv
    go_wp2
    exact bodyPost_ret (v := .tuple #[.int .i64 0, .int .i64 1]) (by simp [results, Try.results25, go_sem]) rfl ⟨by rw [HR.out]; rfl, by (repeat (first | assumption | exact Below.refl _ _ | refine BA ?_ _ | refine BC ?_ _ _ (by omega) _ | refine Below.drew ?_ | refine BT ?_ (by assumption)))⟩
  have hn12 := HV.out hv
  have HCA1 := Lib.hid (HCA.out hv)
  obtain ⟨p1, p2, p3⟩ := pow_12 hn12
  obtain ⟨N, hN⟩ : ∃ N : Nat, 2 ^ h.ns - 1 = N := ⟨_, rfl⟩
  have hN1 : N ≤ 4095 := by omega
  have HP : Hid ((2 : Int) ^ h.ns - 1 = (N : Int)) := by show _ = _; omega
  have HR : Hid (R = .ok (bestC c N)) := ((HE.out R).1 rfl).symm.trans (by rw [hv, HNS.out, hN]; rfl)
  have HEV : Hid (∀ Y, Calls Try.prog 69 #[.agg #[.slice h.a h.n h.cap, .int .i64 h.eLo, .int .i64 h.eHi, .int .i64 h.images, .int .i64 h.sLo, .int .i64 h.sHi, .slice h.sa h.ns h.scap]] Y (Ret (.int .i64 N) Y)) := fun Y => by
    have := every_anyR h Y (by omega)
    rw [HP.out] at this; exact this
  clear HE HV HCA hv p1 p2 p3 hN
  have HRG : Hid (∀ k, 0 ≤ bestC c k ∧ bestC c k ≤ k) := fun k => bestC_rng c k
  have HST : Hid (∀ k, bestC c (k + 1) = if ((bestC c k == 0) || decide (popc ((k + 1 : Nat) : Int) < popc (bestC c k))) && !(c ((k + 1 : Nat) : Int)) then ((k + 1 : Nat) : Int) else bestC c k) := fun k => rfl
  have h0 : Hid (bestC c 0 = 0) := rfl
  generalize bestC c = bs at *
  go_wp2_with fail
  go_loopw [4, 5] (fun b s wr => ∃ k : Nat, k ≤ N ∧ s = .int .i64 (k + 1) ∧ b = .int .i64 (bs k) ∧ Below w1.heap.size w1 wr) (fun _ s _ => N + 1 - (intOf s).toNat)
  case atStart => exact ⟨0, by omega, rfl, by rw [h0.out], Below.refl _ _⟩
  case round =>
    obtain ⟨k, hk, rfl, rfl, hB⟩ := hrel
    obtain ⟨c0, c1, c2, c3, c4, c5, c6⟩ := hC1.out.grown hB
    have hk0 : (0 : Int) ≤ (k : Int) := by omega
    have hk1 : (k : Int) ≤ 4095 := by omega
    obtain ⟨r0, r1⟩ := HRG.out k
    have hst := Lib.hid (HST.out k)
    have HBW := Lib.hid (BT hW1 hB)
    go_wp2_with fail
    refine (HEV.out _).mono ?_
    rintro e w2 ⟨rfl, hb2⟩
    have hB2 := BT hB hb2
    have HBW2 := Lib.hid (BT HBW.out hb2)
    clear c0 c1 c2 c3 c4 c5 c6 HBW hb2
    obtain ⟨c0, c1, c2, c3, c4, c5, c6⟩ := hC1.out.grown hB2
    by_cases hlt : k < N
    · have hca : Hid (∀ Y, Below w2.heap.size w2 Y → Calls Try.prog 77 #[.agg #[.slice h.a h.n h.cap, .int .i64 h.eLo, .int .i64 h.eHi, .int .i64 h.images, .int .i64 h.sLo, .int .i64 h.sHi, .slice h.sa h.ns h.scap], .int .i64 (k + 1)] Y (Ret (.bool (c (k + 1))) Y)) := fun Y hY => HCA1.out Y _ (BT HBW2.out hY) (by omega) (by omega)
      have e1 : ((k + 1 : Nat) : Int) = (k : Int) + 1 := by omega
      have hst2 : Hid (bs (k + 1) = if ((bs k == 0) || decide (popc ((k : Int) + 1) < popc (bs k))) && !(c ((k : Int) + 1)) then ((k : Int) + 1) else bs k) := by show _ = _; rw [hst.out, e1]
      clear hst e1
      have hsz1 : Hid (∀ Y, Calls Try.prog 41 #[.int .i64 (k + 1)] Y (Ret (.int .i64 (popc (k + 1))) Y)) := fun Y => size_any _ (by omega) Y
      have hsz2 : Hid (∀ Y, Calls Try.prog 41 #[.int .i64 (bs k)] Y (Ret (.int .i64 (popc (bs k))) Y)) := fun Y => size_any _ (by omega) Y
      generalize bs k = b at *
      generalize c ((k : Int) + 1) = cb at *
      generalize popc ((k : Int) + 1) = pk at *
      generalize popc b = pb at *
      by_cases hb0 : b = 0
      · subst hb0
        go_wp2_with fail
        refine (hca.out _ (Below.refl _ _)).mono ?_
        rintro e w3 ⟨rfl, hb3⟩
        have hB3 := BT hB2 hb3
        clear hB hB2 hb3 HBW2 hca hsz1 hsz2 c0 c1 c2 c3 c4 c5 c6
        cases cb
        · have HN : Hid (bs (k + 1) = (k : Int) + 1) := by show _ = _; rw [hst2.out]; simp
          clear hst2
          go_wp2
          go_roundw
          case rel => exact ⟨k + 1, by omega, by go_num, by rw [HN.out], hB3⟩
          case measure => simp [intOf]; omega
        · have HN : Hid (bs (k + 1) = 0) := by show _ = _; rw [hst2.out]; simp
          clear hst2
          go_wp2
          go_roundw
          case rel => exact ⟨k + 1, by omega, by go_num, by rw [HN.out], hB3⟩
          case measure => simp [intOf]; omega
      · have hbz : (b == 0) = false := by simpa using hb0
        go_wp2_with fail
        refine (hsz1.out _).mono ?_
        rintro e w3 ⟨rfl, hb3⟩
        go_wp2_with fail
        refine (hsz2.out _).mono ?_
        rintro e w4 ⟨rfl, hb4⟩
        have hB4 := BT hB2 (BT hb3 hb4)
        have hb24 := BT hb3 hb4
        clear c0 c1 c2 c3 c4 c5 c6 hb3 hb4
        obtain ⟨c0, c1, c2, c3, c4, c5, c6⟩ := hC1.out.grown hB4
        by_cases hpl : pk < pb
        · have hd : decide (pk < pb) = true := decide_eq_true hpl
          go_wp2_with fail
          refine (hca.out _ hb24).mono ?_
          rintro e w5 ⟨rfl, hb5⟩
          have hB5 := BT hB4 hb5
          clear hB hB2 hB4 hb24 hb5 HBW2 hca hsz1 hsz2 c0 c1 c2 c3 c4 c5 c6
          cases cb
          · have HN : Hid (bs (k + 1) = (k : Int) + 1) := by show _ = _; rw [hst2.out, hd]; simp
            clear hst2 hd
            go_wp2
            go_roundw
            case rel => exact ⟨k + 1, by omega, by go_num, by rw [HN.out], hB5⟩
            case measure => simp [intOf]; omega
          · have HN : Hid (bs (k + 1) = b) := by show _ = _; rw [hst2.out]; simp
            clear hst2 hd
            go_wp2
            go_roundw
            case rel => exact ⟨k + 1, by omega, by go_num, by rw [HN.out], hB5⟩
            case measure => simp [intOf]; omega
        · have hd : decide (pk < pb) = false := decide_eq_false hpl
          have HN : Hid (bs (k + 1) = b) := by show _ = _; rw [hst2.out, hd, hbz]; simp
          clear hst2 hca hsz1 hsz2
          go_wp2
          go_roundw
          case rel => exact ⟨k + 1, by omega, by go_num, by rw [HN.out], hB4⟩
          case measure => simp [intOf]; omega
    · obtain rfl : k = N := by omega
      have hB9 := HBW2.out
      generalize bs k = b at *
      go_wp2
      exact bodyPost_ret (v := .tuple #[.int .i64 b, .int .i64 0]) (by simp [results, Try.results25, go_sem]) rfl ⟨by rw [HR.out]; rfl, hB9⟩
end Go.Proofs.Ytmfbkgdlfackcaa
