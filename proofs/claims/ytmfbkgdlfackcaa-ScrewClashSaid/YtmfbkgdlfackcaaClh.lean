/- ScrewClash: what clashes, and what must be wrong. -/
import Derived.Test.YtmfbkgdlfackcaaCfa
import Derived.Test.YtmfbkgdlfackcaaPar
import Derived.Test.YtmfbkgdlfackcaaWit
namespace Go.Proofs.Ytmfbkgdlfackcaa
open Fw Go.RowKit

set_option maxRecDepth 100000 in
set_option maxHeartbeats 2000000 in
theorem can39_any (B : Nat) (h : Hd) (xs : List (Int × Int)) (ss : List Sett) (set : Int) (w : World) (hm : BoxM w B h xs ss) (hv : validH h xs ss = true) (hs : 0 ≤ set ∧ set < 4096) :
    Calls Try.prog 39 #[.int .i64 set, .pointer (some ⟨B, 0, none⟩)] w (Ret (.bool (canB h xs ss set)) w) := by
  have HPS := Lib.hid (fun sa n cap => part_sum (ss := ss) hv set sa n cap)
  have hpt := part_any h xs ss set w hm.has (valid_has hv).2.2.2.2.2.1 hs
  unfold Hd.val at hpt
  obtain ⟨c0, c1, c2, c3, c4, c5, c6, hh⟩ := hm
  generalize canB h xs ss set = b at *
  generalize partS ss set = ps at *
  clear hh
  go_enter Try.func39, Try.ntmps39
  go_wp2_with fail
  refine hpt.mono ?_
  rintro e w1 ⟨sa, cap, rfl, hm1, hb1⟩
  clear hpt c0 c1 c2 c3 c4 c5 c6
  obtain ⟨lo, hi, hr⟩ := HPS.out sa ps.length cap
  have hsu := sum_any (partH h sa ps.length cap) xs ps w1 hm1
  rw [hr] at hsu
  unfold Hd.val partH tup3 at hsu
  unfold partH
  dsimp only at hsu ⊢
  have HSU := Lib.hid hsu
  clear hr hsu HPS hm1
  go_wp2_with fail
  refine HSU.out.mono ?_
  rintro e w2 ⟨rfl, hb2⟩
  obtain ⟨d0, f0, d1, f1⟩ := two_new w2 lo hi
  have hB2 := BT (BT hb1 hb2) (newB w2 (.cells #[.int .i64 lo, .int .i64 hi] 24))
  clear HSU hb1 hb2
  cases b
  all_goals
    go_wp2
    go_ret
    exact ⟨rfl, by (repeat (first | assumption | exact Below.refl _ _ | refine BA ?_ _ | refine BC ?_ _ _ (by omega) _ | refine Below.drew ?_ | refine BT ?_ (by assumption)))⟩

set_option maxRecDepth 100000 in
set_option maxHeartbeats 8000000 in
theorem clashL_any (h : Hd) (xs : List (Int × Int)) (ss : List Sett) (y : Int) (w : World) (hm : HasM w h xs ss) (hy : 0 ≤ y ∧ y ≤ 65535) :
    Calls Try.prog 9 #[h.val, .int .u16 y] w (Ret (.bool true) w) := by
  have hmf : ∀ (fn : Fn) (first cap : Array Value) (w : World), (Instr.makeFunc fn first cap).run Try.prog w = .ok (.func fn first cap) w := fun _ _ _ _ => rfl
  have hb0 := boxM_new hm
  have hB0 : Below w.heap.size w (w.alloc (.cells #[.slice h.a h.n h.cap, .int .i64 h.eLo, .int .i64 h.eHi, .int .i64 h.images, .int .i64 h.sLo, .int .i64 h.sHi, .slice h.sa h.ns h.scap] 29)) := newB _ _
  have hlx := hm.lx
  have hls := hm.ls
  rw [hm.nx] at hlx
  rw [hm.ns] at hls
  clear hm
  obtain ⟨hy0, hy1⟩ := hy
  unfold Hd.val
  go_enter Try.func9, Try.ntmps9
  obtain ⟨c0, c1, c2, c3, c4, c5, c6, hh⟩ := id hb0
  go_wp2_with fail
  generalize w.heap.size = B at hb0 c0 c1 c2 c3 c4 c5 c6 ⊢
  generalize w.alloc (.cells #[.slice h.a h.n h.cap, .int .i64 h.eLo, .int .i64 h.eHi, .int .i64 h.images, .int .i64 h.sLo, .int .i64 h.sHi, .slice h.sa h.ns h.scap] 29) = W at *
  refine (great_any h W).mono ?_
  rintro e w1 ⟨rfl, hb1⟩
  have hB1 := BT hB0 hb1
  have HB1 := Lib.hid (hb0.grown hb1)
  clear hb0 hb1 hB0 hh c0 c1 c2 c3 c4 c5 c6
  cases hg : greatB h.n h.ns
  case true =>
    clear HB1
    go_wp2_with fail
    refine (alive_any _).mono ?_
    rintro e w2 ⟨rfl, hb2⟩
    go_wp2
    go_ret
    exact ⟨rfl, by (repeat (first | assumption | exact Below.refl _ _ | refine BA ?_ _ | refine BC ?_ _ _ (by omega) _ | refine Below.drew ?_ | refine BT ?_ (by assumption)))⟩
  have hg1 : h.ns ≤ 30 ∧ h.n ≤ 100 := by simp [greatB] at hg; omega
  clear hg
  have hnx : xs.length ≤ 100 := by rw [HB1.out.has.nx]; omega
  have hnS := HB1.out.has.ns
  have hns : ss.length ≤ 100 := by rw [hnS]; omega
  have HME : Hid (∀ Y, HasM Y h xs ss → Calls Try.prog 37 #[.agg #[.slice h.a h.n h.cap, .int .i64 h.eLo, .int .i64 h.eHi, .int .i64 h.images, .int .i64 h.sLo, .int .i64 h.sHi, .slice h.sa h.ns h.scap]] Y (Ret (.bool (validH h xs ss)) Y)) := fun Y hY => measureR_any h xs ss Y hY hnx hns
  cases hv : validH h xs ss
  case false =>
    have HC24 : Hid (∀ Y, HasM Y h xs ss → Calls Try.prog 24 #[.agg #[.slice h.a h.n h.cap, .int .i64 h.eLo, .int .i64 h.eHi, .int .i64 h.images, .int .i64 h.sLo, .int .i64 h.sHi, .slice h.sa h.ns h.scap]] Y (Ret (.tuple #[.int .i64 0, .int .i64 1]) Y)) := fun Y hY => by
      have := clash_any h xs ss Y hY
      unfold clashA at this; rw [hv, if_neg (by simp)] at this; exact this
    have HC26 : Hid (∀ Y, HasM Y h xs ss → Calls Try.prog 26 #[.agg #[.slice h.a h.n h.cap, .int .i64 h.eLo, .int .i64 h.eHi, .int .i64 h.images, .int .i64 h.sLo, .int .i64 h.sHi, .slice h.sa h.ns h.scap]] Y (Ret (.tuple #[.int .i64 0, .int .i64 1]) Y)) := fun Y hY => by
      have := drop_any h xs ss Y hY
      unfold dropA at this; rw [hv, if_neg (by simp)] at this; exact this
    have HC18 : Hid (∀ Y, HasM Y h xs ss → Calls Try.prog 18 #[.agg #[.slice h.a h.n h.cap, .int .i64 h.eLo, .int .i64 h.eHi, .int .i64 h.images, .int .i64 h.sLo, .int .i64 h.sHi, .slice h.sa h.ns h.scap]] Y (Ret (.tuple #[.agg #[.int .i64 0, .int .i64 0], .int .i64 1]) Y)) := fun Y hY => by
      have := sum_any h xs ss Y hY
      unfold sumA at this; rw [hv, if_neg (by simp)] at this; exact this
    have HM2 : Hid (∀ Y, HasM Y h xs ss → Calls Try.prog 37 #[.agg #[.slice h.a h.n h.cap, .int .i64 h.eLo, .int .i64 h.eHi, .int .i64 h.images, .int .i64 h.sLo, .int .i64 h.sHi, .slice h.sa h.ns h.scap]] Y (Ret (.bool false) Y)) := fun Y hY => by
      have := HME.out Y hY
      rw [hv] at this; exact this
    clear hv HME hnS hns hnx
    obtain ⟨c0, c1, c2, c3, c4, c5, c6, hh⟩ := HB1.out
    go_wp2_with fail
    refine (HC24.out _ hh).mono ?_
    rintro e w2 ⟨rfl, hb2⟩
    have HB2 := Lib.hid (HB1.out.grown hb2)
    have hB2 := BT hB1 hb2
    clear HC24 hb2 HB1 hB1 hh c0 c1 c2 c3 c4 c5 c6
    obtain ⟨c0, c1, c2, c3, c4, c5, c6, hh⟩ := HB2.out
    go_wp2_with fail
    refine (HC26.out _ hh).mono ?_
    rintro e w3 ⟨rfl, hb3⟩
    have HB3 := Lib.hid (HB2.out.grown hb3)
    have hB3 := BT hB2 hb3
    clear HC26 hb3 HB2 hB2 hh c0 c1 c2 c3 c4 c5 c6
    obtain ⟨c0, c1, c2, c3, c4, c5, c6, hh⟩ := HB3.out
    go_wp2_with fail
    refine (HC18.out _ hh).mono ?_
    rintro e w4 ⟨rfl, hb4⟩
    have hA4 := BT hb4 (newB w4 (.cells #[.int .i64 0, .int .i64 0] 24))
    have HB4 := Lib.hid (HB3.out.grown hA4)
    have hB4 := BT hB3 hA4
    clear HC18 hb4 hA4 HB3 hB3 hh c0 c1 c2 c3 c4 c5 c6
    obtain ⟨c0, c1, c2, c3, c4, c5, c6, hh⟩ := HB4.out
    go_wp2_with fail
    refine (HM2.out _ hh).mono ?_
    rintro e w5 ⟨rfl, hb5⟩
    clear c0 c1 c2 c3 c4 c5 c6 hh
    go_wp2_with fail
    refine (alive_any _).mono ?_
    rintro e w6 ⟨rfl, hb6⟩
    have hB6 := BT hB4 (BT hb5 hb6)
    go_wp2
    go_ret
    exact ⟨rfl, hB6⟩
  have HV := Lib.hid hv
  obtain ⟨rc, es, s1, s2, q, al, o, ca, b1, b2, hF⟩ := clash_facts hv hnS (y := y) ⟨hy0, hy1⟩
  have h12 : h.ns ≤ 12 := by have := (valid_has hv).2.2.2.2.2.1; omega
  have HC24 : Hid (∀ Y, HasM Y h xs ss → Calls Try.prog 24 #[.agg #[.slice h.a h.n h.cap, .int .i64 h.eLo, .int .i64 h.eHi, .int .i64 h.images, .int .i64 h.sLo, .int .i64 h.sHi, .slice h.sa h.ns h.scap]] Y (Ret (.tuple #[.int .i64 rc, .int .i64 0]) Y)) := fun Y hY => by
    have := clash_any h xs ss Y hY
    rw [hF.cl] at this; exact this
  have HC26 : Hid (∀ Y, HasM Y h xs ss → Calls Try.prog 26 #[.agg #[.slice h.a h.n h.cap, .int .i64 h.eLo, .int .i64 h.eHi, .int .i64 h.images, .int .i64 h.sLo, .int .i64 h.sHi, .slice h.sa h.ns h.scap]] Y (Ret (.tuple #[.int .i64 q, .int .i64 0]) Y)) := fun Y hY => by
    have := drop_any h xs ss Y hY
    rw [hF.dr] at this; exact this
  have HC18 : Hid (∀ Y, HasM Y h xs ss → Calls Try.prog 18 #[.agg #[.slice h.a h.n h.cap, .int .i64 h.eLo, .int .i64 h.eHi, .int .i64 h.images, .int .i64 h.sLo, .int .i64 h.sHi, .slice h.sa h.ns h.scap]] Y (Ret (.tuple #[.agg #[.int .i64 s1, .int .i64 s2], .int .i64 es]) Y)) := fun Y hY => by
    have := sum_any h xs ss Y hY
    rw [hF.su] at this; exact this
  have HM2 : Hid (∀ Y, HasM Y h xs ss → Calls Try.prog 37 #[.agg #[.slice h.a h.n h.cap, .int .i64 h.eLo, .int .i64 h.eHi, .int .i64 h.images, .int .i64 h.sLo, .int .i64 h.sHi, .slice h.sa h.ns h.scap]] Y (Ret (.bool true) Y)) := fun Y hY => by
    have := HME.out Y hY
    rw [hv] at this; exact this
  have hal1 := hF.al1
  have hq0 : 0 ≤ q := hF.q0
  have hq1 : q ≤ al := hF.q1
  have ho1n := hF.o1
  have HCAN : Hid (∀ Y z, BoxM Y B h xs ss → 0 ≤ z ∧ z < 4096 → Calls Try.prog 39 #[.int .i64 z, .pointer (some ⟨B, 0, none⟩)] Y (Ret (.bool (canB h xs ss z)) Y)) := fun Y z hY hz => can39_any B h xs ss z Y hY HV.out hz
  have HC1 : Hid (∀ Y, BoxM Y B h xs ss → Calls Try.prog 39 #[.int .i64 ((al : Int) - q), .pointer (some ⟨B, 0, none⟩)] Y (Ret (.bool true) Y)) := fun Y hY => by
    have := HCAN.out Y ((al : Int) - q) hY (by omega)
    rw [hF.cd] at this; exact this
  have HC2 : Hid (∀ Y, BoxM Y B h xs ss → Calls Try.prog 39 #[.int .i64 ((al : Int) - o), .pointer (some ⟨B, 0, none⟩)] Y (Ret (.bool b1) Y)) := fun Y hY => by
    have := HCAN.out Y ((al : Int) - o) hY (by omega)
    rw [hF.co] at this; exact this
  have HC3 : Hid (∀ Y, BoxM Y B h xs ss → Calls Try.prog 39 #[.int .i64 o, .pointer (some ⟨B, 0, none⟩)] Y (Ret (.bool b2) Y)) := fun Y hY => by
    have := HCAN.out Y (o : Int) hY (by omega)
    rw [hF.cw] at this; exact this
  have HSO : Hid (∀ Y, Calls Try.prog 41 #[.int .i64 o] Y (Ret (.int .i64 (popc o)) Y)) := fun Y => size_any _ (by omega) Y
  have HSD : Hid (∀ Y, Calls Try.prog 41 #[.int .i64 q] Y (Ret (.int .i64 (popc q)) Y)) := fun Y => size_any _ (by omega) Y
  have HFA := Lib.hid hF.fa
  have HFB := Lib.hid hF.fb
  have HES := Lib.hid hF.err
  have HDZ := Lib.hid hF.zero
  have HBE := Lib.hid hF.best
  have HSH := Lib.hid hF.sh
  have HOW := Lib.hid hF.own
  have HBD := Lib.hid hF.bd
  have HBO := Lib.hid hF.bo
  have ho0 : 0 ≤ (o : Int) := by omega
  have hal2 : (al : Int) ≤ 4095 := by omega
  generalize popc (o : Int) = po at *
  generalize popc q = pq at *
  clear hF hv HME hnS hns hnx
  obtain ⟨c0, c1, c2, c3, c4, c5, c6, hh⟩ := HB1.out
  go_wp2_with fail
  refine (HC24.out _ hh).mono ?_
  rintro e w2 ⟨rfl, hb2⟩
  have HB2 := Lib.hid (HB1.out.grown hb2)
  have hB2 := BT hB1 hb2
  clear HC24 hb2 HB1 hB1 hh c0 c1 c2 c3 c4 c5 c6
  obtain ⟨c0, c1, c2, c3, c4, c5, c6, hh⟩ := HB2.out
  go_wp2_with fail
  refine (HC26.out _ hh).mono ?_
  rintro e w3 ⟨rfl, hb3⟩
  have HB3 := Lib.hid (HB2.out.grown hb3)
  have hB3 := BT hB2 hb3
  clear HC26 hb3 HB2 hB2 hh c0 c1 c2 c3 c4 c5 c6
  obtain ⟨c0, c1, c2, c3, c4, c5, c6, hh⟩ := HB3.out
  go_wp2_with fail
  refine (HC18.out _ hh).mono ?_
  rintro e w4 ⟨rfl, hb4⟩
  have hA4 := BT hb4 (newB w4 (.cells #[.int .i64 s1, .int .i64 s2] 24))
  have HB4 := Lib.hid (HB3.out.grown hA4)
  have hB4 := BT hB3 hA4
  clear HC18 hb4 hA4 HB3 hB3 hh c0 c1 c2 c3 c4 c5 c6
  obtain ⟨c0, c1, c2, c3, c4, c5, c6, hh⟩ := HB4.out
  go_wp2_with fail
  rw [HSH.out]
  clear HSH
  refine (HM2.out _ hh).mono ?_
  rintro e w5 ⟨rfl, hb5⟩
  have HB5 := Lib.hid (HB4.out.grown hb5)
  have hB5 := BT hB4 hb5
  clear c0 c1 c2 c3 c4 c5 c6 hb5 HB4 hB4 hh HM2
  have hown := HOW.out
  have hbd := HBD.out
  have hbo := HBO.out
  clear HOW HBD HBO
  cases ca
  case true =>
    obtain ⟨rfl, rfl⟩ := HFA.out rfl
    have hq00 : q = 0 := HDZ.out.2 rfl
    subst hq00
    have hbd2 : bits .andNot .i64 (al : Int) 0 = (al : Int) := by rw [hbd]; omega
    have e0 : (al : Int) - 0 = al := by omega
    rw [e0] at HC1
    clear hbd e0
    have hes := HES.out
    rw [if_pos rfl] at hes
    subst hes
    clear HFA HFB HDZ HES
    have HX0 := HB5
    have hX0 := hB5
    clear HB5 hB5
    go_wp2_with fail
    refine (HSO.out _).mono ?_
    rintro e x1 ⟨rfl, hx1⟩
    have HX1 := Lib.hid (HX0.out.grown hx1)
    have hX1 := BT hX0 hx1
    clear hx1 HX0 hX0
    go_wp2_with fail
    refine (HSD.out _).mono ?_
    rintro e x2 ⟨rfl, hx2⟩
    have HX2 := Lib.hid (HX1.out.grown hx2)
    have hX2 := BT hX1 hx2
    clear hx2 HX1 hX1
    go_wp2_with fail
    refine (HC1.out _ HX2.out).mono ?_
    rintro e x3 ⟨rfl, hx3⟩
    have HX3 := Lib.hid (HX2.out.grown hx3)
    have hX3 := BT hX2 hx3
    clear hx3 HX2 hX2
    go_wp2_with fail
    refine (HC2.out _ HX3.out).mono ?_
    rintro e x4 ⟨rfl, hx4⟩
    have HX4 := Lib.hid (HX3.out.grown hx4)
    have hX4 := BT hX3 hx4
    clear hx4 HX3 hX3
    cases b1
    · clear HBE
      go_wp2_with fail
      refine (HSO.out _).mono ?_
      rintro e x5 ⟨rfl, hx5⟩
      have HX5 := Lib.hid (HX4.out.grown hx5)
      have hX5 := BT hX4 hx5
      clear hx5 HX4 hX4
      go_wp2_with fail
      refine (HSD.out _).mono ?_
      rintro e x6 ⟨rfl, hx6⟩
      have HX6 := Lib.hid (HX5.out.grown hx6)
      have hX6 := BT hX5 hx6
      clear hx6 HX5 hX5
      go_wp2_with fail
      refine (HC3.out _ HX6.out).mono ?_
      rintro e x7 ⟨rfl, hx7⟩
      have hX7 := BT hX6 hx7
      clear hx7 HX6 hX6
      go_wp2_with fail
      refine (alive_any _).mono ?_
      rintro e x8 ⟨rfl, hx8⟩
      have hX8 := BT hX7 hx8
      go_wp2
      go_ret
      exact ⟨rfl, hX8⟩

    · rcases HBE.out rfl with hlt9 | ⟨heq9, hle9⟩
      · clear HBE
        have hnl : ¬ po < pq := by omega
        have hne9 : ¬ po = pq := by omega
        go_wp2_with fail
        refine (HSO.out _).mono ?_
        rintro e x5 ⟨rfl, hx5⟩
        have HX5 := Lib.hid (HX4.out.grown hx5)
        have hX5 := BT hX4 hx5
        clear hx5 HX4 hX4
        go_wp2_with fail
        refine (HSD.out _).mono ?_
        rintro e x6 ⟨rfl, hx6⟩
        have HX6 := Lib.hid (HX5.out.grown hx6)
        have hX6 := BT hX5 hx6
        clear hx6 HX5 hX5
        go_wp2_with fail
        refine (HC3.out _ HX6.out).mono ?_
        rintro e x7 ⟨rfl, hx7⟩
        have hX7 := BT hX6 hx7
        clear hx7 HX6 hX6
        go_wp2_with fail
        refine (alive_any _).mono ?_
        rintro e x8 ⟨rfl, hx8⟩
        have hX8 := BT hX7 hx8
        go_wp2
        go_ret
        exact ⟨rfl, hX8⟩

      · clear HBE
        subst heq9
        have hno : ¬ (o : Int) < 0 := by omega
        go_wp2_with fail
        refine (HSO.out _).mono ?_
        rintro e x5 ⟨rfl, hx5⟩
        have HX5 := Lib.hid (HX4.out.grown hx5)
        have hX5 := BT hX4 hx5
        clear hx5 HX4 hX4
        go_wp2_with fail
        refine (HSD.out _).mono ?_
        rintro e x6 ⟨rfl, hx6⟩
        have HX6 := Lib.hid (HX5.out.grown hx6)
        have hX6 := BT hX5 hx6
        clear hx6 HX5 hX5
        go_wp2_with fail
        refine (HC3.out _ HX6.out).mono ?_
        rintro e x7 ⟨rfl, hx7⟩
        have hX7 := BT hX6 hx7
        clear hx7 HX6 hX6
        go_wp2_with fail
        refine (alive_any _).mono ?_
        rintro e x8 ⟨rfl, hx8⟩
        have hX8 := BT hX7 hx8
        go_wp2
        go_ret
        exact ⟨rfl, hX8⟩

  case false =>
    obtain ⟨c, rfl, k1, k2, k3, ⟨k4, k5⟩, k6, k7, k8⟩ := HFB.out rfl
    have hq00 : ¬ q = 0 := fun e => by have := HDZ.out.1 e; cases this
    have hes := HES.out
    rw [if_neg (by simp)] at hes
    subst hes
    have hcz : ((c : Int) == 0) = false := by simp; omega
    have hqz : (q == 0) = false := by simp; exact hq00
    have hck : (bits .and .i64 (c : Int) q == 0) = false := by simpa using k6
    have hc0 : 0 ≤ (c : Int) := by omega
    have hc1 : (c : Int) ≤ al := by omega
    have HSC : Hid (∀ Y, Calls Try.prog 41 #[.int .i64 c] Y (Ret (.int .i64 (popc c)) Y)) := fun Y => size_any _ (by omega) Y
    have HCC : Hid (∀ Y, BoxM Y B h xs ss → Calls Try.prog 39 #[.int .i64 c, .pointer (some ⟨B, 0, none⟩)] Y (Ret (.bool false) Y)) := fun Y hY => by
      have := HCAN.out Y (c : Int) hY (by omega)
      rw [k3] at this; exact this
    have HCI : Hid (∀ i, i < h.ns → hasB (c : Int) i = true → ∀ Y, BoxM Y B h xs ss → Calls Try.prog 39 #[.int .i64 (bits .andNot .i64 (c : Int) (wrap64 (2 ^ i))), .pointer (some ⟨B, 0, none⟩)] Y (Ret (.bool true) Y)) := fun i hi hb Y hY => by
      obtain ⟨z, z1, z2, z3⟩ := k7 i hi hb
      have := HCAN.out Y (z : Int) hY (by omega)
      rw [z3, ← z1] at this; exact this
    have HBT : Hid (∀ i, (bits .and .i64 ((c : Int) / 2 ^ i) 1 == 1) = hasB (c : Int) i) := fun i => bit_at (by omega) i
    have k9 : b2 = false → popc (c : Int) < po ∨ (popc (c : Int) = po ∧ (c : Int) ≤ o) := fun hb => by
      rcases k8 hb with h8 | ⟨h8, h9⟩
      · exact .inl h8
      · exact .inr ⟨h8, by omega⟩
    have hcn : ¬ (c : Int) = 0 := by omega
    generalize popc (c : Int) = pc at *
    have HK8 := Lib.hid k9
    clear HFA HFB HDZ HES HCAN k9 k8 k7 k6 k3 k1 k2
    generalize (c : Int) = ci at *
    clear c
    go_wp2_with fail
    refine (HSC.out _).mono ?_
    rintro e w6 ⟨rfl, hb6⟩
    have HB6 := Lib.hid (HB5.out.grown hb6)
    have hB6 := BT hB5 hb6
    clear hb6 HB5 hB5
    go_wp2_with fail
    refine (HCC.out _ HB6.out).mono ?_
    rintro e w7 ⟨rfl, hb7⟩
    have HB7 := Lib.hid (HB6.out.grown hb7)
    have hB7 := BT hB6 hb7
    clear hb7 HB6 hB6 HCC
    obtain ⟨c0, c1, c2, c3, c4, c5, c6, hh⟩ := HB7.out
    go_wp2_with fail
    clear c0 c1 c2 c3 c4 c5 c6 hh
    go_loopw [140] (fun i wr => ∃ k : Nat, k ≤ h.ns ∧ i = .int .i64 k ∧ Below w7.heap.size w7 wr) (fun i _ => h.ns - (intOf i).toNat)
    case atStart => exact ⟨0, by omega, rfl, Below.refl _ _⟩
    case round =>
      obtain ⟨k, hk, rfl, hB⟩ := hrel
      have hk0 : (0 : Int) ≤ (k : Int) := by omega
      have hk1 : (k : Int) ≤ 12 := by omega
      by_cases hlt : k < h.ns
      · have hbt := HBT.out k
        cases hbk : hasB ci k
        · rw [hbk] at hbt
          go_wp2
          go_roundw
          case rel => exact ⟨k + 1, by omega, by go_num, hB⟩
          case measure => simp [intOf]; omega
        · rw [hbk] at hbt
          have hci := Lib.hid (HCI.out k hlt hbk _ (HB7.out.grown hB))
          go_wp2_with fail
          refine hci.out.mono ?_
          rintro e w8 ⟨rfl, hb8⟩
          have hB8 := BT hB hb8
          clear hbt
          go_wp2
          go_roundw
          case rel => exact ⟨k + 1, by omega, by go_num, hB8⟩
          case measure => simp [intOf]; omega
      · obtain rfl : k = h.ns := by omega
        have HBr := Lib.hid (HB7.out.grown hB)
        have hBr := BT hB7 hB
        clear HB7 hB7 hB HCI HBT hlt hk
        have HX0 := HBr
        have hX0 := hBr
        clear HBr hBr
        go_wp2_with fail
        refine (HSO.out _).mono ?_
        rintro e x1 ⟨rfl, hx1⟩
        have HX1 := Lib.hid (HX0.out.grown hx1)
        have hX1 := BT hX0 hx1
        clear hx1 HX0 hX0
        go_wp2_with fail
        refine (HSD.out _).mono ?_
        rintro e x2 ⟨rfl, hx2⟩
        have HX2 := Lib.hid (HX1.out.grown hx2)
        have hX2 := BT hX1 hx2
        clear hx2 HX1 hX1
        go_wp2_with fail
        refine (HC1.out _ HX2.out).mono ?_
        rintro e x3 ⟨rfl, hx3⟩
        have HX3 := Lib.hid (HX2.out.grown hx3)
        have hX3 := BT hX2 hx3
        clear hx3 HX2 hX2
        go_wp2_with fail
        refine (HC2.out _ HX3.out).mono ?_
        rintro e x4 ⟨rfl, hx4⟩
        have HX4 := Lib.hid (HX3.out.grown hx4)
        have hX4 := BT hX3 hx4
        clear hx4 HX3 hX3
        cases b1
        · clear HBE
          go_wp2_with fail
          refine (HSO.out _).mono ?_
          rintro e x5 ⟨rfl, hx5⟩
          have HX5 := Lib.hid (HX4.out.grown hx5)
          have hX5 := BT hX4 hx5
          clear hx5 HX4 hX4
          go_wp2_with fail
          refine (HSC.out _).mono ?_
          rintro e x6 ⟨rfl, hx6⟩
          have HX6 := Lib.hid (HX5.out.grown hx6)
          have hX6 := BT hX5 hx6
          clear hx6 HX5 hX5
          go_wp2_with fail
          refine (HC3.out _ HX6.out).mono ?_
          rintro e x7 ⟨rfl, hx7⟩
          have hX7 := BT hX6 hx7
          clear hx7 HX6 hX6
          cases b2
          · rcases HK8.out rfl with hlt8 | ⟨heq8, hle8⟩
            · clear HK8
              go_wp2_with fail
              refine (alive_any _).mono ?_
              rintro e x8 ⟨rfl, hx8⟩
              have hX8 := BT hX7 hx8
              go_wp2
              go_ret
              exact ⟨rfl, hX8⟩

            · have hle9 := hle8
              subst heq8
              clear HK8
              go_wp2_with fail
              refine (alive_any _).mono ?_
              rintro e x8 ⟨rfl, hx8⟩
              have hX8 := BT hX7 hx8
              go_wp2
              go_ret
              exact ⟨rfl, hX8⟩

          · clear HK8
            go_wp2_with fail
            refine (alive_any _).mono ?_
            rintro e x8 ⟨rfl, hx8⟩
            have hX8 := BT hX7 hx8
            go_wp2
            go_ret
            exact ⟨rfl, hX8⟩

        · rcases HBE.out rfl with hlt9 | ⟨heq9, hle9⟩
          · clear HBE
            have hnl : ¬ po < pq := by omega
            have hne9 : ¬ po = pq := by omega
            go_wp2_with fail
            refine (HSO.out _).mono ?_
            rintro e x5 ⟨rfl, hx5⟩
            have HX5 := Lib.hid (HX4.out.grown hx5)
            have hX5 := BT hX4 hx5
            clear hx5 HX4 hX4
            go_wp2_with fail
            refine (HSC.out _).mono ?_
            rintro e x6 ⟨rfl, hx6⟩
            have HX6 := Lib.hid (HX5.out.grown hx6)
            have hX6 := BT hX5 hx6
            clear hx6 HX5 hX5
            go_wp2_with fail
            refine (HC3.out _ HX6.out).mono ?_
            rintro e x7 ⟨rfl, hx7⟩
            have hX7 := BT hX6 hx7
            clear hx7 HX6 hX6
            cases b2
            · rcases HK8.out rfl with hlt8 | ⟨heq8, hle8⟩
              · clear HK8
                go_wp2_with fail
                refine (alive_any _).mono ?_
                rintro e x8 ⟨rfl, hx8⟩
                have hX8 := BT hX7 hx8
                go_wp2
                go_ret
                exact ⟨rfl, hX8⟩

              · have hle9 := hle8
                subst heq8
                clear HK8
                go_wp2_with fail
                refine (alive_any _).mono ?_
                rintro e x8 ⟨rfl, hx8⟩
                have hX8 := BT hX7 hx8
                go_wp2
                go_ret
                exact ⟨rfl, hX8⟩

            · clear HK8
              go_wp2_with fail
              refine (alive_any _).mono ?_
              rintro e x8 ⟨rfl, hx8⟩
              have hX8 := BT hX7 hx8
              go_wp2
              go_ret
              exact ⟨rfl, hX8⟩

          · clear HBE
            subst heq9
            have hno : ¬ (o : Int) < q := by omega
            go_wp2_with fail
            refine (HSO.out _).mono ?_
            rintro e x5 ⟨rfl, hx5⟩
            have HX5 := Lib.hid (HX4.out.grown hx5)
            have hX5 := BT hX4 hx5
            clear hx5 HX4 hX4
            go_wp2_with fail
            refine (HSC.out _).mono ?_
            rintro e x6 ⟨rfl, hx6⟩
            have HX6 := Lib.hid (HX5.out.grown hx6)
            have hX6 := BT hX5 hx6
            clear hx6 HX5 hX5
            go_wp2_with fail
            refine (HC3.out _ HX6.out).mono ?_
            rintro e x7 ⟨rfl, hx7⟩
            have hX7 := BT hX6 hx7
            clear hx7 HX6 hX6
            cases b2
            · rcases HK8.out rfl with hlt8 | ⟨heq8, hle8⟩
              · clear HK8
                go_wp2_with fail
                refine (alive_any _).mono ?_
                rintro e x8 ⟨rfl, hx8⟩
                have hX8 := BT hX7 hx8
                go_wp2
                go_ret
                exact ⟨rfl, hX8⟩

              · have hle9 := hle8
                subst heq8
                clear HK8
                go_wp2_with fail
                refine (alive_any _).mono ?_
                rintro e x8 ⟨rfl, hx8⟩
                have hX8 := BT hX7 hx8
                go_wp2
                go_ret
                exact ⟨rfl, hX8⟩

            · clear HK8
              go_wp2_with fail
              refine (alive_any _).mono ?_
              rintro e x8 ⟨rfl, hx8⟩
              have hX8 := BT hX7 hx8
              go_wp2
              go_ret
              exact ⟨rfl, hX8⟩

end Go.Proofs.Ytmfbkgdlfackcaa
