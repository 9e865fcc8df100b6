/- ScrewEnds: both ends of the sum are reached, and nothing beyond them. -/
import Derived.Test.YtmfbkgdlfackcaaWit
import Derived.Deep.DeepCutAuto
import Derived.IntWalk
namespace Go.Proofs.Ytmfbkgdlfackcaa
open Fw Go.RowKit

def tup (a b c : Int) : Value := .tuple #[.agg #[.int .i64 a, .int .i64 b], .int .i64 c]
/-- What a sum's ends, and a place, are, in the words of the law. -/
structure EndsF (h : Hd) (xs : List (Int × Int)) (ss : List Sett) (im lo hi n f P Q l1 l2 h1 h2 s1 s2 : Int) : Prop where
  place : reply (placeA h xs ss im) = tup P Q f
  low : reply (placeA (withN h lo) xs ss im) = tup l1 l2 f
  high : reply (placeA (withN h hi) xs ss im) = tup h1 h2 f
  some : reply (placeA (withN h n) xs ss im) = tup s1 s2 f
  ok : f = 0 ∨ f = 2 ∨ f = 12
  is : f = 0 → P ≤ s1 ∧ s2 ≤ Q ∧ min l1 h1 = P ∧ max l2 h2 = Q
  out : ∀ m, h.sLo ≤ m ∧ m ≤ h.sHi → (m < lo ∨ hi < m) → ∃ c, reply (placeA (withN h m) xs ss im) = tup 0 0 c ∧ (c = 10 ∨ c = 2)

theorem ends_facts {h : Hd} {xs : List (Int × Int)} {ss : List Sett} (hv : validH h xs ss = true) (hx : ∃ x, Tru h.sLo h.sHi (tellsOf xs h.eLo h.eHi ss) x) (im : Int) {lo hi : Int} (he : Ext (Tru h.sLo h.sHi (tellsOf xs h.eLo h.eHi ss)) 0 1 lo hi) {n : Int} (hn : lo ≤ n ∧ n ≤ hi) :
    ∃ f P Q l1 l2 h1 h2 s1 s2, EndsF h xs ss im lo hi n f P Q l1 l2 h1 h2 s1 s2 := by
  have hw := sum_within he
  have each : ∀ m, lo ≤ m → m ≤ hi → ∃ x, Tru (withN h m).sLo (withN h m).sHi (tellsOf xs (withN h m).eLo (withN h m).eHi ss) x := fun m h1 h2 => sum_each he h1 h2
  have vld : ∀ m, h.sLo ≤ m ∧ m ≤ h.sHi → validH (withN h m) xs ss = true := fun m hm => withN_valid hv hm
  have none : ∀ m, h.sLo ≤ m ∧ m ≤ h.sHi → (m < lo ∨ hi < m) → ¬∃ x, Tru (withN h m).sLo (withN h m).sHi (tellsOf xs (withN h m).eLo (withN h m).eHi ss) x := fun m hm ho => sum_none he hm ho
  cases hi2 : isImg h.images im
  · refine ⟨2, 0, 0, 0, 0, 0, 0, 0, 0, ?_, ?_, ?_, ?_, .inr (.inl rfl), fun h => absurd h (by decide), fun m hm ho => ⟨2, ?_, .inr rfl⟩⟩
    · rw [place_range hv hi2]; rfl
    · rw [place_range (vld lo (by omega)) hi2]; rfl
    · rw [place_range (vld hi (by omega)) hi2]; rfl
    · rw [place_range (vld n (by omega)) hi2]; rfl
    · rw [place_range (vld m hm) hi2]; rfl
  · cases hc : hasC im (cntsOf ss)
    · refine ⟨12, 0, 0, 0, 0, 0, 0, 0, 0, ?_, ?_, ?_, ?_, .inr (.inr rfl), fun h => absurd h (by decide), fun m hm ho => ⟨10, ?_, .inl rfl⟩⟩
      · rw [place_doubt hv hi2 hx hc]; rfl
      · rw [place_doubt (vld lo (by omega)) hi2 (each lo (by omega) (by omega)) hc]; rfl
      · rw [place_doubt (vld hi (by omega)) hi2 (each hi (by omega) (by omega)) hc]; rfl
      · rw [place_doubt (vld n (by omega)) hi2 (each n (by omega) (by omega)) hc]; rfl
      · rw [place_clash (vld m hm) hi2 (none m hm ho)]; rfl
    · obtain ⟨P, Q, e0, x0⟩ := place_ok hv hi2 hx hc
      obtain ⟨l1, l2, e1, x1⟩ := place_ok (vld lo (by omega)) hi2 (each lo (by omega) (by omega)) hc
      obtain ⟨h1, h2, e2, x2⟩ := place_ok (vld hi (by omega)) hi2 (each hi (by omega) (by omega)) hc
      obtain ⟨s1, s2, e3, x3⟩ := place_ok (vld n (by omega)) hi2 (each n (by omega) (by omega)) hc
      have a1 := place_low he x0 x1
      have a2 := place_high he x0 x2
      have i1 := place_in x0 (n := lo) (by omega) x1
      have i2 := place_in x0 (n := hi) (by omega) x2
      have i3 := place_in x0 (n := n) (by omega) x3
      refine ⟨0, P, Q, l1, l2, h1, h2, s1, s2, ?_, ?_, ?_, ?_, .inl rfl, fun _ => by omega, fun m hm ho => ⟨10, ?_, .inl rfl⟩⟩
      · rw [e0]; rfl
      · rw [e1]; rfl
      · rw [e2]; rfl
      · rw [e3]; rfl
      · rw [place_clash (vld m hm) hi2 (none m hm ho)]; rfl

/-- What the law has laid: the measure, the image, the sum's ends. -/
def EK (B S : Nat) (h : Hd) (xs : List (Int × Int)) (ss : List Sett) (im lo hi : Int) (X : World) : Prop :=
  BoxM X B h xs ss ∧ X.cell? ⟨B + 1, 0, none⟩ = some (.int .i64 im) ∧ X.cell? ⟨S, 0, none⟩ = some (.int .i64 lo) ∧ X.cell? ⟨S, 1, none⟩ = some (.int .i64 hi)
theorem EK.grown {B S : Nat} {h : Hd} {xs : List (Int × Int)} {ss : List Sett} {im lo hi : Int} {X X' : World} (k : EK B S h xs ss im lo hi X) (hb : Below X.heap.size X X') : EK B S h xs ss im lo hi X' :=
  ⟨k.1.grown hb, cellB k.2.1 hb, cellB k.2.2.1 hb, cellB k.2.2.2 hb⟩
theorem two_at (w : World) (lo hi : Int) (t : TypeId) : (w.alloc (.cells #[.int .i64 lo, .int .i64 hi] t)).cell? ⟨w.heap.size, 0, none⟩ = some (.int .i64 lo) ∧ (w.alloc (.cells #[.int .i64 lo, .int .i64 hi] t)).cell? ⟨w.heap.size, 1, none⟩ = some (.int .i64 hi) := two_newT w lo hi t
def Two (g : Nat) (a b : Int) (X : World) : Prop := X.cell? ⟨g, 0, none⟩ = some (.int .i64 a) ∧ X.cell? ⟨g, 1, none⟩ = some (.int .i64 b)
theorem Two.grown {g : Nat} {a b : Int} {X X' : World} (k : Two g a b X) (hb : Below X.heap.size X X') : Two g a b X' := ⟨cellB k.1 hb, cellB k.2 hb⟩
theorem with_tup {B S : Nat} {h : Hd} {xs : List (Int × Int)} {ss : List Sett} {im lo hi n a b c : Int} {X : World} (k : EK B S h xs ss im lo hi X) (hr : reply (placeA (withN h n) xs ss im) = tup a b c) :
    Calls Try.prog 38 #[.int .i64 n, .pointer (some ⟨B, 0, none⟩), .pointer (some ⟨B + 1, 0, none⟩)] X (Ret (.tuple #[.agg #[.int .i64 a, .int .i64 b], .int .i64 c]) X) := by
  have := with_any B (B + 1) im n h xs ss X k.1 k.2.1
  rw [hr] at this
  exact this

set_option maxRecDepth 100000 in
set_option maxHeartbeats 4000000 in
theorem ends_any (h : Hd) (xs : List (Int × Int)) (ss : List Sett) (im y : Int) (w : World) (hm : HasM w h xs ss) (hy : 0 ≤ y ∧ y ≤ 65535) :
    Calls Try.prog 8 #[h.val, .int .i64 im, .int .u16 y] w (Ret (.bool true) w) := by
  have hlx := hm.lx
  have hls := hm.ls
  rw [hm.nx] at hlx
  rw [hm.ns] at hls
  have hmf : ∀ (fn : Fn) (first cap : Array Value) (w : World), (Instr.makeFunc fn first cap).run Try.prog w = .ok (.func fn first cap) w := fun _ _ _ _ => rfl
  have hb0 := (boxM_new hm).grown (newB _ (.cells #[.int .i64 im] 3))
  have hB0 : Below w.heap.size w ((w.alloc (.cells #[.slice h.a h.n h.cap, .int .i64 h.eLo, .int .i64 h.eHi, .int .i64 h.images, .int .i64 h.sLo, .int .i64 h.sHi, .slice h.sa h.ns h.scap] 29)).alloc (.cells #[.int .i64 im] 3)) := by (repeat (first | assumption | exact Below.refl _ _ | refine BA ?_ _ | refine BC ?_ _ _ (by omega) _ | refine Below.drew ?_ | refine BT ?_ (by assumption)))
  have hC0 : ((w.alloc (.cells #[.slice h.a h.n h.cap, .int .i64 h.eLo, .int .i64 h.eHi, .int .i64 h.images, .int .i64 h.sLo, .int .i64 h.sHi, .slice h.sa h.ns h.scap] 29)).alloc (.cells #[.int .i64 im] 3)).cell? ⟨w.heap.size + 1, 0, none⟩ = some (.int .i64 im) := by simp [go_sem]
  clear hm
  unfold Hd.val
  go_enter Try.func8, Try.ntmps8
  go_wp2_with fail
  generalize hBe : w.heap.size = B at hb0 hC0 ⊢
  generalize (w.alloc (.cells #[.slice h.a h.n h.cap, .int .i64 h.eLo, .int .i64 h.eHi, .int .i64 h.images, .int .i64 h.sLo, .int .i64 h.sHi, .slice h.sa h.ns h.scap] 29)).alloc (.cells #[.int .i64 im] 3) = W at *
  clear hBe
  refine (great_any h W).mono ?_
  rintro e w1 ⟨rfl, hb1⟩
  have hB1 := BT hB0 hb1
  have HB1 := Lib.hid (hb0.grown hb1)
  have hC1 := cellB hC0 hb1
  clear hb0 hC0 hb1 hB0
  have HC1 := Lib.hid hC1
  cases hg : greatB h.n h.ns
  case true =>
    clear hC1
    go_wp2_with fail
    refine (alive_any _).mono ?_
    rintro e w2 ⟨rfl, hb2⟩
    go_wp2
    go_ret
    exact ⟨rfl, by (repeat (first | assumption | exact Below.refl _ _ | refine BA ?_ _ | refine BC ?_ _ _ (by omega) _ | refine Below.drew ?_ | refine BT ?_ (by assumption)))⟩
  have hg1 : h.ns ≤ 30 ∧ h.n ≤ 100 := by simp [greatB] at hg; omega
  clear hg
  obtain ⟨c0, c1, c2, c3, c4, c5, c6, hh⟩ := HB1.out
  have hme := measureR_any h xs ss w1 hh (by rw [hh.nx]; omega) (by rw [hh.ns]; omega)
  unfold Hd.val at hme
  clear hh
  go_wp2_with fail
  refine hme.mono ?_
  rintro e w2 ⟨rfl, hb2⟩
  have hB2 := BT hB1 hb2
  have HB2 := Lib.hid (HB1.out.grown hb2)
  have HC2 := Lib.hid (cellB HC1.out hb2)
  clear HB1 HC1 hC1 hb2 hB1 c0 c1 c2 c3 c4 c5 c6 hme
  cases hv : validH h xs ss
  case false =>
    go_wp2_with fail
    refine (alive_any _).mono ?_
    rintro e w3 ⟨rfl, hb3⟩
    go_wp2
    go_ret
    exact ⟨rfl, by (repeat (first | assumption | exact Below.refl _ _ | refine BA ?_ _ | refine BC ?_ _ _ (by omega) _ | refine Below.drew ?_ | refine BT ?_ (by assumption)))⟩
  have HV := Lib.hid hv
  obtain ⟨c0, c1, c2, c3, c4, c5, c6, hh⟩ := HB2.out
  have hsu := sum_any h xs ss w2 hh
  unfold Hd.val at hsu
  have HSU := Lib.hid hsu
  clear hh hsu hv
  by_cases hx : ∃ x, Tru h.sLo h.sHi (tellsOf xs h.eLo h.eHi ss) x
  case neg =>
    have hs := HSU.out
    rw [sum_clash HV.out hx] at hs
    have HS := Lib.hid hs
    clear hs HSU hx
    go_wp2_with fail
    refine HS.out.mono ?_
    rintro e w3 ⟨rfl, hb3⟩
    unfold reply
    go_wp2_with fail
    refine (alive_any _).mono ?_
    rintro e w4 ⟨rfl, hb4⟩
    go_wp2
    go_ret
    exact ⟨rfl, by (repeat (first | assumption | exact Below.refl _ _ | refine BA ?_ _ | refine BC ?_ _ _ (by omega) _ | refine Below.drew ?_ | refine BT ?_ (by assumption)))⟩
  obtain ⟨lo, hi, hsu, hext⟩ := sum_ok HV.out hx
  have hs := HSU.out
  rw [hsu] at hs
  clear hsu HSU
  have hw := sum_within hext
  obtain ⟨_, _, _, _, hve, _⟩ := valid_has HV.out
  have hlo0 : 0 ≤ lo := by omega
  have hlh : lo ≤ hi := by omega
  obtain ⟨hy0, hy1⟩ := hy
  have hp0 : 0 < hi - lo + 1 := by omega
  have hp1 : hi - lo + 1 ≤ 131073 := by omega
  have hhi1 : hi ≤ 131072 := by omega
  have hm0 : 0 ≤ y % (hi - lo + 1) := Int.emod_nonneg _ (by omega)
  have hm1 : y % (hi - lo + 1) < hi - lo + 1 := Int.emod_lt_of_pos _ (by omega)
  obtain ⟨f, P, Q, l1, l2, h1, h2, s1, s2, hE⟩ := ends_facts HV.out hx im hext (n := lo + y % (hi - lo + 1)) ⟨by omega, by omega⟩
  have HE := Lib.hid hE
  have hw1 : h.sLo ≤ lo := hw.1
  have hw3 : hi ≤ h.sHi := hw.2.2
  have hv0 : 0 ≤ h.sLo := hve.1
  have hv1 : h.sHi ≤ 131072 := hve.2.2
  clear hE hext hw hve hx
  have t1 : decide (lo < h.sLo) = false := by simp; omega
  have t2 : decide (lo > hi) = false := by simp; omega
  have t3 : decide (hi > h.sHi) = false := by simp; omega
  have HS : Hid (Calls Try.prog 18 #[.agg #[.slice h.a h.n h.cap, .int .i64 h.eLo, .int .i64 h.eHi, .int .i64 h.images, .int .i64 h.sLo, .int .i64 h.sHi, .slice h.sa h.ns h.scap]] w2 (Ret (.tuple #[.agg #[.int .i64 lo, .int .i64 hi], .int .i64 0]) w2)) := hs
  clear hs
  go_wp2_with fail
  refine HS.out.mono ?_
  rintro e w3 ⟨rfl, hb3⟩
  have hA3 := newB w3 (.cells #[.int .i64 lo, .int .i64 hi] 24)
  have HB3 := Lib.hid (HB2.out.grown (BT hb3 hA3))
  have HC3 := Lib.hid (cellB HC2.out (BT hb3 hA3))
  have hB3 := BT hB2 (BT hb3 hA3)
  have hs0 : (w3.alloc (.cells #[.int .i64 lo, .int .i64 hi] 24)).cell? ⟨w3.heap.size, 0, none⟩ = some (.int .i64 lo) := by simp [go_sem]
  have hs1 : (w3.alloc (.cells #[.int .i64 lo, .int .i64 hi] 24)).cell? ⟨w3.heap.size, 1, none⟩ = some (.int .i64 hi) := by simp [go_sem]
  clear HS c0 c1 c2 c3 c4 c5 c6 hb3 hA3 HB2 HC2 hB2
  obtain ⟨c0, c1, c2, c3, c4, c5, c6, hh⟩ := HB3.out
  have hpl := place_any im h xs ss _ hh
  rw [HE.out.place] at hpl
  unfold Hd.val tup at hpl
  have HP := Lib.hid hpl
  have hC3 := HC3.out
  clear hh hpl
  go_wp2_with fail
  generalize w3.heap.size = S at *
  generalize w3.alloc (.cells #[.int .i64 lo, .int .i64 hi] 24) = W3 at *
  have HK3 : Hid (EK B S h xs ss im lo hi W3) := ⟨HB3.out, hC3, hs0, hs1⟩
  refine HP.out.mono ?_
  rintro e w4 ⟨rfl, hb4⟩
  have hA4 := BT hb4 (newB w4 (.cells #[.int .i64 P, .int .i64 Q] 24))
  have HK4 := Lib.hid (HK3.out.grown hA4)
  have hB4 := BT hB3 hA4
  have HP4 : Hid (Two w4.heap.size P Q (w4.alloc (.cells #[.int .i64 P, .int .i64 Q] 24))) := two_at w4 P Q 24
  clear HP HB3 HC3 hB3 c0 c1 c2 c3 c4 c5 c6 hC3 hs0 hs1 hb4 hA4 HK3
  rcases HE.out.ok with rfl | rfl | rfl
  · obtain ⟨⟨c0, c1, c2, c3, c4, c5, c6, hh⟩, hC4, q0, q1⟩ := HK4.out
    clear hh
    have hw := with_tup HK4.out HE.out.low
    go_wp2_with fail
    generalize w4.heap.size = p at *
    generalize w4.alloc (.cells #[.int .i64 P, .int .i64 Q] 24) = W4 at *
    refine hw.mono ?_
    rintro e w5 ⟨rfl, hb5⟩
    have hA5 := BT hb5 (newB w5 (.cells #[.int .i64 l1, .int .i64 l2] 24))
    have HK5 := Lib.hid (HK4.out.grown hA5)
    have hB5 := BT hB4 hA5
    have HP5 := Lib.hid (HP4.out.grown hA5)
    have HL5 : Hid (Two w5.heap.size l1 l2 (w5.alloc (.cells #[.int .i64 l1, .int .i64 l2] 24))) := two_at w5 l1 l2 24
    clear hw HK4 HP4 hB4 hb5 hA5 c0 c1 c2 c3 c4 c5 c6 hC4 q0 q1
    obtain ⟨⟨c0, c1, c2, c3, c4, c5, c6, hh⟩, hC4, q0, q1⟩ := HK5.out
    clear hh
    have hw := with_tup HK5.out HE.out.high
    go_wp2_with fail
    generalize w5.heap.size = lb at *
    generalize w5.alloc (.cells #[.int .i64 l1, .int .i64 l2] 24) = W5 at *
    refine hw.mono ?_
    rintro e w6 ⟨rfl, hb6⟩
    have hA6 := BT hb6 (newB w6 (.cells #[.int .i64 h1, .int .i64 h2] 24))
    have HK6 := Lib.hid (HK5.out.grown hA6)
    have hB6 := BT hB5 hA6
    have HP6 := Lib.hid (HP5.out.grown hA6)
    have HL6 := Lib.hid (HL5.out.grown hA6)
    have HH6 : Hid (Two w6.heap.size h1 h2 (w6.alloc (.cells #[.int .i64 h1, .int .i64 h2] 24))) := two_at w6 h1 h2 24
    clear hw HK5 HP5 HL5 hB5 hb6 hA6 c0 c1 c2 c3 c4 c5 c6 hC4 q0 q1
    obtain ⟨⟨c0, c1, c2, c3, c4, c5, c6, hh⟩, hC4, q0, q1⟩ := HK6.out
    clear hh
    go_upto_region 14 with fail
    generalize w6.heap.size = hb at *
    generalize w6.alloc (.cells #[.int .i64 h1, .int .i64 h2] 24) = W6 at *
    have HQ : Hid (W6.drew.cell? ⟨S, 0, none⟩ = some (.int .i64 lo) ∧ W6.drew.cell? ⟨S, 1, none⟩ = some (.int .i64 hi)) := ⟨q0, q1⟩
    have hwt : Hid (∀ Y, Below W6.heap.size W6 Y → Calls Try.prog 38 #[.int .i64 (lo + y % (hi - lo + 1)), .pointer (some ⟨B, 0, none⟩), .pointer (some ⟨B + 1, 0, none⟩)] Y (Ret (.tuple #[.agg #[.int .i64 s1, .int .i64 s2], .int .i64 0]) Y)) := fun Y hY => with_tup (HK6.out.grown hY) HE.out.some
    have hd6 : Below W6.heap.size W6 W6.drew := Below.drew (Below.refl _ _)
    clear c0 c1 c2 c3 c4 c5 c6 hC4
    go_cut [16, 17] (fun a16 a17 X => ∃ g : Nat, a16 = .pointer (some ⟨g, 0, none⟩) ∧ a17 = .int .i64 0 ∧ Two g s1 s2 X ∧ Below W6.heap.size W6 X)
    case first =>
      refine wp_region_fork [(0, true), (1, true), (2, true), (3, true), (4, true), (5, true), (6, true), (7, true), (8, true), (9, true), (10, true), (11, true), (12, true)] [(13, false), (14, true), (15, true), (16, true), (17, false), (18, false), (19, true)] [(17, false), (13, false), (14, true), (15, true), (16, true), (18, false), (19, true)]
        (fun w' => w'.cell? ⟨S, 0, none⟩ = some (.int .i64 lo) ∧ w'.cell? ⟨S, 1, none⟩ = some (.int .i64 hi)) (by kernel_rfl) (by kernel_rfl) (fun _ _ d _ _ h => by cases d <;> exact h) HQ.out ?_
      have k1 : IntKind.i64.wrap (hi - lo) = hi - lo := IntWalk.i64_in _ (by omega)
      have k2 : IntKind.i64.wrap (hi - lo + 1) = hi - lo + 1 := IntWalk.i64_in _ (by omega)
      have k3 : ¬ (hi - lo + 1 = 0) := by omega
      have k4 : y.tmod (hi - lo + 1) = y % (hi - lo + 1) := Int.tmod_eq_emod_of_nonneg hy0
      have k5 : IntKind.i64.wrap (lo + y % (hi - lo + 1)) = lo + y % (hi - lo + 1) := IntWalk.i64_in _ (by omega)
      have k6 : IntKind.i64.wrap y = y := IntWalk.i64_in _ (by omega)
      repeat (first | (refine seq_read rfl (by rfl) _ (fun w' hS => by (try dsimp only at hS); go_simp; (try with_reducible rfl)) ?_; (try simp only [Act.put, List.setIfInBounds_toArray, List.set_cons_zero, List.set_cons_succ])) | (refine seq_skip rfl (by rfl) ?_; (try simp only [Act.put, List.setIfInBounds_toArray, List.set_cons_zero, List.set_cons_succ])))
      apply seq_end
      clear k1 k2 k3 k4 k5 k6
      intro hSd
      constructor
      · (refine seq_do rfl (by rfl) (fun K hK => ?_); go_simp)
        refine (hwt.out _ hd6).mono ?_
        rintro e w7 ⟨rfl, hb7⟩
        refine hK _ _ ⟨cellB HQ.out.1 hb7, cellB HQ.out.2 hb7⟩ ?_
        clear hK K hSd
        repeat (first | (refine seq_read rfl (by rfl) _ (fun w' hS => by (try dsimp only at hS); go_simp; (try with_reducible rfl)) ?_; (try simp only [Act.put, List.setIfInBounds_toArray, List.set_cons_zero, List.set_cons_succ])) | (refine seq_skip rfl (by rfl) ?_; (try simp only [Act.put, List.setIfInBounds_toArray, List.set_cons_zero, List.set_cons_succ])))
        (refine seq_do rfl (by rfl) (fun K hK => ?_); go_simp)
        refine hK _ _ ⟨cellB HQ.out.1 (BT hb7 (newB _ _)), cellB HQ.out.2 (BT hb7 (newB _ _))⟩ ?_
        clear hK K
        repeat (first | (refine seq_read rfl (by rfl) _ (fun w' hS => by (try dsimp only at hS); go_simp; (try with_reducible rfl)) ?_; (try simp only [Act.put, List.setIfInBounds_toArray, List.set_cons_zero, List.set_cons_succ])) | (refine seq_skip rfl (by rfl) ?_; (try simp only [Act.put, List.setIfInBounds_toArray, List.set_cons_zero, List.set_cons_succ])))
        (refine seq_do rfl (by rfl) (fun K hK => ?_); go_simp)
        refine hK _ _ ⟨cellB HQ.out.1 (BT hb7 (newB _ _)), cellB HQ.out.2 (BT hb7 (newB _ _))⟩ ?_
        clear hK K
        repeat (first | (refine seq_read rfl (by rfl) _ (fun w' hS => by (try dsimp only at hS); go_simp; (try with_reducible rfl)) ?_; (try simp only [Act.put, List.setIfInBounds_toArray, List.set_cons_zero, List.set_cons_succ])) | (refine seq_skip rfl (by rfl) ?_; (try simp only [Act.put, List.setIfInBounds_toArray, List.set_cons_zero, List.set_cons_succ])))
        apply seq_end
        go_wp2_with fail
        go_meet
        exact ⟨w7.heap.size, rfl, rfl, two_at w7 s1 s2 24, BT (BT hd6 hb7) (newB _ _)⟩
      · (refine seq_do rfl (by rfl) (fun K hK => ?_); go_simp)
        have hA : Below W6.heap.size W6 (W6.alloc (.cells #[.int .i64 0, .int .i64 0] 24)).drew := Below.drew (newB W6 (.cells #[.int .i64 0, .int .i64 0] 24))
        have hA' : Below W6.drew.heap.size W6.drew (W6.alloc (.cells #[.int .i64 0, .int .i64 0] 24)).drew := newB W6.drew (.cells #[.int .i64 0, .int .i64 0] 24)
        refine hK _ _ ⟨cellB HQ.out.1 hA', cellB HQ.out.2 hA'⟩ ?_
        clear hK K hSd
        repeat (first | (refine seq_read rfl (by rfl) _ (fun w' hS => by (try dsimp only at hS); go_simp; (try with_reducible rfl)) ?_; (try simp only [Act.put, List.setIfInBounds_toArray, List.set_cons_zero, List.set_cons_succ])) | (refine seq_skip rfl (by rfl) ?_; (try simp only [Act.put, List.setIfInBounds_toArray, List.set_cons_zero, List.set_cons_succ])))
        (refine seq_do rfl (by rfl) (fun K hK => ?_); go_simp)
        refine (hwt.out _ hA).mono ?_
        rintro e w7 ⟨rfl, hb7⟩
        refine hK _ _ ⟨cellB HQ.out.1 (BT hA' hb7), cellB HQ.out.2 (BT hA' hb7)⟩ ?_
        clear hK K
        have z0 : w7.cell? ⟨W6.heap.size, 0, none⟩ = some (.int .i64 0) := (hb7.cell (p := ⟨W6.heap.size, 0, none⟩) (by simp)).trans (by simp [go_sem])
        have z1 : w7.cell? ⟨W6.heap.size, 1, none⟩ = some (.int .i64 0) := (hb7.cell (p := ⟨W6.heap.size, 1, none⟩) (by simp)).trans (by simp [go_sem])
        have z2 : w7.frozen? ⟨W6.heap.size, 0, none⟩ = false := (hb7.frozen (p := ⟨W6.heap.size, 0, none⟩) (by simp)).trans (by simp)
        have z3 : w7.frozen? ⟨W6.heap.size, 1, none⟩ = false := (hb7.frozen (p := ⟨W6.heap.size, 1, none⟩) (by simp)).trans (by simp)
        have hB7 : Below W6.heap.size W6 ((w7.setCell ⟨W6.heap.size, 0, none⟩ (.int .i64 s1)).setCell ⟨W6.heap.size, 1, none⟩ (.int .i64 s2)) := by
          have hh7 := BT hA hb7
          (repeat (first | assumption | exact Below.refl _ _ | refine BA ?_ _ | refine BC ?_ _ _ (by omega) _ | refine Below.drew ?_ | refine BT ?_ (by assumption)))
        have hS7 : ((w7.setCell ⟨W6.heap.size, 0, none⟩ (.int .i64 s1)).setCell ⟨W6.heap.size, 1, none⟩ (.int .i64 s2)).cell? ⟨S, 0, none⟩ = some (.int .i64 lo) ∧ ((w7.setCell ⟨W6.heap.size, 0, none⟩ (.int .i64 s1)).setCell ⟨W6.heap.size, 1, none⟩ (.int .i64 s2)).cell? ⟨S, 1, none⟩ = some (.int .i64 hi) := ⟨cellB q0 hB7, cellB q1 hB7⟩
        repeat (first | (refine seq_read rfl (by rfl) _ (fun w' hS => by (try dsimp only at hS); go_simp; (try with_reducible rfl)) ?_; (try simp only [Act.put, List.setIfInBounds_toArray, List.set_cons_zero, List.set_cons_succ])) | (refine seq_skip rfl (by rfl) ?_; (try simp only [Act.put, List.setIfInBounds_toArray, List.set_cons_zero, List.set_cons_succ])))
        (refine seq_do rfl (by rfl) (fun K hK => ?_); go_simp)
        refine hK _ _ hS7 ?_
        clear hK K hS7
        repeat (first | (refine seq_read rfl (by rfl) _ (fun w' hS => by (try dsimp only at hS); go_simp; (try with_reducible rfl)) ?_; (try simp only [Act.put, List.setIfInBounds_toArray, List.set_cons_zero, List.set_cons_succ])) | (refine seq_skip rfl (by rfl) ?_; (try simp only [Act.put, List.setIfInBounds_toArray, List.set_cons_zero, List.set_cons_succ])))
        apply seq_end
        go_wp2_with fail
        go_meet
        exact ⟨W6.heap.size, rfl, rfl, ⟨by simp [go_sem, z0], by simp [go_sem, z1]⟩, hB7⟩
    case rest =>
      obtain ⟨g, rfl, rfl, HG, hb8⟩ := hcut
      have HK8 := Lib.hid (HK6.out.grown hb8)
      have HP8 := Lib.hid (HP6.out.grown hb8)
      have HL8 := Lib.hid (HL6.out.grown hb8)
      have HH8 := Lib.hid (HH6.out.grown hb8)
      have hB8 := BT hB6 hb8
      have hAL := newB wc (.cells #[.int .i64 (lo - 1), .int .i64 (hi + 1)] 3)
      have HE8 := Lib.hid (two_at wc (lo - 1) (hi + 1) 3)
      have HKL := Lib.hid (HK8.out.grown hAL)
      have hBL := BT hB8 hAL
      clear HQ hwt hd6 HK6 HP6 HL6 HH6 hB6 hb8 q0 q1 hAL
      obtain ⟨⟨c0, c1, c2, c3, c4, c5, c6, hh⟩, hC4, q0, q1⟩ := HK8.out
      obtain ⟨p0, p1⟩ := HP8.out
      obtain ⟨l0, l3⟩ := HL8.out
      obtain ⟨h0, h3⟩ := HH8.out
      obtain ⟨g0, g1⟩ := HG
      clear hh HK8 HP8 HL8 HH8 hB8
      have hI := HE.out.is rfl
      have d1 : decide (s1 < P) = false := by simp; omega
      have d2 : decide (s2 > Q) = false := by simp; omega
      have d3 : (if h1 < l1 then h1 else l1) = P := by have := hI.2.2.1; split <;> omega
      have d4 : (if l2 < h2 then h2 else l2) = Q := by have := hI.2.2.2; split <;> omega
      clear hI
      go_wp2_with fail
      clear c0 c1 c2 c3 c4 c5 c6 hC4 q0 q1 p0 p1 l0 l3 h0 h3 g0 g1 t1 t2 t3
      clear d1 d2 d3 d4
      generalize wc.heap.size = E at *
      generalize wc.alloc (.cells #[.int .i64 (lo - 1), .int .i64 (hi + 1)] 3) = WL at *
      go_loopw [171] (fun i wr => ∃ k : Nat, k ≤ 2 ∧ i = .int .i64 k ∧ Below WL.heap.size WL wr) (fun i _ => 2 - (intOf i).toNat)
      case atStart => exact ⟨0, by omega, rfl, Below.refl _ _⟩
      case round =>
        obtain ⟨k, hk, rfl, hBr⟩ := hrel
        have HKr := Lib.hid (HKL.out.grown hBr)
        obtain ⟨⟨c0, c1, c2, c3, c4, c5, c6, hh⟩, hC4, q0, q1⟩ := HKr.out
        have e0 := cellB HE8.out.1 hBr
        have e1 := cellB HE8.out.2 hBr
        have hBw := BT hBL hBr
        clear hh c0 c1 c2 c3 c6 q0 q1 hC4
        have hk3 : k = 0 ∨ k = 1 ∨ k = 2 := by omega
        rcases hk3 with rfl | rfl | rfl
        · have d2 : decide (lo - 1 > h.sHi) = false := by simp; omega
          by_cases hd : lo - 1 < h.sLo
          · have d1 : decide (lo - 1 < h.sLo) = true := by simpa using hd
            go_wp2
            go_roundw
            case rel => exact ⟨1, by omega, by go_num, hBr⟩
            case measure => simp [intOf]
          · have d1 : decide (lo - 1 < h.sLo) = false := by simpa using hd
            obtain ⟨cc, hc1, hc2⟩ := HE.out.out (lo - 1) (by omega) (by omega)
            have hwi := with_tup HKr.out hc1
            go_wp2_with fail
            refine hwi.mono ?_
            rintro e w9 ⟨rfl, hb9⟩
            clear hwi hc1
            rcases hc2 with rfl | rfl
            all_goals
              go_wp2
              go_roundw
              case rel => exact ⟨1, by omega, by go_num, by (repeat (first | assumption | exact Below.refl _ _ | refine BA ?_ _ | refine BC ?_ _ _ (by omega) _ | refine Below.drew ?_ | refine BT ?_ (by assumption)))⟩
              case measure => simp [intOf]
        · have d2 : decide (hi + 1 < h.sLo) = false := by simp; omega
          by_cases hd : hi + 1 > h.sHi
          · have d1 : decide (hi + 1 > h.sHi) = true := by simpa using hd
            go_wp2
            go_roundw
            case rel => exact ⟨2, by omega, by go_num, hBr⟩
            case measure => simp [intOf]
          · have d1 : decide (hi + 1 > h.sHi) = false := by simpa using hd
            obtain ⟨cc, hc1, hc2⟩ := HE.out.out (hi + 1) (by omega) (by omega)
            have hwi := with_tup HKr.out hc1
            go_wp2_with fail
            refine hwi.mono ?_
            rintro e w9 ⟨rfl, hb9⟩
            clear hwi hc1
            rcases hc2 with rfl | rfl
            all_goals
              go_wp2
              go_roundw
              case rel => exact ⟨2, by omega, by go_num, by (repeat (first | assumption | exact Below.refl _ _ | refine BA ?_ _ | refine BC ?_ _ _ (by omega) _ | refine Below.drew ?_ | refine BT ?_ (by assumption)))⟩
              case measure => simp [intOf]
        · go_wp2_with fail
          refine (alive_any _).mono ?_
          rintro e w9 ⟨rfl, hb9⟩
          go_wp2
          go_ret
          exact ⟨rfl, BT hBw hb9⟩

  · obtain ⟨⟨c0, c1, c2, c3, c4, c5, c6, hh⟩, hC4, q0, q1⟩ := HK4.out
    clear hh
    have hw := with_tup HK4.out HE.out.low
    go_wp2_with fail
    generalize w4.heap.size = p at *
    generalize w4.alloc (.cells #[.int .i64 P, .int .i64 Q] 24) = W4 at *
    refine hw.mono ?_
    rintro e w5 ⟨rfl, hb5⟩
    have hA5 := BT hb5 (newB w5 (.cells #[.int .i64 l1, .int .i64 l2] 24))
    have HK5 := Lib.hid (HK4.out.grown hA5)
    have hB5 := BT hB4 hA5
    have HP5 := Lib.hid (HP4.out.grown hA5)
    have HL5 : Hid (Two w5.heap.size l1 l2 (w5.alloc (.cells #[.int .i64 l1, .int .i64 l2] 24))) := two_at w5 l1 l2 24
    clear hw HK4 HP4 hB4 hb5 hA5 c0 c1 c2 c3 c4 c5 c6 hC4 q0 q1
    obtain ⟨⟨c0, c1, c2, c3, c4, c5, c6, hh⟩, hC4, q0, q1⟩ := HK5.out
    clear hh
    have hw := with_tup HK5.out HE.out.high
    go_wp2_with fail
    generalize w5.heap.size = lb at *
    generalize w5.alloc (.cells #[.int .i64 l1, .int .i64 l2] 24) = W5 at *
    refine hw.mono ?_
    rintro e w6 ⟨rfl, hb6⟩
    have hA6 := BT hb6 (newB w6 (.cells #[.int .i64 h1, .int .i64 h2] 24))
    have HK6 := Lib.hid (HK5.out.grown hA6)
    have hB6 := BT hB5 hA6
    have HP6 := Lib.hid (HP5.out.grown hA6)
    have HL6 := Lib.hid (HL5.out.grown hA6)
    have HH6 : Hid (Two w6.heap.size h1 h2 (w6.alloc (.cells #[.int .i64 h1, .int .i64 h2] 24))) := two_at w6 h1 h2 24
    clear hw HK5 HP5 HL5 hB5 hb6 hA6 c0 c1 c2 c3 c4 c5 c6 hC4 q0 q1
    obtain ⟨⟨c0, c1, c2, c3, c4, c5, c6, hh⟩, hC4, q0, q1⟩ := HK6.out
    clear hh
    go_upto_region 14 with fail
    generalize w6.heap.size = hb at *
    generalize w6.alloc (.cells #[.int .i64 h1, .int .i64 h2] 24) = W6 at *
    have HQ : Hid (W6.drew.cell? ⟨S, 0, none⟩ = some (.int .i64 lo) ∧ W6.drew.cell? ⟨S, 1, none⟩ = some (.int .i64 hi)) := ⟨q0, q1⟩
    have hwt : Hid (∀ Y, Below W6.heap.size W6 Y → Calls Try.prog 38 #[.int .i64 (lo + y % (hi - lo + 1)), .pointer (some ⟨B, 0, none⟩), .pointer (some ⟨B + 1, 0, none⟩)] Y (Ret (.tuple #[.agg #[.int .i64 s1, .int .i64 s2], .int .i64 2]) Y)) := fun Y hY => with_tup (HK6.out.grown hY) HE.out.some
    have hd6 : Below W6.heap.size W6 W6.drew := Below.drew (Below.refl _ _)
    clear c0 c1 c2 c3 c4 c5 c6 hC4
    go_cut [16, 17] (fun a16 a17 X => ∃ g : Nat, a16 = .pointer (some ⟨g, 0, none⟩) ∧ a17 = .int .i64 2 ∧ Two g s1 s2 X ∧ Below W6.heap.size W6 X)
    case first =>
      refine wp_region_fork [(0, true), (1, true), (2, true), (3, true), (4, true), (5, true), (6, true), (7, true), (8, true), (9, true), (10, true), (11, true), (12, true)] [(13, false), (14, true), (15, true), (16, true), (17, false), (18, false), (19, true)] [(17, false), (13, false), (14, true), (15, true), (16, true), (18, false), (19, true)]
        (fun w' => w'.cell? ⟨S, 0, none⟩ = some (.int .i64 lo) ∧ w'.cell? ⟨S, 1, none⟩ = some (.int .i64 hi)) (by kernel_rfl) (by kernel_rfl) (fun _ _ d _ _ h => by cases d <;> exact h) HQ.out ?_
      have k1 : IntKind.i64.wrap (hi - lo) = hi - lo := IntWalk.i64_in _ (by omega)
      have k2 : IntKind.i64.wrap (hi - lo + 1) = hi - lo + 1 := IntWalk.i64_in _ (by omega)
      have k3 : ¬ (hi - lo + 1 = 0) := by omega
      have k4 : y.tmod (hi - lo + 1) = y % (hi - lo + 1) := Int.tmod_eq_emod_of_nonneg hy0
      have k5 : IntKind.i64.wrap (lo + y % (hi - lo + 1)) = lo + y % (hi - lo + 1) := IntWalk.i64_in _ (by omega)
      have k6 : IntKind.i64.wrap y = y := IntWalk.i64_in _ (by omega)
      repeat (first | (refine seq_read rfl (by rfl) _ (fun w' hS => by (try dsimp only at hS); go_simp; (try with_reducible rfl)) ?_; (try simp only [Act.put, List.setIfInBounds_toArray, List.set_cons_zero, List.set_cons_succ])) | (refine seq_skip rfl (by rfl) ?_; (try simp only [Act.put, List.setIfInBounds_toArray, List.set_cons_zero, List.set_cons_succ])))
      apply seq_end
      clear k1 k2 k3 k4 k5 k6
      intro hSd
      constructor
      · (refine seq_do rfl (by rfl) (fun K hK => ?_); go_simp)
        refine (hwt.out _ hd6).mono ?_
        rintro e w7 ⟨rfl, hb7⟩
        refine hK _ _ ⟨cellB HQ.out.1 hb7, cellB HQ.out.2 hb7⟩ ?_
        clear hK K hSd
        repeat (first | (refine seq_read rfl (by rfl) _ (fun w' hS => by (try dsimp only at hS); go_simp; (try with_reducible rfl)) ?_; (try simp only [Act.put, List.setIfInBounds_toArray, List.set_cons_zero, List.set_cons_succ])) | (refine seq_skip rfl (by rfl) ?_; (try simp only [Act.put, List.setIfInBounds_toArray, List.set_cons_zero, List.set_cons_succ])))
        (refine seq_do rfl (by rfl) (fun K hK => ?_); go_simp)
        refine hK _ _ ⟨cellB HQ.out.1 (BT hb7 (newB _ _)), cellB HQ.out.2 (BT hb7 (newB _ _))⟩ ?_
        clear hK K
        repeat (first | (refine seq_read rfl (by rfl) _ (fun w' hS => by (try dsimp only at hS); go_simp; (try with_reducible rfl)) ?_; (try simp only [Act.put, List.setIfInBounds_toArray, List.set_cons_zero, List.set_cons_succ])) | (refine seq_skip rfl (by rfl) ?_; (try simp only [Act.put, List.setIfInBounds_toArray, List.set_cons_zero, List.set_cons_succ])))
        (refine seq_do rfl (by rfl) (fun K hK => ?_); go_simp)
        refine hK _ _ ⟨cellB HQ.out.1 (BT hb7 (newB _ _)), cellB HQ.out.2 (BT hb7 (newB _ _))⟩ ?_
        clear hK K
        repeat (first | (refine seq_read rfl (by rfl) _ (fun w' hS => by (try dsimp only at hS); go_simp; (try with_reducible rfl)) ?_; (try simp only [Act.put, List.setIfInBounds_toArray, List.set_cons_zero, List.set_cons_succ])) | (refine seq_skip rfl (by rfl) ?_; (try simp only [Act.put, List.setIfInBounds_toArray, List.set_cons_zero, List.set_cons_succ])))
        apply seq_end
        go_wp2_with fail
        go_meet
        exact ⟨w7.heap.size, rfl, rfl, two_at w7 s1 s2 24, BT (BT hd6 hb7) (newB _ _)⟩
      · (refine seq_do rfl (by rfl) (fun K hK => ?_); go_simp)
        have hA : Below W6.heap.size W6 (W6.alloc (.cells #[.int .i64 0, .int .i64 0] 24)).drew := Below.drew (newB W6 (.cells #[.int .i64 0, .int .i64 0] 24))
        have hA' : Below W6.drew.heap.size W6.drew (W6.alloc (.cells #[.int .i64 0, .int .i64 0] 24)).drew := newB W6.drew (.cells #[.int .i64 0, .int .i64 0] 24)
        refine hK _ _ ⟨cellB HQ.out.1 hA', cellB HQ.out.2 hA'⟩ ?_
        clear hK K hSd
        repeat (first | (refine seq_read rfl (by rfl) _ (fun w' hS => by (try dsimp only at hS); go_simp; (try with_reducible rfl)) ?_; (try simp only [Act.put, List.setIfInBounds_toArray, List.set_cons_zero, List.set_cons_succ])) | (refine seq_skip rfl (by rfl) ?_; (try simp only [Act.put, List.setIfInBounds_toArray, List.set_cons_zero, List.set_cons_succ])))
        (refine seq_do rfl (by rfl) (fun K hK => ?_); go_simp)
        refine (hwt.out _ hA).mono ?_
        rintro e w7 ⟨rfl, hb7⟩
        refine hK _ _ ⟨cellB HQ.out.1 (BT hA' hb7), cellB HQ.out.2 (BT hA' hb7)⟩ ?_
        clear hK K
        have z0 : w7.cell? ⟨W6.heap.size, 0, none⟩ = some (.int .i64 0) := (hb7.cell (p := ⟨W6.heap.size, 0, none⟩) (by simp)).trans (by simp [go_sem])
        have z1 : w7.cell? ⟨W6.heap.size, 1, none⟩ = some (.int .i64 0) := (hb7.cell (p := ⟨W6.heap.size, 1, none⟩) (by simp)).trans (by simp [go_sem])
        have z2 : w7.frozen? ⟨W6.heap.size, 0, none⟩ = false := (hb7.frozen (p := ⟨W6.heap.size, 0, none⟩) (by simp)).trans (by simp)
        have z3 : w7.frozen? ⟨W6.heap.size, 1, none⟩ = false := (hb7.frozen (p := ⟨W6.heap.size, 1, none⟩) (by simp)).trans (by simp)
        have hB7 : Below W6.heap.size W6 ((w7.setCell ⟨W6.heap.size, 0, none⟩ (.int .i64 s1)).setCell ⟨W6.heap.size, 1, none⟩ (.int .i64 s2)) := by
          have hh7 := BT hA hb7
          (repeat (first | assumption | exact Below.refl _ _ | refine BA ?_ _ | refine BC ?_ _ _ (by omega) _ | refine Below.drew ?_ | refine BT ?_ (by assumption)))
        have hS7 : ((w7.setCell ⟨W6.heap.size, 0, none⟩ (.int .i64 s1)).setCell ⟨W6.heap.size, 1, none⟩ (.int .i64 s2)).cell? ⟨S, 0, none⟩ = some (.int .i64 lo) ∧ ((w7.setCell ⟨W6.heap.size, 0, none⟩ (.int .i64 s1)).setCell ⟨W6.heap.size, 1, none⟩ (.int .i64 s2)).cell? ⟨S, 1, none⟩ = some (.int .i64 hi) := ⟨cellB q0 hB7, cellB q1 hB7⟩
        repeat (first | (refine seq_read rfl (by rfl) _ (fun w' hS => by (try dsimp only at hS); go_simp; (try with_reducible rfl)) ?_; (try simp only [Act.put, List.setIfInBounds_toArray, List.set_cons_zero, List.set_cons_succ])) | (refine seq_skip rfl (by rfl) ?_; (try simp only [Act.put, List.setIfInBounds_toArray, List.set_cons_zero, List.set_cons_succ])))
        (refine seq_do rfl (by rfl) (fun K hK => ?_); go_simp)
        refine hK _ _ hS7 ?_
        clear hK K hS7
        repeat (first | (refine seq_read rfl (by rfl) _ (fun w' hS => by (try dsimp only at hS); go_simp; (try with_reducible rfl)) ?_; (try simp only [Act.put, List.setIfInBounds_toArray, List.set_cons_zero, List.set_cons_succ])) | (refine seq_skip rfl (by rfl) ?_; (try simp only [Act.put, List.setIfInBounds_toArray, List.set_cons_zero, List.set_cons_succ])))
        apply seq_end
        go_wp2_with fail
        go_meet
        exact ⟨W6.heap.size, rfl, rfl, ⟨by simp [go_sem, z0], by simp [go_sem, z1]⟩, hB7⟩
    case rest =>
      obtain ⟨g, rfl, rfl, HG, hb8⟩ := hcut
      have HK8 := Lib.hid (HK6.out.grown hb8)
      have HP8 := Lib.hid (HP6.out.grown hb8)
      have HL8 := Lib.hid (HL6.out.grown hb8)
      have HH8 := Lib.hid (HH6.out.grown hb8)
      have hB8 := BT hB6 hb8
      have hAL := newB wc (.cells #[.int .i64 (lo - 1), .int .i64 (hi + 1)] 3)
      have HE8 := Lib.hid (two_at wc (lo - 1) (hi + 1) 3)
      have HKL := Lib.hid (HK8.out.grown hAL)
      have hBL := BT hB8 hAL
      clear HQ hwt hd6 HK6 HP6 HL6 HH6 hB6 hb8 q0 q1 hAL
      obtain ⟨⟨c0, c1, c2, c3, c4, c5, c6, hh⟩, hC4, q0, q1⟩ := HK8.out
      obtain ⟨p0, p1⟩ := HP8.out
      obtain ⟨l0, l3⟩ := HL8.out
      obtain ⟨h0, h3⟩ := HH8.out
      obtain ⟨g0, g1⟩ := HG
      clear hh HK8 HP8 HL8 HH8 hB8

      go_wp2_with fail
      clear c0 c1 c2 c3 c4 c5 c6 hC4 q0 q1 p0 p1 l0 l3 h0 h3 g0 g1 t1 t2 t3

      generalize wc.heap.size = E at *
      generalize wc.alloc (.cells #[.int .i64 (lo - 1), .int .i64 (hi + 1)] 3) = WL at *
      go_loopw [171] (fun i wr => ∃ k : Nat, k ≤ 2 ∧ i = .int .i64 k ∧ Below WL.heap.size WL wr) (fun i _ => 2 - (intOf i).toNat)
      case atStart => exact ⟨0, by omega, rfl, Below.refl _ _⟩
      case round =>
        obtain ⟨k, hk, rfl, hBr⟩ := hrel
        have HKr := Lib.hid (HKL.out.grown hBr)
        obtain ⟨⟨c0, c1, c2, c3, c4, c5, c6, hh⟩, hC4, q0, q1⟩ := HKr.out
        have e0 := cellB HE8.out.1 hBr
        have e1 := cellB HE8.out.2 hBr
        have hBw := BT hBL hBr
        clear hh c0 c1 c2 c3 c6 q0 q1 hC4
        have hk3 : k = 0 ∨ k = 1 ∨ k = 2 := by omega
        rcases hk3 with rfl | rfl | rfl
        · have d2 : decide (lo - 1 > h.sHi) = false := by simp; omega
          by_cases hd : lo - 1 < h.sLo
          · have d1 : decide (lo - 1 < h.sLo) = true := by simpa using hd
            go_wp2
            go_roundw
            case rel => exact ⟨1, by omega, by go_num, hBr⟩
            case measure => simp [intOf]
          · have d1 : decide (lo - 1 < h.sLo) = false := by simpa using hd
            obtain ⟨cc, hc1, hc2⟩ := HE.out.out (lo - 1) (by omega) (by omega)
            have hwi := with_tup HKr.out hc1
            go_wp2_with fail
            refine hwi.mono ?_
            rintro e w9 ⟨rfl, hb9⟩
            clear hwi hc1
            rcases hc2 with rfl | rfl
            all_goals
              go_wp2
              go_roundw
              case rel => exact ⟨1, by omega, by go_num, by (repeat (first | assumption | exact Below.refl _ _ | refine BA ?_ _ | refine BC ?_ _ _ (by omega) _ | refine Below.drew ?_ | refine BT ?_ (by assumption)))⟩
              case measure => simp [intOf]
        · have d2 : decide (hi + 1 < h.sLo) = false := by simp; omega
          by_cases hd : hi + 1 > h.sHi
          · have d1 : decide (hi + 1 > h.sHi) = true := by simpa using hd
            go_wp2
            go_roundw
            case rel => exact ⟨2, by omega, by go_num, hBr⟩
            case measure => simp [intOf]
          · have d1 : decide (hi + 1 > h.sHi) = false := by simpa using hd
            obtain ⟨cc, hc1, hc2⟩ := HE.out.out (hi + 1) (by omega) (by omega)
            have hwi := with_tup HKr.out hc1
            go_wp2_with fail
            refine hwi.mono ?_
            rintro e w9 ⟨rfl, hb9⟩
            clear hwi hc1
            rcases hc2 with rfl | rfl
            all_goals
              go_wp2
              go_roundw
              case rel => exact ⟨2, by omega, by go_num, by (repeat (first | assumption | exact Below.refl _ _ | refine BA ?_ _ | refine BC ?_ _ _ (by omega) _ | refine Below.drew ?_ | refine BT ?_ (by assumption)))⟩
              case measure => simp [intOf]
        · go_wp2_with fail
          refine (alive_any _).mono ?_
          rintro e w9 ⟨rfl, hb9⟩
          go_wp2
          go_ret
          exact ⟨rfl, BT hBw hb9⟩

  · obtain ⟨⟨c0, c1, c2, c3, c4, c5, c6, hh⟩, hC4, q0, q1⟩ := HK4.out
    clear hh
    have hw := with_tup HK4.out HE.out.low
    go_wp2_with fail
    generalize w4.heap.size = p at *
    generalize w4.alloc (.cells #[.int .i64 P, .int .i64 Q] 24) = W4 at *
    refine hw.mono ?_
    rintro e w5 ⟨rfl, hb5⟩
    have hA5 := BT hb5 (newB w5 (.cells #[.int .i64 l1, .int .i64 l2] 24))
    have HK5 := Lib.hid (HK4.out.grown hA5)
    have hB5 := BT hB4 hA5
    have HP5 := Lib.hid (HP4.out.grown hA5)
    have HL5 : Hid (Two w5.heap.size l1 l2 (w5.alloc (.cells #[.int .i64 l1, .int .i64 l2] 24))) := two_at w5 l1 l2 24
    clear hw HK4 HP4 hB4 hb5 hA5 c0 c1 c2 c3 c4 c5 c6 hC4 q0 q1
    obtain ⟨⟨c0, c1, c2, c3, c4, c5, c6, hh⟩, hC4, q0, q1⟩ := HK5.out
    clear hh
    have hw := with_tup HK5.out HE.out.high
    go_wp2_with fail
    generalize w5.heap.size = lb at *
    generalize w5.alloc (.cells #[.int .i64 l1, .int .i64 l2] 24) = W5 at *
    refine hw.mono ?_
    rintro e w6 ⟨rfl, hb6⟩
    have hA6 := BT hb6 (newB w6 (.cells #[.int .i64 h1, .int .i64 h2] 24))
    have HK6 := Lib.hid (HK5.out.grown hA6)
    have hB6 := BT hB5 hA6
    have HP6 := Lib.hid (HP5.out.grown hA6)
    have HL6 := Lib.hid (HL5.out.grown hA6)
    have HH6 : Hid (Two w6.heap.size h1 h2 (w6.alloc (.cells #[.int .i64 h1, .int .i64 h2] 24))) := two_at w6 h1 h2 24
    clear hw HK5 HP5 HL5 hB5 hb6 hA6 c0 c1 c2 c3 c4 c5 c6 hC4 q0 q1
    obtain ⟨⟨c0, c1, c2, c3, c4, c5, c6, hh⟩, hC4, q0, q1⟩ := HK6.out
    clear hh
    go_upto_region 14 with fail
    generalize w6.heap.size = hb at *
    generalize w6.alloc (.cells #[.int .i64 h1, .int .i64 h2] 24) = W6 at *
    have HQ : Hid (W6.drew.cell? ⟨S, 0, none⟩ = some (.int .i64 lo) ∧ W6.drew.cell? ⟨S, 1, none⟩ = some (.int .i64 hi)) := ⟨q0, q1⟩
    have hwt : Hid (∀ Y, Below W6.heap.size W6 Y → Calls Try.prog 38 #[.int .i64 (lo + y % (hi - lo + 1)), .pointer (some ⟨B, 0, none⟩), .pointer (some ⟨B + 1, 0, none⟩)] Y (Ret (.tuple #[.agg #[.int .i64 s1, .int .i64 s2], .int .i64 12]) Y)) := fun Y hY => with_tup (HK6.out.grown hY) HE.out.some
    have hd6 : Below W6.heap.size W6 W6.drew := Below.drew (Below.refl _ _)
    clear c0 c1 c2 c3 c4 c5 c6 hC4
    go_cut [16, 17] (fun a16 a17 X => ∃ g : Nat, a16 = .pointer (some ⟨g, 0, none⟩) ∧ a17 = .int .i64 12 ∧ Two g s1 s2 X ∧ Below W6.heap.size W6 X)
    case first =>
      refine wp_region_fork [(0, true), (1, true), (2, true), (3, true), (4, true), (5, true), (6, true), (7, true), (8, true), (9, true), (10, true), (11, true), (12, true)] [(13, false), (14, true), (15, true), (16, true), (17, false), (18, false), (19, true)] [(17, false), (13, false), (14, true), (15, true), (16, true), (18, false), (19, true)]
        (fun w' => w'.cell? ⟨S, 0, none⟩ = some (.int .i64 lo) ∧ w'.cell? ⟨S, 1, none⟩ = some (.int .i64 hi)) (by kernel_rfl) (by kernel_rfl) (fun _ _ d _ _ h => by cases d <;> exact h) HQ.out ?_
      have k1 : IntKind.i64.wrap (hi - lo) = hi - lo := IntWalk.i64_in _ (by omega)
      have k2 : IntKind.i64.wrap (hi - lo + 1) = hi - lo + 1 := IntWalk.i64_in _ (by omega)
      have k3 : ¬ (hi - lo + 1 = 0) := by omega
      have k4 : y.tmod (hi - lo + 1) = y % (hi - lo + 1) := Int.tmod_eq_emod_of_nonneg hy0
      have k5 : IntKind.i64.wrap (lo + y % (hi - lo + 1)) = lo + y % (hi - lo + 1) := IntWalk.i64_in _ (by omega)
      have k6 : IntKind.i64.wrap y = y := IntWalk.i64_in _ (by omega)
      repeat (first | (refine seq_read rfl (by rfl) _ (fun w' hS => by (try dsimp only at hS); go_simp; (try with_reducible rfl)) ?_; (try simp only [Act.put, List.setIfInBounds_toArray, List.set_cons_zero, List.set_cons_succ])) | (refine seq_skip rfl (by rfl) ?_; (try simp only [Act.put, List.setIfInBounds_toArray, List.set_cons_zero, List.set_cons_succ])))
      apply seq_end
      clear k1 k2 k3 k4 k5 k6
      intro hSd
      constructor
      · (refine seq_do rfl (by rfl) (fun K hK => ?_); go_simp)
        refine (hwt.out _ hd6).mono ?_
        rintro e w7 ⟨rfl, hb7⟩
        refine hK _ _ ⟨cellB HQ.out.1 hb7, cellB HQ.out.2 hb7⟩ ?_
        clear hK K hSd
        repeat (first | (refine seq_read rfl (by rfl) _ (fun w' hS => by (try dsimp only at hS); go_simp; (try with_reducible rfl)) ?_; (try simp only [Act.put, List.setIfInBounds_toArray, List.set_cons_zero, List.set_cons_succ])) | (refine seq_skip rfl (by rfl) ?_; (try simp only [Act.put, List.setIfInBounds_toArray, List.set_cons_zero, List.set_cons_succ])))
        (refine seq_do rfl (by rfl) (fun K hK => ?_); go_simp)
        refine hK _ _ ⟨cellB HQ.out.1 (BT hb7 (newB _ _)), cellB HQ.out.2 (BT hb7 (newB _ _))⟩ ?_
        clear hK K
        repeat (first | (refine seq_read rfl (by rfl) _ (fun w' hS => by (try dsimp only at hS); go_simp; (try with_reducible rfl)) ?_; (try simp only [Act.put, List.setIfInBounds_toArray, List.set_cons_zero, List.set_cons_succ])) | (refine seq_skip rfl (by rfl) ?_; (try simp only [Act.put, List.setIfInBounds_toArray, List.set_cons_zero, List.set_cons_succ])))
        (refine seq_do rfl (by rfl) (fun K hK => ?_); go_simp)
        refine hK _ _ ⟨cellB HQ.out.1 (BT hb7 (newB _ _)), cellB HQ.out.2 (BT hb7 (newB _ _))⟩ ?_
        clear hK K
        repeat (first | (refine seq_read rfl (by rfl) _ (fun w' hS => by (try dsimp only at hS); go_simp; (try with_reducible rfl)) ?_; (try simp only [Act.put, List.setIfInBounds_toArray, List.set_cons_zero, List.set_cons_succ])) | (refine seq_skip rfl (by rfl) ?_; (try simp only [Act.put, List.setIfInBounds_toArray, List.set_cons_zero, List.set_cons_succ])))
        apply seq_end
        go_wp2_with fail
        go_meet
        exact ⟨w7.heap.size, rfl, rfl, two_at w7 s1 s2 24, BT (BT hd6 hb7) (newB _ _)⟩
      · (refine seq_do rfl (by rfl) (fun K hK => ?_); go_simp)
        have hA : Below W6.heap.size W6 (W6.alloc (.cells #[.int .i64 0, .int .i64 0] 24)).drew := Below.drew (newB W6 (.cells #[.int .i64 0, .int .i64 0] 24))
        have hA' : Below W6.drew.heap.size W6.drew (W6.alloc (.cells #[.int .i64 0, .int .i64 0] 24)).drew := newB W6.drew (.cells #[.int .i64 0, .int .i64 0] 24)
        refine hK _ _ ⟨cellB HQ.out.1 hA', cellB HQ.out.2 hA'⟩ ?_
        clear hK K hSd
        repeat (first | (refine seq_read rfl (by rfl) _ (fun w' hS => by (try dsimp only at hS); go_simp; (try with_reducible rfl)) ?_; (try simp only [Act.put, List.setIfInBounds_toArray, List.set_cons_zero, List.set_cons_succ])) | (refine seq_skip rfl (by rfl) ?_; (try simp only [Act.put, List.setIfInBounds_toArray, List.set_cons_zero, List.set_cons_succ])))
        (refine seq_do rfl (by rfl) (fun K hK => ?_); go_simp)
        refine (hwt.out _ hA).mono ?_
        rintro e w7 ⟨rfl, hb7⟩
        refine hK _ _ ⟨cellB HQ.out.1 (BT hA' hb7), cellB HQ.out.2 (BT hA' hb7)⟩ ?_
        clear hK K
        have z0 : w7.cell? ⟨W6.heap.size, 0, none⟩ = some (.int .i64 0) := (hb7.cell (p := ⟨W6.heap.size, 0, none⟩) (by simp)).trans (by simp [go_sem])
        have z1 : w7.cell? ⟨W6.heap.size, 1, none⟩ = some (.int .i64 0) := (hb7.cell (p := ⟨W6.heap.size, 1, none⟩) (by simp)).trans (by simp [go_sem])
        have z2 : w7.frozen? ⟨W6.heap.size, 0, none⟩ = false := (hb7.frozen (p := ⟨W6.heap.size, 0, none⟩) (by simp)).trans (by simp)
        have z3 : w7.frozen? ⟨W6.heap.size, 1, none⟩ = false := (hb7.frozen (p := ⟨W6.heap.size, 1, none⟩) (by simp)).trans (by simp)
        have hB7 : Below W6.heap.size W6 ((w7.setCell ⟨W6.heap.size, 0, none⟩ (.int .i64 s1)).setCell ⟨W6.heap.size, 1, none⟩ (.int .i64 s2)) := by
          have hh7 := BT hA hb7
          (repeat (first | assumption | exact Below.refl _ _ | refine BA ?_ _ | refine BC ?_ _ _ (by omega) _ | refine Below.drew ?_ | refine BT ?_ (by assumption)))
        have hS7 : ((w7.setCell ⟨W6.heap.size, 0, none⟩ (.int .i64 s1)).setCell ⟨W6.heap.size, 1, none⟩ (.int .i64 s2)).cell? ⟨S, 0, none⟩ = some (.int .i64 lo) ∧ ((w7.setCell ⟨W6.heap.size, 0, none⟩ (.int .i64 s1)).setCell ⟨W6.heap.size, 1, none⟩ (.int .i64 s2)).cell? ⟨S, 1, none⟩ = some (.int .i64 hi) := ⟨cellB q0 hB7, cellB q1 hB7⟩
        repeat (first | (refine seq_read rfl (by rfl) _ (fun w' hS => by (try dsimp only at hS); go_simp; (try with_reducible rfl)) ?_; (try simp only [Act.put, List.setIfInBounds_toArray, List.set_cons_zero, List.set_cons_succ])) | (refine seq_skip rfl (by rfl) ?_; (try simp only [Act.put, List.setIfInBounds_toArray, List.set_cons_zero, List.set_cons_succ])))
        (refine seq_do rfl (by rfl) (fun K hK => ?_); go_simp)
        refine hK _ _ hS7 ?_
        clear hK K hS7
        repeat (first | (refine seq_read rfl (by rfl) _ (fun w' hS => by (try dsimp only at hS); go_simp; (try with_reducible rfl)) ?_; (try simp only [Act.put, List.setIfInBounds_toArray, List.set_cons_zero, List.set_cons_succ])) | (refine seq_skip rfl (by rfl) ?_; (try simp only [Act.put, List.setIfInBounds_toArray, List.set_cons_zero, List.set_cons_succ])))
        apply seq_end
        go_wp2_with fail
        go_meet
        exact ⟨W6.heap.size, rfl, rfl, ⟨by simp [go_sem, z0], by simp [go_sem, z1]⟩, hB7⟩
    case rest =>
      obtain ⟨g, rfl, rfl, HG, hb8⟩ := hcut
      have HK8 := Lib.hid (HK6.out.grown hb8)
      have HP8 := Lib.hid (HP6.out.grown hb8)
      have HL8 := Lib.hid (HL6.out.grown hb8)
      have HH8 := Lib.hid (HH6.out.grown hb8)
      have hB8 := BT hB6 hb8
      have hAL := newB wc (.cells #[.int .i64 (lo - 1), .int .i64 (hi + 1)] 3)
      have HE8 := Lib.hid (two_at wc (lo - 1) (hi + 1) 3)
      have HKL := Lib.hid (HK8.out.grown hAL)
      have hBL := BT hB8 hAL
      clear HQ hwt hd6 HK6 HP6 HL6 HH6 hB6 hb8 q0 q1 hAL
      obtain ⟨⟨c0, c1, c2, c3, c4, c5, c6, hh⟩, hC4, q0, q1⟩ := HK8.out
      obtain ⟨p0, p1⟩ := HP8.out
      obtain ⟨l0, l3⟩ := HL8.out
      obtain ⟨h0, h3⟩ := HH8.out
      obtain ⟨g0, g1⟩ := HG
      clear hh HK8 HP8 HL8 HH8 hB8

      go_wp2_with fail
      clear c0 c1 c2 c3 c4 c5 c6 hC4 q0 q1 p0 p1 l0 l3 h0 h3 g0 g1 t1 t2 t3

      generalize wc.heap.size = E at *
      generalize wc.alloc (.cells #[.int .i64 (lo - 1), .int .i64 (hi + 1)] 3) = WL at *
      go_loopw [171] (fun i wr => ∃ k : Nat, k ≤ 2 ∧ i = .int .i64 k ∧ Below WL.heap.size WL wr) (fun i _ => 2 - (intOf i).toNat)
      case atStart => exact ⟨0, by omega, rfl, Below.refl _ _⟩
      case round =>
        obtain ⟨k, hk, rfl, hBr⟩ := hrel
        have HKr := Lib.hid (HKL.out.grown hBr)
        obtain ⟨⟨c0, c1, c2, c3, c4, c5, c6, hh⟩, hC4, q0, q1⟩ := HKr.out
        have e0 := cellB HE8.out.1 hBr
        have e1 := cellB HE8.out.2 hBr
        have hBw := BT hBL hBr
        clear hh c0 c1 c2 c3 c6 q0 q1 hC4
        have hk3 : k = 0 ∨ k = 1 ∨ k = 2 := by omega
        rcases hk3 with rfl | rfl | rfl
        · have d2 : decide (lo - 1 > h.sHi) = false := by simp; omega
          by_cases hd : lo - 1 < h.sLo
          · have d1 : decide (lo - 1 < h.sLo) = true := by simpa using hd
            go_wp2
            go_roundw
            case rel => exact ⟨1, by omega, by go_num, hBr⟩
            case measure => simp [intOf]
          · have d1 : decide (lo - 1 < h.sLo) = false := by simpa using hd
            obtain ⟨cc, hc1, hc2⟩ := HE.out.out (lo - 1) (by omega) (by omega)
            have hwi := with_tup HKr.out hc1
            go_wp2_with fail
            refine hwi.mono ?_
            rintro e w9 ⟨rfl, hb9⟩
            clear hwi hc1
            rcases hc2 with rfl | rfl
            all_goals
              go_wp2
              go_roundw
              case rel => exact ⟨1, by omega, by go_num, by (repeat (first | assumption | exact Below.refl _ _ | refine BA ?_ _ | refine BC ?_ _ _ (by omega) _ | refine Below.drew ?_ | refine BT ?_ (by assumption)))⟩
              case measure => simp [intOf]
        · have d2 : decide (hi + 1 < h.sLo) = false := by simp; omega
          by_cases hd : hi + 1 > h.sHi
          · have d1 : decide (hi + 1 > h.sHi) = true := by simpa using hd
            go_wp2
            go_roundw
            case rel => exact ⟨2, by omega, by go_num, hBr⟩
            case measure => simp [intOf]
          · have d1 : decide (hi + 1 > h.sHi) = false := by simpa using hd
            obtain ⟨cc, hc1, hc2⟩ := HE.out.out (hi + 1) (by omega) (by omega)
            have hwi := with_tup HKr.out hc1
            go_wp2_with fail
            refine hwi.mono ?_
            rintro e w9 ⟨rfl, hb9⟩
            clear hwi hc1
            rcases hc2 with rfl | rfl
            all_goals
              go_wp2
              go_roundw
              case rel => exact ⟨2, by omega, by go_num, by (repeat (first | assumption | exact Below.refl _ _ | refine BA ?_ _ | refine BC ?_ _ _ (by omega) _ | refine Below.drew ?_ | refine BT ?_ (by assumption)))⟩
              case measure => simp [intOf]
        · go_wp2_with fail
          refine (alive_any _).mono ?_
          rintro e w9 ⟨rfl, hb9⟩
          go_wp2
          go_ret
          exact ⟨rfl, BT hBw hb9⟩

end Go.Proofs.Ytmfbkgdlfackcaa
