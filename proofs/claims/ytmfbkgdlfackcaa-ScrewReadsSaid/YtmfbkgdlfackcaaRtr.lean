/- The reference's powers, sets and travels. -/
import Derived.Test.YtmfbkgdlfackcaaRla
import Derived.Test.YtmfbkgdlfackcaaSem
namespace Go.Proofs.Ytmfbkgdlfackcaa
open Go.RowKit

theorem pow_le {k n : Nat} (h : k ≤ n) (hn : n ≤ 30) : (1 : Int) ≤ 2 ^ k ∧ (2 : Int) ^ k ≤ 1073741824 := by
  have : ∀ k : Fin 31, (1 : Int) ≤ 2 ^ k.val ∧ (2 : Int) ^ k.val ≤ 1073741824 := by decide
  exact this ⟨k, by omega⟩
set_option maxHeartbeats 1000000 in
theorem power_any (n : Nat) (hn : n ≤ 30) (w : World) : Calls Try.prog 81 #[.int .i64 n] w (Ret (.int .i64 (2 ^ n)) w) := by
  have hn0 : (n : Int) ≤ 30 := by omega
  go_enter Try.func81, Try.ntmps81
  go_wp2_with fail
  go_loopw [3, 4] (fun o i wr => ∃ k : Nat, k ≤ n ∧ i = .int .i64 k ∧ o = .int .i64 (2 ^ k) ∧ Below w.heap.size w wr) (fun _ i _ => n - (intOf i).toNat)
  case atStart => exact ⟨0, by omega, rfl, rfl, Below.refl _ _⟩
  case round =>
    obtain ⟨k, hk, rfl, rfl, hB⟩ := hrel
    obtain ⟨p0, p1⟩ := pow_le hk hn
    have hk0 : (0 : Int) ≤ (k : Int) := by omega
    by_cases hlt : k < n
    · have hp : Hid ((2 : Int) ^ (k + 1) = 2 * 2 ^ k) := by show _ = _; rw [Int.pow_succ, Int.mul_comm]
      generalize (2 : Int) ^ k = q at *
      go_wp2
      go_roundw
      case rel => exact ⟨k + 1, by omega, by go_num, by rw [hp.out], hB⟩
      case measure => simp [intOf]; omega
    · obtain rfl : k = n := by omega
      go_wp2
      go_ret
      exact ⟨rfl, hB⟩
def hasB (set : Int) (i : Nat) : Bool := set / 2 ^ i % 2 == 1
set_option maxHeartbeats 1000000 in
theorem has_anyR (set : Int) (i : Nat) (hs : 0 ≤ set ∧ set ≤ 1000000) (hi : i ≤ 30) (w : World) : Calls Try.prog 103 #[.int .i64 set, .int .i64 i] w (Ret (.bool (hasB set i)) w) := by
  obtain ⟨hs0, hs1⟩ := hs
  obtain ⟨p0, p1⟩ := pow_le (Nat.le_refl i) hi
  have hH : Hid (hasB set i = (set / 2 ^ i % 2 == 1)) := rfl
  have hp := Lib.hid (power_any i hi)
  generalize hasB set i = b at *
  generalize (2 : Int) ^ i = q at *
  have hd0 : 0 ≤ set / q := Int.ediv_nonneg hs0 (by omega)
  go_enter Try.func103, Try.ntmps103
  go_wp2_with fail
  refine (hp.out _).mono ?_
  rintro e w1 ⟨rfl, hb1⟩
  go_wp2
  go_ret
  exact ⟨by rw [hH.out]; rfl, hb1⟩
set_option maxRecDepth 100000 in
set_option maxHeartbeats 1000000 in
theorem travels_any (a : Option Addr) (cap : Nat) (xs : List (Int × Int)) (eLo eHi r : Int) (w : World) (hx : Spans w a xs) (hl : xs.length ≤ 100) (he : -100 ≤ eLo ∧ eHi ≤ 100 ∧ eLo ≤ eHi) (hev : evB (-100) 100 xs = true) (hr : 0 ≤ r ∧ r / 1000 < xs.length) :
    Calls Try.prog 56 #[.agg #[.slice a xs.length cap, .int .i64 eLo, .int .i64 eHi], .int .i64 r] w (Ret (.agg #[.int .i64 (trav r (xs.getD (r / 1000).toNat (0, 0)).1 eLo), .int .i64 (trav r (xs.getD (r / 1000).toNat (0, 0)).2 eHi)]) w) := by
  obtain ⟨hr0, hr1⟩ := hr
  obtain ⟨he0, he1, he2⟩ := he
  have hk : (r / 1000).toNat < xs.length := by omega
  obtain ⟨v1, v2, v3⟩ := evB_at hev hk
  have hrn : r < 100000 := by omega
  have hq : Hid (((r / 1000).toNat : Int) = r / 1000) := by show _ = _; omega
  rcases hx with h | ⟨b, o, rfl, hb, hc⟩
  · rw [h] at hk; simp at hk
  obtain ⟨d0, d1⟩ := hc _ hk
  clear hc hev
  have hT1 := Lib.hid (trav_eq (r := r) (lo := (xs.getD (r / 1000).toNat (0, 0)).1) (e := eLo) (by omega) (by omega) (by omega))
  have hT2 := Lib.hid (trav_eq (r := r) (lo := (xs.getD (r / 1000).toNat (0, 0)).2) (e := eHi) (by omega) (by omega) (by omega))
  generalize trav r (xs.getD (r / 1000).toNat (0, 0)).1 eLo = t1 at *
  generalize trav r (xs.getD (r / 1000).toNat (0, 0)).2 eHi = t2 at *
  generalize (xs.getD (r / 1000).toNat (0, 0)).1 = l at *
  generalize (xs.getD (r / 1000).toNat (0, 0)).2 = h at *
  generalize xs.length = n at *
  obtain ⟨k, hkr⟩ : ∃ k : Nat, (r / 1000).toNat = k := ⟨_, rfl⟩
  rw [hkr] at d0 d1 hq hk
  have hkk : r / 1000 = (k : Int) := by omega
  clear hkr hq
  have hk0 : (0 : Int) ≤ (k : Int) := by omega
  go_enter Try.func56, Try.ntmps56
  go_wp2
  exact bodyPost_ret (v := .agg #[.int .i64 (r + l + eLo), .int .i64 (r + h + eHi)]) (by simp [results, Try.results56, go_sem]) rfl ⟨by rw [hT1.out, hT2.out], by (repeat (first | assumption | exact Below.refl _ _ | refine BA ?_ _ | refine BC ?_ _ _ (by omega) _ | refine Below.drew ?_ | refine BT ?_ (by assumption)))⟩
set_option maxRecDepth 100000 in
set_option maxHeartbeats 1000000 in
theorem travelR_any (a : Option Addr) (cap : Nat) (xs : List (Int × Int)) (eLo eHi r : Int) (w : World) (hx : Spans w a xs) (hl : xs.length ≤ 100) :
    Calls Try.prog 17 #[.agg #[.slice a xs.length cap, .int .i64 eLo, .int .i64 eHi], .int .i64 r] w (Ret (reply (travelR xs eLo eHi r)) w) := by
  have hZ : Below w.heap.size w ((w.alloc (.cells #[.slice a xs.length cap, .int .i64 eLo, .int .i64 eHi] 26)).alloc (.cells #[.int .i64 0, .int .i64 0] 24)) := by (repeat (first | assumption | exact Below.refl _ _ | refine BA ?_ _ | refine BC ?_ _ _ (by omega) _ | refine Below.drew ?_ | refine BT ?_ (by assumption)))
  have hI0 : InS ((w.alloc (.cells #[.slice a xs.length cap, .int .i64 eLo, .int .i64 eHi] 26)).alloc (.cells #[.int .i64 0, .int .i64 0] 24)) w.heap.size a xs.length cap eLo eHi := ⟨by simp [go_sem], by simp [go_sem], by simp [go_sem]⟩
  have hS0 : Slots (w.heap.size + 1) 2 ((w.alloc (.cells #[.slice a xs.length cap, .int .i64 eLo, .int .i64 eHi] 26)).alloc (.cells #[.int .i64 0, .int .i64 0] 24)) := by
    intro o ho
    have : o = 0 ∨ o = 1 := by omega
    rcases this with rfl | rfl <;> simp [go_sem]
  have hs0 : w.heap.size + 1 < ((w.alloc (.cells #[.slice a xs.length cap, .int .i64 eLo, .int .i64 eHi] 26)).alloc (.cells #[.int .i64 0, .int .i64 0] 24)).heap.size := by simp
  have hX := hx.below (Nat.le_refl _) hZ
  have hsc := screwR_any a xs cap eLo eHi _ hl hX
  have hrd := fun W => readingR_any a xs.length cap eLo eHi r W hl
  have hV : Hid (∀ b, validB xs eLo eHi = true → hasTrn xs.length r = b → reply (travelR xs eLo eHi r) = if b then .tuple #[.agg #[.int .i64 (trav r (xs.getD (r / 1000).toNat (0, 0)).1 eLo), .int .i64 (trav r (xs.getD (r / 1000).toNat (0, 0)).2 eHi)], .int .i64 0] else .tuple #[.agg #[.int .i64 0, .int .i64 0], .int .i64 2]) := fun b h1 h2 => by
    unfold travelR; rw [if_pos h1, h2]; cases b <;> rfl
  have hV0 : Hid (validB xs eLo eHi = false → reply (travelR xs eLo eHi r) = .tuple #[.agg #[.int .i64 0, .int .i64 0], .int .i64 1]) := fun h1 => by
    unfold travelR; rw [if_neg (by rw [h1]; decide)]; rfl
  have htr : Hid (∀ W, Spans W a xs → validB xs eLo eHi = true → hasTrn xs.length r = true → Calls Try.prog 56 #[.agg #[.slice a xs.length cap, .int .i64 eLo, .int .i64 eHi], .int .i64 r] W (Ret (.agg #[.int .i64 (trav r (xs.getD (r / 1000).toNat (0, 0)).1 eLo), .int .i64 (trav r (xs.getD (r / 1000).toNat (0, 0)).2 eHi)]) W)) := fun W hX h1 h2 => by
    simp only [validB, holdB, Bool.and_eq_true, decide_eq_true_eq] at h1
    simp only [hasTrn, Bool.and_eq_true, decide_eq_true_eq] at h2
    exact travels_any a cap xs eLo eHi r W hX hl (by omega) h1.1.2 h2
  generalize reply (travelR xs eLo eHi r) = R at *
  generalize trav r (xs.getD (r / 1000).toNat (0, 0)).1 eLo = t1 at *
  generalize trav r (xs.getD (r / 1000).toNat (0, 0)).2 eHi = t2 at *
  obtain ⟨c0, c1, c2⟩ := hI0
  have hl0 : (xs.length : Int) ≤ 100 := by omega
  go_enter Try.func17, Try.ntmps17
  go_wp2_with fail
  generalize hBw : w.heap.size = B at c0 c1 c2 hS0 hs0 ⊢
  have hwB : w.heap.size ≤ B + 1 := by omega
  clear hBw
  generalize (w.alloc (.cells #[.slice a xs.length cap, .int .i64 eLo, .int .i64 eHi] 26)).alloc (.cells #[.int .i64 0, .int .i64 0] 24) = W at *
  refine hsc.mono ?_
  rintro e w1 ⟨rfl, hb1⟩
  have d0 := cellB c0 hb1
  have d1 := cellB c1 hb1
  have d2 := cellB c2 hb1
  have hS1 := hS0.below hb1 hs0
  have hB1 := BT hZ hb1
  have hX1 := hX.below (Nat.le_refl _) hb1
  have hs1 : B + 1 < w1.heap.size := Nat.lt_of_lt_of_le hs0 hb1.size
  clear hsc c0 c1 c2 hS0 hs0 hX hZ
  cases h1 : validB xs eLo eHi
  · have H1 := Lib.hid h1; clear h1
    obtain ⟨v0, u0, f0⟩ := hS1.get 0 (by omega)
    obtain ⟨v1, u1, f1⟩ := hS1.get 1 (by omega)
    go_wp2
    exact bodyPost_ret (v := .tuple #[.agg #[.int .i64 0, .int .i64 0], .int .i64 1]) (by simp [results, Try.results17, go_sem, u0, u1]) rfl ⟨by rw [hV0.out H1.out], by (repeat (first | assumption | exact Below.refl _ _ | refine BA ?_ _ | refine BC ?_ _ _ (by omega) _ | refine Below.drew ?_ | refine BT ?_ (by assumption)))⟩
  have H1 := Lib.hid h1; clear h1
  go_wp2_with fail
  refine (hrd _).mono ?_
  rintro e w2 ⟨rfl, hb2⟩
  have e0 := cellB d0 hb2
  have e1 := cellB d1 hb2
  have e2 := cellB d2 hb2
  have hS2 := hS1.below hb2 hs1
  have hB2 := BT hB1 hb2
  have hX2 := hX1.below (Nat.le_refl _) hb2
  have hs2 : B + 1 < w2.heap.size := Nat.lt_of_lt_of_le hs1 hb2.size
  clear hrd d0 d1 d2 hS1 hs1 hX1 hB1 hb1 hb2
  cases h2 : hasTrn xs.length r
  · have H2 := Lib.hid h2; clear h2
    obtain ⟨v0, u0, f0⟩ := hS2.get 0 (by omega)
    obtain ⟨v1, u1, f1⟩ := hS2.get 1 (by omega)
    go_wp2
    exact bodyPost_ret (v := .tuple #[.agg #[.int .i64 0, .int .i64 0], .int .i64 2]) (by simp [results, Try.results17, go_sem, u0, u1]) rfl ⟨by rw [hV.out _ H1.out H2.out]; rfl, by (repeat (first | assumption | exact Below.refl _ _ | refine BA ?_ _ | refine BC ?_ _ _ (by omega) _ | refine Below.drew ?_ | refine BT ?_ (by assumption)))⟩
  have H2 := Lib.hid h2; clear h2
  have ht := htr.out w2 hX2 H1.out H2.out
  go_wp2_with fail
  refine ht.mono ?_
  rintro e w3 ⟨rfl, hb3⟩
  have hS3 := hS2.below hb3 hs2
  have hB3 := BT hB2 hb3
  obtain ⟨v0, u0, f0⟩ := hS3.get 0 (by omega)
  obtain ⟨v1, u1, f1⟩ := hS3.get 1 (by omega)
  clear ht e0 e1 e2 hS2 hB2 hX2
  go_wp2
  exact bodyPost_ret (v := .tuple #[.agg #[.int .i64 t1, .int .i64 t2], .int .i64 0]) (by simp [results, Try.results17, go_sem, u0, u1]) rfl ⟨by rw [hV.out _ H1.out H2.out]; rfl, by (repeat (first | assumption | exact Below.refl _ _ | refine BA ?_ _ | refine BC ?_ _ _ (by omega) _ | refine Below.drew ?_ | refine BT ?_ (by assumption)))⟩
end Go.Proofs.Ytmfbkgdlfackcaa
