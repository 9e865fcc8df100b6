/- The reference's powers, sets and travels. -/
import Derived.Test.YtmfbkgdlfackcaaRla
import Derived.Test.YtmfbkgdlfackcaaMsm
import Derived.Test.YtmfbkgdlfackcaaApi
import Derived.Test.YtmfbkgdlfackcaaSeq
namespace Go.Proofs.Ytmfbkgdlfackcaa
open Go.RowKit

theorem pow_le {k n : Nat} (h : k ≤ n) (hn : n ≤ 30) : (1 : Int) ≤ 2 ^ k ∧ (2 : Int) ^ k ≤ 1073741824 := by
  have : ∀ k : Fin 31, (1 : Int) ≤ 2 ^ k.val ∧ (2 : Int) ^ k.val ≤ 1073741824 := by decide
  exact this ⟨k, by omega⟩
set_option maxHeartbeats 1000000 in
theorem power_any (n : Nat) (hn : n ≤ 30) (w : World) : Calls Try.prog 81 #[.int .i64 n] w (Ret (.int .i64 (2 ^ n)) w) := by
  have hn0 : (n : Int) ≤ 30 := by omega
  go_enter Try.func81, Try.ntmps81
  go_wp2_with fail
  go_loopw [3, 4] (fun o i wr => ∃ k : Nat, k ≤ n ∧ i = .int .i64 k ∧ o = .int .i64 (2 ^ k) ∧ Below w.heap.size w wr) (fun _ i _ => n - (intOf i).toNat)
  case atStart => exact ⟨0, by omega, rfl, rfl, Below.refl _ _⟩
  case round =>
    obtain ⟨k, hk, rfl, rfl, hB⟩ := hrel
    obtain ⟨p0, p1⟩ := pow_le hk hn
    have hk0 : (0 : Int) ≤ (k : Int) := by omega
    by_cases hlt : k < n
    · have hp : Hid ((2 : Int) ^ (k + 1) = 2 * 2 ^ k) := by show _ = _; rw [Int.pow_succ, Int.mul_comm]
      generalize (2 : Int) ^ k = q at *
      go_wp2
      go_roundw
      case rel => exact ⟨k + 1, by omega, by go_num, by rw [hp.out], hB⟩
      case measure => simp [intOf]; omega
    · obtain rfl : k = n := by omega
      go_wp2
      go_ret
      exact ⟨rfl, hB⟩
def hasB (set : Int) (i : Nat) : Bool := set / 2 ^ i % 2 == 1
set_option maxHeartbeats 1000000 in
theorem has_anyR (set : Int) (i : Nat) (hs : 0 ≤ set ∧ set ≤ 1000000) (hi : i ≤ 30) (w : World) : Calls Try.prog 103 #[.int .i64 set, .int .i64 i] w (Ret (.bool (hasB set i)) w) := by
  obtain ⟨hs0, hs1⟩ := hs
  obtain ⟨p0, p1⟩ := pow_le (Nat.le_refl i) hi
  have hH : Hid (hasB set i = (set / 2 ^ i % 2 == 1)) := rfl
  have hp := Lib.hid (power_any i hi)
  generalize hasB set i = b at *
  generalize (2 : Int) ^ i = q at *
  have hd0 : 0 ≤ set / q := Int.ediv_nonneg hs0 (by omega)
  go_enter Try.func103, Try.ntmps103
  go_wp2_with fail
  refine (hp.out _).mono ?_
  rintro e w1 ⟨rfl, hb1⟩
  go_wp2
  go_ret
  exact ⟨by rw [hH.out]; rfl, hb1⟩
set_option maxRecDepth 100000 in
set_option maxHeartbeats 1000000 in
theorem travels_any (a : Option Addr) (cap : Nat) (xs : List (Int × Int)) (eLo eHi r : Int) (w : World) (hx : Spans w a xs) (hl : xs.length ≤ 100) (he : -100 ≤ eLo ∧ eHi ≤ 100 ∧ eLo ≤ eHi) (hev : evB (-100) 100 xs = true) (hr : 0 ≤ r ∧ r / 1000 < xs.length) :
    Calls Try.prog 56 #[.agg #[.slice a xs.length cap, .int .i64 eLo, .int .i64 eHi], .int .i64 r] w (Ret (.agg #[.int .i64 (trav r (xs.getD (r / 1000).toNat (0, 0)).1 eLo), .int .i64 (trav r (xs.getD (r / 1000).toNat (0, 0)).2 eHi)]) w) := by
  obtain ⟨hr0, hr1⟩ := hr
  obtain ⟨he0, he1, he2⟩ := he
  have hk : (r / 1000).toNat < xs.length := by omega
  obtain ⟨v1, v2, v3⟩ := evB_at hev hk
  have hrn : r < 100000 := by omega
  have hq : Hid (((r / 1000).toNat : Int) = r / 1000) := by show _ = _; omega
  rcases hx with h | ⟨b, o, rfl, hb, hc⟩
  · rw [h] at hk; simp at hk
  obtain ⟨d0, d1⟩ := hc _ hk
  clear hc hev
  have hT1 := Lib.hid (trav_eq (r := r) (lo := (xs.getD (r / 1000).toNat (0, 0)).1) (e := eLo) (by omega) (by omega) (by omega))
  have hT2 := Lib.hid (trav_eq (r := r) (lo := (xs.getD (r / 1000).toNat (0, 0)).2) (e := eHi) (by omega) (by omega) (by omega))
  generalize trav r (xs.getD (r / 1000).toNat (0, 0)).1 eLo = t1 at *
  generalize trav r (xs.getD (r / 1000).toNat (0, 0)).2 eHi = t2 at *
  generalize (xs.getD (r / 1000).toNat (0, 0)).1 = l at *
  generalize (xs.getD (r / 1000).toNat (0, 0)).2 = h at *
  generalize xs.length = n at *
  obtain ⟨k, hkr⟩ : ∃ k : Nat, (r / 1000).toNat = k := ⟨_, rfl⟩
  rw [hkr] at d0 d1 hq hk
  have hkk : r / 1000 = (k : Int) := by omega
  clear hkr hq
  have hk0 : (0 : Int) ≤ (k : Int) := by omega
  go_enter Try.func56, Try.ntmps56
  go_wp2
  exact bodyPost_ret (v := .agg #[.int .i64 (r + l + eLo), .int .i64 (r + h + eHi)]) (by simp [results, Try.results56, go_sem]) rfl ⟨by rw [hT1.out, hT2.out], by (repeat (first | assumption | exact Below.refl _ _ | refine BA ?_ _ | refine BC ?_ _ _ (by omega) _ | refine Below.drew ?_ | refine BT ?_ (by assumption)))⟩
set_option maxRecDepth 100000 in
set_option maxHeartbeats 1000000 in
theorem travelR_any (a : Option Addr) (cap : Nat) (xs : List (Int × Int)) (eLo eHi r : Int) (w : World) (hx : Spans w a xs) (hl : xs.length ≤ 100) :
    Calls Try.prog 17 #[.agg #[.slice a xs.length cap, .int .i64 eLo, .int .i64 eHi], .int .i64 r] w (Ret (reply (travelR xs eLo eHi r)) w) := by
  have hZ : Below w.heap.size w ((w.alloc (.cells #[.slice a xs.length cap, .int .i64 eLo, .int .i64 eHi] 26)).alloc (.cells #[.int .i64 0, .int .i64 0] 24)) := by (repeat (first | assumption | exact Below.refl _ _ | refine BA ?_ _ | refine BC ?_ _ _ (by omega) _ | refine Below.drew ?_ | refine BT ?_ (by assumption)))
  have hI0 : InS ((w.alloc (.cells #[.slice a xs.length cap, .int .i64 eLo, .int .i64 eHi] 26)).alloc (.cells #[.int .i64 0, .int .i64 0] 24)) w.heap.size a xs.length cap eLo eHi := ⟨by simp [go_sem], by simp [go_sem], by simp [go_sem]⟩
  have hS0 : Slots (w.heap.size + 1) 2 ((w.alloc (.cells #[.slice a xs.length cap, .int .i64 eLo, .int .i64 eHi] 26)).alloc (.cells #[.int .i64 0, .int .i64 0] 24)) := by
    intro o ho
    have : o = 0 ∨ o = 1 := by omega
    rcases this with rfl | rfl <;> simp [go_sem]
  have hs0 : w.heap.size + 1 < ((w.alloc (.cells #[.slice a xs.length cap, .int .i64 eLo, .int .i64 eHi] 26)).alloc (.cells #[.int .i64 0, .int .i64 0] 24)).heap.size := by simp
  have hX := hx.below (Nat.le_refl _) hZ
  have hsc := screwR_any a xs cap eLo eHi _ hl hX
  have hrd := fun W => readingR_any a xs.length cap eLo eHi r W hl
  have hV : Hid (∀ b, validB xs eLo eHi = true → hasTrn xs.length r = b → reply (travelR xs eLo eHi r) = if b then .tuple #[.agg #[.int .i64 (trav r (xs.getD (r / 1000).toNat (0, 0)).1 eLo), .int .i64 (trav r (xs.getD (r / 1000).toNat (0, 0)).2 eHi)], .int .i64 0] else .tuple #[.agg #[.int .i64 0, .int .i64 0], .int .i64 2]) := fun b h1 h2 => by
    unfold travelR; rw [if_pos h1, h2]; cases b <;> rfl
  have hV0 : Hid (validB xs eLo eHi = false → reply (travelR xs eLo eHi r) = .tuple #[.agg #[.int .i64 0, .int .i64 0], .int .i64 1]) := fun h1 => by
    unfold travelR; rw [if_neg (by rw [h1]; decide)]; rfl
  have htr : Hid (∀ W, Spans W a xs → validB xs eLo eHi = true → hasTrn xs.length r = true → Calls Try.prog 56 #[.agg #[.slice a xs.length cap, .int .i64 eLo, .int .i64 eHi], .int .i64 r] W (Ret (.agg #[.int .i64 (trav r (xs.getD (r / 1000).toNat (0, 0)).1 eLo), .int .i64 (trav r (xs.getD (r / 1000).toNat (0, 0)).2 eHi)]) W)) := fun W hX h1 h2 => by
    simp only [validB, holdB, Bool.and_eq_true, decide_eq_true_eq] at h1
    simp only [hasTrn, Bool.and_eq_true, decide_eq_true_eq] at h2
    exact travels_any a cap xs eLo eHi r W hX hl (by omega) h1.1.2 h2
  generalize reply (travelR xs eLo eHi r) = R at *
  generalize trav r (xs.getD (r / 1000).toNat (0, 0)).1 eLo = t1 at *
  generalize trav r (xs.getD (r / 1000).toNat (0, 0)).2 eHi = t2 at *
  obtain ⟨c0, c1, c2⟩ := hI0
  have hl0 : (xs.length : Int) ≤ 100 := by omega
  go_enter Try.func17, Try.ntmps17
  go_wp2_with fail
  generalize hBw : w.heap.size = B at c0 c1 c2 hS0 hs0 ⊢
  have hwB : w.heap.size ≤ B + 1 := by omega
  clear hBw
  generalize (w.alloc (.cells #[.slice a xs.length cap, .int .i64 eLo, .int .i64 eHi] 26)).alloc (.cells #[.int .i64 0, .int .i64 0] 24) = W at *
  refine hsc.mono ?_
  rintro e w1 ⟨rfl, hb1⟩
  have d0 := cellB c0 hb1
  have d1 := cellB c1 hb1
  have d2 := cellB c2 hb1
  have hS1 := hS0.below hb1 hs0
  have hB1 := BT hZ hb1
  have hX1 := hX.below (Nat.le_refl _) hb1
  have hs1 : B + 1 < w1.heap.size := Nat.lt_of_lt_of_le hs0 hb1.size
  clear hsc c0 c1 c2 hS0 hs0 hX hZ
  cases h1 : validB xs eLo eHi
  · have H1 := Lib.hid h1; clear h1
    obtain ⟨v0, u0, f0⟩ := hS1.get 0 (by omega)
    obtain ⟨v1, u1, f1⟩ := hS1.get 1 (by omega)
    go_wp2
    exact bodyPost_ret (v := .tuple #[.agg #[.int .i64 0, .int .i64 0], .int .i64 1]) (by simp [results, Try.results17, go_sem, u0, u1]) rfl ⟨by rw [hV0.out H1.out], by (repeat (first | assumption | exact Below.refl _ _ | refine BA ?_ _ | refine BC ?_ _ _ (by omega) _ | refine Below.drew ?_ | refine BT ?_ (by assumption)))⟩
  have H1 := Lib.hid h1; clear h1
  go_wp2_with fail
  refine (hrd _).mono ?_
  rintro e w2 ⟨rfl, hb2⟩
  have e0 := cellB d0 hb2
  have e1 := cellB d1 hb2
  have e2 := cellB d2 hb2
  have hS2 := hS1.below hb2 hs1
  have hB2 := BT hB1 hb2
  have hX2 := hX1.below (Nat.le_refl _) hb2
  have hs2 : B + 1 < w2.heap.size := Nat.lt_of_lt_of_le hs1 hb2.size
  clear hrd d0 d1 d2 hS1 hs1 hX1 hB1 hb1 hb2
  cases h2 : hasTrn xs.length r
  · have H2 := Lib.hid h2; clear h2
    obtain ⟨v0, u0, f0⟩ := hS2.get 0 (by omega)
    obtain ⟨v1, u1, f1⟩ := hS2.get 1 (by omega)
    go_wp2
    exact bodyPost_ret (v := .tuple #[.agg #[.int .i64 0, .int .i64 0], .int .i64 2]) (by simp [results, Try.results17, go_sem, u0, u1]) rfl ⟨by rw [hV.out _ H1.out H2.out]; rfl, by (repeat (first | assumption | exact Below.refl _ _ | refine BA ?_ _ | refine BC ?_ _ _ (by omega) _ | refine Below.drew ?_ | refine BT ?_ (by assumption)))⟩
  have H2 := Lib.hid h2; clear h2
  have ht := htr.out w2 hX2 H1.out H2.out
  go_wp2_with fail
  refine ht.mono ?_
  rintro e w3 ⟨rfl, hb3⟩
  have hS3 := hS2.below hb3 hs2
  have hB3 := BT hB2 hb3
  obtain ⟨v0, u0, f0⟩ := hS3.get 0 (by omega)
  obtain ⟨v1, u1, f1⟩ := hS3.get 1 (by omega)
  clear ht e0 e1 e2 hS2 hB2 hX2
  go_wp2
  exact bodyPost_ret (v := .tuple #[.agg #[.int .i64 t1, .int .i64 t2], .int .i64 0]) (by simp [results, Try.results17, go_sem, u0, u1]) rfl ⟨by rw [hV.out _ H1.out H2.out]; rfl, by (repeat (first | assumption | exact Below.refl _ _ | refine BA ?_ _ | refine BC ?_ _ _ (by omega) _ | refine Below.drew ?_ | refine BT ?_ (by assumption)))⟩
end Go.Proofs.Ytmfbkgdlfackcaa

/- The reference: what settings of a set tell of an image. -/
namespace Go.Proofs.Ytmfbkgdlfackcaa
open Go.RowKit

def mxI (a b : Int) : Int := if a < b then b else a
def mnI (a b : Int) : Int := if b < a then b else a
/-- What the first settings tell: the greatest of the lower ends, the least of the upper ones. -/
def toldTo (ts : List Tell) (set im : Int) (rv : Bool) : Nat → Int × Int
  | 0 => (-1099511627776, 1099511627776)
  | k + 1 => if hasB set k && ((ts.getD k dfl).2.1 == im) && ((ts.getD k dfl).1 == rv) then (mxI (toldTo ts set im rv k).1 (ts.getD k dfl).2.2.1, mnI (toldTo ts set im rv k).2 (ts.getD k dfl).2.2.2) else toldTo ts set im rv k

/-- What lies there while it is told. -/
structure Td (w X : World) (B : Nat) (h : Hd) (lo hi : Int) : Prop where
  c0 : X.cell? ⟨B, 0, none⟩ = some (.slice h.a h.n h.cap)
  c1 : X.cell? ⟨B, 1, none⟩ = some (.int .i64 h.eLo)
  c2 : X.cell? ⟨B, 2, none⟩ = some (.int .i64 h.eHi)
  c3 : X.cell? ⟨B, 3, none⟩ = some (.int .i64 h.images)
  c4 : X.cell? ⟨B, 4, none⟩ = some (.int .i64 h.sLo)
  c5 : X.cell? ⟨B, 5, none⟩ = some (.int .i64 h.sHi)
  c6 : X.cell? ⟨B, 6, none⟩ = some (.slice h.sa h.ns h.scap)
  below : Below w.heap.size w X
  slots : Slots (B + 1) 2 X
  lo : X.cell? ⟨B + 1 + 1, 0, none⟩ = some (.int .i64 lo)
  hi : X.cell? ⟨B + 1 + 1, 1, none⟩ = some (.int .i64 hi)
  f0 : X.frozen? ⟨B + 1 + 1, 0, none⟩ = false
  f1 : X.frozen? ⟨B + 1 + 1, 1, none⟩ = false
  base : w.heap.size ≤ B
theorem Td.lt {w X : World} {B : Nat} {h : Hd} {lo hi : Int} (k : Td w X B h lo hi) : B + 1 + 1 < X.heap.size := World.block_lt_of_cell? _ _ k.lo
theorem Td.grown {w X X' : World} {B : Nat} {h : Hd} {lo hi : Int} (k : Td w X B h lo hi) (hb : Below X.heap.size X X') : Td w X' B h lo hi := by
  have hlt := k.lt
  exact ⟨cellB k.c0 hb, cellB k.c1 hb, cellB k.c2 hb, cellB k.c3 hb, cellB k.c4 hb, cellB k.c5 hb, cellB k.c6 hb, BT k.below hb, k.slots.below hb (by omega), cellB k.lo hb, cellB k.hi hb,
    (hb.frozen (p := ⟨B + 1 + 1, 0, none⟩) hlt).trans k.f0, (hb.frozen (p := ⟨B + 1 + 1, 1, none⟩) hlt).trans k.f1, k.base⟩
theorem Td.put {w X : World} {B : Nat} {h : Hd} {lo hi : Int} (k : Td w X B h lo hi) (lo' hi' : Int) : Td w ((X.setCell ⟨B + 1 + 1, 0, none⟩ (.int .i64 lo')).setCell ⟨B + 1 + 1, 1, none⟩ (.int .i64 hi')) B h lo' hi' := by
  have hx : BX (B + 1 + 1) X ((X.setCell ⟨B + 1 + 1, 0, none⟩ (.int .i64 lo')).setCell ⟨B + 1 + 1, 1, none⟩ (.int .i64 hi')) := (BX.set _ _ _ _).trans (BX.set _ _ _ _)
  have hlt := k.lt
  have hbase := k.base
  have hs := k.below.size
  have c : ∀ o v, X.cell? ⟨B, o, none⟩ = some v → ((X.setCell ⟨B + 1 + 1, 0, none⟩ (.int .i64 lo')).setCell ⟨B + 1 + 1, 1, none⟩ (.int .i64 hi')).cell? ⟨B, o, none⟩ = some v := fun o v hv => (hx.cell B o (by omega) (by omega)).trans hv
  refine ⟨c _ _ k.c0, c _ _ k.c1, c _ _ k.c2, c _ _ k.c3, c _ _ k.c4, c _ _ k.c5, c _ _ k.c6, BX.below k.below hx (by omega) (by omega), hx.slots k.slots (by omega) (by omega), ?_, ?_, ?_, ?_, k.base⟩
  · rw [World.cell?_setCell_other _ _ _ _ (by simp), World.cell?_setCell_same _ _ _ k.lo]
  · refine World.cell?_setCell_same _ _ _ (u := .int .i64 hi) ?_
    rw [World.cell?_setCell_other _ _ _ _ (by simp)]; exact k.hi
  · rw [World.frozen?_setCell, World.frozen?_setCell]; exact k.f0
  · rw [World.frozen?_setCell, World.frozen?_setCell]; exact k.f1

set_option maxRecDepth 100000 in
set_option maxHeartbeats 4000000 in
theorem told_anyR (h : Hd) (xs : List (Int × Int)) (ss : List Sett) (set im : Int) (rv : Bool) (w : World) (hm : HasM w h xs ss) (hv : validH h xs ss = true) (hs : 0 ≤ set ∧ set ≤ 1000000) :
    Calls Try.prog 88 #[h.val, .int .i64 set, .int .i64 im, .bool rv] w (Ret (.agg #[.int .i64 (toldTo (tellsOf xs h.eLo h.eHi ss) set im rv ss.length).1, .int .i64 (toldTo (tellsOf xs h.eLo h.eHi ss) set im rv ss.length).2]) w) := by
  obtain ⟨va, vb, vc, vd, ve, vf, vg⟩ := valid_has hv
  have HM := Lib.hid hm
  have HV := Lib.hid vg
  have HNS := Lib.hid hm.ns
  have hns : h.ns ≤ 12 := by rw [← hm.ns]; exact vf
  have hT0 : Hid (Td w (((w.alloc (.cells #[.slice h.a h.n h.cap, .int .i64 h.eLo, .int .i64 h.eHi, .int .i64 h.images, .int .i64 h.sLo, .int .i64 h.sHi, .slice h.sa h.ns h.scap] 29)).alloc (.cells #[.int .i64 0, .int .i64 0] 24)).alloc (.cells #[.int .i64 (-1099511627776), .int .i64 1099511627776] 24)) w.heap.size h (-1099511627776) 1099511627776) := by
    refine ⟨by simp [go_sem], by simp [go_sem], by simp [go_sem], by simp [go_sem], by simp [go_sem], by simp [go_sem], by simp [go_sem], by (repeat (first | assumption | exact Below.refl _ _ | refine BA ?_ _ | refine BC ?_ _ _ (by omega) _ | refine Below.drew ?_ | refine BT ?_ (by assumption))), ?_, by simp [go_sem], by simp [go_sem], by simp [go_sem], by simp [go_sem], Nat.le_refl _⟩
    intro o ho
    have : o = 0 ∨ o = 1 := by omega
    rcases this with rfl | rfl <;> simp [go_sem]
  have hn0 : (h.ns : Int) ≤ 12 := by omega
  have hn1 : (0 : Int) ≤ (h.ns : Int) := by omega
  have hn2 : h.ns ≤ 9223372036854775807 := by omega
  have HE : Hid (∀ k, toldTo (tellsOf xs h.eLo h.eHi ss) set im rv (k + 1) = if hasB set k && (((tellsOf xs h.eLo h.eHi ss).getD k dfl).2.1 == im) && (((tellsOf xs h.eLo h.eHi ss).getD k dfl).1 == rv) then (mxI (toldTo (tellsOf xs h.eLo h.eHi ss) set im rv k).1 ((tellsOf xs h.eLo h.eHi ss).getD k dfl).2.2.1, mnI (toldTo (tellsOf xs h.eLo h.eHi ss) set im rv k).2 ((tellsOf xs h.eLo h.eHi ss).getD k dfl).2.2.2) else toldTo (tellsOf xs h.eLo h.eHi ss) set im rv k) := fun _ => rfl
  have HG : Hid (∀ k, k < ss.length → (tellsOf xs h.eLo h.eHi ss).getD k dfl = tellOf xs h.eLo h.eHi (ss.getD k (0, 0, false))) := fun k hk => by simp [List.getD, tellsOf, hk]
  have H0 : Hid (toldTo (tellsOf xs h.eLo h.eHi ss) set im rv 0 = (-1099511627776, 1099511627776)) := rfl
  rw [hm.ns]
  clear hm hv vg
  generalize toldTo (tellsOf xs h.eLo h.eHi ss) set im rv = T at *
  unfold Hd.val
  go_enter Try.func88, Try.ntmps88
  go_wp2_with fail
  generalize hBw : w.heap.size = B at hT0 ⊢
  generalize ((w.alloc (.cells #[.slice h.a h.n h.cap, .int .i64 h.eLo, .int .i64 h.eHi, .int .i64 h.images, .int .i64 h.sLo, .int .i64 h.sHi, .slice h.sa h.ns h.scap] 29)).alloc (.cells #[.int .i64 0, .int .i64 0] 24)).alloc (.cells #[.int .i64 (-1099511627776), .int .i64 1099511627776] 24) = W at *
  clear hBw
  go_loopw [10] (fun i wr => ∃ k : Nat, k ≤ h.ns ∧ i = .int .i64 k ∧ Td w wr B h (T k).1 (T k).2) (fun i _ => h.ns - (intOf i).toNat)
  case atStart => exact ⟨0, by omega, rfl, by rw [H0.out]; exact hT0.out⟩
  case round =>
    obtain ⟨k, hk, rfl, hT⟩ := hrel
    have HT := Lib.hid hT; clear hT
    have hM := HM.out.below (Nat.le_refl _) HT.out.below
    have hk0 : (0 : Int) ≤ (k : Int) := by omega
    have hTb := HT.out.below
    have hbase := HT.out.base
    by_cases hlt : k < h.ns
    · rcases hM.st with hnil | ⟨b, o, hsa, hb, hc⟩
      · exfalso; have := HNS.out; rw [hnil] at this; simp at this; omega
      · have hkl : k < ss.length := by rw [HNS.out]; exact hlt
        obtain ⟨d0, d1, d2, _⟩ := hc k hkl
        obtain ⟨c0, c1, c2, c3, c4, c5, c6, _, _, t0, t1, _, _, _⟩ := HT.out
        rw [hsa] at c6
        have hE := HE.out k
        rw [HG.out k hkl] at hE
        have hmem : ss.getD k (0, 0, false) ∈ ss := by simp [List.getD, hkl]
        obtain ⟨g1, g2, g3⟩ := HV.out _ hmem
        clear hc hsa hmem
        generalize ss.getD k (0, 0, false) = s at *
        obtain ⟨sim, rd, srv⟩ := s
        dsimp only [tellOf] at d0 d1 d2 hE g1 g2 g3
        have htr : Hid (∀ Y, Below w.heap.size w Y → Calls Try.prog 56 #[.agg #[.slice h.a h.n h.cap, .int .i64 h.eLo, .int .i64 h.eHi], .int .i64 rd] Y (Ret (.agg #[.int .i64 (trav rd (xs.getD (rd / 1000).toNat (0, 0)).1 h.eLo), .int .i64 (trav rd (xs.getD (rd / 1000).toNat (0, 0)).2 h.eHi)]) Y)) := fun Y hY => by
          have hY' := HM.out.below (Nat.le_refl _) hY
          have := travels_any h.a h.cap xs h.eLo h.eHi rd Y hY'.sp (by omega) (by omega) vb ⟨g2, g3⟩
          rw [hY'.nx] at this; exact this
        generalize trav rd (xs.getD (rd / 1000).toNat (0, 0)).1 h.eLo = tl at *
        generalize trav rd (xs.getD (rd / 1000).toNat (0, 0)).2 h.eHi = th at *
        have HEE := Lib.hid hE; clear hE g3
        have hHas := Lib.hid (has_anyR set k hs (by omega))
        have hBlt : B < wr.heap.size := World.block_lt_of_cell? _ _ c0
        have hB2lt : B + 1 + 1 < wr.heap.size := World.block_lt_of_cell? _ _ t0
        clear hM
        cases hh : hasB set k
        · have HH := Lib.hid hh; clear hh
          go_wp2_with (refine (hHas.out _).mono ?_; rw [HH.out]; rintro e w4 ⟨rfl, hb4⟩)
          go_roundw
          case rel =>
            refine ⟨k + 1, by omega, by go_num, ?_⟩
            rw [HEE.out, HH.out]
            exact HT.out.grown (BT (newB _ _) hb4)
          case measure => simp [intOf]; omega
        · have HH := Lib.hid hh; clear hh
          by_cases him : sim = im
          · subst him
            cases srv <;> cases rv
            case false.false =>
              go_wp2_with fail
              refine (hHas.out _).mono ?_
              rw [HH.out]
              rintro e w4 ⟨rfl, hb4⟩
              have hb4' := BT (newB wr (.cells #[.int .i64 sim, .int .i64 rd, .bool false] 44)) hb4
              have HT4 := Lib.hid (HT.out.grown hb4')
              have d0' := (hb4.cell (p := ⟨wr.heap.size, 0, none⟩) (by simp)).trans (show (wr.alloc (.cells #[.int .i64 sim, .int .i64 rd, .bool false] 44)).cell? ⟨wr.heap.size, 0, none⟩ = some (.int .i64 sim) by simp [go_sem])
              have d1' := (hb4.cell (p := ⟨wr.heap.size, 1, none⟩) (by simp)).trans (show (wr.alloc (.cells #[.int .i64 sim, .int .i64 rd, .bool false] 44)).cell? ⟨wr.heap.size, 1, none⟩ = some (.int .i64 rd) by simp [go_sem])
              have d2' := (hb4.cell (p := ⟨wr.heap.size, 2, none⟩) (by simp)).trans (show (wr.alloc (.cells #[.int .i64 sim, .int .i64 rd, .bool false] 44)).cell? ⟨wr.heap.size, 2, none⟩ = some (.bool false) by simp [go_sem])
              clear d0 d1 d2 c0 c1 c2 c3 c4 c5 c6 t0 t1 hb4 hb4' hTb
              obtain ⟨c0, c1, c2, c3, c4, c5, c6, hb, _, _, _, _, _, _⟩ := HT4.out
              have ht := htr.out w4 hb
              go_wp2_with fail
              refine ht.mono ?_
              rintro e w5 ⟨rfl, hb5⟩
              have HT6 := Lib.hid (HT4.out.grown hb5)
              have hlt5 : B + 1 + 1 < w5.heap.size := HT6.out.lt
              clear ht c0 c1 c2 c3 c4 c5 c6 hb hb5 d0' d1' d2'
              obtain ⟨_, _, _, _, _, _, _, _, _, t0, t1, f0, f1, _⟩ := HT6.out
              obtain ⟨ml, hml⟩ : ∃ m, mxI (T k).1 tl = m := ⟨_, rfl⟩
              obtain ⟨mh, hmh⟩ : ∃ m, mnI (T k).2 th = m := ⟨_, rfl⟩
              have k1 : (if (T k).1 < tl then tl else (T k).1) = ml := hml
              have k2 : (if th < (T k).2 then th else (T k).2) = mh := hmh
              have hml' := Lib.hid hml
              have hmh' := Lib.hid hmh
              clear hml hmh
              go_wp2
              go_roundw
              case rel =>
                refine ⟨k + 1, by omega, by go_num, ?_⟩
                rw [HEE.out, HH.out]
                simp only [beq_self_eq_true, Bool.and_true, if_true]
                rw [hml'.out, hmh'.out]
                exact (HT6.out.put ml mh).grown (newB _ _)
              case measure => simp [intOf]; omega
            case true.true =>
              go_wp2_with fail
              refine (hHas.out _).mono ?_
              rw [HH.out]
              rintro e w4 ⟨rfl, hb4⟩
              have hb4' := BT (newB wr (.cells #[.int .i64 sim, .int .i64 rd, .bool true] 44)) hb4
              have HT4 := Lib.hid (HT.out.grown hb4')
              have d0' := (hb4.cell (p := ⟨wr.heap.size, 0, none⟩) (by simp)).trans (show (wr.alloc (.cells #[.int .i64 sim, .int .i64 rd, .bool true] 44)).cell? ⟨wr.heap.size, 0, none⟩ = some (.int .i64 sim) by simp [go_sem])
              have d1' := (hb4.cell (p := ⟨wr.heap.size, 1, none⟩) (by simp)).trans (show (wr.alloc (.cells #[.int .i64 sim, .int .i64 rd, .bool true] 44)).cell? ⟨wr.heap.size, 1, none⟩ = some (.int .i64 rd) by simp [go_sem])
              have d2' := (hb4.cell (p := ⟨wr.heap.size, 2, none⟩) (by simp)).trans (show (wr.alloc (.cells #[.int .i64 sim, .int .i64 rd, .bool true] 44)).cell? ⟨wr.heap.size, 2, none⟩ = some (.bool true) by simp [go_sem])
              clear d0 d1 d2 c0 c1 c2 c3 c4 c5 c6 t0 t1 hb4 hb4' hTb
              obtain ⟨c0, c1, c2, c3, c4, c5, c6, hb, _, _, _, _, _, _⟩ := HT4.out
              have ht := htr.out w4 hb
              go_wp2_with fail
              refine ht.mono ?_
              rintro e w5 ⟨rfl, hb5⟩
              have HT6 := Lib.hid (HT4.out.grown hb5)
              have hlt5 : B + 1 + 1 < w5.heap.size := HT6.out.lt
              clear ht c0 c1 c2 c3 c4 c5 c6 hb hb5 d0' d1' d2'
              obtain ⟨_, _, _, _, _, _, _, _, _, t0, t1, f0, f1, _⟩ := HT6.out
              obtain ⟨ml, hml⟩ : ∃ m, mxI (T k).1 tl = m := ⟨_, rfl⟩
              obtain ⟨mh, hmh⟩ : ∃ m, mnI (T k).2 th = m := ⟨_, rfl⟩
              have k1 : (if (T k).1 < tl then tl else (T k).1) = ml := hml
              have k2 : (if th < (T k).2 then th else (T k).2) = mh := hmh
              have hml' := Lib.hid hml
              have hmh' := Lib.hid hmh
              clear hml hmh
              go_wp2
              go_roundw
              case rel =>
                refine ⟨k + 1, by omega, by go_num, ?_⟩
                rw [HEE.out, HH.out]
                simp only [beq_self_eq_true, Bool.and_true, if_true]
                rw [hml'.out, hmh'.out]
                exact (HT6.out.put ml mh).grown (newB _ _)
              case measure => simp [intOf]; omega
            case false.true =>
              go_wp2_with fail
              refine (hHas.out _).mono ?_
              rw [HH.out]
              rintro e w4 ⟨rfl, hb4⟩
              have d0' := (hb4.cell (p := ⟨wr.heap.size, 0, none⟩) (by simp)).trans (show (wr.alloc (.cells #[.int .i64 sim, .int .i64 rd, .bool false] 44)).cell? ⟨wr.heap.size, 0, none⟩ = some (.int .i64 sim) by simp [go_sem])
              have d2' := (hb4.cell (p := ⟨wr.heap.size, 2, none⟩) (by simp)).trans (show (wr.alloc (.cells #[.int .i64 sim, .int .i64 rd, .bool false] 44)).cell? ⟨wr.heap.size, 2, none⟩ = some (.bool false) by simp [go_sem])
              go_wp2
              go_roundw
              case rel =>
                refine ⟨k + 1, by omega, by go_num, ?_⟩
                rw [HEE.out, HH.out]
                simp only [beq_self_eq_true, Bool.and_false, Bool.false_eq_true, if_false, Bool.true_and, show (false == true) = false from rfl]
                exact HT.out.grown (BT (newB _ _) hb4)
              case measure => simp [intOf]; omega
            case true.false =>
              go_wp2_with fail
              refine (hHas.out _).mono ?_
              rw [HH.out]
              rintro e w4 ⟨rfl, hb4⟩
              have d0' := (hb4.cell (p := ⟨wr.heap.size, 0, none⟩) (by simp)).trans (show (wr.alloc (.cells #[.int .i64 sim, .int .i64 rd, .bool true] 44)).cell? ⟨wr.heap.size, 0, none⟩ = some (.int .i64 sim) by simp [go_sem])
              have d2' := (hb4.cell (p := ⟨wr.heap.size, 2, none⟩) (by simp)).trans (show (wr.alloc (.cells #[.int .i64 sim, .int .i64 rd, .bool true] 44)).cell? ⟨wr.heap.size, 2, none⟩ = some (.bool true) by simp [go_sem])
              go_wp2
              go_roundw
              case rel =>
                refine ⟨k + 1, by omega, by go_num, ?_⟩
                rw [HEE.out, HH.out]
                simp only [beq_self_eq_true, Bool.and_false, Bool.false_eq_true, if_false, Bool.true_and, show (true == false) = false from rfl]
                exact HT.out.grown (BT (newB _ _) hb4)
              case measure => simp [intOf]; omega
          · have h5 : (sim == im) = false := by simpa using him
            have H5 := Lib.hid h5
            go_wp2_with fail
            refine (hHas.out _).mono ?_
            rw [HH.out]
            rintro e w4 ⟨rfl, hb4⟩
            have d0' := (hb4.cell (p := ⟨wr.heap.size, 0, none⟩) (by simp)).trans (show (wr.alloc (.cells #[.int .i64 sim, .int .i64 rd, .bool srv] 44)).cell? ⟨wr.heap.size, 0, none⟩ = some (.int .i64 sim) by simp [go_sem])
            go_wp2
            go_roundw
            case rel =>
              refine ⟨k + 1, by omega, by go_num, ?_⟩
              have e5 := HEE.out
              simp only [HH.out, H5.out, Bool.true_and, Bool.false_and, Bool.false_eq_true, if_false] at e5
              rw [e5]
              exact HT.out.grown (BT (newB _ _) hb4)
            case measure => simp [intOf]; omega
    · obtain rfl : k = h.ns := by omega
      obtain ⟨c0, c1, c2, c3, c4, c5, c6, _, hsl, t0, t1, _, _, _⟩ := HT.out
      obtain ⟨v0, u0, y0⟩ := hsl.get 0 (by omega)
      obtain ⟨v1, u1, y1⟩ := hsl.get 1 (by omega)
      clear hM hsl
      go_wp2
      exact bodyPost_ret (v := .agg #[.int .i64 (T h.ns).1, .int .i64 (T h.ns).2]) (by simp [results, Try.results88, go_sem, u0, u1]) rfl ⟨rfl, by (repeat (first | assumption | exact Below.refl _ _ | refine BA ?_ _ | refine BC ?_ _ _ (by omega) _ | refine Below.drew ?_ | refine BT ?_ (by assumption)))⟩
end Go.Proofs.Ytmfbkgdlfackcaa

/- A region that leaves its order open, walked as a tree: what only reads is taken at once; of the others any that may come up next. The kernel checks the tree. -/
namespace Go.Proofs.Ytmfbkgdlfackcaa

/-- What comes up: a reading one, one alone, or any of two, of three. -/
inductive Tr where
  | leaf
  | read (i : Nat) (t : Tr)
  | one (i : Nat) (t : Tr)
  | two (i : Nat) (t : Tr) (j : Nat) (u : Tr)
  | three (i : Nat) (t : Tr) (j : Nat) (u : Tr) (k : Nat) (v : Tr)
def Tr.depth : Tr → Nat
  | .leaf => 0
  | .read _ t => t.depth + 1
  | .one _ t => t.depth + 1
  | .two _ t _ u => max t.depth u.depth + 1
  | .three _ t _ u _ v => max t.depth (max u.depth v.depth) + 1
def Tr.isLeaf : Tr → Bool
  | .leaf => true
  | _ => false

section
variable {P : Program} {l : List Oper} {Q : Exit → Act → World → Prop} {md : Region.Mode} {S : World → Prop}

def okTr (md : Region.Mode) (ops : Array Oper) : Tr → Array Bool → Bool
  | .leaf, d => (Region.ready md ops d).isEmpty
  | .read i t, d => (Region.ready md ops d).contains i && Region.free md ops d i && okTr md ops t (d.setIfInBounds i true)
  | .one i t, d => decide (Region.ready md ops d = [i]) && (!finalOp md ops i || t.isLeaf) && okTr md ops t (d.setIfInBounds i true)
  | .two i t j u, d => decide (Region.ready md ops d = [i, j]) && !finalOp md ops i && !finalOp md ops j && okTr md ops t (d.setIfInBounds i true) && okTr md ops u (d.setIfInBounds j true)
  | .three i t j u k v, d => decide (Region.ready md ops d = [i, j, k]) && !finalOp md ops i && !finalOp md ops j && !finalOp md ops k && okTr md ops t (d.setIfInBounds i true) && okTr md ops u (d.setIfInBounds j true) && okTr md ops v (d.setIfInBounds k true)

/-- One that does something, and then K. -/
def stepTr (P : Program) (md : Region.Mode) (l : List Oper) (Q : Exit → Act → World → Prop) (S : World → Prop) (i : Nat) (K : Act → World → Prop) (a : Act) (w : World) : Prop :=
  match l[i]? with
  | none => False
  | some o => (Region.wanted o (yielded l.toArray a.tmps) = false ∧ K (a.put o.dst undef) w) ∨
      (Region.wanted o (yielded l.toArray a.tmps) = true ∧ o.wp P a w (fun a' w' => (finalOp md l.toArray i = false → S w') ∧ ((finalOp md l.toArray i = false → S w') → K a' w')) Q)
def wpTr (P : Program) (md : Region.Mode) (l : List Oper) (Q : Exit → Act → World → Prop) (S : World → Prop) : Tr → Act → World → Prop
  | .leaf, a, w => Q .normal a w
  | .read i t, a, w => match l[i]? with
    | none => False
    | some o => (Region.wanted o (yielded l.toArray a.tmps) = false ∧ wpTr P md l Q S t (a.put o.dst undef) w) ∨
        (Region.wanted o (yielded l.toArray a.tmps) = true ∧ ∃ v, (∀ w', S w' → (execOp a.eval o).run P w' = .ok (.value v) w') ∧ wpTr P md l Q S t (a.put o.dst v) w)
  | .one i t, a, w => stepTr P md l Q S i (wpTr P md l Q S t) a w
  | .two i t j u, a, w => stepTr P md l Q S i (wpTr P md l Q S t) a w ∧ stepTr P md l Q S j (wpTr P md l Q S u) a w
  | .three i t j u k v, a, w => stepTr P md l Q S i (wpTr P md l Q S t) a w ∧ stepTr P md l Q S j (wpTr P md l Q S u) a w ∧ stepTr P md l Q S k (wpTr P md l Q S v) a w

theorem step_sound {i fuel : Nat} {K : Act → World → Prop} {listed : Array Bool} {a : Act} {w : World} (hS : S w) (h : stepTr P md l Q S i K a w)
    (hK : ∀ a' w', (finalOp md l.toArray i = false → S w') → K a' w' → wpAnyR P md l.toArray Q S fuel (listed.setIfInBounds i true) a' w') :
    wpOp P l.toArray Q i (fun a' w' => (finalOp md l.toArray i = false → S w') ∧ wpAnyR P md l.toArray Q S fuel (listed.setIfInBounds i true) a' w') a w := by
  unfold stepTr at h
  cases ho : l[i]? with
  | none => rw [ho] at h; exact h.elim
  | some o =>
    rw [ho] at h
    have ho' : l.toArray[i]? = some o := by simpa using ho
    unfold Go.wpOp
    rw [ho']
    rcases h with ⟨hw, h⟩ | ⟨hw, h⟩
    · simp only [hw, Bool.false_eq_true, if_false]
      exact ⟨fun _ => hS, hK _ _ (fun _ => hS) h⟩
    · simp only [hw, if_true]
      exact Or.inl (Oper.wp_mono (fun a' w' h' => ⟨h'.1, hK a' w' h'.1 (h'.2 h'.1)⟩) h)

theorem wpTr_sound (hs : Region.noSelect l.toArray = true) (hQ : ∀ c a d v w, Q (.panic c) (Act.put a d v) w → Q (.panic c) a w) :
    ∀ (t : Tr) (fuel : Nat) (listed : Array Bool) (a : Act) (w : World), t.depth ≤ fuel → Closed md l.toArray listed → okTr md l.toArray t listed = true → (t.isLeaf = false → S w) → wpTr P md l Q S t a w → wpAnyR P md l.toArray Q S fuel listed a w := by
  intro t
  induction t with
  | leaf =>
    intro fuel listed a w _ _ hok _ h
    have hr : Region.ready md l.toArray listed = [] := by simpa [okTr] using hok
    cases fuel with
    | zero => exact ⟨hr, h⟩
    | succ fuel => exact ⟨fun _ => h, by rw [hr]; simp⟩
  | read i t ih =>
    intro fuel listed a w hf hcl hok hS0 h
    have hS := hS0 rfl
    cases fuel with
    | zero => simp [Tr.depth] at hf
    | succ fuel =>
      have hf' : t.depth ≤ fuel := by simp [Tr.depth] at hf; omega
      simp only [okTr, Bool.and_eq_true] at hok
      obtain ⟨⟨hc, hfr⟩, hok⟩ := hok
      have hr : i ∈ Region.ready md l.toArray listed := by simpa using hc
      simp only [wpTr] at h
      cases ho : l[i]? with
      | none => rw [ho] at h; exact h.elim
      | some o =>
        rw [ho] at h
        have ho' : l.toArray[i]? = some o := by simpa using ho
        rcases h with ⟨hw, h⟩ | ⟨hw, v, hv, h⟩
        · exact wpAnyR_first ho' (Region.noSelect_spec hs) (fun c a w => hQ c a _ _ w) fuel listed a w hcl (Region.free_spec ho' hfr) hr (Or.inr ⟨hw, rfl⟩) hS (ih fuel _ _ _ hf' (closed_set hcl hr) hok (fun _ => hS) h)
        · exact wpAnyR_first ho' (Region.noSelect_spec hs) (fun c a w => hQ c a _ _ w) fuel listed a w hcl (Region.free_spec ho' hfr) hr (Or.inl ⟨hw, hv⟩) hS (ih fuel _ _ _ hf' (closed_set hcl hr) hok (fun _ => hS) h)
  | one i t ih =>
    intro fuel listed a w hf hcl hok hS0 h
    have hS := hS0 rfl
    cases fuel with
    | zero => simp [Tr.depth] at hf
    | succ fuel =>
      have hf' : t.depth ≤ fuel := by simp [Tr.depth] at hf; omega
      simp only [okTr, Bool.and_eq_true, decide_eq_true_eq, Bool.or_eq_true, Bool.not_eq_true'] at hok
      obtain ⟨⟨hr, hfin⟩, hok⟩ := hok
      refine ⟨fun h0 => absurd h0 (by rw [hr]; simp), fun j hj => ?_⟩
      rw [hr] at hj
      obtain rfl : j = i := by simpa using hj
      refine step_sound hS h (fun a' w' hS' h' => ih fuel _ _ _ hf' (closed_set hcl (by rw [hr]; simp)) hok (fun hl => ?_) h')
      rcases hfin with hfin | hfin
      · exact hS' hfin
      · rw [hfin] at hl; cases hl
  | two i t j u iht ihu =>
    intro fuel listed a w hf hcl hok hS0 h
    have hS := hS0 rfl
    cases fuel with
    | zero => simp [Tr.depth] at hf
    | succ fuel =>
      have hf' : t.depth ≤ fuel ∧ u.depth ≤ fuel := by simp [Tr.depth] at hf; omega
      simp only [okTr, Bool.and_eq_true, decide_eq_true_eq, Bool.not_eq_true'] at hok
      obtain ⟨⟨⟨⟨hr, hi⟩, hj⟩, hok1⟩, hok2⟩ := hok
      obtain ⟨h1, h2⟩ := h
      refine ⟨fun h0 => absurd h0 (by rw [hr]; simp), fun k hk => ?_⟩
      rw [hr] at hk
      simp only [List.mem_cons, List.not_mem_nil, or_false] at hk
      rcases hk with rfl | rfl
      · exact step_sound hS h1 (fun a' w' hS' h' => iht fuel _ _ _ hf'.1 (closed_set hcl (by rw [hr]; simp)) hok1 (fun _ => hS' hi) h')
      · exact step_sound hS h2 (fun a' w' hS' h' => ihu fuel _ _ _ hf'.2 (closed_set hcl (by rw [hr]; simp)) hok2 (fun _ => hS' hj) h')
  | three i t j u k v iht ihu ihv =>
    intro fuel listed a w hf hcl hok hS0 h
    have hS := hS0 rfl
    cases fuel with
    | zero => simp [Tr.depth] at hf
    | succ fuel =>
      have hf' : t.depth ≤ fuel ∧ u.depth ≤ fuel ∧ v.depth ≤ fuel := by simp [Tr.depth] at hf; omega
      simp only [okTr, Bool.and_eq_true, decide_eq_true_eq, Bool.not_eq_true'] at hok
      obtain ⟨⟨⟨⟨⟨⟨hr, hi⟩, hj⟩, hk'⟩, hok1⟩, hok2⟩, hok3⟩ := hok
      obtain ⟨h1, h2, h3⟩ := h
      refine ⟨fun h0 => absurd h0 (by rw [hr]; simp), fun m hm => ?_⟩
      rw [hr] at hm
      simp only [List.mem_cons, List.not_mem_nil, or_false] at hm
      rcases hm with rfl | rfl | rfl
      · exact step_sound hS h1 (fun a' w' hS' h' => iht fuel _ _ _ hf'.1 (closed_set hcl (by rw [hr]; simp)) hok1 (fun _ => hS' hi) h')
      · exact step_sound hS h2 (fun a' w' hS' h' => ihu fuel _ _ _ hf'.2.1 (closed_set hcl (by rw [hr]; simp)) hok2 (fun _ => hS' hj) h')
      · exact step_sound hS h3 (fun a' w' hS' h' => ihv fuel _ _ _ hf'.2.2 (closed_set hcl (by rw [hr]; simp)) hok3 (fun _ => hS' hk') h')

def treeOk (ops : Array Oper) (t : Tr) : Bool := Region.noSelect ops && decide (t.depth ≤ ops.size) && !t.isLeaf && okTr .any ops t (Array.replicate ops.size false)
/-- The beginning: the tree, checked by the kernel; S of the world at hand. -/
theorem wp_region_tree {id : Nat} {a : Act} {w : World} (t : Tr) (S : World → Prop) (hm : P.follows .mixedOrders = true) (hok : treeOk l.toArray t = true)
    (hQ : ∀ c a d v w, Q (.panic c) (Act.put a d v) w → Q (.panic c) a w) (hS : S w.drew) (h : wpTr P .any l Q S t a w.drew) : (Code.region id l.toArray true).wp P Q a w := by
  unfold treeOk at hok
  simp only [Bool.and_eq_true, decide_eq_true_eq] at hok
  obtain ⟨⟨⟨h1, h2⟩, _⟩, h3⟩ := hok
  exact wp_region_any hm (wpAny_of_R (S := S) _ _ _ _ (wpTr_sound h1 hQ t _ _ _ _ h2 (closed_none _) h3 (fun _ => hS) h))

theorem tr_skip {i : Nat} {t : Tr} {o : Oper} {a : Act} {w : World} (ho : l[i]? = some o) (hw : Region.wanted o (yielded l.toArray a.tmps) = false)
    (h : wpTr P md l Q S t (a.put o.dst undef) w) : wpTr P md l Q S (.read i t) a w := by
  simp only [wpTr, ho]; exact .inl ⟨hw, h⟩
theorem tr_read {i : Nat} {t : Tr} {o : Oper} {a : Act} {w : World} (ho : l[i]? = some o) (hw : Region.wanted o (yielded l.toArray a.tmps) = true) (v : Value)
    (hv : ∀ w', S w' → (execOp a.eval o).run P w' = .ok (.value v) w') (h : wpTr P md l Q S t (a.put o.dst v) w) : wpTr P md l Q S (.read i t) a w := by
  simp only [wpTr, ho]; exact .inr ⟨hw, v, hv, h⟩
theorem tr_step {i : Nat} {T : Act → World → Prop} {o : Oper} {a : Act} {w : World} (ho : l[i]? = some o) (hw : Region.wanted o (yielded l.toArray a.tmps) = true)
    (h : ∀ K : Act → World → Prop, (∀ a w, S w → T a w → K a w) → o.wp P a w K Q) : stepTr P md l Q S i T a w := by
  simp only [stepTr, ho]; exact .inr ⟨hw, by simpa using h _ (fun a w hS h => ⟨fun _ => hS, fun _ => h⟩)⟩
/-- The last one, which waits for all others. -/
theorem tr_last {i : Nat} {T : Act → World → Prop} {o : Oper} {a : Act} {w : World} (ho : l[i]? = some o) (hw : Region.wanted o (yielded l.toArray a.tmps) = true) (hf : finalOp md l.toArray i = true)
    (h : ∀ K : Act → World → Prop, (∀ a w, T a w → K a w) → o.wp P a w K Q) : stepTr P md l Q S i T a w := by
  simp only [stepTr, ho]; exact .inr ⟨hw, by simpa [hf] using h T (fun a w h => h)⟩
theorem tr_none {i : Nat} {T : Act → World → Prop} {o : Oper} {a : Act} {w : World} (ho : l[i]? = some o) (hw : Region.wanted o (yielded l.toArray a.tmps) = false) (h : T (a.put o.dst undef) w) : stepTr P md l Q S i T a w := by
  simp only [stepTr, ho]; exact .inl ⟨hw, h⟩
end
end Go.Proofs.Ytmfbkgdlfackcaa

/- Small words for the walk along a tree. -/
namespace Go.Proofs.Ytmfbkgdlfackcaa
open Go.RowKit

def Two (g : Nat) (a b : Int) (X : World) : Prop := X.cell? ⟨g, 0, none⟩ = some (.int .i64 a) ∧ X.cell? ⟨g, 1, none⟩ = some (.int .i64 b)
theorem Two.grown {g : Nat} {a b : Int} {X X' : World} (k : Two g a b X) (hb : Below X.heap.size X X') : Two g a b X' := ⟨cellB k.1 hb, cellB k.2 hb⟩
theorem Two.lt2 {g : Nat} {a b : Int} {X : World} (k : Two g a b X) : g < X.heap.size := World.block_lt_of_cell? _ _ k.1
theorem Slots.lt2 {g : Nat} {X : World} (k : Slots g 2 X) : g < X.heap.size := by
  obtain ⟨v, h, _⟩ := k.get 0 (by omega)
  exact World.block_lt_of_cell? _ _ h
theorem slots_new2 (w : World) (t : TypeId) : Slots w.heap.size 2 (w.alloc (.cells #[.int .i64 0, .int .i64 0] t)) := by
  intro o ho
  have : o = 0 ∨ o = 1 := by omega
  rcases this with rfl | rfl <;> simp [go_sem]
theorem two_set {g : Nat} {X : World} (h : Slots g 2 X) (x y : Int) : Two g x y ((X.setCell ⟨g, 0, none⟩ (.int .i64 x)).setCell ⟨g, 1, none⟩ (.int .i64 y)) := by
  obtain ⟨u, q, _⟩ := h.get 0 (by omega)
  obtain ⟨v, r, _⟩ := h.get 1 (by omega)
  constructor
  · rw [World.cell?_setCell_other _ _ _ _ (by simp), World.cell?_setCell_same _ _ _ q]
  · refine World.cell?_setCell_same _ _ _ (u := v) ?_
    rw [World.cell?_setCell_other _ _ _ _ (by simp)]; exact r
theorem Two.far {g g' : Nat} {a b : Int} {X : World} (k : Two g a b X) (hne : g ≠ g') (x y : Int) : Two g a b ((X.setCell ⟨g', 0, none⟩ (.int .i64 x)).setCell ⟨g', 1, none⟩ (.int .i64 y)) := by
  constructor
  · rw [World.cell?_setCell_other _ _ _ _ (fun e => hne (by injection e with e; exact e.symm)), World.cell?_setCell_other _ _ _ _ (fun e => hne (by injection e with e; exact e.symm))]; exact k.1
  · rw [World.cell?_setCell_other _ _ _ _ (fun e => hne (by injection e with e; exact e.symm)), World.cell?_setCell_other _ _ _ _ (fun e => hne (by injection e with e; exact e.symm))]; exact k.2
end Go.Proofs.Ytmfbkgdlfackcaa
