/- The closure that answers: the travels of a reading. -/
import Derived.Test.YtcfjakifeihbpaaGreatMva
import Derived.Test.YtcfjakifeihbpaaGreatTrav
import Derived.Test.YtcfjakifeihbpaaGreatAns
namespace Go.Proofs.YtcfjakifeihbpaaGreat
open Go.RowKit

/-- The box of a screw. -/
structure BoxS (w : World) (B : Nat) (a : Option Addr) (cap : Nat) (eLo eHi : Int) (xs : List (Int × Int)) : Prop where
  c0 : w.cell? ⟨B, 0, none⟩ = some (.slice a xs.length cap)
  c1 : w.cell? ⟨B, 1, none⟩ = some (.int .i64 eLo)
  c2 : w.cell? ⟨B, 2, none⟩ = some (.int .i64 eHi)
  sp : Spans w a xs
  lx : xs.length ≤ 9223372036854775807
theorem cellH {w w' : World} {p : Addr} {v : Value} (h : w.cell? p = some v) (hb : Below w.heap.size w w') : w'.cell? p = some v := (hb.cell (World.block_lt_of_cell? _ _ h)).trans h
theorem BoxS.grown {w w' : World} {B : Nat} {a : Option Addr} {cap : Nat} {eLo eHi : Int} {xs : List (Int × Int)} (k : BoxS w B a cap eLo eHi xs) (hb : Below w.heap.size w w') : BoxS w' B a cap eLo eHi xs :=
  ⟨cellH k.c0 hb, cellH k.c1 hb, cellH k.c2 hb, k.sp.below (Nat.le_refl _) hb, k.lx⟩

def travelR (xs : List (Int × Int)) (eLo eHi r : Int) : Except Int Value :=
  if validB xs eLo eHi then if hasTrn xs.length r then .ok (.agg #[.int .i64 (trav r (xs.getD (r / 1000).toNat (0, 0)).1 eLo), .int .i64 (trav r (xs.getD (r / 1000).toNat (0, 0)).2 eHi)]) else .error 2 else .error 1

theorem travel_at (a : Option Addr) (cap : Nat) (r eLo eHi : Int) (xs : List (Int × Int)) (w : World) (hx : Spans w a xs) (hr : r ≤ 9223372036854775807) (ht : hasTrn xs.length r = true) :
    Calls Tryz.prog 59 #[.agg #[.slice a xs.length cap, .int .i64 eLo, .int .i64 eHi], .int .i64 r] w
      (Ret (.agg #[.int .i64 (trav r (xs.getD (r / 1000).toNat (0, 0)).1 eLo), .int .i64 (trav r (xs.getD (r / 1000).toNat (0, 0)).2 eHi)]) w) := by
  simp only [hasTrn, Bool.and_eq_true, decide_eq_true_eq] at ht
  rcases hx with rfl | ⟨b, o, rfl, hb, hk⟩
  · simp at ht; omega
  · have hq : r / 1000 = ((r / 1000).toNat : Int) := by omega
    have h1 : (r / 1000).toNat < xs.length := by omega
    exact travel_any b o xs.length cap (r / 1000).toNat r eLo eHi _ _ w ht.1 hr hq h1 hb (hk _ h1).1 (hk _ h1).2

set_option maxRecDepth 100000 in
set_option maxHeartbeats 2000000 in
theorem travelC_any (B C : Nat) (a : Option Addr) (cap : Nat) (eLo eHi r : Int) (xs : List (Int × Int)) (w : World) (hm : BoxS w B a cap eLo eHi xs) (hC : w.cell? ⟨C, 0, none⟩ = some (.int .i64 r)) (hr : r ≤ 9223372036854775807) :
    Calls Tryz.prog 56 #[.pointer (some ⟨B, 0, none⟩), .pointer (some ⟨C, 0, none⟩)] w (Out (travelR xs eLo eHi r) w) := by
  have hBW : Below w.heap.size w (w.alloc (Obj.cells #[.int .i64 0, .int .i64 0] 24)) := by (repeat (first | assumption | exact Below.refl _ _ | refine BA ?_ _ | refine BC ?_ _ _ (by omega) _ | refine Below.drew ?_ | refine BT ?_ (by assumption)))
  have K := Lib.hid (hm.grown hBW)
  have hv : Hid (Calls Tryz.prog 57 #[.agg #[.slice a xs.length cap, .int .i64 eLo, .int .i64 eHi]] (w.alloc (Obj.cells #[.int .i64 0, .int .i64 0] 24)) (Ret (.bool (validB xs eLo eHi)) (w.alloc (Obj.cells #[.int .i64 0, .int .i64 0] 24)))) := valid_any a xs cap eLo eHi _ K.out.lx K.out.sp
  have hh : Hid (∀ w', Calls Tryz.prog 58 #[.agg #[.slice a xs.length cap, .int .i64 eLo, .int .i64 eHi], .int .i64 r] w' (Ret (.bool (hasTrn xs.length r)) w')) := fun w' => hasTurn_any a xs.length cap _ _ r w' hr
  have ht : Hid (hasTrn xs.length r = true → ∀ w', BoxS w' B a cap eLo eHi xs → Calls Tryz.prog 59 #[.agg #[.slice a xs.length cap, .int .i64 eLo, .int .i64 eHi], .int .i64 r] w' (Ret (.agg #[.int .i64 (trav r (xs.getD (r / 1000).toNat (0, 0)).1 eLo), .int .i64 (trav r (xs.getD (r / 1000).toNat (0, 0)).2 eHi)]) w')) :=
    fun h w' k => travel_at a cap r eLo eHi xs w' k.sp hr h
  have hC0 := cellH hC hBW
  obtain ⟨k0, k1, k2, _, _⟩ := K.out
  have s0 : (w.alloc (Obj.cells #[.int .i64 0, .int .i64 0] 24)).heap.size = w.heap.size + 1 := by simp
  have hW : Hid ((w.alloc (Obj.cells #[.int .i64 0, .int .i64 0] 24)).cell? ⟨w.heap.size, 0, none⟩ = some (.int .i64 0) ∧ (w.alloc (Obj.cells #[.int .i64 0, .int .i64 0] 24)).frozen? ⟨w.heap.size, 0, none⟩ = false ∧ (w.alloc (Obj.cells #[.int .i64 0, .int .i64 0] 24)).cell? ⟨w.heap.size, 1, none⟩ = some (.int .i64 0) ∧ (w.alloc (Obj.cells #[.int .i64 0, .int .i64 0] 24)).frozen? ⟨w.heap.size, 1, none⟩ = false) := ⟨by simp [go_sem], by simp, by simp [go_sem], by simp⟩
  clear hm hC
  unfold travelR
  generalize trav r (xs.getD (r / 1000).toNat (0, 0)).1 eLo = lo at *
  generalize trav r (xs.getD (r / 1000).toNat (0, 0)).2 eHi = hi at *
  generalize validB xs eLo eHi = b1 at *
  generalize hasTrn xs.length r = b2 at *
  cases b1
  · go_enter Tryz.func56, Tryz.ntmps56
    go_wp2_with (first
      | (go_at_call 57; refine hv.out.mono ?_; rintro e w1 ⟨rfl, hb1⟩)
      | (go_at_call 47; refine (insist_no _ _).mono ?_; rintro e w2 ⟨rfl, hb2⟩))
    exact ⟨rfl, rfl, by (repeat (first | assumption | exact Below.refl _ _ | refine BA ?_ _ | refine BC ?_ _ _ (by omega) _ | refine Below.drew ?_ | refine BT ?_ (by assumption)))⟩
  cases b2
  · go_enter Tryz.func56, Tryz.ntmps56
    go_wp2_with (go_at_call 57; refine hv.out.mono ?_; rintro e w1 ⟨rfl, hb1⟩; have K1 := K.out.grown hb1; have hC1 := cellH hC0 hb1)
    refine (insist_yes _ _).mono ?_
    clear hv
    rintro e w2 ⟨rfl, hb2⟩
    have K2 := K1.grown hb2
    have hC2 := cellH hC1 hb2
    have k3 := K2.c0
    have k4 := K2.c1
    have k5 := K2.c2
    go_wp2_with (go_at_call 58; refine (hh.out _).mono ?_; clear hh; rintro e w3 ⟨rfl, hb3⟩)
    refine (insist_no _ _).mono ?_
    rintro e w4 ⟨rfl, hb4⟩
    go_wp2
    exact ⟨rfl, rfl, by (repeat (first | assumption | exact Below.refl _ _ | refine BA ?_ _ | refine BC ?_ _ _ (by omega) _ | refine Below.drew ?_ | refine BT ?_ (by assumption)))⟩
  · go_enter Tryz.func56, Tryz.ntmps56
    go_wp2_with (go_at_call 57; refine hv.out.mono ?_; rintro e w1 ⟨rfl, hb1⟩; have K1 := K.out.grown hb1; have hC1 := cellH hC0 hb1)
    refine (insist_yes _ _).mono ?_
    clear hv
    rintro e w2 ⟨rfl, hb2⟩
    have K2 := K1.grown hb2
    have hC2 := cellH hC1 hb2
    have k3 := K2.c0
    have k4 := K2.c1
    have k5 := K2.c2
    go_wp2_with (go_at_call 58; refine (hh.out _).mono ?_; clear hh; rintro e w3 ⟨rfl, hb3⟩)
    refine (insist_yes _ _).mono ?_
    rintro e w4 ⟨rfl, hb4⟩
    have K4 := (K2.grown hb3).grown hb4
    have hC4 := cellH (cellH hC2 hb3) hb4
    have k6 := K4.c0
    have k7 := K4.c1
    have k8 := K4.c2
    go_wp2_with fail
    refine (ht.out (by simp) _ K4).mono ?_
    rintro e w5 ⟨rfl, hb5⟩
    go_wp2_with fail
    refine (span_any _ _ _).mono ?_
    rintro e w6 ⟨rfl, hb6⟩
    have hA : Below (w.alloc (Obj.cells #[.int .i64 0, .int .i64 0] 24)).heap.size (w.alloc (Obj.cells #[.int .i64 0, .int .i64 0] 24)) w6 := by (repeat (first | assumption | exact Below.refl _ _ | refine BA ?_ _ | refine BC ?_ _ _ (by omega) _ | refine Below.drew ?_ | refine BT ?_ (by assumption)))
    have hB : Below w.heap.size w w6 := BT hBW hA
    have d0 := (hA.cell (p := ⟨w.heap.size, 0, none⟩) (by simp)).trans hW.out.1
    have f0 := (hA.frozen (p := ⟨w.heap.size, 0, none⟩) (by simp)).trans hW.out.2.1
    have d1 := (hA.cell (p := ⟨w.heap.size, 1, none⟩) (by simp)).trans hW.out.2.2.1
    have f1 := (hA.frozen (p := ⟨w.heap.size, 1, none⟩) (by simp)).trans hW.out.2.2.2
    clear ht hb1 hb2 hb3 hb4 hb5 hb6 hA hW hBW K K1 K2 K4
    go_wp2
    exact bodyPost_ret (v := .agg #[.int .i64 lo, .int .i64 hi]) (by simp [results, Tryz.results56, go_sem, d0, d1]) rfl ⟨rfl, by (repeat (first | assumption | exact Below.refl _ _ | refine BA ?_ _ | refine BC ?_ _ _ (by omega) _ | refine Below.drew ?_ | refine BT ?_ (by assumption)))⟩
end Go.Proofs.YtcfjakifeihbpaaGreat
