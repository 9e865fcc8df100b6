/- What is far too large; a place if the sum is known. -/
import Derived.Test.YtmfbkgdlfackcaaRme
import Derived.Test.YtmfbkgdlfackcaaMex
import Derived.Test.YtmfbkgdlfackcaaMsm
namespace Go.Proofs.Ytmfbkgdlfackcaa
open Go.RowKit

def greatB (n ns : Nat) : Bool := decide ((ns : Int) > 30) || decide ((n : Int) > 100)
theorem great_any (h : Hd) (w : World) : Calls Try.prog 13 #[h.val] w (Ret (.bool (greatB h.n h.ns)) w) := by
  have he : Hid (greatB h.n h.ns = (decide ((h.ns : Int) > 30) || decide ((h.n : Int) > 100))) := rfl
  generalize greatB h.n h.ns = g at *
  unfold Hd.val
  by_cases h1 : (h.ns : Int) > 30
  · have hd : decide ((h.ns : Int) > 30) = true := by simpa using h1
    have HD := Lib.hid hd
    go_enter Try.func13, Try.ntmps13
    go_wp2
    go_ret
    exact ⟨by rw [he.out, HD.out]; rfl, by (repeat (first | assumption | exact Below.refl _ _ | refine BA ?_ _ | refine BC ?_ _ _ (by omega) _ | refine Below.drew ?_ | refine BT ?_ (by assumption)))⟩
  · have hd : decide ((h.ns : Int) > 30) = false := by simpa using h1
    have HD := Lib.hid hd
    by_cases h2 : (h.n : Int) > 100
    all_goals
      go_enter Try.func13, Try.ntmps13
      go_wp2
      go_ret
      exact ⟨by rw [he.out, HD.out]; simp [h2], by (repeat (first | assumption | exact Below.refl _ _ | refine BA ?_ _ | refine BC ?_ _ _ (by omega) _ | refine Below.drew ?_ | refine BT ?_ (by assumption)))⟩

theorem withN_has {w : World} {h : Hd} {xs : List (Int × Int)} {ss : List Sett} (k : HasM w h xs ss) (n : Int) : HasM w (withN h n) xs ss := ⟨k.sp, k.st, k.nx, k.ns, k.lx, k.ls⟩
set_option maxRecDepth 100000 in
set_option maxHeartbeats 2000000 in
theorem with_any (B C : Nat) (im n : Int) (h : Hd) (xs : List (Int × Int)) (ss : List Sett) (w : World) (hm : BoxM w B h xs ss) (hC : w.cell? ⟨C, 0, none⟩ = some (.int .i64 im)) :
    Calls Try.prog 38 #[.int .i64 n, .pointer (some ⟨B, 0, none⟩), .pointer (some ⟨C, 0, none⟩)] w (Ret (reply (placeA (withN h n) xs ss im)) w) := by
  have HM := Lib.hid hm
  obtain ⟨lo, hi, c, hrep⟩ := reply_eq (placeA_sp (withN h n) xs ss im)
  have hp : Hid (∀ Y, Below w.heap.size w Y → Calls Try.prog 20 #[.agg #[.slice h.a h.n h.cap, .int .i64 h.eLo, .int .i64 h.eHi, .int .i64 h.images, .int .i64 n, .int .i64 n, .slice h.sa h.ns h.scap], .int .i64 im] Y (Ret (.tuple #[.agg #[.int .i64 lo, .int .i64 hi], .int .i64 c]) Y)) := fun Y hY => by
    have := place_any im (withN h n) xs ss Y (withN_has (HM.out.has.below (Nat.le_refl _) hY) n)
    rw [hrep] at this; exact this
  have HR := Lib.hid hrep; clear hrep
  obtain ⟨c0, c1, c2, c3, c4, c5, c6, hh⟩ := hm
  have hBlt : B < w.heap.size := World.block_lt_of_cell? _ _ c0
  have hClt : C < w.heap.size := World.block_lt_of_cell? _ _ hC
  clear hh
  go_enter Try.func38, Try.ntmps38
  go_wp2_with fail
  refine (spanL_any _ _ _).mono ?_
  rintro e w1 ⟨rfl, hb1⟩
  have y0 : w1.cell? ⟨w.heap.size + 1, 0, none⟩ = some (.slice h.a h.n h.cap) := (hb1.cell (p := ⟨w.heap.size + 1, 0, none⟩) (by simp)).trans (by simp [go_sem])
  have y1 : w1.cell? ⟨w.heap.size + 1, 1, none⟩ = some (.int .i64 h.eLo) := (hb1.cell (p := ⟨w.heap.size + 1, 1, none⟩) (by simp)).trans (by simp [go_sem])
  have y2 : w1.cell? ⟨w.heap.size + 1, 2, none⟩ = some (.int .i64 h.eHi) := (hb1.cell (p := ⟨w.heap.size + 1, 2, none⟩) (by simp)).trans (by simp [go_sem])
  have y3 : w1.cell? ⟨w.heap.size + 1, 3, none⟩ = some (.int .i64 h.images) := (hb1.cell (p := ⟨w.heap.size + 1, 3, none⟩) (by simp)).trans (by simp [go_sem])
  have y4 : w1.cell? ⟨w.heap.size + 1, 4, none⟩ = some (.int .i64 h.sLo) := (hb1.cell (p := ⟨w.heap.size + 1, 4, none⟩) (by simp)).trans (by simp [go_sem])
  have y5 : w1.cell? ⟨w.heap.size + 1, 5, none⟩ = some (.int .i64 h.sHi) := (hb1.cell (p := ⟨w.heap.size + 1, 5, none⟩) (by simp)).trans (by simp [go_sem])
  have y6 : w1.cell? ⟨w.heap.size + 1, 6, none⟩ = some (.slice h.sa h.ns h.scap) := (hb1.cell (p := ⟨w.heap.size + 1, 6, none⟩) (by simp)).trans (by simp [go_sem])
  have z4 : w1.frozen? ⟨w.heap.size + 1, 4, none⟩ = false := (hb1.frozen (p := ⟨w.heap.size + 1, 4, none⟩) (by simp)).trans (by simp)
  have z5 : w1.frozen? ⟨w.heap.size + 1, 5, none⟩ = false := (hb1.frozen (p := ⟨w.heap.size + 1, 5, none⟩) (by simp)).trans (by simp)
  have hZ : Below w.heap.size w ((w.alloc (.cells #[.int .i64 0, .int .i64 0] 24)).alloc (.cells #[.slice h.a h.n h.cap, .int .i64 h.eLo, .int .i64 h.eHi, .int .i64 h.images, .int .i64 h.sLo, .int .i64 h.sHi, .slice h.sa h.ns h.scap] 29)) := by (repeat (first | assumption | exact Below.refl _ _ | refine BA ?_ _ | refine BC ?_ _ _ (by omega) _ | refine Below.drew ?_ | refine BT ?_ (by assumption)))
  have hB1 : Below w.heap.size w w1 := BT hZ hb1
  have hC1 : w1.cell? ⟨C, 0, none⟩ = some (.int .i64 im) := cellB hC hB1
  have hsl : Slots w.heap.size 2 w1 := by
    intro o ho
    have e1 : w1.cell? ⟨w.heap.size, o, none⟩ = ((w.alloc (.cells #[.int .i64 0, .int .i64 0] 24)).alloc (.cells #[.slice h.a h.n h.cap, .int .i64 h.eLo, .int .i64 h.eHi, .int .i64 h.images, .int .i64 h.sLo, .int .i64 h.sHi, .slice h.sa h.ns h.scap] 29)).cell? ⟨w.heap.size, o, none⟩ := hb1.cell (p := ⟨w.heap.size, o, none⟩) (by simp; omega)
    have e2 : w1.frozen? ⟨w.heap.size, o, none⟩ = ((w.alloc (.cells #[.int .i64 0, .int .i64 0] 24)).alloc (.cells #[.slice h.a h.n h.cap, .int .i64 h.eLo, .int .i64 h.eHi, .int .i64 h.images, .int .i64 h.sLo, .int .i64 h.sHi, .slice h.sa h.ns h.scap] 29)).frozen? ⟨w.heap.size, o, none⟩ := hb1.frozen (p := ⟨w.heap.size, o, none⟩) (by simp; omega)
    rw [e1, e2]
    have : o = 0 ∨ o = 1 := by omega
    rcases this with rfl | rfl <;> simp [go_sem]
  have hs1 : w.heap.size + 2 ≤ w1.heap.size := by have := hb1.size; simp at this; omega
  clear hb1 hZ c0 c1 c2 c3 c4 c5 c6 hC
  go_wp2_with fail
  have hB2 : Below w.heap.size w ((w1.setCell ⟨w.heap.size + 1, 4, none⟩ (.int .i64 n)).setCell ⟨w.heap.size + 1, 5, none⟩ (.int .i64 n)) := by (repeat (first | assumption | exact Below.refl _ _ | refine BA ?_ _ | refine BC ?_ _ _ (by omega) _ | refine Below.drew ?_ | refine BT ?_ (by assumption)))
  have hsl2 : Slots w.heap.size 2 ((w1.setCell ⟨w.heap.size + 1, 4, none⟩ (.int .i64 n)).setCell ⟨w.heap.size + 1, 5, none⟩ (.int .i64 n)) := (hsl.set _ _).set _ _
  have hs2 : w.heap.size + 2 ≤ ((w1.setCell ⟨w.heap.size + 1, 4, none⟩ (.int .i64 n)).setCell ⟨w.heap.size + 1, 5, none⟩ (.int .i64 n)).heap.size := by simp; omega
  generalize (w1.setCell ⟨w.heap.size + 1, 4, none⟩ (.int .i64 n)).setCell ⟨w.heap.size + 1, 5, none⟩ (.int .i64 n) = W2 at *
  refine (hp.out W2 hB2).mono ?_
  rintro e w3 ⟨rfl, hb3⟩
  have hB3 := BT hB2 hb3
  obtain ⟨v0, u0, f0⟩ := (hsl2.below hb3 (by omega)).get 0 (by omega)
  obtain ⟨v1, u1, f1⟩ := (hsl2.below hb3 (by omega)).get 1 (by omega)
  clear hsl hsl2 hB2 hb3 hp y0 y1 y2 y3 y4 y5 y6 z4 z5 hC1 hB1
  go_wp2
  exact bodyPost_ret (v := .tuple #[.agg #[.int .i64 lo, .int .i64 hi], .int .i64 c]) (by simp [results, Try.results38, go_sem, u0, u1]) rfl ⟨by rw [HR.out], by (repeat (first | assumption | exact Below.refl _ _ | refine BA ?_ _ | refine BC ?_ _ _ (by omega) _ | refine Below.drew ?_ | refine BT ?_ (by assumption)))⟩
end Go.Proofs.Ytmfbkgdlfackcaa
