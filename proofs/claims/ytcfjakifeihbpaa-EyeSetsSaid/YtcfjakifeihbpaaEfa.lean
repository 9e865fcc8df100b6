/- Eye: whether a watch is left out. -/
import Derived.Test.YtcfjakifeihbpaaErl
namespace Go.Proofs.Ytcfjakifeihbpaa
namespace Ey
open Go.RowKit

def farB (h : Wd) (xs : List (Int × Int)) (ls : List LkV) (q : Int) : Bool := decide (40 < ls.length) || decide (100 < xs.length) || (decide (q < (ls.length : Int)) && validW h xs ls)
set_option maxRecDepth 100000 in
set_option maxHeartbeats 2000000 in
theorem far_any (h : Wd) (xs : List (Int × Int)) (ls : List LkV) (q : Int) (w : World) (hm : HasW w h xs ls) : Calls Try.prog 12 #[h.val, .int .i64 q] w (Ret (.bool (farB h xs ls q)) w) := by
  have hX := newB w (.cells #[.slice h.a h.n h.cap, .int .i64 h.eLo, .int .i64 h.eHi, .int .i64 h.images, .int .i64 h.eyes, .int .i64 h.hLo, .int .i64 h.hHi, .slice h.la h.ln h.lcap] 29)
  obtain ⟨c0, c1, c2, c3, c4, c5, c6, c7⟩ := boxW_new w h 29
  have HM := Lib.hid (hm.below hX)
  have hR : Hid (farB h xs ls q = (decide (40 < h.ln) || decide (100 < h.n) || (decide (q < (h.ln : Int)) && validW h xs ls))) := by show _ = _; unfold farB; rw [hm.nl, hm.nx]
  have hW : Hid (∀ Y, Below w.heap.size w Y → ¬ 40 < h.ln → ¬ 100 < h.n → Calls Try.prog 33 #[h.val] Y (Ret (.bool (validW h xs ls)) Y)) := fun Y hY a b => watchR_any h xs ls Y (hm.below hY) (by rw [hm.nx]; omega) (by rw [hm.nl]; omega)
  generalize farB h xs ls q = R at *
  generalize validW h xs ls = V at *
  have hl0 : (h.ln : Int) ≤ 9223372036854775807 := by rw [← hm.nl]; have := hm.ll; omega
  have hl1 : (h.n : Int) ≤ 9223372036854775807 := by rw [← hm.nx]; have := hm.lx; omega
  clear hm
  unfold Wd.val at hW ⊢
  by_cases h1 : 40 < h.ln
  · have h1' : (h.ln : Int) > 40 := by omega
    have hRn : Hid (R = true) := by show _ = _; rw [hR.out]; simp [h1]
    clear hR
    go_enter Try.func12, Try.ntmps12
    go_wp2
    go_ret
    exact ⟨by rw [hRn.out]; rfl, hX⟩
  have h1' : ¬ (h.ln : Int) > 40 := by omega
  by_cases h2 : 100 < h.n
  · have h2' : (h.n : Int) > 100 := by omega
    have hRn : Hid (R = true) := by show _ = _; rw [hR.out]; simp [h2]
    clear hR
    go_enter Try.func12, Try.ntmps12
    go_wp2
    go_ret
    exact ⟨by rw [hRn.out]; rfl, hX⟩
  have h2' : ¬ (h.n : Int) > 100 := by omega
  by_cases h3 : q < (h.ln : Int)
  · have h3' : (h.ln : Int) > q := h3
    have hRn : Hid (R = V) := by show _ = _; rw [hR.out]; simp [h1, h2, h3]
    clear hR
    go_enter Try.func12, Try.ntmps12
    go_wp2_with fail
    refine (hW.out _ hX h1 h2).mono ?_
    rintro e w1 ⟨rfl, hb1⟩
    have hB := BT hX hb1
    go_wp2
    go_ret
    exact ⟨by rw [hRn.out]; rfl, hB⟩
  · have h3' : ¬ (h.ln : Int) > q := h3
    have hRn : Hid (R = false) := by show _ = _; rw [hR.out]; simp [h1, h2, h3]
    clear hR
    go_enter Try.func12, Try.ntmps12
    go_wp2
    go_ret
    exact ⟨by rw [hRn.out]; rfl, hX⟩
end Ey
end Go.Proofs.Ytcfjakifeihbpaa
