/- The reference: the sum. -/
import Derived.Test.YtmfbkgdlfackcaaRse
namespace Go.Proofs.Ytmfbkgdlfackcaa
open Fw Go.RowKit

set_option maxRecDepth 100000 in
theorem sum_anyR (h : Hd) (xs : List (Int × Int)) (ss : List Sett) (w : World) (hm : HasM w h xs ss) (hn : xs.length ≤ 100) (hns : ss.length ≤ 100) :
    Calls Try.prog 19 #[h.val] w (Ret (tup3 (openE h xs ss true).1 (openE h xs ss true).2.1 (openE h xs ss true).2.2) w) := by
  have HO : Hid (∀ Y, Below w.heap.size w Y → Calls Try.prog 61 #[h.val, .bool true] Y (Ret (tup3 (openE h xs ss true).1 (openE h xs ss true).2.1 (openE h xs ss true).2.2) Y)) := fun Y hY => open_anyR h xs ss true Y (hm.below (Nat.le_refl _) hY) hn hns
  have hC0 : Hid (BoxC ((w.alloc (.cells #[.slice h.a h.n h.cap, .int .i64 h.eLo, .int .i64 h.eHi, .int .i64 h.images, .int .i64 h.sLo, .int .i64 h.sHi, .slice h.sa h.ns h.scap] 29)).alloc (.cells #[.int .i64 0, .int .i64 0] 24)) w.heap.size h) := (boxC_new w h).grown (newB _ _)
  have hS0 : Hid (Slots (w.heap.size + 1) 2 ((w.alloc (.cells #[.slice h.a h.n h.cap, .int .i64 h.eLo, .int .i64 h.eHi, .int .i64 h.images, .int .i64 h.sLo, .int .i64 h.sHi, .slice h.sa h.ns h.scap] 29)).alloc (.cells #[.int .i64 0, .int .i64 0] 24))) := by
    have := slots_new2 (w.alloc (.cells #[.slice h.a h.n h.cap, .int .i64 h.eLo, .int .i64 h.eHi, .int .i64 h.images, .int .i64 h.sLo, .int .i64 h.sHi, .slice h.sa h.ns h.scap] 29)) 24
    show Slots _ _ _
    simpa using this
  have hW0 : Below w.heap.size w ((w.alloc (.cells #[.slice h.a h.n h.cap, .int .i64 h.eLo, .int .i64 h.eHi, .int .i64 h.images, .int .i64 h.sLo, .int .i64 h.sHi, .slice h.sa h.ns h.scap] 29)).alloc (.cells #[.int .i64 0, .int .i64 0] 24)) := by
    (repeat (first | assumption | exact Below.refl _ _ | refine BA ?_ _ | refine BC ?_ _ _ (by omega) _ | refine Below.drew ?_ | refine BT ?_ (by assumption)))
  generalize openE h xs ss true = R at *
  obtain ⟨a, b, c⟩ := R
  dsimp only at HO ⊢
  unfold Hd.val tup3 at HO
  unfold Hd.val tup3
  clear hm
  go_enter Try.func19, Try.ntmps19
  go_wp2_with fail
  generalize hBw : w.heap.size = B at hC0 hS0 ⊢
  generalize (w.alloc (.cells #[.slice h.a h.n h.cap, .int .i64 h.eLo, .int .i64 h.eHi, .int .i64 h.images, .int .i64 h.sLo, .int .i64 h.sHi, .slice h.sa h.ns h.scap] 29)).alloc (.cells #[.int .i64 0, .int .i64 0] 24) = W at *
  have hwB1 : w.heap.size ≤ B + 1 := by omega
  clear hBw
  refine (HO.out _ hW0).mono ?_
  rintro e w1 ⟨rfl, hb1⟩
  have hS1 := hS0.out.below hb1 hS0.out.lt2
  obtain ⟨v0, u0, y0⟩ := hS1.get 0 (by omega)
  obtain ⟨v1, u1, y1⟩ := hS1.get 1 (by omega)
  clear hS0 hS1 hC0
  go_wp2
  exact bodyPost_ret (v := .tuple #[.agg #[.int .i64 a, .int .i64 b], .int .i64 c]) (by simp [results, Try.results19, go_sem, u0, u1]) rfl ⟨rfl, by (repeat (first | assumption | exact Below.refl _ _ | refine BA ?_ _ | refine BC ?_ _ _ (by omega) _ | refine Below.drew ?_ | refine BT ?_ (by assumption)))⟩
end Go.Proofs.Ytmfbkgdlfackcaa
