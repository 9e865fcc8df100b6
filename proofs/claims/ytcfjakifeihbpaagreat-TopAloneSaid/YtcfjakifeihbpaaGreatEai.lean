/- Eye: Sure, Clash, Drop and Explain. -/
import Derived.Test.YtcfjakifeihbpaaGreatEsu
namespace Go.Proofs.YtcfjakifeihbpaaGreat
namespace Ey
open Go.RowKit Go.Shelf

def sureA (h : Wd) (xs : List (Int × Int)) (ls : List LkV) : Except Int Int := if validW h xs ls then sureR h xs ls else .error 1
def clashA (h : Wd) (xs : List (Int × Int)) (ls : List LkV) : Except Int Int := if validW h xs ls then .ok (clashR h xs ls) else .error 1
def dropA (h : Wd) (xs : List (Int × Int)) (ls : List LkV) : Except Int Int := if validW h xs ls then .ok (dropR h xs ls) else .error 1
def explainA (h : Wd) (xs : List (Int × Int)) (ls : List LkV) : Except Int Int := if validW h xs ls then explainR h xs ls else .error 1
set_option maxRecDepth 100000 in
set_option maxHeartbeats 2000000 in
theorem clash_any (h : Wd) (xs : List (Int × Int)) (ls : List LkV) (w : World) (hm : HasW w h xs ls) :
    Calls Tryz.prog 6 #[h.val] w (Ret (replyI (clashA h xs ls)) w) := by
  have hmf : ∀ (fn : Fn) (first cap : Array Value) (w : World), (Instr.makeFunc fn first cap).run Tryz.prog w = .ok (.func fn first cap) w := fun _ _ _ _ => rfl
  have hcl : Hid (∀ B Y, BoxA Y B h xs ls → Calls Tryz.prog 19 #[.pointer (some ⟨B, 0, none⟩)] Y (OutI (clashA h xs ls) Y)) := fun B Y hB => by
    unfold clashA
    cases hv : validW h xs ls
    · rw [if_neg (by simp)]; exact clashC_no B h xs ls Y hB hv
    · rw [if_pos rfl]; exact clashC_yes B h xs ls Y hB hv
  generalize clashA h xs ls = r at *
  have hb0 : BoxA (w.alloc (.cells #[.slice h.a h.n h.cap, .int .i64 h.eLo, .int .i64 h.eHi, .int .i64 h.images, .int .i64 h.eyes, .int .i64 h.hLo, .int .i64 h.hHi, .slice h.la h.ln h.lcap] 29)) w.heap.size h xs ls := ⟨boxW_new w h _, hm.below (newB _ _)⟩
  clear hm
  obtain ⟨v, c, hrep⟩ := replyI_eq r
  unfold Wd.val
  go_enter Tryz.func6, Tryz.ntmps6
  go_wp2_with fail
  have hB1 := newB w (.cells #[.slice h.a h.n h.cap, .int .i64 h.eLo, .int .i64 h.eHi, .int .i64 h.images, .int .i64 h.eyes, .int .i64 h.hLo, .int .i64 h.hHi, .slice h.la h.ln h.lcap] 29)
  generalize w.alloc (Obj.cells #[.slice h.a h.n h.cap, .int .i64 h.eLo, .int .i64 h.eHi, .int .i64 h.images, .int .i64 h.eyes, .int .i64 h.hLo, .int .i64 h.hHi, .slice h.la h.ln h.lcap] 29) = W1 at *
  refine (answerI_any 19 _ r _ (fun w => enters_of Tryz.func19 (by kernel_rfl) rfl _ w) (fun Y hY => hcl.out _ Y (hb0.grown hY))).mono ?_
  rintro e w9 ⟨rfl, hb9⟩
  have hB9 := BT hB1 hb9
  clear hb9 hB1 hb0 hcl
  rw [hrep]
  go_wp2
  exact bodyPost_ret (v := .tuple #[.int .i64 v, .int .i64 c]) (by simp [results, Tryz.results6, go_sem]) rfl ⟨by rw [hrep], hB9⟩
set_option maxRecDepth 100000 in
set_option maxHeartbeats 2000000 in
theorem drop_any (h : Wd) (xs : List (Int × Int)) (ls : List LkV) (w : World) (hm : HasW w h xs ls) :
    Calls Tryz.prog 8 #[h.val] w (Ret (replyI (dropA h xs ls)) w) := by
  have hmf : ∀ (fn : Fn) (first cap : Array Value) (w : World), (Instr.makeFunc fn first cap).run Tryz.prog w = .ok (.func fn first cap) w := fun _ _ _ _ => rfl
  have hcl : Hid (∀ B Y, BoxA Y B h xs ls → Calls Tryz.prog 34 #[.pointer (some ⟨B, 0, none⟩)] Y (OutI (dropA h xs ls) Y)) := fun B Y hB => by
    unfold dropA
    cases hv : validW h xs ls
    · rw [if_neg (by simp)]; exact dropC_no B h xs ls Y hB hv
    · rw [if_pos rfl]; exact dropC_yes B h xs ls Y hB hv
  generalize dropA h xs ls = r at *
  have hb0 : BoxA (w.alloc (.cells #[.slice h.a h.n h.cap, .int .i64 h.eLo, .int .i64 h.eHi, .int .i64 h.images, .int .i64 h.eyes, .int .i64 h.hLo, .int .i64 h.hHi, .slice h.la h.ln h.lcap] 29)) w.heap.size h xs ls := ⟨boxW_new w h _, hm.below (newB _ _)⟩
  clear hm
  obtain ⟨v, c, hrep⟩ := replyI_eq r
  unfold Wd.val
  go_enter Tryz.func8, Tryz.ntmps8
  go_wp2_with fail
  have hB1 := newB w (.cells #[.slice h.a h.n h.cap, .int .i64 h.eLo, .int .i64 h.eHi, .int .i64 h.images, .int .i64 h.eyes, .int .i64 h.hLo, .int .i64 h.hHi, .slice h.la h.ln h.lcap] 29)
  generalize w.alloc (Obj.cells #[.slice h.a h.n h.cap, .int .i64 h.eLo, .int .i64 h.eHi, .int .i64 h.images, .int .i64 h.eyes, .int .i64 h.hLo, .int .i64 h.hHi, .slice h.la h.ln h.lcap] 29) = W1 at *
  refine (answerI_any 34 _ r _ (fun w => enters_of Tryz.func34 (by kernel_rfl) rfl _ w) (fun Y hY => hcl.out _ Y (hb0.grown hY))).mono ?_
  rintro e w9 ⟨rfl, hb9⟩
  have hB9 := BT hB1 hb9
  clear hb9 hB1 hb0 hcl
  rw [hrep]
  go_wp2
  exact bodyPost_ret (v := .tuple #[.int .i64 v, .int .i64 c]) (by simp [results, Tryz.results8, go_sem]) rfl ⟨by rw [hrep], hB9⟩
end Ey
end Go.Proofs.YtcfjakifeihbpaaGreat
