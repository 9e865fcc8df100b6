/- The functions of the package. -/
import Derived.Test.YtcfjakifeihbpaaGreatClo
import Derived.Test.YtcfjakifeihbpaaGreatTra
import Derived.Test.YtcfjakifeihbpaaGreatTvl
import Derived.Test.YtcfjakifeihbpaaGreatAns
namespace Go.Proofs.YtcfjakifeihbpaaGreat
open Go.RowKit Go.Shelf

theorem boxM_new {w : World} {h : Hd} {xs : List (Int × Int)} {ss : List Sett} (k : HasM w h xs ss) :
    BoxM (w.alloc (.cells #[.slice h.a h.n h.cap, .int .i64 h.eLo, .int .i64 h.eHi, .int .i64 h.images, .int .i64 h.sLo, .int .i64 h.sHi, .slice h.sa h.ns h.scap] 34)) w.heap.size h xs ss :=
  ⟨by simp [go_sem], by simp [go_sem], by simp [go_sem], by simp [go_sem], by simp [go_sem], by simp [go_sem], by simp [go_sem], k.below (Nat.le_refl _) (by (repeat (first | assumption | exact Below.refl _ _ | refine BA ?_ _ | refine BC ?_ _ _ (by omega) _ | refine Below.drew ?_ | refine BT ?_ (by assumption))))⟩
def placeA (h : Hd) (xs : List (Int × Int)) (ss : List Sett) (im : Int) : Except Int Value := if validH h xs ss then placeR h xs ss im else .error 1
theorem placeA_sp (h : Hd) (xs : List (Int × Int)) (ss : List Sett) (im : Int) : isSp (placeA h xs ss im) := by
  intro v hv
  unfold placeA placeR at hv
  repeat (split at hv)
  all_goals first | (cases hv; done) | (cases hv; exact ⟨_, _, rfl⟩)
set_option maxRecDepth 100000 in
set_option maxHeartbeats 2000000 in
theorem place_any (im : Int) (h : Hd) (xs : List (Int × Int)) (ss : List Sett) (w : World) (hm : HasM w h xs ss) :
    Calls Tryz.prog 11 #[h.val, .int .i64 im] w (Ret (reply (placeA h xs ss im)) w) := by
  have hmf : ∀ (fn : Fn) (first cap : Array Value) (w : World), (Instr.makeFunc fn first cap).run Tryz.prog w = .ok (.func fn first cap) w := fun _ _ _ _ => rfl
  have hsp := placeA_sp h xs ss im
  have hcl : Hid (∀ B C Y, BoxM Y B h xs ss → Y.cell? ⟨C, 0, none⟩ = some (.int .i64 im) → Calls Tryz.prog 44 #[.pointer (some ⟨B, 0, none⟩), .pointer (some ⟨C, 0, none⟩)] Y (Out (placeA h xs ss im) Y)) := fun B C Y hB hC => by
    unfold placeA
    cases hv : validH h xs ss
    · rw [if_neg (by simp)]; exact placeC_no B C h xs ss Y hB hv
    · rw [if_pos rfl]; exact placeC_yes B C im h xs ss Y hB hC hv
  generalize placeA h xs ss im = r at *
  have hb0 := boxM_new hm
  clear hm
  obtain ⟨lo, hi, c, hrep⟩ := reply_eq hsp
  unfold Hd.val
  go_enter Tryz.func11, Tryz.ntmps11
  go_wp2_with fail
  obtain ⟨W1, hW1⟩ : ∃ W, w.alloc (Obj.cells #[.slice h.a h.n h.cap, .int .i64 h.eLo, .int .i64 h.eHi, .int .i64 h.images, .int .i64 h.sLo, .int .i64 h.sHi, .slice h.sa h.ns h.scap] 34) = W := ⟨_, rfl⟩
  have s1 : w.heap.size + 1 = W1.heap.size := by rw [← hW1]; simp
  have hB1 : Below w.heap.size w W1 := hW1 ▸ newB _ _
  rw [hW1] at hb0 ⊢
  clear hW1
  rw [s1]
  have hb1 := hb0
  obtain ⟨W2, hW2⟩ : ∃ W, W1.alloc (Obj.cells #[.int .i64 im] 3) = W := ⟨_, rfl⟩
  have s2 : W1.heap.size + 1 = W2.heap.size := by rw [← hW2]; simp
  have hc2_2 : W2.cell? ⟨W1.heap.size, 0, none⟩ = some (.int .i64 im) := hW2 ▸ one_new _ _ _
  have hb2 := hW2 ▸ hb1.grown (newB W1 (.cells #[.int .i64 im] 3))
  have hB2 : Below w.heap.size w W2 := BT hB1 (hW2 ▸ newB _ _)
  rw [hW2]
  clear hW2
  rw [s2]
  obtain ⟨d0, f0, d1, f1⟩ := two_new W2 0 0
  have hc2_3 := cellH hc2_2 (newB W2 (.cells #[.int .i64 0, .int .i64 0] 24))
  have hb3 := hb2.grown (newB W2 (.cells #[.int .i64 0, .int .i64 0] 24))
  have hB3 := BT hB2 (newB W2 (.cells #[.int .i64 0, .int .i64 0] 24))
  have s3 : W2.heap.size < (W2.alloc (.cells #[.int .i64 0, .int .i64 0] 24)).heap.size := by simp
  generalize W2.alloc (.cells #[.int .i64 0, .int .i64 0] 24) = W3 at *
  refine (answer_any 44 _ r hsp _ (fun w => enters_of Tryz.func44 (by kernel_rfl) rfl _ w) (fun Y hY => hcl.out _ _ Y (hb3.grown hY) (cellH hc2_3 hY))).mono ?_
  rintro e w9 ⟨rfl, hb9⟩
  have d0 := cellH d0 hb9
  have d1 := cellH d1 hb9
  have f0 := (hb9.frozen (p := ⟨W2.heap.size, 0, none⟩) s3).trans f0
  have f1 := (hb9.frozen (p := ⟨W2.heap.size, 1, none⟩) s3).trans f1
  have hB9 := BT hB3 hb9
  have hle : w.heap.size ≤ W2.heap.size := hB2.size
  clear hb9 hcl hb1 hB1 hb2 hB2 hb3 hB3 hb0 hc2_2 hc2_3
  rw [hrep]
  generalize W2.heap.size = B at *
  go_wp2
  exact bodyPost_ret (v := .tuple #[.agg #[.int .i64 lo, .int .i64 hi], .int .i64 c]) (by simp [results, Tryz.results11, go_sem, d0, d1]) rfl ⟨by rw [hrep], by (repeat (first | assumption | exact Below.refl _ _ | refine BA ?_ _ | refine BC ?_ _ _ (by omega) _ | refine Below.drew ?_ | refine BT ?_ (by assumption)))⟩

def sumR (h : Hd) (xs : List (Int × Int)) (ss : List Sett) : Except Int Value := if (truthsS h xs ss).1 then .ok (spanS (truthsS h xs ss).2 0 1) else .error 10
def sumA (h : Hd) (xs : List (Int × Int)) (ss : List Sett) : Except Int Value := if validH h xs ss then sumR h xs ss else .error 1
theorem sumA_sp (h : Hd) (xs : List (Int × Int)) (ss : List Sett) : isSp (sumA h xs ss ) := by
  intro v hv
  unfold sumA sumR at hv
  repeat (split at hv)
  all_goals first | (cases hv; done) | (cases hv; exact ⟨_, _, rfl⟩)
theorem answerI_any (F : Nat) (caps : Array Value) (r : Except Int Int) (w : World) (hcall : ∀ w : World, (callFunc F caps).run Tryz.prog w = .ok (.enter F caps) w) (h : ∀ Y, Below w.heap.size w Y → Calls Tryz.prog F caps Y (OutI r Y)) :
    Calls Tryz.prog 27 #[.func (.func F) #[] caps] w (Ret (replyI r) w) := by
  cases r with
  | error c => exact answerI_err F caps c w hcall h
  | ok v => exact answerI_ok F caps v w hcall h
def clashA (h : Hd) (xs : List (Int × Int)) (ss : List Sett) : Except Int Int := if validH h xs ss then .ok (clashR h xs ss) else .error 1
set_option maxRecDepth 100000 in
set_option maxHeartbeats 2000000 in
theorem clash_any (h : Hd) (xs : List (Int × Int)) (ss : List Sett) (w : World) (hm : HasM w h xs ss) :
    Calls Tryz.prog 7 #[h.val] w (Ret (replyI (clashA h xs ss)) w) := by
  have hmf : ∀ (fn : Fn) (first cap : Array Value) (w : World), (Instr.makeFunc fn first cap).run Tryz.prog w = .ok (.func fn first cap) w := fun _ _ _ _ => rfl
  have hcl : Hid (∀ B Y, BoxM Y B h xs ss → Calls Tryz.prog 28 #[.pointer (some ⟨B, 0, none⟩)] Y (OutI (clashA h xs ss) Y)) := fun B Y hB => by
    unfold clashA
    cases hv : validH h xs ss
    · rw [if_neg (by simp)]; exact clashC_no B h xs ss Y hB hv
    · rw [if_pos rfl]; exact clashC_yes B h xs ss Y hB hv
  generalize clashA h xs ss = r at *
  have hb0 := boxM_new hm
  clear hm
  obtain ⟨v, c, hrep⟩ := replyI_eq r
  unfold Hd.val
  go_enter Tryz.func7, Tryz.ntmps7
  go_wp2_with fail
  have hB1 := newB w (.cells #[.slice h.a h.n h.cap, .int .i64 h.eLo, .int .i64 h.eHi, .int .i64 h.images, .int .i64 h.sLo, .int .i64 h.sHi, .slice h.sa h.ns h.scap] 34)
  generalize w.alloc (Obj.cells #[.slice h.a h.n h.cap, .int .i64 h.eLo, .int .i64 h.eHi, .int .i64 h.images, .int .i64 h.sLo, .int .i64 h.sHi, .slice h.sa h.ns h.scap] 34) = W1 at *
  refine (answerI_any 28 _ r _ (fun w => enters_of Tryz.func28 (by kernel_rfl) rfl _ w) (fun Y hY => hcl.out _ Y (hb0.grown hY))).mono ?_
  rintro e w9 ⟨rfl, hb9⟩
  have hB9 := BT hB1 hb9
  clear hb9 hB1 hb0 hcl
  rw [hrep]
  go_wp2
  exact bodyPost_ret (v := .tuple #[.int .i64 v, .int .i64 c]) (by simp [results, Tryz.results7, go_sem]) rfl ⟨by rw [hrep], hB9⟩
def dropA (h : Hd) (xs : List (Int × Int)) (ss : List Sett) : Except Int Int := if validH h xs ss then .ok (dropR h xs ss) else .error 1
set_option maxRecDepth 100000 in
set_option maxHeartbeats 2000000 in
theorem drop_any (h : Hd) (xs : List (Int × Int)) (ss : List Sett) (w : World) (hm : HasM w h xs ss) :
    Calls Tryz.prog 9 #[h.val] w (Ret (replyI (dropA h xs ss)) w) := by
  have hmf : ∀ (fn : Fn) (first cap : Array Value) (w : World), (Instr.makeFunc fn first cap).run Tryz.prog w = .ok (.func fn first cap) w := fun _ _ _ _ => rfl
  have hcl : Hid (∀ B Y, BoxM Y B h xs ss → Calls Tryz.prog 36 #[.pointer (some ⟨B, 0, none⟩)] Y (OutI (dropA h xs ss) Y)) := fun B Y hB => by
    unfold dropA
    cases hv : validH h xs ss
    · rw [if_neg (by simp)]; exact dropC_no B h xs ss Y hB hv
    · rw [if_pos rfl]; exact dropC_yes B h xs ss Y hB hv
  generalize dropA h xs ss = r at *
  have hb0 := boxM_new hm
  clear hm
  obtain ⟨v, c, hrep⟩ := replyI_eq r
  unfold Hd.val
  go_enter Tryz.func9, Tryz.ntmps9
  go_wp2_with fail
  have hB1 := newB w (.cells #[.slice h.a h.n h.cap, .int .i64 h.eLo, .int .i64 h.eHi, .int .i64 h.images, .int .i64 h.sLo, .int .i64 h.sHi, .slice h.sa h.ns h.scap] 34)
  generalize w.alloc (Obj.cells #[.slice h.a h.n h.cap, .int .i64 h.eLo, .int .i64 h.eHi, .int .i64 h.images, .int .i64 h.sLo, .int .i64 h.sHi, .slice h.sa h.ns h.scap] 34) = W1 at *
  refine (answerI_any 36 _ r _ (fun w => enters_of Tryz.func36 (by kernel_rfl) rfl _ w) (fun Y hY => hcl.out _ Y (hb0.grown hY))).mono ?_
  rintro e w9 ⟨rfl, hb9⟩
  have hB9 := BT hB1 hb9
  clear hb9 hB1 hb0 hcl
  rw [hrep]
  go_wp2
  exact bodyPost_ret (v := .tuple #[.int .i64 v, .int .i64 c]) (by simp [results, Tryz.results9, go_sem]) rfl ⟨by rw [hrep], hB9⟩

end Go.Proofs.YtcfjakifeihbpaaGreat
