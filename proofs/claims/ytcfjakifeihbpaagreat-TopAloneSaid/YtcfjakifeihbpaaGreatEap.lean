/- Eye: Habit, Place and Between. -/
import Derived.Test.YtcfjakifeihbpaaGreatEhb
namespace Go.Proofs.YtcfjakifeihbpaaGreat
namespace Ey
open Go.RowKit Go.Shelf

theorem answer_any (F : Nat) (caps : Array Value) (r : Except Int Value) (hr : isSp r) (w : World) (hcall : ∀ w : World, (callFunc F caps).run Tryz.prog w = .ok (.enter F caps) w) (h : ∀ Y, Below w.heap.size w Y → Calls Tryz.prog F caps Y (Out r Y)) :
    Calls Tryz.prog 38 #[.func (.func F) #[] caps] w (Ret (reply r) w) := by
  cases r with
  | error c => exact answer_err F caps c w hcall h
  | ok v =>
    obtain ⟨lo, hi, rfl⟩ := hr v rfl
    exact answer_ok F caps lo hi w hcall h
theorem answerI_any (F : Nat) (caps : Array Value) (r : Except Int Int) (w : World) (hcall : ∀ w : World, (callFunc F caps).run Tryz.prog w = .ok (.enter F caps) w) (h : ∀ Y, Below w.heap.size w Y → Calls Tryz.prog F caps Y (OutI r Y)) :
    Calls Tryz.prog 18 #[.func (.func F) #[] caps] w (Ret (replyI r) w) := by
  cases r with
  | error c => exact answerI_err F caps c w hcall h
  | ok v => exact answerI_ok F caps v w hcall h
theorem askR_sp (r : Option Nb.B) (k : Nat) : isSp (askR r k) := by
  intro v hv
  cases r with
  | none => cases hv
  | some b =>
    unfold askR at hv
    dsimp only at hv
    cases hs : b k with
    | none => rw [hs] at hv; cases hv
    | some s => rw [hs] at hv; cases hv; exact ⟨_, _, rfl⟩
theorem habitR_sp (h : Wd) (xs : List (Int × Int)) (ls : List LkV) (i : Int) : isSp (habitR h xs ls i) := by
  unfold habitR
  repeat' split
  all_goals first | exact askR_sp _ _ | (intro v hv; cases hv)
set_option maxRecDepth 100000 in
set_option maxHeartbeats 2000000 in
theorem habit_any (i : Int) (h : Wd) (xs : List (Int × Int)) (ls : List LkV) (w : World) (hm : HasW w h xs ls) :
    Calls Tryz.prog 15 #[h.val, .int .i64 i] w (Ret (reply (habitR h xs ls i)) w) := by
  have hmf : ∀ (fn : Fn) (first cap : Array Value) (w : World), (Instr.makeFunc fn first cap).run Tryz.prog w = .ok (.func fn first cap) w := fun _ _ _ _ => rfl
  have hsp := habitR_sp h xs ls i
  have hcl : Hid (∀ B C Y, BoxA Y B h xs ls → Y.cell? ⟨C, 0, none⟩ = some (.int .i64 i) → Calls Tryz.prog 54 #[.pointer (some ⟨B, 0, none⟩), .pointer (some ⟨C, 0, none⟩)] Y (Out (habitR h xs ls i) Y)) := fun B C Y hB hC => by
    unfold habitR
    cases hv : validW h xs ls
    · rw [if_neg (by simp)]; exact habitC_no B C h xs ls Y hB hv
    · rw [if_pos rfl]; exact habitC_yes B C i h xs ls Y hB hC hv
  generalize habitR h xs ls i = r at *
  have hb0 : BoxA (w.alloc (.cells #[.slice h.a h.n h.cap, .int .i64 h.eLo, .int .i64 h.eHi, .int .i64 h.images, .int .i64 h.eyes, .int .i64 h.hLo, .int .i64 h.hHi, .slice h.la h.ln h.lcap] 29)) w.heap.size h xs ls := ⟨boxW_new w h _, hm.below (newB _ _)⟩
  clear hm
  obtain ⟨lo, hi, c, hrep⟩ := reply_eq hsp
  unfold Wd.val
  go_enter Tryz.func15, Tryz.ntmps15
  go_wp2_with fail
  obtain ⟨W1, hW1⟩ : ∃ W, w.alloc (Obj.cells #[.slice h.a h.n h.cap, .int .i64 h.eLo, .int .i64 h.eHi, .int .i64 h.images, .int .i64 h.eyes, .int .i64 h.hLo, .int .i64 h.hHi, .slice h.la h.ln h.lcap] 29) = W := ⟨_, rfl⟩
  have s1 : w.heap.size + 1 = W1.heap.size := by rw [← hW1]; simp
  have hB1 : Below w.heap.size w W1 := hW1 ▸ newB _ _
  rw [hW1] at hb0 ⊢
  clear hW1
  rw [s1]
  have hb1 := hb0
  obtain ⟨W2, hW2⟩ : ∃ W, W1.alloc (Obj.cells #[.int .i64 i] 3) = W := ⟨_, rfl⟩
  have s2 : W1.heap.size + 1 = W2.heap.size := by rw [← hW2]; simp
  have hc2_2 : W2.cell? ⟨W1.heap.size, 0, none⟩ = some (.int .i64 i) := hW2 ▸ one_new _ _ _
  have hb2 := hW2 ▸ hb1.grown (newB W1 (.cells #[.int .i64 i] 3))
  have hB2 : Below w.heap.size w W2 := BT hB1 (hW2 ▸ newB _ _)
  rw [hW2]
  clear hW2
  rw [s2]
  obtain ⟨d0, f0, d1, f1⟩ := two_new W2 0 0
  have hc2_3 := cellH hc2_2 (newB W2 (.cells #[.int .i64 0, .int .i64 0] 24))
  have hb3 := hb2.grown (newB W2 (.cells #[.int .i64 0, .int .i64 0] 24))
  have hB3 := BT hB2 (newB W2 (.cells #[.int .i64 0, .int .i64 0] 24))
  have s3 : W2.heap.size < (W2.alloc (.cells #[.int .i64 0, .int .i64 0] 24)).heap.size := by simp
  generalize W2.alloc (.cells #[.int .i64 0, .int .i64 0] 24) = W3 at *
  refine (answer_any 54 _ r hsp _ (fun w => enters_of Tryz.func54 (by kernel_rfl) rfl _ w) (fun Y hY => hcl.out _ _ Y (hb3.grown hY) (cellH hc2_3 hY))).mono ?_
  rintro e w9 ⟨rfl, hb9⟩
  have d0 := cellH d0 hb9
  have d1 := cellH d1 hb9
  have f0 := (hb9.frozen (p := ⟨W2.heap.size, 0, none⟩) s3).trans f0
  have f1 := (hb9.frozen (p := ⟨W2.heap.size, 1, none⟩) s3).trans f1
  have hB9 := BT hB3 hb9
  have hle : w.heap.size ≤ W2.heap.size := hB2.size
  clear hb9 hcl hb0 hb1 hb2 hb3 hB1 hB2 hB3 hc2_2 hc2_3
  rw [hrep]
  generalize W2.heap.size = B at *
  go_wp2
  exact bodyPost_ret (v := .tuple #[.agg #[.int .i64 lo, .int .i64 hi], .int .i64 c]) (by simp [results, Tryz.results15, go_sem, d0, d1]) rfl ⟨by rw [hrep], by (repeat (first | assumption | exact Below.refl _ _ | refine BA ?_ _ | refine BC ?_ _ _ (by omega) _ | refine Below.drew ?_ | refine BT ?_ (by assumption)))⟩
theorem placeR_sp (h : Wd) (xs : List (Int × Int)) (ls : List LkV) (i : Int) : isSp (placeR h xs ls i) := by
  unfold placeR
  repeat' split
  all_goals first | exact askR_sp _ _ | (intro v hv; cases hv)
set_option maxRecDepth 100000 in
set_option maxHeartbeats 2000000 in
theorem place_any (i : Int) (h : Wd) (xs : List (Int × Int)) (ls : List LkV) (w : World) (hm : HasW w h xs ls) :
    Calls Tryz.prog 10 #[h.val, .int .i64 i] w (Ret (reply (placeR h xs ls i)) w) := by
  have hmf : ∀ (fn : Fn) (first cap : Array Value) (w : World), (Instr.makeFunc fn first cap).run Tryz.prog w = .ok (.func fn first cap) w := fun _ _ _ _ => rfl
  have hsp := placeR_sp h xs ls i
  have hcl : Hid (∀ B C Y, BoxA Y B h xs ls → Y.cell? ⟨C, 0, none⟩ = some (.int .i64 i) → Calls Tryz.prog 39 #[.pointer (some ⟨B, 0, none⟩), .pointer (some ⟨C, 0, none⟩)] Y (Out (placeR h xs ls i) Y)) := fun B C Y hB hC => by
    unfold placeR
    cases hv : validW h xs ls
    · rw [if_neg (by simp)]; exact placeC_no B C h xs ls Y hB hv
    · rw [if_pos rfl]; exact placeC_yes B C i h xs ls Y hB hC hv
  generalize placeR h xs ls i = r at *
  have hb0 : BoxA (w.alloc (.cells #[.slice h.a h.n h.cap, .int .i64 h.eLo, .int .i64 h.eHi, .int .i64 h.images, .int .i64 h.eyes, .int .i64 h.hLo, .int .i64 h.hHi, .slice h.la h.ln h.lcap] 29)) w.heap.size h xs ls := ⟨boxW_new w h _, hm.below (newB _ _)⟩
  clear hm
  obtain ⟨lo, hi, c, hrep⟩ := reply_eq hsp
  unfold Wd.val
  go_enter Tryz.func10, Tryz.ntmps10
  go_wp2_with fail
  obtain ⟨W1, hW1⟩ : ∃ W, w.alloc (Obj.cells #[.slice h.a h.n h.cap, .int .i64 h.eLo, .int .i64 h.eHi, .int .i64 h.images, .int .i64 h.eyes, .int .i64 h.hLo, .int .i64 h.hHi, .slice h.la h.ln h.lcap] 29) = W := ⟨_, rfl⟩
  have s1 : w.heap.size + 1 = W1.heap.size := by rw [← hW1]; simp
  have hB1 : Below w.heap.size w W1 := hW1 ▸ newB _ _
  rw [hW1] at hb0 ⊢
  clear hW1
  rw [s1]
  have hb1 := hb0
  obtain ⟨W2, hW2⟩ : ∃ W, W1.alloc (Obj.cells #[.int .i64 i] 3) = W := ⟨_, rfl⟩
  have s2 : W1.heap.size + 1 = W2.heap.size := by rw [← hW2]; simp
  have hc2_2 : W2.cell? ⟨W1.heap.size, 0, none⟩ = some (.int .i64 i) := hW2 ▸ one_new _ _ _
  have hb2 := hW2 ▸ hb1.grown (newB W1 (.cells #[.int .i64 i] 3))
  have hB2 : Below w.heap.size w W2 := BT hB1 (hW2 ▸ newB _ _)
  rw [hW2]
  clear hW2
  rw [s2]
  obtain ⟨d0, f0, d1, f1⟩ := two_new W2 0 0
  have hc2_3 := cellH hc2_2 (newB W2 (.cells #[.int .i64 0, .int .i64 0] 24))
  have hb3 := hb2.grown (newB W2 (.cells #[.int .i64 0, .int .i64 0] 24))
  have hB3 := BT hB2 (newB W2 (.cells #[.int .i64 0, .int .i64 0] 24))
  have s3 : W2.heap.size < (W2.alloc (.cells #[.int .i64 0, .int .i64 0] 24)).heap.size := by simp
  generalize W2.alloc (.cells #[.int .i64 0, .int .i64 0] 24) = W3 at *
  refine (answer_any 39 _ r hsp _ (fun w => enters_of Tryz.func39 (by kernel_rfl) rfl _ w) (fun Y hY => hcl.out _ _ Y (hb3.grown hY) (cellH hc2_3 hY))).mono ?_
  rintro e w9 ⟨rfl, hb9⟩
  have d0 := cellH d0 hb9
  have d1 := cellH d1 hb9
  have f0 := (hb9.frozen (p := ⟨W2.heap.size, 0, none⟩) s3).trans f0
  have f1 := (hb9.frozen (p := ⟨W2.heap.size, 1, none⟩) s3).trans f1
  have hB9 := BT hB3 hb9
  have hle : w.heap.size ≤ W2.heap.size := hB2.size
  clear hb9 hcl hb0 hb1 hb2 hb3 hB1 hB2 hB3 hc2_2 hc2_3
  rw [hrep]
  generalize W2.heap.size = B at *
  go_wp2
  exact bodyPost_ret (v := .tuple #[.agg #[.int .i64 lo, .int .i64 hi], .int .i64 c]) (by simp [results, Tryz.results10, go_sem, d0, d1]) rfl ⟨by rw [hrep], by (repeat (first | assumption | exact Below.refl _ _ | refine BA ?_ _ | refine BC ?_ _ _ (by omega) _ | refine Below.drew ?_ | refine BT ?_ (by assumption)))⟩
theorem betweenR_sp (h : Wd) (xs : List (Int × Int)) (ls : List LkV) (i i2 : Int) : isSp (betweenR h xs ls i i2) := by
  unfold betweenR
  repeat' split
  all_goals first | exact askR_sp _ _ | (intro v hv; cases hv)
end Ey
end Go.Proofs.YtcfjakifeihbpaaGreat
