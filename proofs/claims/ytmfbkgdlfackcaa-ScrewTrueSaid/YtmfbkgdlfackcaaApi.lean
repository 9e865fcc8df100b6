/- The functions of the package. -/
import Derived.Test.YtmfbkgdlfackcaaClo
import Derived.Test.YtmfbkgdlfackcaaApa
import Derived.Test.YtmfbkgdlfackcaaTvl
import Derived.Test.YtmfbkgdlfackcaaAns
namespace Go.Proofs.Ytmfbkgdlfackcaa
open Go.RowKit Go.Shelf

/-- What is answered: a span, or the error. -/
def reply : Except Int Value → Value
  | .ok v => .tuple #[v, .int .i64 0]
  | .error c => .tuple #[.agg #[.int .i64 0, .int .i64 0], .int .i64 c]
def isSp (r : Except Int Value) : Prop := ∀ v, r = .ok v → ∃ lo hi : Int, v = .agg #[.int .i64 lo, .int .i64 hi]

theorem answer_any (F : Nat) (caps : Array Value) (r : Except Int Value) (hr : isSp r) (w : World) (hcall : ∀ w : World, (callFunc F caps).run Try.prog w = .ok (.enter F caps) w) (h : ∀ Y, Below w.heap.size w Y → Calls Try.prog F caps Y (Out r Y)) :
    Calls Try.prog 47 #[.func (.func F) #[] caps] w (Ret (reply r) w) := by
  cases r with
  | error c => exact answer_err F caps c w hcall h
  | ok v =>
    obtain ⟨lo, hi, rfl⟩ := hr v rfl
    exact answer_ok F caps lo hi w hcall h

theorem reply_eq {r : Except Int Value} (h : isSp r) : ∃ lo hi c : Int, reply r = .tuple #[.agg #[.int .i64 lo, .int .i64 hi], .int .i64 c] := by
  cases r with
  | error c => exact ⟨0, 0, c, rfl⟩
  | ok v => obtain ⟨lo, hi, rfl⟩ := h v rfl; exact ⟨lo, hi, 0, rfl⟩
theorem boxM_new {w : World} {h : Hd} {xs : List (Int × Int)} {ss : List Sett} (k : HasM w h xs ss) :
    BoxM (w.alloc (.cells #[.slice h.a h.n h.cap, .int .i64 h.eLo, .int .i64 h.eHi, .int .i64 h.images, .int .i64 h.sLo, .int .i64 h.sHi, .slice h.sa h.ns h.scap] 29)) w.heap.size h xs ss :=
  ⟨by simp [go_sem], by simp [go_sem], by simp [go_sem], by simp [go_sem], by simp [go_sem], by simp [go_sem], by simp [go_sem], k.below (Nat.le_refl _) (by (repeat (first | assumption | exact Below.refl _ _ | refine BA ?_ _ | refine BC ?_ _ _ (by omega) _ | refine Below.drew ?_ | refine BT ?_ (by assumption))))⟩
theorem one_new (w : World) (v : Value) (t : TypeId) : (w.alloc (.cells #[v] t)).cell? ⟨w.heap.size, 0, none⟩ = some v := by simp [go_sem]
theorem two_new (w : World) (lo hi : Int) : (w.alloc (.cells #[.int .i64 lo, .int .i64 hi] 24)).cell? ⟨w.heap.size, 0, none⟩ = some (.int .i64 lo) ∧ (w.alloc (.cells #[.int .i64 lo, .int .i64 hi] 24)).frozen? ⟨w.heap.size, 0, none⟩ = false ∧
    (w.alloc (.cells #[.int .i64 lo, .int .i64 hi] 24)).cell? ⟨w.heap.size, 1, none⟩ = some (.int .i64 hi) ∧ (w.alloc (.cells #[.int .i64 lo, .int .i64 hi] 24)).frozen? ⟨w.heap.size, 1, none⟩ = false := ⟨by simp [go_sem], by simp, by simp [go_sem], by simp⟩
theorem newB (w : World) (o : Obj) : Below w.heap.size w (w.alloc o) := (Below.refl _ w).alloc (Nat.le_refl _) o

def placeA (h : Hd) (xs : List (Int × Int)) (ss : List Sett) (im : Int) : Except Int Value := if validH h xs ss then placeR h xs ss im else .error 1
theorem placeA_sp (h : Hd) (xs : List (Int × Int)) (ss : List Sett) (im : Int) : isSp (placeA h xs ss im) := by
  intro v hv
  unfold placeA placeR at hv
  repeat (split at hv)
  all_goals first | (cases hv; done) | (cases hv; exact ⟨_, _, rfl⟩)
set_option maxRecDepth 100000 in
set_option maxHeartbeats 2000000 in
theorem place_any (im : Int) (h : Hd) (xs : List (Int × Int)) (ss : List Sett) (w : World) (hm : HasM w h xs ss) :
    Calls Try.prog 20 #[h.val, .int .i64 im] w (Ret (reply (placeA h xs ss im)) w) := by
  have hmf : ∀ (fn : Fn) (first cap : Array Value) (w : World), (Instr.makeFunc fn first cap).run Try.prog w = .ok (.func fn first cap) w := fun _ _ _ _ => rfl
  have hsp := placeA_sp h xs ss im
  have hcl : Hid (∀ B C Y, BoxM Y B h xs ss → Y.cell? ⟨C, 0, none⟩ = some (.int .i64 im) → Calls Try.prog 62 #[.pointer (some ⟨B, 0, none⟩), .pointer (some ⟨C, 0, none⟩)] Y (Out (placeA h xs ss im) Y)) := fun B C Y hB hC => by
    unfold placeA
    cases hv : validH h xs ss
    · rw [if_neg (by simp)]; exact placeC_no B C h xs ss Y hB hv
    · rw [if_pos rfl]; exact placeC_yes B C im h xs ss Y hB hC hv
  generalize placeA h xs ss im = r at *
  have hb0 := boxM_new hm
  clear hm
  obtain ⟨lo, hi, c, hrep⟩ := reply_eq hsp
  unfold Hd.val
  go_enter Try.func20, Try.ntmps20
  go_wp2_with fail
  obtain ⟨W1, hW1⟩ : ∃ W, w.alloc (Obj.cells #[.slice h.a h.n h.cap, .int .i64 h.eLo, .int .i64 h.eHi, .int .i64 h.images, .int .i64 h.sLo, .int .i64 h.sHi, .slice h.sa h.ns h.scap] 29) = W := ⟨_, rfl⟩
  have s1 : w.heap.size + 1 = W1.heap.size := by rw [← hW1]; simp
  have hB1 : Below w.heap.size w W1 := hW1 ▸ newB _ _
  rw [hW1] at hb0 ⊢
  clear hW1
  rw [s1]
  have hb1 := hb0
  obtain ⟨W2, hW2⟩ : ∃ W, W1.alloc (Obj.cells #[.int .i64 im] 3) = W := ⟨_, rfl⟩
  have s2 : W1.heap.size + 1 = W2.heap.size := by rw [← hW2]; simp
  have hc2_2 : W2.cell? ⟨W1.heap.size, 0, none⟩ = some (.int .i64 im) := hW2 ▸ one_new _ _ _
  have hb2 := hW2 ▸ hb1.grown (newB W1 (.cells #[.int .i64 im] 3))
  have hB2 : Below w.heap.size w W2 := BT hB1 (hW2 ▸ newB _ _)
  rw [hW2]
  clear hW2
  rw [s2]
  obtain ⟨d0, f0, d1, f1⟩ := two_new W2 0 0
  have hc2_3 := cellH hc2_2 (newB W2 (.cells #[.int .i64 0, .int .i64 0] 24))
  have hb3 := hb2.grown (newB W2 (.cells #[.int .i64 0, .int .i64 0] 24))
  have hB3 := BT hB2 (newB W2 (.cells #[.int .i64 0, .int .i64 0] 24))
  have s3 : W2.heap.size < (W2.alloc (.cells #[.int .i64 0, .int .i64 0] 24)).heap.size := by simp
  generalize W2.alloc (.cells #[.int .i64 0, .int .i64 0] 24) = W3 at *
  refine (answer_any 62 _ r hsp _ (fun w => enters_of Try.func62 (by kernel_rfl) rfl _ w) (fun Y hY => hcl.out _ _ Y (hb3.grown hY) (cellH hc2_3 hY))).mono ?_
  rintro e w9 ⟨rfl, hb9⟩
  have d0 := cellH d0 hb9
  have d1 := cellH d1 hb9
  have f0 := (hb9.frozen (p := ⟨W2.heap.size, 0, none⟩) s3).trans f0
  have f1 := (hb9.frozen (p := ⟨W2.heap.size, 1, none⟩) s3).trans f1
  have hB9 := BT hB3 hb9
  have hle : w.heap.size ≤ W2.heap.size := hB2.size
  clear hb9 hcl hb1 hB1 hb2 hB2 hb3 hB3 hb0 hc2_2 hc2_3
  rw [hrep]
  generalize W2.heap.size = B at *
  go_wp2
  exact bodyPost_ret (v := .tuple #[.agg #[.int .i64 lo, .int .i64 hi], .int .i64 c]) (by simp [results, Try.results20, go_sem, d0, d1]) rfl ⟨by rw [hrep], by (repeat (first | assumption | exact Below.refl _ _ | refine BA ?_ _ | refine BC ?_ _ _ (by omega) _ | refine Below.drew ?_ | refine BT ?_ (by assumption)))⟩

def apartA (h : Hd) (xs : List (Int × Int)) (ss : List Sett) (a b : Int) : Except Int Value := if validH h xs ss then apartR h xs ss a b else .error 1
theorem apartA_sp (h : Hd) (xs : List (Int × Int)) (ss : List Sett) (a b : Int) : isSp (apartA h xs ss a b) := by
  intro v hv
  unfold apartA apartR at hv
  repeat (split at hv)
  all_goals first | (cases hv; done) | (cases hv; exact ⟨_, _, rfl⟩)
set_option maxRecDepth 100000 in
set_option maxHeartbeats 2000000 in
theorem apart_any (a b : Int) (h : Hd) (xs : List (Int × Int)) (ss : List Sett) (w : World) (hm : HasM w h xs ss) :
    Calls Try.prog 22 #[h.val, .int .i64 a, .int .i64 b] w (Ret (reply (apartA h xs ss a b)) w) := by
  have hmf : ∀ (fn : Fn) (first cap : Array Value) (w : World), (Instr.makeFunc fn first cap).run Try.prog w = .ok (.func fn first cap) w := fun _ _ _ _ => rfl
  have hsp := apartA_sp h xs ss a b
  have hcl : Hid (∀ B C D Y, BoxM Y B h xs ss → Y.cell? ⟨C, 0, none⟩ = some (.int .i64 a) → Y.cell? ⟨D, 0, none⟩ = some (.int .i64 b) → Calls Try.prog 70 #[.pointer (some ⟨B, 0, none⟩), .pointer (some ⟨C, 0, none⟩), .pointer (some ⟨D, 0, none⟩)] Y (Out (apartA h xs ss a b) Y)) := fun B C D Y hB hC hD => by
    unfold apartA
    cases hv : validH h xs ss
    · rw [if_neg (by simp)]; exact apartC_no B C D h xs ss Y hB hv
    · rw [if_pos rfl]; exact apartC_yes B C D a b h xs ss Y hB hC hD hv
  generalize apartA h xs ss a b = r at *
  have hb0 := boxM_new hm
  clear hm
  obtain ⟨lo, hi, c, hrep⟩ := reply_eq hsp
  unfold Hd.val
  go_enter Try.func22, Try.ntmps22
  go_wp2_with fail
  obtain ⟨W1, hW1⟩ : ∃ W, w.alloc (Obj.cells #[.slice h.a h.n h.cap, .int .i64 h.eLo, .int .i64 h.eHi, .int .i64 h.images, .int .i64 h.sLo, .int .i64 h.sHi, .slice h.sa h.ns h.scap] 29) = W := ⟨_, rfl⟩
  have s1 : w.heap.size + 1 = W1.heap.size := by rw [← hW1]; simp
  have hB1 : Below w.heap.size w W1 := hW1 ▸ newB _ _
  rw [hW1] at hb0 ⊢
  clear hW1
  rw [s1]
  have hb1 := hb0
  obtain ⟨W2, hW2⟩ : ∃ W, W1.alloc (Obj.cells #[.int .i64 a] 3) = W := ⟨_, rfl⟩
  have s2 : W1.heap.size + 1 = W2.heap.size := by rw [← hW2]; simp
  have hc2_2 : W2.cell? ⟨W1.heap.size, 0, none⟩ = some (.int .i64 a) := hW2 ▸ one_new _ _ _
  have hb2 := hW2 ▸ hb1.grown (newB W1 (.cells #[.int .i64 a] 3))
  have hB2 : Below w.heap.size w W2 := BT hB1 (hW2 ▸ newB _ _)
  rw [hW2]
  clear hW2
  rw [s2]
  obtain ⟨W3, hW3⟩ : ∃ W, W2.alloc (Obj.cells #[.int .i64 b] 3) = W := ⟨_, rfl⟩
  have s3 : W2.heap.size + 1 = W3.heap.size := by rw [← hW3]; simp
  have hc3_3 : W3.cell? ⟨W2.heap.size, 0, none⟩ = some (.int .i64 b) := hW3 ▸ one_new _ _ _
  have hb3 := hW3 ▸ hb2.grown (newB W2 (.cells #[.int .i64 b] 3))
  have hc2_3 := hW3 ▸ cellH hc2_2 (newB W2 (.cells #[.int .i64 b] 3))
  have hB3 : Below w.heap.size w W3 := BT hB2 (hW3 ▸ newB _ _)
  rw [hW3]
  clear hW3
  rw [s3]
  obtain ⟨d0, f0, d1, f1⟩ := two_new W3 0 0
  have hc2_4 := cellH hc2_3 (newB W3 (.cells #[.int .i64 0, .int .i64 0] 24))
  have hc3_4 := cellH hc3_3 (newB W3 (.cells #[.int .i64 0, .int .i64 0] 24))
  have hb4 := hb3.grown (newB W3 (.cells #[.int .i64 0, .int .i64 0] 24))
  have hB4 := BT hB3 (newB W3 (.cells #[.int .i64 0, .int .i64 0] 24))
  have s4 : W3.heap.size < (W3.alloc (.cells #[.int .i64 0, .int .i64 0] 24)).heap.size := by simp
  generalize W3.alloc (.cells #[.int .i64 0, .int .i64 0] 24) = W4 at *
  refine (answer_any 70 _ r hsp _ (fun w => enters_of Try.func70 (by kernel_rfl) rfl _ w) (fun Y hY => hcl.out _ _ _ Y (hb4.grown hY) (cellH hc2_4 hY) (cellH hc3_4 hY))).mono ?_
  rintro e w9 ⟨rfl, hb9⟩
  have d0 := cellH d0 hb9
  have d1 := cellH d1 hb9
  have f0 := (hb9.frozen (p := ⟨W3.heap.size, 0, none⟩) s4).trans f0
  have f1 := (hb9.frozen (p := ⟨W3.heap.size, 1, none⟩) s4).trans f1
  have hB9 := BT hB4 hb9
  have hle : w.heap.size ≤ W3.heap.size := hB3.size
  clear hb9 hcl hb1 hB1 hb2 hB2 hb3 hB3 hb4 hB4 hb0 hc2_2 hc2_3 hc2_4 hc3_3 hc3_4
  rw [hrep]
  generalize W3.heap.size = B at *
  go_wp2
  exact bodyPost_ret (v := .tuple #[.agg #[.int .i64 lo, .int .i64 hi], .int .i64 c]) (by simp [results, Try.results22, go_sem, d0, d1]) rfl ⟨by rw [hrep], by (repeat (first | assumption | exact Below.refl _ _ | refine BA ?_ _ | refine BC ?_ _ _ (by omega) _ | refine Below.drew ?_ | refine BT ?_ (by assumption)))⟩

def sumR (h : Hd) (xs : List (Int × Int)) (ss : List Sett) : Except Int Value := if (truthsS h xs ss).1 then .ok (spanS (truthsS h xs ss).2 0 1) else .error 10
theorem sumC_yes' (B : Nat) (h : Hd) (xs : List (Int × Int)) (ss : List Sett) (w : World) (hm : BoxM w B h xs ss) (hv : validH h xs ss = true) :
    Calls Try.prog 57 #[.pointer (some ⟨B, 0, none⟩)] w (Out (sumR h xs ss) w) := by
  have := sumC_yes B h xs ss w hm hv
  unfold sumR truthsS spanS
  dsimp only at this
  generalize boundsS h.sLo h.sHi (tellsOf xs h.eLo h.eHi ss) (2 ^ (tellsOf xs h.eLo h.eHi ss).length - 1) = r at *
  exact this
def sumA (h : Hd) (xs : List (Int × Int)) (ss : List Sett) : Except Int Value := if validH h xs ss then sumR h xs ss else .error 1
theorem sumA_sp (h : Hd) (xs : List (Int × Int)) (ss : List Sett) : isSp (sumA h xs ss ) := by
  intro v hv
  unfold sumA sumR at hv
  repeat (split at hv)
  all_goals first | (cases hv; done) | (cases hv; exact ⟨_, _, rfl⟩)
set_option maxRecDepth 100000 in
set_option maxHeartbeats 2000000 in
theorem sum_any (h : Hd) (xs : List (Int × Int)) (ss : List Sett) (w : World) (hm : HasM w h xs ss) :
    Calls Try.prog 18 #[h.val] w (Ret (reply (sumA h xs ss )) w) := by
  have hmf : ∀ (fn : Fn) (first cap : Array Value) (w : World), (Instr.makeFunc fn first cap).run Try.prog w = .ok (.func fn first cap) w := fun _ _ _ _ => rfl
  have hsp := sumA_sp h xs ss 
  have hcl : Hid (∀ B  Y, BoxM Y B h xs ss → Calls Try.prog 57 #[.pointer (some ⟨B, 0, none⟩)] Y (Out (sumA h xs ss ) Y)) := fun B  Y hB  => by
    unfold sumA
    cases hv : validH h xs ss
    · rw [if_neg (by simp)]; exact sumC_no B h xs ss Y hB hv
    · rw [if_pos rfl]; exact sumC_yes' B  h xs ss Y hB  hv
  generalize sumA h xs ss  = r at *
  have hb0 := boxM_new hm
  clear hm
  obtain ⟨lo, hi, c, hrep⟩ := reply_eq hsp
  unfold Hd.val
  go_enter Try.func18, Try.ntmps18
  go_wp2_with fail
  obtain ⟨W1, hW1⟩ : ∃ W, w.alloc (Obj.cells #[.slice h.a h.n h.cap, .int .i64 h.eLo, .int .i64 h.eHi, .int .i64 h.images, .int .i64 h.sLo, .int .i64 h.sHi, .slice h.sa h.ns h.scap] 29) = W := ⟨_, rfl⟩
  have s1 : w.heap.size + 1 = W1.heap.size := by rw [← hW1]; simp
  have hB1 : Below w.heap.size w W1 := hW1 ▸ newB _ _
  rw [hW1] at hb0 ⊢
  clear hW1
  rw [s1]
  have hb1 := hb0
  obtain ⟨d0, f0, d1, f1⟩ := two_new W1 0 0
  have hb2 := hb1.grown (newB W1 (.cells #[.int .i64 0, .int .i64 0] 24))
  have hB2 := BT hB1 (newB W1 (.cells #[.int .i64 0, .int .i64 0] 24))
  have s2 : W1.heap.size < (W1.alloc (.cells #[.int .i64 0, .int .i64 0] 24)).heap.size := by simp
  generalize W1.alloc (.cells #[.int .i64 0, .int .i64 0] 24) = W2 at *
  refine (answer_any 57 _ r hsp _ (fun w => enters_of Try.func57 (by kernel_rfl) rfl _ w) (fun Y hY => hcl.out _  Y (hb2.grown hY) )).mono ?_
  rintro e w9 ⟨rfl, hb9⟩
  have d0 := cellH d0 hb9
  have d1 := cellH d1 hb9
  have f0 := (hb9.frozen (p := ⟨W1.heap.size, 0, none⟩) s2).trans f0
  have f1 := (hb9.frozen (p := ⟨W1.heap.size, 1, none⟩) s2).trans f1
  have hB9 := BT hB2 hb9
  have hle : w.heap.size ≤ W1.heap.size := hB1.size
  clear hb9 hcl hb1 hB1 hb2 hB2 hb0 
  rw [hrep]
  generalize W1.heap.size = B at *
  go_wp2
  exact bodyPost_ret (v := .tuple #[.agg #[.int .i64 lo, .int .i64 hi], .int .i64 c]) (by simp [results, Try.results18, go_sem, d0, d1]) rfl ⟨by rw [hrep], by (repeat (first | assumption | exact Below.refl _ _ | refine BA ?_ _ | refine BC ?_ _ _ (by omega) _ | refine Below.drew ?_ | refine BT ?_ (by assumption)))⟩

/-- What is answered: a number, or the error. -/
def replyI : Except Int Int → Value
  | .ok v => .tuple #[.int .i64 v, .int .i64 0]
  | .error c => .tuple #[.int .i64 0, .int .i64 c]
def OutI (r : Except Int Int) (w : World) : Ending → World → Prop := match r with | .ok v => Ret (.int .i64 v) w | .error c => Pan c w
theorem replyI_eq (r : Except Int Int) : ∃ v c : Int, replyI r = .tuple #[.int .i64 v, .int .i64 c] := by
  cases r with
  | error c => exact ⟨0, c, rfl⟩
  | ok v => exact ⟨v, 0, rfl⟩
theorem answerI_any (F : Nat) (caps : Array Value) (r : Except Int Int) (w : World) (hcall : ∀ w : World, (callFunc F caps).run Try.prog w = .ok (.enter F caps) w) (h : ∀ Y, Below w.heap.size w Y → Calls Try.prog F caps Y (OutI r Y)) :
    Calls Try.prog 71 #[.func (.func F) #[] caps] w (Ret (replyI r) w) := by
  cases r with
  | error c => exact answerI_err F caps c w hcall h
  | ok v => exact answerI_ok F caps v w hcall h
def clashA (h : Hd) (xs : List (Int × Int)) (ss : List Sett) : Except Int Int := if validH h xs ss then .ok (clashR h xs ss) else .error 1
set_option maxRecDepth 100000 in
set_option maxHeartbeats 2000000 in
theorem clash_any (h : Hd) (xs : List (Int × Int)) (ss : List Sett) (w : World) (hm : HasM w h xs ss) :
    Calls Try.prog 24 #[h.val] w (Ret (replyI (clashA h xs ss)) w) := by
  have hmf : ∀ (fn : Fn) (first cap : Array Value) (w : World), (Instr.makeFunc fn first cap).run Try.prog w = .ok (.func fn first cap) w := fun _ _ _ _ => rfl
  have hcl : Hid (∀ B Y, BoxM Y B h xs ss → Calls Try.prog 72 #[.pointer (some ⟨B, 0, none⟩)] Y (OutI (clashA h xs ss) Y)) := fun B Y hB => by
    unfold clashA
    cases hv : validH h xs ss
    · rw [if_neg (by simp)]; exact clashC_no B h xs ss Y hB hv
    · rw [if_pos rfl]; exact clashC_yes B h xs ss Y hB hv
  generalize clashA h xs ss = r at *
  have hb0 := boxM_new hm
  clear hm
  obtain ⟨v, c, hrep⟩ := replyI_eq r
  unfold Hd.val
  go_enter Try.func24, Try.ntmps24
  go_wp2_with fail
  have hB1 := newB w (.cells #[.slice h.a h.n h.cap, .int .i64 h.eLo, .int .i64 h.eHi, .int .i64 h.images, .int .i64 h.sLo, .int .i64 h.sHi, .slice h.sa h.ns h.scap] 29)
  generalize w.alloc (Obj.cells #[.slice h.a h.n h.cap, .int .i64 h.eLo, .int .i64 h.eHi, .int .i64 h.images, .int .i64 h.sLo, .int .i64 h.sHi, .slice h.sa h.ns h.scap] 29) = W1 at *
  refine (answerI_any 72 _ r _ (fun w => enters_of Try.func72 (by kernel_rfl) rfl _ w) (fun Y hY => hcl.out _ Y (hb0.grown hY))).mono ?_
  rintro e w9 ⟨rfl, hb9⟩
  have hB9 := BT hB1 hb9
  clear hb9 hB1 hb0 hcl
  rw [hrep]
  go_wp2
  exact bodyPost_ret (v := .tuple #[.int .i64 v, .int .i64 c]) (by simp [results, Try.results24, go_sem]) rfl ⟨by rw [hrep], hB9⟩
def dropA (h : Hd) (xs : List (Int × Int)) (ss : List Sett) : Except Int Int := if validH h xs ss then .ok (dropR h xs ss) else .error 1
set_option maxRecDepth 100000 in
set_option maxHeartbeats 2000000 in
theorem drop_any (h : Hd) (xs : List (Int × Int)) (ss : List Sett) (w : World) (hm : HasM w h xs ss) :
    Calls Try.prog 26 #[h.val] w (Ret (replyI (dropA h xs ss)) w) := by
  have hmf : ∀ (fn : Fn) (first cap : Array Value) (w : World), (Instr.makeFunc fn first cap).run Try.prog w = .ok (.func fn first cap) w := fun _ _ _ _ => rfl
  have hcl : Hid (∀ B Y, BoxM Y B h xs ss → Calls Try.prog 78 #[.pointer (some ⟨B, 0, none⟩)] Y (OutI (dropA h xs ss) Y)) := fun B Y hB => by
    unfold dropA
    cases hv : validH h xs ss
    · rw [if_neg (by simp)]; exact dropC_no B h xs ss Y hB hv
    · rw [if_pos rfl]; exact dropC_yes B h xs ss Y hB hv
  generalize dropA h xs ss = r at *
  have hb0 := boxM_new hm
  clear hm
  obtain ⟨v, c, hrep⟩ := replyI_eq r
  unfold Hd.val
  go_enter Try.func26, Try.ntmps26
  go_wp2_with fail
  have hB1 := newB w (.cells #[.slice h.a h.n h.cap, .int .i64 h.eLo, .int .i64 h.eHi, .int .i64 h.images, .int .i64 h.sLo, .int .i64 h.sHi, .slice h.sa h.ns h.scap] 29)
  generalize w.alloc (Obj.cells #[.slice h.a h.n h.cap, .int .i64 h.eLo, .int .i64 h.eHi, .int .i64 h.images, .int .i64 h.sLo, .int .i64 h.sHi, .slice h.sa h.ns h.scap] 29) = W1 at *
  refine (answerI_any 78 _ r _ (fun w => enters_of Try.func78 (by kernel_rfl) rfl _ w) (fun Y hY => hcl.out _ Y (hb0.grown hY))).mono ?_
  rintro e w9 ⟨rfl, hb9⟩
  have hB9 := BT hB1 hb9
  clear hb9 hB1 hb0 hcl
  rw [hrep]
  go_wp2
  exact bodyPost_ret (v := .tuple #[.int .i64 v, .int .i64 c]) (by simp [results, Try.results26, go_sem]) rfl ⟨by rw [hrep], hB9⟩

theorem travelR_sp (xs : List (Int × Int)) (eLo eHi r : Int) : isSp (travelR xs eLo eHi r) := by
  intro v hv
  unfold travelR at hv
  repeat (split at hv)
  all_goals first | (cases hv; done) | (cases hv; exact ⟨_, _, rfl⟩)
set_option maxRecDepth 100000 in
set_option maxHeartbeats 2000000 in
theorem travel_any16 (a : Option Addr) (cap : Nat) (eLo eHi n : Int) (xs : List (Int × Int)) (w : World) (hx : Spans w a xs) (hl : xs.length ≤ 9223372036854775807) (hn : n ≤ 9223372036854775807) :
    Calls Try.prog 16 #[.agg #[.slice a xs.length cap, .int .i64 eLo, .int .i64 eHi], .int .i64 n] w (Ret (reply (travelR xs eLo eHi n)) w) := by
  have hmf : ∀ (fn : Fn) (first cap : Array Value) (w : World), (Instr.makeFunc fn first cap).run Try.prog w = .ok (.func fn first cap) w := fun _ _ _ _ => rfl
  have hsp := travelR_sp xs eLo eHi n
  have hcl : Hid (∀ B C Y, BoxS Y B a cap eLo eHi xs → Y.cell? ⟨C, 0, none⟩ = some (.int .i64 n) → Calls Try.prog 48 #[.pointer (some ⟨B, 0, none⟩), .pointer (some ⟨C, 0, none⟩)] Y (Out (travelR xs eLo eHi n) Y)) := fun B C Y hB hC => travelC_any B C a cap eLo eHi n xs Y hB hC hn
  generalize travelR xs eLo eHi n = r at *
  have hb1 : BoxS (w.alloc (.cells #[.slice a xs.length cap, .int .i64 eLo, .int .i64 eHi] 26)) w.heap.size a cap eLo eHi xs := ⟨by simp [go_sem], by simp [go_sem], by simp [go_sem], hx.below (Nat.le_refl _) (newB _ _), hl⟩
  clear hx
  obtain ⟨lo, hi, c, hrep⟩ := reply_eq hsp
  go_enter Try.func16, Try.ntmps16
  go_wp2_with fail
  have s1 : w.heap.size + 1 = (w.alloc (.cells #[.slice a xs.length cap, .int .i64 eLo, .int .i64 eHi] 26)).heap.size := by simp
  have hB1 := newB w (.cells #[.slice a xs.length cap, .int .i64 eLo, .int .i64 eHi] 26)
  generalize w.alloc (.cells #[.slice a xs.length cap, .int .i64 eLo, .int .i64 eHi] 26) = W1 at *
  rw [s1]
  obtain ⟨W2, hW2⟩ : ∃ W, W1.alloc (Obj.cells #[.int .i64 n] 3) = W := ⟨_, rfl⟩
  have s2 : W1.heap.size + 1 = W2.heap.size := by rw [← hW2]; simp
  have hc2_2 : W2.cell? ⟨W1.heap.size, 0, none⟩ = some (.int .i64 n) := hW2 ▸ one_new _ _ _
  have hb2 := hW2 ▸ hb1.grown (newB W1 (.cells #[.int .i64 n] 3))
  have hB2 : Below w.heap.size w W2 := BT hB1 (hW2 ▸ newB _ _)
  rw [hW2]
  clear hW2
  rw [s2]
  obtain ⟨d0, f0, d1, f1⟩ := two_new W2 0 0
  have hc2_3 := cellH hc2_2 (newB W2 (.cells #[.int .i64 0, .int .i64 0] 24))
  have hb3 := hb2.grown (newB W2 (.cells #[.int .i64 0, .int .i64 0] 24))
  have hB3 := BT hB2 (newB W2 (.cells #[.int .i64 0, .int .i64 0] 24))
  have s3 : W2.heap.size < (W2.alloc (.cells #[.int .i64 0, .int .i64 0] 24)).heap.size := by simp
  generalize W2.alloc (.cells #[.int .i64 0, .int .i64 0] 24) = W3 at *
  refine (answer_any 48 _ r hsp _ (fun w => enters_of Try.func48 (by kernel_rfl) rfl _ w) (fun Y hY => hcl.out _ _ Y (hb3.grown hY) (cellH hc2_3 hY))).mono ?_
  rintro e w9 ⟨rfl, hb9⟩
  have d0 := cellH d0 hb9
  have d1 := cellH d1 hb9
  have f0 := (hb9.frozen (p := ⟨W2.heap.size, 0, none⟩) s3).trans f0
  have f1 := (hb9.frozen (p := ⟨W2.heap.size, 1, none⟩) s3).trans f1
  have hB9 := BT hB3 hb9
  have hle : w.heap.size ≤ W2.heap.size := hB2.size
  clear hb9 hcl hb1 hB1 hb2 hB2 hb3 hB3 hc2_2 hc2_3
  rw [hrep]
  generalize W2.heap.size = B at *
  go_wp2
  exact bodyPost_ret (v := .tuple #[.agg #[.int .i64 lo, .int .i64 hi], .int .i64 c]) (by simp [results, Try.results16, go_sem, d0, d1]) rfl ⟨by rw [hrep], by (repeat (first | assumption | exact Below.refl _ _ | refine BA ?_ _ | refine BC ?_ _ _ (by omega) _ | refine Below.drew ?_ | refine BT ?_ (by assumption)))⟩
end Go.Proofs.Ytmfbkgdlfackcaa
