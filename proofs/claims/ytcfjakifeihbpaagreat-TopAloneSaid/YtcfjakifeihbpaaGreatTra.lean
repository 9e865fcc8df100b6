/- Travel, of a screw; what is answered. -/
import Derived.Test.YtcfjakifeihbpaaGreatTvl
import Derived.Shelf.Abstract
namespace Go.Proofs.YtcfjakifeihbpaaGreat
open Go.RowKit Go.Shelf

/-- What is answered: a span, or the error. -/
def reply : Except Int Value → Value
  | .ok v => .tuple #[v, .int .i64 0]
  | .error c => .tuple #[.agg #[.int .i64 0, .int .i64 0], .int .i64 c]
def isSp (r : Except Int Value) : Prop := ∀ v, r = .ok v → ∃ lo hi : Int, v = .agg #[.int .i64 lo, .int .i64 hi]

theorem answer_any (F : Nat) (caps : Array Value) (r : Except Int Value) (hr : isSp r) (w : World) (hcall : ∀ w : World, (callFunc F caps).run Tryz.prog w = .ok (.enter F caps) w) (h : ∀ Y, Below w.heap.size w Y → Calls Tryz.prog F caps Y (Out r Y)) :
    Calls Tryz.prog 43 #[.func (.func F) #[] caps] w (Ret (reply r) w) := by
  cases r with
  | error c => exact answer_err F caps c w hcall h
  | ok v =>
    obtain ⟨lo, hi, rfl⟩ := hr v rfl
    exact answer_ok F caps lo hi w hcall h

theorem reply_eq {r : Except Int Value} (h : isSp r) : ∃ lo hi c : Int, reply r = .tuple #[.agg #[.int .i64 lo, .int .i64 hi], .int .i64 c] := by
  cases r with
  | error c => exact ⟨0, 0, c, rfl⟩
  | ok v => obtain ⟨lo, hi, rfl⟩ := h v rfl; exact ⟨lo, hi, 0, rfl⟩

theorem one_new (w : World) (v : Value) (t : TypeId) : (w.alloc (.cells #[v] t)).cell? ⟨w.heap.size, 0, none⟩ = some v := by simp [go_sem]
theorem two_new (w : World) (lo hi : Int) : (w.alloc (.cells #[.int .i64 lo, .int .i64 hi] 24)).cell? ⟨w.heap.size, 0, none⟩ = some (.int .i64 lo) ∧ (w.alloc (.cells #[.int .i64 lo, .int .i64 hi] 24)).frozen? ⟨w.heap.size, 0, none⟩ = false ∧
    (w.alloc (.cells #[.int .i64 lo, .int .i64 hi] 24)).cell? ⟨w.heap.size, 1, none⟩ = some (.int .i64 hi) ∧ (w.alloc (.cells #[.int .i64 lo, .int .i64 hi] 24)).frozen? ⟨w.heap.size, 1, none⟩ = false := ⟨by simp [go_sem], by simp, by simp [go_sem], by simp⟩
theorem newB (w : World) (o : Obj) : Below w.heap.size w (w.alloc o) := (Below.refl _ w).alloc (Nat.le_refl _) o

/-- What is answered: a number, or the error. -/
def replyI : Except Int Int → Value
  | .ok v => .tuple #[.int .i64 v, .int .i64 0]
  | .error c => .tuple #[.int .i64 0, .int .i64 c]
def OutI (r : Except Int Int) (w : World) : Ending → World → Prop := match r with | .ok v => Ret (.int .i64 v) w | .error c => Pan c w
theorem replyI_eq (r : Except Int Int) : ∃ v c : Int, replyI r = .tuple #[.int .i64 v, .int .i64 c] := by
  cases r with
  | error c => exact ⟨0, c, rfl⟩
  | ok v => exact ⟨v, 0, rfl⟩

theorem cellB {w w' : World} {p : Addr} {v : Value} (h : w.cell? p = some v) (hb : Below w.heap.size w w') : w'.cell? p = some v := (hb.cell (World.block_lt_of_cell? _ _ h)).trans h
theorem travelR_sp (xs : List (Int × Int)) (eLo eHi r : Int) : isSp (travelR xs eLo eHi r) := by
  intro v hv
  unfold travelR at hv
  repeat (split at hv)
  all_goals first | (cases hv; done) | (cases hv; exact ⟨_, _, rfl⟩)
set_option maxRecDepth 100000 in
set_option maxHeartbeats 2000000 in
theorem travel_any16 (a : Option Addr) (cap : Nat) (eLo eHi n : Int) (xs : List (Int × Int)) (w : World) (hx : Spans w a xs) (hl : xs.length ≤ 9223372036854775807) (hn : n ≤ 9223372036854775807) :
    Calls Tryz.prog 17 #[.agg #[.slice a xs.length cap, .int .i64 eLo, .int .i64 eHi], .int .i64 n] w (Ret (reply (travelR xs eLo eHi n)) w) := by
  have hmf : ∀ (fn : Fn) (first cap : Array Value) (w : World), (Instr.makeFunc fn first cap).run Tryz.prog w = .ok (.func fn first cap) w := fun _ _ _ _ => rfl
  have hsp := travelR_sp xs eLo eHi n
  have hcl : Hid (∀ B C Y, BoxS Y B a cap eLo eHi xs → Y.cell? ⟨C, 0, none⟩ = some (.int .i64 n) → Calls Tryz.prog 56 #[.pointer (some ⟨B, 0, none⟩), .pointer (some ⟨C, 0, none⟩)] Y (Out (travelR xs eLo eHi n) Y)) := fun B C Y hB hC => travelC_any B C a cap eLo eHi n xs Y hB hC hn
  generalize travelR xs eLo eHi n = r at *
  have hb1 : BoxS (w.alloc (.cells #[.slice a xs.length cap, .int .i64 eLo, .int .i64 eHi] 26)) w.heap.size a cap eLo eHi xs := ⟨by simp [go_sem], by simp [go_sem], by simp [go_sem], hx.below (Nat.le_refl _) (newB _ _), hl⟩
  clear hx
  obtain ⟨lo, hi, c, hrep⟩ := reply_eq hsp
  go_enter Tryz.func17, Tryz.ntmps17
  go_wp2_with fail
  have s1 : w.heap.size + 1 = (w.alloc (.cells #[.slice a xs.length cap, .int .i64 eLo, .int .i64 eHi] 26)).heap.size := by simp
  have hB1 := newB w (.cells #[.slice a xs.length cap, .int .i64 eLo, .int .i64 eHi] 26)
  generalize w.alloc (.cells #[.slice a xs.length cap, .int .i64 eLo, .int .i64 eHi] 26) = W1 at *
  rw [s1]
  obtain ⟨W2, hW2⟩ : ∃ W, W1.alloc (Obj.cells #[.int .i64 n] 3) = W := ⟨_, rfl⟩
  have s2 : W1.heap.size + 1 = W2.heap.size := by rw [← hW2]; simp
  have hc2_2 : W2.cell? ⟨W1.heap.size, 0, none⟩ = some (.int .i64 n) := hW2 ▸ one_new _ _ _
  have hb2 := hW2 ▸ hb1.grown (newB W1 (.cells #[.int .i64 n] 3))
  have hB2 : Below w.heap.size w W2 := BT hB1 (hW2 ▸ newB _ _)
  rw [hW2]
  clear hW2
  rw [s2]
  obtain ⟨d0, f0, d1, f1⟩ := two_new W2 0 0
  have hc2_3 := cellH hc2_2 (newB W2 (.cells #[.int .i64 0, .int .i64 0] 24))
  have hb3 := hb2.grown (newB W2 (.cells #[.int .i64 0, .int .i64 0] 24))
  have hB3 := BT hB2 (newB W2 (.cells #[.int .i64 0, .int .i64 0] 24))
  have s3 : W2.heap.size < (W2.alloc (.cells #[.int .i64 0, .int .i64 0] 24)).heap.size := by simp
  generalize W2.alloc (.cells #[.int .i64 0, .int .i64 0] 24) = W3 at *
  refine (answer_any 56 _ r hsp _ (fun w => enters_of Tryz.func56 (by kernel_rfl) rfl _ w) (fun Y hY => hcl.out _ _ Y (hb3.grown hY) (cellH hc2_3 hY))).mono ?_
  rintro e w9 ⟨rfl, hb9⟩
  have d0 := cellH d0 hb9
  have d1 := cellH d1 hb9
  have f0 := (hb9.frozen (p := ⟨W2.heap.size, 0, none⟩) s3).trans f0
  have f1 := (hb9.frozen (p := ⟨W2.heap.size, 1, none⟩) s3).trans f1
  have hB9 := BT hB3 hb9
  have hle : w.heap.size ≤ W2.heap.size := hB2.size
  clear hb9 hcl hb1 hB1 hb2 hB2 hb3 hB3 hc2_2 hc2_3
  rw [hrep]
  generalize W2.heap.size = B at *
  go_wp2
  exact bodyPost_ret (v := .tuple #[.agg #[.int .i64 lo, .int .i64 hi], .int .i64 c]) (by simp [results, Tryz.results17, go_sem, d0, d1]) rfl ⟨by rw [hrep], by (repeat (first | assumption | exact Below.refl _ _ | refine BA ?_ _ | refine BC ?_ _ _ (by omega) _ | refine Below.drew ?_ | refine BT ?_ (by assumption)))⟩
end Go.Proofs.YtcfjakifeihbpaaGreat
