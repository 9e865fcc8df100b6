/- The closures that answer: what clashes, what must be wrong. -/
import Derived.Test.YtcfjakifeihbpaaGreatScA
import Derived.Test.YtcfjakifeihbpaaGreatMfs
import Derived.Test.YtcfjakifeihbpaaGreatSeq
namespace Go.Proofs.YtcfjakifeihbpaaGreat
open Go.RowKit

theorem cellG' {w w' : World} {p : Addr} {v : Value} (h : w.cell? p = some v) (hb : Below w.heap.size w w') : w'.cell? p = some v := (hb.cell (World.block_lt_of_cell? _ _ h)).trans h
/-- The settings that clash. -/
def clashR (h : Hd) (xs : List (Int × Int)) (ss : List Sett) : Int :=
  if (truthsS h xs ss).1 then 0 else firstOf ss.length (fun x => !(boundsS h.sLo h.sHi (tellsOf xs h.eLo h.eHi ss) x).1)
/-- The settings that must be wrong. -/
def dropR (h : Hd) (xs : List (Int × Int)) (ss : List Sett) : Int :=
  firstOf ss.length (fun x => (boundsS h.sLo h.sHi (tellsOf xs h.eLo h.eHi ss) (butS ss.length x)).1)
theorem look_slice {w0 w : World} {L mb : Nat} {h : Hd} {tv : Value} {ts : List Tell} {cs : List Cnt} (hL : IsLook w0 w L mb h tv ts cs) : ∃ a cap, tv = .slice a ts.length cap := by
  rcases hL.row.2 with ⟨h1, h2⟩ | ⟨g, cap, cur, h1, _⟩
  · exact ⟨none, 0, by rw [h1, h2]⟩
  · exact ⟨_, cap, h1⟩
theorem len_tellsOf (xs : List (Int × Int)) (eLo eHi : Int) (ss : List Sett) : (tellsOf xs eLo eHi ss).length = ss.length := by simp [tellsOf]

set_option maxRecDepth 100000 in
set_option maxHeartbeats 2000000 in
theorem clashC_no (B : Nat) (h : Hd) (xs : List (Int × Int)) (ss : List Sett) (w : World) (hm : BoxM w B h xs ss) (hv : validH h xs ss = false) : Calls Tryz.prog 28 #[.pointer (some ⟨B, 0, none⟩)] w (Pan 1 w) := by
  obtain ⟨c0, c1, c2, c3, c4, c5, c6, hh⟩ := hm
  have hc := lookAt_no h xs ss _ hh hv
  clear hh hv
  obtain ⟨ha, hnn, hcap, heLo, heHi, him, hsLo, hsHi, hsa, hns, hscap⟩ := h
  unfold Hd.val at hc
  dsimp only at *
  go_enter Tryz.func28, Tryz.ntmps28
  go_wp2_with (go_at_call 29; refine hc.mono ?_; rintro e w1 ⟨rfl, hb1⟩)
  exact ⟨rfl, rfl, by (repeat (first | assumption | exact Below.refl _ _ | refine BA ?_ _ | refine BC ?_ _ _ (by omega) _ | refine Below.drew ?_ | refine BT ?_ (by assumption)))⟩

set_option maxRecDepth 100000 in
set_option maxHeartbeats 2000000 in
theorem dropC_no (B : Nat) (h : Hd) (xs : List (Int × Int)) (ss : List Sett) (w : World) (hm : BoxM w B h xs ss) (hv : validH h xs ss = false) : Calls Tryz.prog 36 #[.pointer (some ⟨B, 0, none⟩)] w (Pan 1 w) := by
  obtain ⟨c0, c1, c2, c3, c4, c5, c6, hh⟩ := hm
  have hc := lookAt_no h xs ss _ hh hv
  clear hh hv
  obtain ⟨ha, hnn, hcap, heLo, heHi, him, hsLo, hsHi, hsa, hns, hscap⟩ := h
  unfold Hd.val at hc
  dsimp only at *
  go_enter Tryz.func36, Tryz.ntmps36
  go_wp2_with (go_at_call 29; refine hc.mono ?_; rintro e w1 ⟨rfl, hb1⟩)
  exact ⟨rfl, rfl, by (repeat (first | assumption | exact Below.refl _ _ | refine BA ?_ _ | refine BC ?_ _ _ (by omega) _ | refine Below.drew ?_ | refine BT ?_ (by assumption)))⟩

set_option maxRecDepth 100000 in
set_option maxHeartbeats 2000000 in
theorem dropC_yes (B : Nat) (h : Hd) (xs : List (Int × Int)) (ss : List Sett) (w : World) (hm : BoxM w B h xs ss) (hv : validH h xs ss = true) :
    Calls Tryz.prog 36 #[.pointer (some ⟨B, 0, none⟩)] w (Ret (.int .i64 (dropR h xs ss)) w) := by
  obtain ⟨hts, htm⟩ := tells_ok hv
  obtain ⟨c0, c1, c2, c3, c4, c5, c6, hh⟩ := hm
  have hc := lookAt_yes h xs ss _ hh hv
  have hmf : ∀ (fn : Fn) (first cap : Array Value) (w : World), (Instr.makeFunc fn first cap).run Tryz.prog w = .ok (.func fn first cap) w := fun _ _ _ _ => rfl
  have hf : Hid (∀ w1 Bx L mb tv, BoxL w w1 Bx L mb h tv (tellsOf xs h.eLo h.eHi ss) (cntsOf ss) → Calls Tryz.prog 32 #[.int .i64 (tellsOf xs h.eLo h.eHi ss).length, .func (.func 37) #[] #[.pointer (some ⟨Bx, 0, none⟩)]] w1 (Ret (.int .i64 (dropR h xs ss)) w1)) := fun w1 Bx L mb tv k => by
    have := first79_any (tellsOf xs h.eLo h.eHi ss).length hts (.pointer (some ⟨Bx, 0, none⟩)) _ w1 (fun x Y hY => drop1_any w Bx L mb h tv _ _ x Y (k.grown hY))
    unfold dropR
    rw [len_tellsOf] at this ⊢
    exact this
  generalize tellsOf xs h.eLo h.eHi ss = ts at *
  generalize cntsOf ss = cs at *
  generalize dropR h xs ss = r at *
  clear hh hv
  unfold Hd.val at hc
  go_enter Tryz.func36, Tryz.ntmps36
  go_wp2_with (go_at_call 29; refine hc.mono ?_; rintro e w1 ⟨L, mb, tv, rfl, hb1, hL⟩; obtain ⟨ta, tcap, rfl⟩ := look_slice hL; have hL2 := hL.grown (show Below w1.heap.size w1 (w1.alloc (.cells #[.pointer (some ⟨L, 0, none⟩)] 65)) by (repeat (first | assumption | exact Below.refl _ _ | refine BA ?_ _ | refine BC ?_ _ _ (by omega) _ | refine Below.drew ?_ | refine BT ?_ (by assumption)))); obtain ⟨k0, k1, k2, k3, k4, k5, k6, k7, k8, k9⟩ := hL2.cell)
  refine (hf.out _ _ _ _ _ ⟨by simp [go_sem], hL2, hts, htm⟩).mono ?_
  rintro e w2 ⟨rfl, hb2⟩
  go_wp2
  go_ret
  exact ⟨rfl, by (repeat (first | assumption | exact Below.refl _ _ | refine BA ?_ _ | refine BC ?_ _ _ (by omega) _ | refine Below.drew ?_ | refine BT ?_ (by assumption)))⟩

set_option maxRecDepth 100000 in
set_option maxHeartbeats 2000000 in
theorem clashC_yes (B : Nat) (h : Hd) (xs : List (Int × Int)) (ss : List Sett) (w : World) (hm : BoxM w B h xs ss) (hv : validH h xs ss = true) :
    Calls Tryz.prog 28 #[.pointer (some ⟨B, 0, none⟩)] w (Ret (.int .i64 (clashR h xs ss)) w) := by
  obtain ⟨hts, htm⟩ := tells_ok hv
  obtain ⟨c0, c1, c2, c3, c4, c5, c6, hh⟩ := hm
  have hc := lookAt_yes h xs ss _ hh hv
  have hmf : ∀ (fn : Fn) (first cap : Array Value) (w : World), (Instr.makeFunc fn first cap).run Tryz.prog w = .ok (.func fn first cap) w := fun _ _ _ _ => rfl
  have hf : Hid (∀ w1 Bx L mb tv, BoxL w w1 Bx L mb h tv (tellsOf xs h.eLo h.eHi ss) (cntsOf ss) → Calls Tryz.prog 32 #[.int .i64 (tellsOf xs h.eLo h.eHi ss).length, .func (.func 33) #[] #[.pointer (some ⟨Bx, 0, none⟩)]] w1 (Ret (.int .i64 (firstOf ss.length (fun x => !(boundsS h.sLo h.sHi (tellsOf xs h.eLo h.eHi ss) x).1))) w1)) := fun w1 Bx L mb tv k => by
    have := first76_any (tellsOf xs h.eLo h.eHi ss).length hts (.pointer (some ⟨Bx, 0, none⟩)) _ w1 (fun x Y hY => clash1_any w Bx L mb h tv _ _ x Y (k.grown hY))
    rw [len_tellsOf] at this ⊢
    exact this
  have ha : Hid (∀ L mb tv w1, IsLook w w1 L mb h tv (tellsOf xs h.eLo h.eHi ss) (cntsOf ss) → Calls Tryz.prog 31 #[.pointer (some ⟨L, 0, none⟩)] w1 (fun e w' => e = .returned (.int .i64 (2 ^ (tellsOf xs h.eLo h.eHi ss).length - 1)) ∧ w' = w1)) := fun L mb tv w1 hL => all_any w L mb h tv _ _ w1 hL hts
  have hn : Hid (∀ L mb tv w1, IsLook w w1 L mb h tv (tellsOf xs h.eLo h.eHi ss) (cntsOf ss) → Calls Tryz.prog 30 #[.pointer (some ⟨L, 0, none⟩), .int .i64 (2 ^ (tellsOf xs h.eLo h.eHi ss).length - 1)] w1 (Ret (.bool (truthsS h xs ss).1) w1)) := fun L mb tv w1 hL => can_any w L mb h tv _ _ _ w1 hL hts htm
  unfold clashR
  generalize firstOf ss.length _ = r at *
  generalize (truthsS h xs ss).1 = b at *
  generalize tellsOf xs h.eLo h.eHi ss = ts at *
  generalize cntsOf ss = cs at *
  generalize (2 : Int) ^ ts.length - 1 = z at *
  clear hh hv
  unfold Hd.val at hc
  cases b
  all_goals
    try simp only [if_true, if_false, Bool.false_eq_true]
    go_enter Tryz.func28, Tryz.ntmps28
    go_wp2_with (go_at_call 29; refine hc.mono ?_; rintro e w1 ⟨L, mb, tv, rfl, hb1, hL⟩)
    have hL2 := hL.grown (show Below w1.heap.size w1 (w1.alloc (.cells #[.pointer (some ⟨L, 0, none⟩)] 65)) by (repeat (first | assumption | exact Below.refl _ _ | refine BA ?_ _ | refine BC ?_ _ _ (by omega) _ | refine Below.drew ?_ | refine BT ?_ (by assumption))))
    have hbx : (w1.alloc (.cells #[.pointer (some ⟨L, 0, none⟩)] 65)).cell? ⟨w1.heap.size, 0, none⟩ = some (.pointer (some ⟨L, 0, none⟩)) := by simp [go_sem]
    have hW1 : Below w.heap.size w (w1.alloc (.cells #[.pointer (some ⟨L, 0, none⟩)] 65)) := by (repeat (first | assumption | exact Below.refl _ _ | refine BA ?_ _ | refine BC ?_ _ _ (by omega) _ | refine Below.drew ?_ | refine BT ?_ (by assumption)))
    clear c0 c1 c2 c3 c4 c5 c6 hc hb1 hL
    generalize hBx : w1.heap.size = Bx at *
    generalize w1.alloc (.cells #[.pointer (some ⟨L, 0, none⟩)] 65) = W at *
    have hbd : W.drew.cell? ⟨Bx, 0, none⟩ = some (.pointer (some ⟨L, 0, none⟩)) := hbx
    have hLd := hL2.grown (show Below W.heap.size W W.drew by (repeat (first | assumption | exact Below.refl _ _ | refine BA ?_ _ | refine BC ?_ _ _ (by omega) _ | refine Below.drew ?_ | refine BT ?_ (by assumption))))
    refine wp_region_seq [(0, true), (1, true), (2, false), (3, false)]
      (fun w' => w'.cell? ⟨Bx, 0, none⟩ = some (.pointer (some ⟨L, 0, none⟩))) (by kernel_rfl) (by kernel_rfl) (fun _ _ d _ _ h => by cases d <;> exact h) hbd ?_
    repeat (first | (refine seq_read rfl (by rfl) _ (fun w' hS => by (try dsimp only at hS); go_simp; (try with_reducible rfl)) ?_; (try simp only [Act.put, List.setIfInBounds_toArray, List.set_cons_zero, List.set_cons_succ])) | (refine seq_skip rfl (by rfl) ?_; (try simp only [Act.put, List.setIfInBounds_toArray, List.set_cons_zero, List.set_cons_succ])))
    (refine seq_do rfl (by rfl) (fun K hK => ?_); go_simp)
    refine (ha.out _ _ _ _ hLd).mono ?_
    rintro e w2 ⟨rfl, rfl⟩
    refine hK _ _ hbd ?_
    clear hK K
    refine seq_last rfl (by rfl) (by kernel_rfl) (fun K hK => ?_)
    go_simp
    refine (hn.out _ _ _ _ hLd).mono ?_
    rintro e w3 ⟨rfl, hb3⟩
    refine hK _ _ ?_
    clear hK K
    have hL3 := hLd.grown hb3
    have hb4 := cellG' hbd hb3
    obtain ⟨ta, tcap, rfl⟩ := look_slice hL3
    obtain ⟨k0, k1, k2, k3, k4, k5, k6, k7, k8, k9⟩ := hL3.cell
    have hW3 : Below w.heap.size w w3 := BT hW1.drew hb3
    go_wp2_with (go_at_call 32; refine (hf.out _ _ _ _ _ ⟨hb4, hL3, hts, htm⟩).mono ?_; rintro e w5 ⟨rfl, hb5⟩)
    go_ret
    exact ⟨rfl, by (repeat (first | assumption | exact Below.refl _ _ | refine BA ?_ _ | refine BC ?_ _ _ (by omega) _ | refine Below.drew ?_ | refine BT ?_ (by assumption)))⟩
end Go.Proofs.YtcfjakifeihbpaaGreat
