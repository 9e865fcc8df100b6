/- Eye: which number one has; the narrowing in one word; what bounds tell of one. -/
import Derived.Test.YtcfjakifeihbpaaGreatEna
namespace Go.Proofs.YtcfjakifeihbpaaGreat
namespace Ey
open Go.RowKit Go.Maps Go.Shelf Nb

theorem narrow_any (gB gC gE mb n f t : Nat) (lo hi : Int) (st : St) (X : World) (k : NS X gB gC gE mb n st) (no : NO gB gC gE mb) (hf : f < 11) (ht : t < 11) (hnn : n < 1000) (hbd : BdS st) (hlh : (-1000000 ≤ lo ∧ lo ≤ 1000000) ∧ -1000000 ≤ hi ∧ hi ≤ 1000000) :
    Calls Tryz.prog 89 #[.int .i64 f, .int .i64 t, .agg #[.int .i64 lo, .int .i64 hi], .pointer (some ⟨gB, 0, none⟩), .pointer (some ⟨gC, 0, none⟩), .pointer (some ⟨gE, 0, none⟩)] X (NarR X gB gC gE mb n (nar st f t lo hi)) := by
  cases hs : st.1 f with
  | none => exact narrow_none gB gC gE mb n f t lo hi st X k hf hs
  | some s =>
    cases ho : st.1 t with
    | none => exact narrow_new gB gC gE mb n f t lo hi st X k no hf ht hnn hbd hlh s hs ho
    | some o => exact narrow_old gB gC gE mb n f t lo hi st X k no hf ht hnn hbd hlh s hs o ho
theorem num_zero (w : World) : Calls Tryz.prog 117 #[.agg #[]] w (Ret (.int .i64 0) w) := by
  go_enter Tryz.func117, Tryz.ntmps117
  go_wp2
  go_ret
  exact ⟨rfl, by (repeat (first | assumption | exact Below.refl _ _ | refine BA ?_ _ | refine BC ?_ _ _ (by omega) _ | refine Below.drew ?_ | refine BT ?_ (by assumption)))⟩
theorem num_habit (e : Int) (w : World) (h : 0 ≤ e ∧ e ≤ 100) : Calls Tryz.prog 119 #[.int .i64 e] w (Ret (.int .i64 (1 + e)) w) := by
  obtain ⟨h0, h1⟩ := h
  go_enter Tryz.func119, Tryz.ntmps119
  go_wp2
  go_ret
  exact ⟨rfl, by (repeat (first | assumption | exact Below.refl _ _ | refine BA ?_ _ | refine BC ?_ _ _ (by omega) _ | refine Below.drew ?_ | refine BT ?_ (by assumption)))⟩
theorem num_place (e : Int) (w : World) (h : 0 ≤ e ∧ e ≤ 100) : Calls Tryz.prog 118 #[.int .i64 e] w (Ret (.int .i64 (5 + e)) w) := by
  obtain ⟨h0, h1⟩ := h
  go_enter Tryz.func118, Tryz.ntmps118
  go_wp2
  go_ret
  exact ⟨rfl, by (repeat (first | assumption | exact Below.refl _ _ | refine BA ?_ _ | refine BC ?_ _ _ (by omega) _ | refine Below.drew ?_ | refine BT ?_ (by assumption)))⟩
/-- One of all between which there are bounds. -/
inductive One where
  | z
  | h (e : Nat)
  | p (i : Nat)
def One.val : One → Value
  | .z => .iface 79 (.agg #[])
  | .h e => .iface 94 (.int .i64 e)
  | .p i => .iface 81 (.int .i64 i)
def One.num : One → Nat
  | .z => 0
  | .h e => 1 + e
  | .p i => 5 + i
theorem mth_zero (v : Value) (w : World) : (method 262 79 v "zoneworks/eye.number").run Tryz.prog w = .ok (117, v) w := by kernel_rfl
theorem mth_habit (v : Value) (w : World) : (method 262 94 v "zoneworks/eye.number").run Tryz.prog w = .ok (119, v) w := by kernel_rfl
theorem mth_place (v : Value) (w : World) : (method 262 81 v "zoneworks/eye.number").run Tryz.prog w = .ok (118, v) w := by kernel_rfl
/-- A value of the interface, the method that it has, and the value that the method gets. -/
structure OneAt (x : One) (T F : Nat) (v : Value) : Prop where
  val : x.val = .iface T v
  mth : ∀ w, (method 262 T v "zoneworks/eye.number").run Tryz.prog w = .ok (F, v) w
  ent : ∀ w, (callFunc F #[v]).run Tryz.prog w = .ok (.enter F #[v]) w
  num : ∀ w, Calls Tryz.prog F #[v] w (Ret (.int .i64 (x.num : Int)) w)
theorem oneAt (x : One) (hx : x.num < 11) : ∃ T F v, OneAt x T F v := by
  cases x with
  | z => exact ⟨_, _, _, rfl, mth_zero _, fun w => enters_of Tryz.func117 (by kernel_rfl) rfl _ w, num_zero⟩
  | h e =>
    refine ⟨_, _, _, rfl, mth_habit _, fun w => enters_of Tryz.func119 (by kernel_rfl) rfl _ w, fun w => ?_⟩
    have := num_habit e w (by simp only [One.num] at hx; omega)
    have e1 : (1 : Int) + (e : Int) = ((One.h e).num : Int) := by simp [One.num]
    rw [e1] at this
    exact this
  | p i =>
    refine ⟨_, _, _, rfl, mth_place _, fun w => enters_of Tryz.func118 (by kernel_rfl) rfl _ w, fun w => ?_⟩
    have := num_place i w (by simp only [One.num] at hx; omega)
    have e1 : (5 : Int) + (i : Int) = ((One.p i).num : Int) := by simp [One.num]
    rw [e1] at this
    exact this
set_option maxRecDepth 100000 in
theorem of_yes (mb n : Nat) (b : B) (x : One) (s : Int × Int) (w : World) (h : OwnB w mb n b) (hx : x.num < 11) (hs : b x.num = some s) :
    Calls Tryz.prog 42 #[.map (some mb), x.val] w (Ret (.agg #[.int .i64 s.1, .int .i64 s.2]) w) := by
  obtain ⟨T, F, v, hv, hm, hent, hn⟩ := oneAt x hx
  rw [hv]
  have HN := Lib.hid hn
  have hso : (b x.num).isSome = true := by rw [hs]; rfl
  have HS := Lib.hid hs
  have hZ := newB w (.cells #[.int .i64 0, .int .i64 0] 24)
  have HZ := Lib.hid hZ
  have s0 := (slots2_new w 0 0 24)
  clear hv hn hs
  go_enter Tryz.func42, Tryz.ntmps42
  go_wp2_with fail
  refine (HN.out _).mono ?_
  rintro e w1 ⟨rfl, hb1⟩
  have hB1 := BT hZ hb1
  have hO := Lib.hid (h.kept (grown_below hB1 none) (by simp))
  have s1 := Lib.hid (s0.below hb1 (by simp))
  clear hm hent HN hb1 hZ s0
  go_wp2_with (at_lookup; refine wp_lookB rfl (.tmp 8) (.tmp 10) rfl rfl hO.out x.num hx rfl ?_)
  intro c d hcd
  obtain ⟨rfl, rfl⟩ : s.1 = c ∧ s.2 = d := by
    obtain ⟨s1, s2⟩ := s
    have := hcd.out _ _ HS.out
    simpa using this
  try rw [hso]
  have hZ2 := newB w1 (.cells #[.int .i64 s.1, .int .i64 s.2] 24)
  obtain ⟨a0, b0, c0⟩ := s1.out.get 0 (by omega)
  have s2 := s1.out.below hZ2 (World.block_lt_of_cell? _ _ b0)
  obtain ⟨u0, p0, f0⟩ := s2.get 0 (by omega)
  obtain ⟨u1, p1, f1⟩ := s2.get 1 (by omega)
  clear b0 c0
  clear hcd hO HS
  go_wp2_with fail
  refine (insist_yes _ _).mono ?_
  rintro e w2 ⟨rfl, hb2⟩
  have hB2 := BT (BT hB1 hZ2) hb2
  have t0 := cellB (two_cells w1 s.1 s.2 24).1 hb2
  have t1 := cellB (two_cells w1 s.1 s.2 24).2 hb2
  have s3 := s2.below hb2 (World.block_lt_of_cell? _ _ p0)
  clear p0 f0 p1 f1
  obtain ⟨u0, p0, f0⟩ := s3.get 0 (by omega)
  obtain ⟨u1, p1, f1⟩ := s3.get 1 (by omega)
  have hfin : Below w.heap.size w ((w2.setCell ⟨w.heap.size, 0, none⟩ (.int .i64 s.1)).setCell ⟨w.heap.size, 1, none⟩ (.int .i64 s.2)) := BC (BC hB2 w.heap.size 0 (Nat.le_refl _) _) w.heap.size 1 (Nat.le_refl _) _
  have v0 : ((w2.setCell ⟨w.heap.size, 0, none⟩ (.int .i64 s.1)).setCell ⟨w.heap.size, 1, none⟩ (.int .i64 s.2)).cell? ⟨w.heap.size, 0, none⟩ = some (.int .i64 s.1) := by
    rw [World.cell?_setCell_other _ _ _ _ (by intro he; injection he; omega)]; exact World.cell?_setCell_same _ _ _ p0
  have v1 : ((w2.setCell ⟨w.heap.size, 0, none⟩ (.int .i64 s.1)).setCell ⟨w.heap.size, 1, none⟩ (.int .i64 s.2)).cell? ⟨w.heap.size, 1, none⟩ = some (.int .i64 s.2) := by
    refine World.cell?_setCell_same _ _ _ (u := u1) ?_
    rw [World.cell?_setCell_other _ _ _ _ (by intro he; injection he; omega)]; exact p1
  go_wp2
  exact bodyPost_ret (v := .agg #[.int .i64 s.1, .int .i64 s.2]) (by simp [results, Tryz.results42, go_sem, v0, v1]) rfl ⟨rfl, hfin⟩
set_option maxRecDepth 100000 in
theorem of_no (mb n : Nat) (b : B) (x : One) (w : World) (h : OwnB w mb n b) (hx : x.num < 11) (hs : b x.num = none) :
    Calls Tryz.prog 42 #[.map (some mb), x.val] w (Pan 12 w) := by
  obtain ⟨T, F, v, hv, hm, hent, hn⟩ := oneAt x hx
  rw [hv]
  have HN := Lib.hid hn
  have hso : (b x.num).isSome = false := by rw [hs]; rfl
  have hZ := newB w (.cells #[.int .i64 0, .int .i64 0] 24)
  have HZ := Lib.hid hZ
  have s0 := (slots2_new w 0 0 24)
  clear hv hn hs
  go_enter Tryz.func42, Tryz.ntmps42
  go_wp2_with fail
  refine (HN.out _).mono ?_
  rintro e w1 ⟨rfl, hb1⟩
  have hB1 := BT hZ hb1
  have hO := Lib.hid (h.kept (grown_below hB1 none) (by simp))
  have s1 := Lib.hid (s0.below hb1 (by simp))
  clear hm hent HN hb1 hZ s0
  go_wp2_with (at_lookup; refine wp_lookB rfl (.tmp 8) (.tmp 10) rfl rfl hO.out x.num hx rfl ?_)
  intro c d _
  try rw [hso]
  have hZ2 := newB w1 (.cells #[.int .i64 c, .int .i64 d] 24)
  clear hO
  go_wp2_with fail
  refine (insist_no _ _).mono ?_
  rintro e w2 ⟨rfl, hb2⟩
  have hB2 := BT (BT hB1 hZ2) hb2
  go_wp2
  exact ⟨rfl, rfl, hB2⟩
end Ey
end Go.Proofs.YtcfjakifeihbpaaGreat
