/- The measure of the examples, as the statements make it. -/
import Derived.Test.YtmfbkgdlfackcaaApi
import Derived.Laws.OwnMore
import Derived.Laws.AppendOwnNone
import Derived.Test.YtmfbkgdlfackcaaMon
namespace Go.Proofs.Ytmfbkgdlfackcaa
open Go.RowKit

theorem spanL_any (lo hi : Int) (w : World) : Calls Try.prog 34 #[.int .i64 lo, .int .i64 hi] w (Ret (.agg #[.int .i64 lo, .int .i64 hi]) w) := by
  go_enter Try.func34, Try.ntmps34
  go_wp2
  exact bodyPost_ret (v := .agg #[.int .i64 lo, .int .i64 hi]) (by simp [results, Try.results34, go_sem]) rfl ⟨rfl, (Below.refl _ _).alloc (Nat.le_refl _) _⟩
theorem fifth_any (w : World) : Calls Try.prog 33 #[] w (Ret (.agg #[.int .i64 0, .int .i64 520, .bool false]) w) := by
  go_enter Try.func33, Try.ntmps33
  go_wp2
  exact bodyPost_ret (v := .agg #[.int .i64 0, .int .i64 520, .bool false]) (by simp [results, Try.results33, go_sem]) rfl ⟨rfl, (Below.refl _ _).alloc (Nat.le_refl _) _⟩

def exX : List (Int × Int) := [(-2, 2), (0, 5), (1, 1), (-4, 0)]
def exS : List Sett := [(0, 500, false), (0, 2504, true), (1, 1200, false), (1, 1788, true)]
/-- The measure of the examples with more settings. -/
def SamOut (w : World) (more : List Sett) (e : Ending) (w' : World) : Prop :=
  ∃ (a sa : Addr) (n cap ns scap : Nat), e = .returned (Hd.val ⟨some a, n, cap, -3, 3, 2, 2900, 3100, some sa, ns, scap⟩) ∧ HasM w' ⟨some a, n, cap, -3, 3, 2, 2900, 3100, some sa, ns, scap⟩ exX (exS ++ more) ∧ Below w.heap.size w w'


theorem info44 : (Try.prog.info? 44).map (fun i => (i.zero, i.size, i.bytes)) = some (some (.agg #[.int .i64 0, .int .i64 0, .bool false]), 3, 24) := by kernel_rfl
theorem info44p : ∃ i, Try.prog.info? 44 = some i ∧ i.zero = some (.agg #[.int .i64 0, .int .i64 0, .bool false]) ∧ i.size = 3 ∧ i.bytes = 24 := by
  have h := info44
  cases hi : Try.prog.info? 44 with
  | none => rw [hi] at h; simp at h
  | some i => rw [hi] at h; simp at h; exact ⟨i, rfl, h.1, h.2.1, h.2.2⟩
def settV (s : Sett) : List Value := [.int .i64 s.1, .int .i64 s.2.1, .bool s.2.2]
def exV : List Value := [.int .i64 0, .int .i64 500, .bool false, .int .i64 0, .int .i64 2504, .bool true, .int .i64 1, .int .i64 1200, .bool false, .int .i64 1, .int .i64 1788, .bool true]

theorem spans_ex {W : World} {B : Nat} (h : ∀ j u, (([-2, 2, 0, 5, 1, 1, -4, 0] : List Int).map (Value.int .i64))[j]? = some u → W.cell? ⟨B, j, none⟩ = some u) : Spans W (some ⟨B, 0, none⟩) exX := by
  refine .inr ⟨B, 0, rfl, World.block_lt_of_cell? W _ (h 0 _ rfl), fun k hk => ?_⟩
  have hk4 : k < 4 := hk
  rcases k with _ | _ | _ | _ | k
  · exact ⟨h 0 _ rfl, h 1 _ rfl⟩
  · exact ⟨h 2 _ rfl, h 3 _ rfl⟩
  · exact ⟨h 4 _ rfl, h 5 _ rfl⟩
  · exact ⟨h 6 _ rfl, h 7 _ rfl⟩
  · omega

theorem spans_bx {B : Nat} {w w' : World} {a : Addr} {xs : List (Int × Int)} (hB : a.block ≠ B) (h : Spans w (some a) xs) (hx : BX B w w') : Spans w' (some a) xs := by
  rcases h with h | ⟨b, o, h1, h2, h3⟩
  · exact .inl h
  · have hs := hx.size
    injection h1 with h1
    subst h1
    exact .inr ⟨b, o, rfl, by omega, fun k hk => by rw [hx.cell _ _ h2 hB, hx.cell _ _ h2 hB]; exact h3 k hk⟩
theorem setts_bx {B : Nat} {w w' : World} {a : Addr} {ss : List Sett} (hB : a.block ≠ B) (h : Setts w (some a) ss) (hx : BX B w w') : Setts w' (some a) ss := by
  rcases h with h | ⟨b, o, h1, h2, h3⟩
  · exact .inl h
  · have hs := hx.size
    injection h1 with h1
    subst h1
    exact .inr ⟨b, o, rfl, by omega, fun k hk => by rw [hx.cell _ _ h2 hB, hx.cell _ _ h2 hB, hx.cell _ _ h2 hB]; exact h3 k hk⟩

theorem wp_append_own_none {P : Program} {w : World} {o : Oper} {a : Act} {K : Act → World → Prop} {Q : Exit → Act → World → Prop} (s x : Operand) (t : TypeId)
    (ho : o.op = .call { callee := .builtin .append, args := #[s, x], argTypes := #[t, t] })
    (base : Nat) (e : TypeId) (i : TypeInfo) (size : Nat) (ht : P.underlying t = some (.slice e)) (hi : P.info? e = some i)
    (v : Value) (n : Nat) (xs : List Value) (hs : a.eval s = v) (hown : w.ownsRow base e size v n xs) (hx : a.eval x = .slice none 0 0)
    (h : K (a.put o.dst v) w) : o.wp P a w K Q := by
  have hrun := run_append_owned_none (P := P) (w := w) base t o.type e i size ht hi v n xs hown
  unfold Oper.wp
  simp [execOp, ho, resolve, invoke, builtin, hs, hx, hrun, Result.andThen]
  exact h

theorem flat_sett (ss : List Sett) : ∀ k, k < ss.length → (ss.flatMap settV)[k * 3]? = some (.int .i64 (ss.getD k (0, 0, false)).1) ∧ (ss.flatMap settV)[k * 3 + 1]? = some (.int .i64 (ss.getD k (0, 0, false)).2.1) ∧ (ss.flatMap settV)[k * 3 + 2]? = some (.bool (ss.getD k (0, 0, false)).2.2) := by
  induction ss with
  | nil => intro k hk; simp at hk
  | cons s ss ih =>
    intro k hk
    cases k with
    | zero => simp [settV]
    | succ k =>
      have h := ih k (by simpa using hk)
      have e : ∀ i, (List.flatMap settV (s :: ss))[(k + 1) * 3 + i]? = (List.flatMap settV ss)[k * 3 + i]? := fun i => by
        rw [List.flatMap_cons, List.getElem?_append_right (by simp [settV]; omega)]
        congr 1; simp [settV]; omega
      have e0 := e 0
      simp only [Nat.add_zero] at e0
      rw [e0, e 1, e 2]
      simpa using h
theorem setts_row {W : World} {base g n cap : Nat} {ss : List Sett} (h : W.ownsRow base 44 3 (.slice (some ⟨g, 0, none⟩) n cap) n (ss.flatMap settV)) (hn : ss.length = n) (hr : ∀ s ∈ ss, s.2.1 ≤ 9223372036854775807) : Setts W (some ⟨g, 0, none⟩) ss := by
  by_cases h0 : ss = []
  · exact .inl h0
  · refine .inr ⟨g, 0, rfl, (h.lt g rfl).2, fun k hk => ?_⟩
    obtain ⟨h1, h2, h3⟩ := flat_sett ss k hk
    refine ⟨?_, ?_, ?_, hr _ (by simp [List.getD, hk])⟩
    · rw [Nat.zero_add, h.cellAt _ (by omega), h1]
    · rw [Nat.zero_add, h.cellAt _ (by omega), h2]
    · rw [Nat.zero_add, h.cellAt _ (by omega), h3]

theorem BX.grown {w w' : World} {B : Nat} (h : w.grownBy w' (some B)) : BX B w w' := ⟨h.os, h.tape, h.output, h.size, fun k hk hn => h.block k hk (by simpa using hn)⟩

set_option maxRecDepth 100000 in
set_option maxHeartbeats 2000000 in
theorem sample_nil (w : World) : Calls Try.prog 32 #[.slice none 0 0] w (SamOut w []) := by
  go_enter Try.func32, Try.ntmps32
  go_wp2_with (go_at_call 34; refine (spanL_any _ _ _).mono ?_; rintro e w1 ⟨rfl, hb1⟩)
  rename_i X1 hY1 X2 hY2 X3 hY3 X4 hY4 K9 hK9
  have b0 := newB w (.cells #[.slice none 0 0, .int .i64 0, .int .i64 0, .int .i64 0, .int .i64 0, .int .i64 0, .slice none 0 0] 29)
  have hB4 : Below w.heap.size w X4 := BT (BT (BT (BT b0 hY1) hY2) hY3) hY4
  have hw4 : w.heap.size < X4.heap.size := by have h1 := hY1.size; have h2 := hY2.size; have h3 := hY3.size; have h4 := hY4.size; simp only [World.size_alloc] at h1; omega
  have hsl : Slots w.heap.size 7 w1 := by
    have s0 : Slots w.heap.size 7 (w.alloc (.cells #[.slice none 0 0, .int .i64 0, .int .i64 0, .int .i64 0, .int .i64 0, .int .i64 0, .slice none 0 0] 29)) := by
      intro o ho
      have : o = 0 ∨ o = 1 ∨ o = 2 ∨ o = 3 ∨ o = 4 ∨ o = 5 ∨ o = 6 := by omega
      rcases this with rfl | rfl | rfl | rfl | rfl | rfl | rfl <;> simp [go_sem]
    have hw0 : w.heap.size < (w.alloc (.cells #[.slice none 0 0, .int .i64 0, .int .i64 0, .int .i64 0, .int .i64 0, .int .i64 0, .slice none 0 0] 29)).heap.size := by simp
    have a1 := hY1.size; have a2 := hY2.size; have a3 := hY3.size; have a4 := hY4.size
    have s4 := (((s0.below hY1 hw0).below hY2 (by omega)).below hY3 (by omega)).below hY4 (by omega)
    exact (s4.alloc hw4 _).below hb1 (by simp; omega)
  have hsp : Spans w1 (some ⟨X4.heap.size, 0, none⟩) exX := by
    refine Spans.below ?_ (Nat.le_refl _) hb1
    refine spans_ex (fun j u hu => ?_)
    have hj : j < 8 := by have := (List.getElem?_eq_some_iff.1 hu).1; simpa using this
    have : j = 0 ∨ j = 1 ∨ j = 2 ∨ j = 3 ∨ j = 4 ∨ j = 5 ∨ j = 6 ∨ j = 7 := by omega
    rcases this with rfl | rfl | rfl | rfl | rfl | rfl | rfl | rfl <;> (simp at hu; subst hu; simp [go_sem])
  have hB1 : Below w.heap.size w w1 := BT (BA hB4 _) hb1
  have hX4 : X4.heap.size < w1.heap.size := by have h := hb1.size; simp only [World.size_alloc] at h; omega
  generalize X4.heap.size = S at *
  clear hY1 hY2 hY3 hY4 hb1 b0 hB4 X1 X2 X3 X4
  have hA1 : Below w1.heap.size w1 (w1.alloc (.cells #[.slice (some ⟨S, 0, none⟩) 4 4, .int .i64 (-3), .int .i64 3] 26)) := newB _ _
  have t0 : (w1.alloc (.cells #[.slice (some ⟨S, 0, none⟩) 4 4, .int .i64 (-3), .int .i64 3] 26)).cell? ⟨w1.heap.size, 0, none⟩ = some (.slice (some ⟨S, 0, none⟩) 4 4) := by simp [go_sem]
  have t1 : (w1.alloc (.cells #[.slice (some ⟨S, 0, none⟩) 4 4, .int .i64 (-3), .int .i64 3] 26)).cell? ⟨w1.heap.size, 1, none⟩ = some (.int .i64 (-3)) := by simp [go_sem]
  have t2 : (w1.alloc (.cells #[.slice (some ⟨S, 0, none⟩) 4 4, .int .i64 (-3), .int .i64 3] 26)).cell? ⟨w1.heap.size, 2, none⟩ = some (.int .i64 3) := by simp [go_sem]
  have hsz : (w1.alloc (.cells #[.slice (some ⟨S, 0, none⟩) 4 4, .int .i64 (-3), .int .i64 3] 26)).heap.size = w1.heap.size + 1 := by simp
  generalize w1.alloc (.cells #[.slice (some ⟨S, 0, none⟩) 4 4, .int .i64 (-3), .int .i64 3] 26) = W2 at *
  have hrow := World.ownsRow_lit (base := w1.heap.size + 1) (e := 44) (size := 3) W2 #[.int .i64 0, .int .i64 500, .bool false, .int .i64 0, .int .i64 2504, .bool true, .int .i64 1, .int .i64 1200, .bool false, .int .i64 1, .int .i64 1788, .bool true] 4 (by omega) (by unfold maxLen; omega) rfl
  have hA2 := newB W2 (.cells #[.int .i64 0, .int .i64 500, .bool false, .int .i64 0, .int .i64 2504, .bool true, .int .i64 1, .int .i64 1200, .bool false, .int .i64 1, .int .i64 1788, .bool true] 44)
  have hsz3 : (W2.alloc (.cells #[.int .i64 0, .int .i64 500, .bool false, .int .i64 0, .int .i64 2504, .bool true, .int .i64 1, .int .i64 1200, .bool false, .int .i64 1, .int .i64 1788, .bool true] 44)).heap.size = W2.heap.size + 1 := by simp
  generalize W2.alloc (.cells #[.int .i64 0, .int .i64 500, .bool false, .int .i64 0, .int .i64 2504, .bool true, .int .i64 1, .int .i64 1200, .bool false, .int .i64 1, .int .i64 1788, .bool true] 44) = W3 at *
  rw [hsz] at hrow
  have hd : Below w1.heap.size w1 W3.drew := Below.drew (BT hA1 hA2)
  have r0 : W3.drew.cell? ⟨w1.heap.size, 0, none⟩ = some (.slice (some ⟨S, 0, none⟩) 4 4) := cellG t0 (Below.drew hA2)
  have r1 : W3.drew.cell? ⟨w1.heap.size, 1, none⟩ = some (.int .i64 (-3)) := cellG t1 (Below.drew hA2)
  have r2 : W3.drew.cell? ⟨w1.heap.size, 2, none⟩ = some (.int .i64 3) := cellG t2 (Below.drew hA2)
  have hrd := hrow.drew
  have hspd := hsp.below (Nat.le_refl _) hd
  have hwl : w.heap.size < w1.heap.size := by omega
  have hsld := hsl.below hd hwl
  have hBd : Below w.heap.size w W3.drew := BT hB1 hd
  have hszd : w1.heap.size + 1 ≤ W3.drew.heap.size := by show _ ≤ W3.heap.size; omega
  clear hsl hsp hA1 t0 t1 t2 hsz hrow hA2 hsz3
  generalize w1.heap.size = T at *
  refine wp_region_seq [(0, true), (2, true), (3, true), (1, false), (4, false), (5, true), (6, false)]
    (fun w' => w'.cell? ⟨T, 0, none⟩ = some (.slice (some ⟨S, 0, none⟩) 4 4) ∧ w'.cell? ⟨T, 1, none⟩ = some (.int .i64 (-3)) ∧ w'.cell? ⟨T, 2, none⟩ = some (.int .i64 3)) (by kernel_rfl) (by kernel_rfl) (fun _ _ d _ _ h => by cases d <;> exact h) ⟨r0, r1, r2⟩ ?_
  repeat (first | (refine seq_read rfl (by rfl) _ (fun w' hS => by (try dsimp only at hS); go_simp; (try with_reducible rfl)) ?_; (try simp only [Act.put, List.setIfInBounds_toArray, List.set_cons_zero, List.set_cons_succ])) | (refine seq_skip rfl (by rfl) ?_; (try simp only [Act.put, List.setIfInBounds_toArray, List.set_cons_zero, List.set_cons_succ])))
  (refine seq_do rfl (by rfl) (fun K hK => ?_); go_simp)
  refine (spanL_any _ _ _).mono ?_
  rintro e w5 ⟨rfl, hb5⟩
  have q0 := cellG r0 hb5
  have q1 := cellG r1 hb5
  have q2 := cellG r2 hb5
  refine hK _ _ ⟨q0, q1, q2⟩ ?_
  clear hK K
  obtain ⟨i0, hi9, hz0, hz1, hz2⟩ := info44p
  have hr5 := hrd.kept (row := none) ⟨hb5.os, hb5.tape, hb5.output, hb5.size, fun i hi _ => hb5.block i hi⟩ (.inr (by simp [Value.ownBlock]))
  have hsp5 := hspd.below (Nat.le_refl _) hb5
  have hsl5 := hsld.below hb5 (by omega)
  have hB5 := BT hBd hb5
  have hsz5 : T + 1 ≤ w5.heap.size := Nat.le_trans hszd hb5.size
  clear hrd hspd hsld hBd hszd hb5 r0 r1 r2 hd
  (try simp only [Act.put, List.setIfInBounds_toArray, List.set_cons_zero, List.set_cons_succ])
  refine seq_do rfl (by rfl) (fun K hK => ?_)
  refine wp_append_own_none _ _ 27 rfl (T + 1) 44 i0 3 Try.underlying27 hi9 (.slice (some ⟨T + 1, 0, none⟩) 4 4) 4 exV rfl hr5 rfl ?_
  have p0 := q0; have p1 := q1; have p2 := q2
  have hsl6 := hsl5; have hsp6 := hsp5; have hB6 := hB5; have hr6 : w5.ownsRow (T + 1) 44 3 (.slice (some ⟨T + 1, 0, none⟩) 4 4) 4 ((exS ++ []).flatMap settV) := hr5
  clear q0 q1 q2 hsl5 hsp5 hB5 hr5
  have hsz6 : T + 1 ≤ w5.heap.size := hsz5
  refine hK _ _ ⟨p0, p1, p2⟩ ?_
  clear hK K
  (try simp only [Act.put, List.setIfInBounds_toArray, List.set_cons_zero, List.set_cons_succ])
  (refine seq_read rfl (by rfl) _ (fun w' hS => by (try dsimp only at hS); go_simp; (try with_reducible rfl)) ?_; (try simp only [Act.put, List.setIfInBounds_toArray, List.set_cons_zero, List.set_cons_succ]))
  refine seq_last rfl (by rfl) (by kernel_rfl) (fun K hK => ?_)
  obtain ⟨v0, u0, f0⟩ := hsl6.get 0 (by omega)
  obtain ⟨v1, u1, f1⟩ := hsl6.get 1 (by omega)
  obtain ⟨v2, u2, f2⟩ := hsl6.get 2 (by omega)
  obtain ⟨v3, u3, f3⟩ := hsl6.get 3 (by omega)
  obtain ⟨v4, u4, f4⟩ := hsl6.get 4 (by omega)
  obtain ⟨v5, u5, f5⟩ := hsl6.get 5 (by omega)
  obtain ⟨v6, u6, f6⟩ := hsl6.get 6 (by omega)
  go_simp
  refine hK _ _ ?_
  clear hK K
  have hX := ((((((BX.set w.heap.size 0 w5 (.slice (some ⟨S, 0, none⟩) 4 4)).trans (BX.set w.heap.size 1 _ (.int .i64 (-3)))).trans (BX.set w.heap.size 2 _ (.int .i64 3))).trans (BX.set w.heap.size 3 _ (.int .i64 2))).trans (BX.set w.heap.size 4 _ (.int .i64 2900))).trans (BX.set w.heap.size 5 _ (.int .i64 3100))).trans (BX.set w.heap.size 6 _ (.slice (some ⟨(T + 1), 0, none⟩) 4 4))
  have hw0 : w.heap.size < w5.heap.size := by omega
  have hm : HasM (((((((w5.setCell ⟨w.heap.size, 0, none⟩ (.slice (some ⟨S, 0, none⟩) 4 4)).setCell ⟨w.heap.size, 1, none⟩ (.int .i64 (-3))).setCell ⟨w.heap.size, 2, none⟩ (.int .i64 3)).setCell ⟨w.heap.size, 3, none⟩ (.int .i64 2)).setCell ⟨w.heap.size, 4, none⟩ (.int .i64 2900)).setCell ⟨w.heap.size, 5, none⟩ (.int .i64 3100)).setCell ⟨w.heap.size, 6, none⟩ (.slice (some ⟨(T + 1), 0, none⟩) 4 4)) ⟨some ⟨S, 0, none⟩, 4, 4, -3, 3, 2, 2900, 3100, some ⟨(T + 1), 0, none⟩, 4, 4⟩ exX (exS ++ []) :=
    ⟨spans_bx (by show S ≠ w.heap.size; omega) hsp6 hX, setts_bx (by show (T + 1) ≠ w.heap.size; omega) (setts_row hr6 rfl (by decide)) hX, rfl, rfl, by decide, by decide⟩
  have hBX := BX.below hB6 hX (Nat.le_refl _) (by omega)
  clear hsp6 hr6 hsl6 hB6 hX
  refine hK9 _ _ ?_
  clear hK9
  go_wp2
  exact bodyPost_ret (v := Hd.val ⟨some ⟨S, 0, none⟩, 4, 4, -3, 3, 2, 2900, 3100, some ⟨(T + 1), 0, none⟩, 4, 4⟩) (by simp [results, Try.results32, go_sem, u0, u1, u2, u3, u4, u5, u6, Hd.val]) rfl ⟨_, _, _, _, _, _, rfl, hm, hBX⟩

set_option maxRecDepth 100000 in
set_option maxHeartbeats 2000000 in
theorem sample_one (w : World) (g : Nat) (hc0 : w.cell? ⟨g, 0, none⟩ = some (.int .i64 0)) (hc1 : w.cell? ⟨g, 1, none⟩ = some (.int .i64 520)) (hc2 : w.cell? ⟨g, 2, none⟩ = some (.bool false)) : Calls Try.prog 32 #[.slice (some ⟨g, 0, none⟩) 1 1] w (SamOut w [(0, 520, false)]) := by
  go_enter Try.func32, Try.ntmps32
  go_wp2_with (go_at_call 34; refine (spanL_any _ _ _).mono ?_; rintro e w1 ⟨rfl, hb1⟩)
  rename_i X1 hY1 X2 hY2 X3 hY3 X4 hY4 K9 hK9
  have b0 := newB w (.cells #[.slice none 0 0, .int .i64 0, .int .i64 0, .int .i64 0, .int .i64 0, .int .i64 0, .slice none 0 0] 29)
  have hB4 : Below w.heap.size w X4 := BT (BT (BT (BT b0 hY1) hY2) hY3) hY4
  have hw4 : w.heap.size < X4.heap.size := by have h1 := hY1.size; have h2 := hY2.size; have h3 := hY3.size; have h4 := hY4.size; simp only [World.size_alloc] at h1; omega
  have hsl : Slots w.heap.size 7 w1 := by
    have s0 : Slots w.heap.size 7 (w.alloc (.cells #[.slice none 0 0, .int .i64 0, .int .i64 0, .int .i64 0, .int .i64 0, .int .i64 0, .slice none 0 0] 29)) := by
      intro o ho
      have : o = 0 ∨ o = 1 ∨ o = 2 ∨ o = 3 ∨ o = 4 ∨ o = 5 ∨ o = 6 := by omega
      rcases this with rfl | rfl | rfl | rfl | rfl | rfl | rfl <;> simp [go_sem]
    have hw0 : w.heap.size < (w.alloc (.cells #[.slice none 0 0, .int .i64 0, .int .i64 0, .int .i64 0, .int .i64 0, .int .i64 0, .slice none 0 0] 29)).heap.size := by simp
    have a1 := hY1.size; have a2 := hY2.size; have a3 := hY3.size; have a4 := hY4.size
    have s4 := (((s0.below hY1 hw0).below hY2 (by omega)).below hY3 (by omega)).below hY4 (by omega)
    exact (s4.alloc hw4 _).below hb1 (by simp; omega)
  have hsp : Spans w1 (some ⟨X4.heap.size, 0, none⟩) exX := by
    refine Spans.below ?_ (Nat.le_refl _) hb1
    refine spans_ex (fun j u hu => ?_)
    have hj : j < 8 := by have := (List.getElem?_eq_some_iff.1 hu).1; simpa using this
    have : j = 0 ∨ j = 1 ∨ j = 2 ∨ j = 3 ∨ j = 4 ∨ j = 5 ∨ j = 6 ∨ j = 7 := by omega
    rcases this with rfl | rfl | rfl | rfl | rfl | rfl | rfl | rfl <;> (simp at hu; subst hu; simp [go_sem])
  have hB1 : Below w.heap.size w w1 := BT (BA hB4 _) hb1
  have hX4 : X4.heap.size < w1.heap.size := by have h := hb1.size; simp only [World.size_alloc] at h; omega
  generalize X4.heap.size = S at *
  clear hY1 hY2 hY3 hY4 hb1 b0 hB4 X1 X2 X3 X4
  have hA1 : Below w1.heap.size w1 (w1.alloc (.cells #[.slice (some ⟨S, 0, none⟩) 4 4, .int .i64 (-3), .int .i64 3] 26)) := newB _ _
  have t0 : (w1.alloc (.cells #[.slice (some ⟨S, 0, none⟩) 4 4, .int .i64 (-3), .int .i64 3] 26)).cell? ⟨w1.heap.size, 0, none⟩ = some (.slice (some ⟨S, 0, none⟩) 4 4) := by simp [go_sem]
  have t1 : (w1.alloc (.cells #[.slice (some ⟨S, 0, none⟩) 4 4, .int .i64 (-3), .int .i64 3] 26)).cell? ⟨w1.heap.size, 1, none⟩ = some (.int .i64 (-3)) := by simp [go_sem]
  have t2 : (w1.alloc (.cells #[.slice (some ⟨S, 0, none⟩) 4 4, .int .i64 (-3), .int .i64 3] 26)).cell? ⟨w1.heap.size, 2, none⟩ = some (.int .i64 3) := by simp [go_sem]
  have hsz : (w1.alloc (.cells #[.slice (some ⟨S, 0, none⟩) 4 4, .int .i64 (-3), .int .i64 3] 26)).heap.size = w1.heap.size + 1 := by simp
  generalize w1.alloc (.cells #[.slice (some ⟨S, 0, none⟩) 4 4, .int .i64 (-3), .int .i64 3] 26) = W2 at *
  have hrow := World.ownsRow_lit (base := w1.heap.size + 1) (e := 44) (size := 3) W2 #[.int .i64 0, .int .i64 500, .bool false, .int .i64 0, .int .i64 2504, .bool true, .int .i64 1, .int .i64 1200, .bool false, .int .i64 1, .int .i64 1788, .bool true] 4 (by omega) (by unfold maxLen; omega) rfl
  have hA2 := newB W2 (.cells #[.int .i64 0, .int .i64 500, .bool false, .int .i64 0, .int .i64 2504, .bool true, .int .i64 1, .int .i64 1200, .bool false, .int .i64 1, .int .i64 1788, .bool true] 44)
  have hsz3 : (W2.alloc (.cells #[.int .i64 0, .int .i64 500, .bool false, .int .i64 0, .int .i64 2504, .bool true, .int .i64 1, .int .i64 1200, .bool false, .int .i64 1, .int .i64 1788, .bool true] 44)).heap.size = W2.heap.size + 1 := by simp
  generalize W2.alloc (.cells #[.int .i64 0, .int .i64 500, .bool false, .int .i64 0, .int .i64 2504, .bool true, .int .i64 1, .int .i64 1200, .bool false, .int .i64 1, .int .i64 1788, .bool true] 44) = W3 at *
  rw [hsz] at hrow
  have hd : Below w1.heap.size w1 W3.drew := Below.drew (BT hA1 hA2)
  have r0 : W3.drew.cell? ⟨w1.heap.size, 0, none⟩ = some (.slice (some ⟨S, 0, none⟩) 4 4) := cellG t0 (Below.drew hA2)
  have r1 : W3.drew.cell? ⟨w1.heap.size, 1, none⟩ = some (.int .i64 (-3)) := cellG t1 (Below.drew hA2)
  have r2 : W3.drew.cell? ⟨w1.heap.size, 2, none⟩ = some (.int .i64 3) := cellG t2 (Below.drew hA2)
  have hrd := hrow.drew
  have hspd := hsp.below (Nat.le_refl _) hd
  have hwl : w.heap.size < w1.heap.size := by omega
  have hsld := hsl.below hd hwl
  have hBd : Below w.heap.size w W3.drew := BT hB1 hd
  have hszd : w1.heap.size + 1 ≤ W3.drew.heap.size := by show _ ≤ W3.heap.size; omega
  have d0 := cellG (cellG hc0 hB1) hd; have d1 := cellG (cellG hc1 hB1) hd; have d2 := cellG (cellG hc2 hB1) hd
  clear hsl hsp hA1 t0 t1 t2 hsz hrow hA2 hsz3
  generalize w1.heap.size = T at *
  refine wp_region_seq [(0, true), (2, true), (3, true), (1, false), (4, false), (5, true), (6, false)]
    (fun w' => w'.cell? ⟨T, 0, none⟩ = some (.slice (some ⟨S, 0, none⟩) 4 4) ∧ w'.cell? ⟨T, 1, none⟩ = some (.int .i64 (-3)) ∧ w'.cell? ⟨T, 2, none⟩ = some (.int .i64 3)) (by kernel_rfl) (by kernel_rfl) (fun _ _ d _ _ h => by cases d <;> exact h) ⟨r0, r1, r2⟩ ?_
  repeat (first | (refine seq_read rfl (by rfl) _ (fun w' hS => by (try dsimp only at hS); go_simp; (try with_reducible rfl)) ?_; (try simp only [Act.put, List.setIfInBounds_toArray, List.set_cons_zero, List.set_cons_succ])) | (refine seq_skip rfl (by rfl) ?_; (try simp only [Act.put, List.setIfInBounds_toArray, List.set_cons_zero, List.set_cons_succ])))
  (refine seq_do rfl (by rfl) (fun K hK => ?_); go_simp)
  refine (spanL_any _ _ _).mono ?_
  rintro e w5 ⟨rfl, hb5⟩
  have q0 := cellG r0 hb5
  have q1 := cellG r1 hb5
  have q2 := cellG r2 hb5
  refine hK _ _ ⟨q0, q1, q2⟩ ?_
  clear hK K
  obtain ⟨i0, hi9, hz0, hz1, hz2⟩ := info44p
  have hr5 := hrd.kept (row := none) ⟨hb5.os, hb5.tape, hb5.output, hb5.size, fun i hi _ => hb5.block i hi⟩ (.inr (by simp [Value.ownBlock]))
  have hsp5 := hspd.below (Nat.le_refl _) hb5
  have hsl5 := hsld.below hb5 (by omega)
  have hB5 := BT hBd hb5
  have hsz5 : T + 1 ≤ w5.heap.size := Nat.le_trans hszd hb5.size
  have hnew : ∀ j u, (settV (0, 520, false))[j]? = some u → w5.cell? ((⟨g, 0, none⟩ : Addr).add j) = some u := by
    intro j u hu
    have hj : j < 3 := by have := (List.getElem?_eq_some_iff.1 hu).1; simpa [settV] using this
    have : j = 0 ∨ j = 1 ∨ j = 2 := by omega
    rcases this with rfl | rfl | rfl <;> (simp [settV] at hu; subst hu; simp only [Addr.add_mid, Nat.zero_add])
    · exact cellG d0 hb5
    · exact cellG d1 hb5
    · exact cellG d2 hb5
  clear hc0 hc1 hc2 hB1 d0 d1 d2
  clear hrd hspd hsld hBd hszd hb5 r0 r1 r2 hd
  (try simp only [Act.put, List.setIfInBounds_toArray, List.set_cons_zero, List.set_cons_succ])
  refine seq_do rfl (by rfl) (fun K hK => ?_)
  refine wp_append_own _ _ _ 27 rfl (T + 1) 44 i0 (.agg #[.int .i64 0, .int .i64 0, .bool false]) 3 24 Try.underlying27 hi9 hz0 hz1 hz2 rfl (by decide) (.slice (some ⟨T + 1, 0, none⟩) 4 4) 4 exV rfl hr5 ⟨g, 0, none⟩ 1 1 (settV (0, 520, false)) rfl rfl hnew (by simp [settV, Value.oneCell']) (by unfold maxLen; omega) (by omega) hsz5 ?_
  intro v' w6 hown hg _
  have hx6 : BX (T + 1) w5 w6 := BX.grown hg
  have p0 := hg.cell q0 (by simp [Value.ownBlock])
  have p1 := hg.cell q1 (by simp [Value.ownBlock])
  have p2 := hg.cell q2 (by simp [Value.ownBlock])
  have hsl6 := hx6.slots hsl5 (by omega) (by omega)
  have hsp6 := spans_bx (by show S ≠ T + 1; omega) hsp5 hx6
  have hB6 := BX.below hB5 hx6 (by omega) (by omega)
  obtain ⟨g', cap', rfl⟩ : ∃ g' cap', v' = .slice (some ⟨g', 0, none⟩) 5 cap' := by
    rcases hown.2 with ⟨_, h2⟩ | ⟨g', cap', cur, h1, _⟩
    · omega
    · exact ⟨g', cap', h1⟩
  have hg' : T + 1 ≤ g' := (hown.lt g' rfl).1
  have hr6 : w6.ownsRow (T + 1) 44 3 (.slice (some ⟨g', 0, none⟩) 5 cap') 5 ((exS ++ [(0, 520, false)]).flatMap settV) := hown
  have hsz6 : T + 1 ≤ w6.heap.size := Nat.le_trans hsz5 hx6.size
  clear q0 q1 q2 hsl5 hsp5 hB5 hr5 hg hown hx6 hnew
  refine hK _ _ ⟨p0, p1, p2⟩ ?_
  clear hK K
  (try simp only [Act.put, List.setIfInBounds_toArray, List.set_cons_zero, List.set_cons_succ])
  (refine seq_read rfl (by rfl) _ (fun w' hS => by (try dsimp only at hS); go_simp; (try with_reducible rfl)) ?_; (try simp only [Act.put, List.setIfInBounds_toArray, List.set_cons_zero, List.set_cons_succ]))
  refine seq_last rfl (by rfl) (by kernel_rfl) (fun K hK => ?_)
  obtain ⟨v0, u0, f0⟩ := hsl6.get 0 (by omega)
  obtain ⟨v1, u1, f1⟩ := hsl6.get 1 (by omega)
  obtain ⟨v2, u2, f2⟩ := hsl6.get 2 (by omega)
  obtain ⟨v3, u3, f3⟩ := hsl6.get 3 (by omega)
  obtain ⟨v4, u4, f4⟩ := hsl6.get 4 (by omega)
  obtain ⟨v5, u5, f5⟩ := hsl6.get 5 (by omega)
  obtain ⟨v6, u6, f6⟩ := hsl6.get 6 (by omega)
  go_simp
  refine hK _ _ ?_
  clear hK K
  have hX := ((((((BX.set w.heap.size 0 w6 (.slice (some ⟨S, 0, none⟩) 4 4)).trans (BX.set w.heap.size 1 _ (.int .i64 (-3)))).trans (BX.set w.heap.size 2 _ (.int .i64 3))).trans (BX.set w.heap.size 3 _ (.int .i64 2))).trans (BX.set w.heap.size 4 _ (.int .i64 2900))).trans (BX.set w.heap.size 5 _ (.int .i64 3100))).trans (BX.set w.heap.size 6 _ (.slice (some ⟨g', 0, none⟩) 5 cap'))
  have hw0 : w.heap.size < w6.heap.size := by omega
  have hm : HasM (((((((w6.setCell ⟨w.heap.size, 0, none⟩ (.slice (some ⟨S, 0, none⟩) 4 4)).setCell ⟨w.heap.size, 1, none⟩ (.int .i64 (-3))).setCell ⟨w.heap.size, 2, none⟩ (.int .i64 3)).setCell ⟨w.heap.size, 3, none⟩ (.int .i64 2)).setCell ⟨w.heap.size, 4, none⟩ (.int .i64 2900)).setCell ⟨w.heap.size, 5, none⟩ (.int .i64 3100)).setCell ⟨w.heap.size, 6, none⟩ (.slice (some ⟨g', 0, none⟩) 5 cap')) ⟨some ⟨S, 0, none⟩, 4, 4, -3, 3, 2, 2900, 3100, some ⟨g', 0, none⟩, 5, cap'⟩ exX (exS ++ [(0, 520, false)]) :=
    ⟨spans_bx (by show S ≠ w.heap.size; omega) hsp6 hX, setts_bx (by show g' ≠ w.heap.size; omega) (setts_row hr6 rfl (by decide)) hX, rfl, rfl, by decide, by decide⟩
  have hBX := BX.below hB6 hX (Nat.le_refl _) (by omega)
  clear hsp6 hr6 hsl6 hB6 hX
  refine hK9 _ _ ?_
  clear hK9
  go_wp2
  exact bodyPost_ret (v := Hd.val ⟨some ⟨S, 0, none⟩, 4, 4, -3, 3, 2, 2900, 3100, some ⟨g', 0, none⟩, 5, cap'⟩) (by simp [results, Try.results32, go_sem, u0, u1, u2, u3, u4, u5, u6, Hd.val]) rfl ⟨_, _, _, _, _, _, rfl, hm, hBX⟩

end Go.Proofs.Ytmfbkgdlfackcaa

/- What the package answers of the measure of the examples. -/
namespace Go.Proofs.Ytmfbkgdlfackcaa
open Go.RowKit

def exM (a sa : Addr) (n cap ns scap : Nat) : Hd := ⟨some a, n, cap, -3, 3, 2, 2900, 3100, some sa, ns, scap⟩
theorem exSumV (a sa : Addr) (n cap ns scap : Nat) : reply (sumA (exM a sa n cap ns scap) exX (exS ++ [])) = .tuple #[.agg #[.int .i64 (2997), .int .i64 (3004)], .int .i64 0] := by kernel_rfl
theorem exSum (a sa : Addr) (n cap ns scap : Nat) (w : World) (hm : HasM w (exM a sa n cap ns scap) exX (exS ++ [])) :
    Calls Try.prog 18 #[.agg #[.slice (some a) n cap, .int .i64 (-3), .int .i64 3, .int .i64 2, .int .i64 2900, .int .i64 3100, .slice (some sa) ns scap]] w (Ret (.tuple #[.agg #[.int .i64 (2997), .int .i64 (3004)], .int .i64 0]) w) := by
  have h := sum_any _ _ _ w hm
  rw [exSumV] at h
  exact h
theorem exPlace1V (a sa : Addr) (n cap ns scap : Nat) : reply (placeA (exM a sa n cap ns scap) exX (exS ++ []) 1) = .tuple #[.agg #[.int .i64 (1201), .int .i64 (1208)], .int .i64 0] := by kernel_rfl
theorem exPlace1 (a sa : Addr) (n cap ns scap : Nat) (w : World) (hm : HasM w (exM a sa n cap ns scap) exX (exS ++ [])) :
    Calls Try.prog 20 #[.agg #[.slice (some a) n cap, .int .i64 (-3), .int .i64 3, .int .i64 2, .int .i64 2900, .int .i64 3100, .slice (some sa) ns scap], .int .i64 1] w (Ret (.tuple #[.agg #[.int .i64 (1201), .int .i64 (1208)], .int .i64 0]) w) := by
  have h := place_any 1 _ _ _ w hm
  rw [exPlace1V] at h
  exact h
theorem exPlace0V (a sa : Addr) (n cap ns scap : Nat) : reply (placeA (exM a sa n cap ns scap) exX (exS ++ []) 0) = .tuple #[.agg #[.int .i64 (495), .int .i64 (502)], .int .i64 0] := by kernel_rfl
theorem exPlace0 (a sa : Addr) (n cap ns scap : Nat) (w : World) (hm : HasM w (exM a sa n cap ns scap) exX (exS ++ [])) :
    Calls Try.prog 20 #[.agg #[.slice (some a) n cap, .int .i64 (-3), .int .i64 3, .int .i64 2, .int .i64 2900, .int .i64 3100, .slice (some sa) ns scap], .int .i64 0] w (Ret (.tuple #[.agg #[.int .i64 (495), .int .i64 (502)], .int .i64 0]) w) := by
  have h := place_any 0 _ _ _ w hm
  rw [exPlace0V] at h
  exact h
theorem exApart01V (a sa : Addr) (n cap ns scap : Nat) : reply (apartA (exM a sa n cap ns scap) exX (exS ++ []) 0 1) = .tuple #[.agg #[.int .i64 (706), .int .i64 (713)], .int .i64 0] := by kernel_rfl
theorem exApart01 (a sa : Addr) (n cap ns scap : Nat) (w : World) (hm : HasM w (exM a sa n cap ns scap) exX (exS ++ [])) :
    Calls Try.prog 22 #[.agg #[.slice (some a) n cap, .int .i64 (-3), .int .i64 3, .int .i64 2, .int .i64 2900, .int .i64 3100, .slice (some sa) ns scap], .int .i64 0, .int .i64 1] w (Ret (.tuple #[.agg #[.int .i64 (706), .int .i64 (713)], .int .i64 0]) w) := by
  have h := apart_any 0 1 _ _ _ w hm
  rw [exApart01V] at h
  exact h
theorem exApart10V (a sa : Addr) (n cap ns scap : Nat) : reply (apartA (exM a sa n cap ns scap) exX (exS ++ []) 1 0) = .tuple #[.agg #[.int .i64 (-713), .int .i64 (-706)], .int .i64 0] := by kernel_rfl
theorem exApart10 (a sa : Addr) (n cap ns scap : Nat) (w : World) (hm : HasM w (exM a sa n cap ns scap) exX (exS ++ [])) :
    Calls Try.prog 22 #[.agg #[.slice (some a) n cap, .int .i64 (-3), .int .i64 3, .int .i64 2, .int .i64 2900, .int .i64 3100, .slice (some sa) ns scap], .int .i64 1, .int .i64 0] w (Ret (.tuple #[.agg #[.int .i64 (-713), .int .i64 (-706)], .int .i64 0]) w) := by
  have h := apart_any 1 0 _ _ _ w hm
  rw [exApart10V] at h
  exact h
theorem exClash5V (a sa : Addr) (n cap ns scap : Nat) : replyI (clashA (exM a sa n cap ns scap) exX (exS ++ [(0, 520, false)])) = .tuple #[.int .i64 17, .int .i64 0] := by kernel_rfl
theorem exClash5 (a sa : Addr) (n cap ns scap : Nat) (w : World) (hm : HasM w (exM a sa n cap ns scap) exX (exS ++ [(0, 520, false)])) :
    Calls Try.prog 24 #[.agg #[.slice (some a) n cap, .int .i64 (-3), .int .i64 3, .int .i64 2, .int .i64 2900, .int .i64 3100, .slice (some sa) ns scap]] w (Ret (.tuple #[.int .i64 17, .int .i64 0]) w) := by
  have h := clash_any _ _ _ w hm
  rw [exClash5V] at h
  exact h
theorem exDrop5V (a sa : Addr) (n cap ns scap : Nat) : replyI (dropA (exM a sa n cap ns scap) exX (exS ++ [(0, 520, false)])) = .tuple #[.int .i64 16, .int .i64 0] := by kernel_rfl
theorem exDrop5 (a sa : Addr) (n cap ns scap : Nat) (w : World) (hm : HasM w (exM a sa n cap ns scap) exX (exS ++ [(0, 520, false)])) :
    Calls Try.prog 26 #[.agg #[.slice (some a) n cap, .int .i64 (-3), .int .i64 3, .int .i64 2, .int .i64 2900, .int .i64 3100, .slice (some sa) ns scap]] w (Ret (.tuple #[.int .i64 16, .int .i64 0]) w) := by
  have h := drop_any _ _ _ w hm
  rw [exDrop5V] at h
  exact h
theorem exClashV (a sa : Addr) (n cap ns scap : Nat) : replyI (clashA (exM a sa n cap ns scap) exX (exS ++ [])) = .tuple #[.int .i64 0, .int .i64 0] := by kernel_rfl
theorem exClash (a sa : Addr) (n cap ns scap : Nat) (w : World) (hm : HasM w (exM a sa n cap ns scap) exX (exS ++ [])) :
    Calls Try.prog 24 #[.agg #[.slice (some a) n cap, .int .i64 (-3), .int .i64 3, .int .i64 2, .int .i64 2900, .int .i64 3100, .slice (some sa) ns scap]] w (Ret (.tuple #[.int .i64 0, .int .i64 0]) w) := by
  have h := clash_any _ _ _ w hm
  rw [exClashV] at h
  exact h
theorem exDropV (a sa : Addr) (n cap ns scap : Nat) : replyI (dropA (exM a sa n cap ns scap) exX (exS ++ [])) = .tuple #[.int .i64 0, .int .i64 0] := by kernel_rfl
theorem exDrop (a sa : Addr) (n cap ns scap : Nat) (w : World) (hm : HasM w (exM a sa n cap ns scap) exX (exS ++ [])) :
    Calls Try.prog 26 #[.agg #[.slice (some a) n cap, .int .i64 (-3), .int .i64 3, .int .i64 2, .int .i64 2900, .int .i64 3100, .slice (some sa) ns scap]] w (Ret (.tuple #[.int .i64 0, .int .i64 0]) w) := by
  have h := drop_any _ _ _ w hm
  rw [exDropV] at h
  exact h
theorem exIdleV (a sa : Addr) (n cap ns scap : Nat) : replyI (idleA (exM a sa n cap ns scap) exX (exS ++ [])) = .tuple #[.int .i64 0, .int .i64 0] := by kernel_rfl
theorem exIdle (a sa : Addr) (n cap ns scap : Nat) (w : World) (hm : HasM w (exM a sa n cap ns scap) exX (exS ++ [])) :
    Calls Try.prog 30 #[.agg #[.slice (some a) n cap, .int .i64 (-3), .int .i64 3, .int .i64 2, .int .i64 2900, .int .i64 3100, .slice (some sa) ns scap]] w (Ret (.tuple #[.int .i64 0, .int .i64 0]) w) := by
  have h := idle_any _ _ _ w hm
  rw [exIdleV] at h
  exact h
theorem exOnceV (a sa : Addr) (n cap ns scap : Nat) : replyI (onceA (exM a sa n cap ns scap) exX (exS ++ [])) = .tuple #[.int .i64 0, .int .i64 0] := by kernel_rfl
theorem exOnce (a sa : Addr) (n cap ns scap : Nat) (w : World) (hm : HasM w (exM a sa n cap ns scap) exX (exS ++ [])) :
    Calls Try.prog 28 #[.agg #[.slice (some a) n cap, .int .i64 (-3), .int .i64 3, .int .i64 2, .int .i64 2900, .int .i64 3100, .slice (some sa) ns scap]] w (Ret (.tuple #[.int .i64 0, .int .i64 0]) w) := by
  have h := once_any _ _ _ w hm
  rw [exOnceV] at h
  exact h
theorem exSum5V (a sa : Addr) (n cap ns scap : Nat) : reply (sumA (exM a sa n cap ns scap) exX (exS ++ [(0, 520, false)])) = .tuple #[.agg #[.int .i64 (0), .int .i64 (0)], .int .i64 10] := by kernel_rfl
theorem exSum5 (a sa : Addr) (n cap ns scap : Nat) (w : World) (hm : HasM w (exM a sa n cap ns scap) exX (exS ++ [(0, 520, false)])) :
    Calls Try.prog 18 #[.agg #[.slice (some a) n cap, .int .i64 (-3), .int .i64 3, .int .i64 2, .int .i64 2900, .int .i64 3100, .slice (some sa) ns scap]] w (Ret (.tuple #[.agg #[.int .i64 (0), .int .i64 (0)], .int .i64 10]) w) := by
  have h := sum_any _ _ _ w hm
  rw [exSum5V] at h
  exact h
theorem exTravelV : reply (travelR exX (-3) 3 1200) = .tuple #[.agg #[.int .i64 1197, .int .i64 1208], .int .i64 0] := by kernel_rfl
theorem exTravel4V : reply (travelR exX (-3) 3 4000) = .tuple #[.agg #[.int .i64 0, .int .i64 0], .int .i64 2] := by kernel_rfl
theorem exTravel (a sa : Addr) (n cap ns scap : Nat) (ss : List Sett) (w : World) (hm : HasM w (exM a sa n cap ns scap) exX ss) :
    Calls Try.prog 16 #[.agg #[.slice (some a) n cap, .int .i64 (-3), .int .i64 3], .int .i64 1200] w (Ret (.tuple #[.agg #[.int .i64 1197, .int .i64 1208], .int .i64 0]) w) := by
  have h := travel_any16 (some a) cap (-3) 3 1200 exX w hm.sp hm.lx (by omega)
  rw [exTravelV, hm.nx] at h
  exact h
theorem exTravel4 (a sa : Addr) (n cap ns scap : Nat) (ss : List Sett) (w : World) (hm : HasM w (exM a sa n cap ns scap) exX ss) :
    Calls Try.prog 16 #[.agg #[.slice (some a) n cap, .int .i64 (-3), .int .i64 3], .int .i64 4000] w (Ret (.tuple #[.agg #[.int .i64 0, .int .i64 0], .int .i64 2]) w) := by
  have h := travel_any16 (some a) cap (-3) 3 4000 exX w hm.sp hm.lx (by omega)
  rw [exTravel4V, hm.nx] at h
  exact h

end Go.Proofs.Ytmfbkgdlfackcaa

/- The examples hold: what the statements call alive. -/
namespace Go.Proofs.Ytmfbkgdlfackcaa
open Go.RowKit

set_option maxRecDepth 100000 in
set_option maxHeartbeats 4000000 in
theorem alive_any (w : World) : Calls Try.prog 15 #[] w (Ret (.bool true) w) := by
  have hfi : ∀ (v0 v1 v2 v3 v4 v5 v6 : Value) (w : World), (Instr.field 29 (.agg #[v0, v1, v2, v3, v4, v5, v6]) 0).run Try.prog w = .ok (.agg #[v0, v1, v2]) w := fun _ _ _ _ _ _ _ _ => by kernel_rfl
  go_enter Try.func15, Try.ntmps15
  go_wp2_with fail
  refine (sample_nil _).mono ?_
  rintro e w1 ⟨a, sa, n, cap, ns, scap, rfl, hm, hbw1⟩
  unfold Hd.val
  go_wp2_with fail
  refine (exTravel a sa n cap ns scap _ _ hm).mono ?_
  rintro e v1 ⟨rfl, hbv1⟩
  clear hm
  go_wp2_with fail
  refine (sample_nil _).mono ?_
  rintro e w2 ⟨a, sa, n, cap, ns, scap, rfl, hm, hbw2⟩
  unfold Hd.val
  go_wp2_with fail
  refine (exSum a sa n cap ns scap _ hm).mono ?_
  rintro e v2 ⟨rfl, hbv2⟩
  clear hm
  go_wp2_with fail
  refine (sample_nil _).mono ?_
  rintro e w3 ⟨a, sa, n, cap, ns, scap, rfl, hm, hbw3⟩
  unfold Hd.val
  go_wp2_with fail
  refine (exPlace1 a sa n cap ns scap _ hm).mono ?_
  rintro e v3 ⟨rfl, hbv3⟩
  clear hm
  go_wp2_with fail
  refine (sample_nil _).mono ?_
  rintro e w4 ⟨a, sa, n, cap, ns, scap, rfl, hm, hbw4⟩
  unfold Hd.val
  go_wp2_with fail
  refine (exApart01 a sa n cap ns scap _ hm).mono ?_
  rintro e v4 ⟨rfl, hbv4⟩
  clear hm
  go_wp2_with fail
  refine (fifth_any _).mono ?_
  rintro e u5 ⟨rfl, hbu5⟩
  go_wp2_with fail
  refine (sample_one _ _ (by simp [go_sem]) (by simp [go_sem]) (by simp [go_sem])).mono ?_
  rintro e w5 ⟨a, sa, n, cap, ns, scap, rfl, hm, hbw5⟩
  unfold Hd.val
  go_wp2_with fail
  refine (exClash5 a sa n cap ns scap _ hm).mono ?_
  rintro e v5 ⟨rfl, hbv5⟩
  clear hm
  go_wp2_with fail
  refine (fifth_any _).mono ?_
  rintro e u6 ⟨rfl, hbu6⟩
  go_wp2_with fail
  refine (sample_one _ _ (by simp [go_sem]) (by simp [go_sem]) (by simp [go_sem])).mono ?_
  rintro e w6 ⟨a, sa, n, cap, ns, scap, rfl, hm, hbw6⟩
  unfold Hd.val
  go_wp2_with fail
  refine (exDrop5 a sa n cap ns scap _ hm).mono ?_
  rintro e v6 ⟨rfl, hbv6⟩
  clear hm
  go_wp2_with fail
  have hA4 := BT (BT (BA (BT (BT (BT (BA hbu5 (.cells #[.int .i64 0, .int .i64 520, .bool false] 44)) hbw5) hbv5) hbu6) (.cells #[.int .i64 0, .int .i64 520, .bool false] 44)) hbw6) hbv6
  have hA3 := BT (BA (BT hbw4 hbv4) (.cells #[.int .i64 706, .int .i64 713] 24)) hA4
  have hA2 := BT (BA (BT hbw3 hbv3) (.cells #[.int .i64 1201, .int .i64 1208] 24)) hA3
  have hA1 := BT (BA (BT hbw2 hbv2) (.cells #[.int .i64 2997, .int .i64 3004] 24)) hA2
  have hA0 := BT (BA (BT hbw1 hbv1) (.cells #[.int .i64 1197, .int .i64 1208] 24)) hA1
  have c10 : v6.drew.cell? ⟨v1.heap.size, 0, none⟩ = some (.int .i64 1197) := cellG (two_newT v1 1197 1208 24).1 (Below.drew hA1)
  have c11 : v6.drew.cell? ⟨v1.heap.size, 1, none⟩ = some (.int .i64 1208) := cellG (two_newT v1 1197 1208 24).2 (Below.drew hA1)
  have c20 : v6.drew.cell? ⟨v2.heap.size, 0, none⟩ = some (.int .i64 2997) := cellG (two_newT v2 2997 3004 24).1 (Below.drew hA2)
  have c21 : v6.drew.cell? ⟨v2.heap.size, 1, none⟩ = some (.int .i64 3004) := cellG (two_newT v2 2997 3004 24).2 (Below.drew hA2)
  have c30 : v6.drew.cell? ⟨v3.heap.size, 0, none⟩ = some (.int .i64 1201) := cellG (two_newT v3 1201 1208 24).1 (Below.drew hA3)
  have c31 : v6.drew.cell? ⟨v3.heap.size, 1, none⟩ = some (.int .i64 1208) := cellG (two_newT v3 1201 1208 24).2 (Below.drew hA3)
  have c40 : v6.drew.cell? ⟨v4.heap.size, 0, none⟩ = some (.int .i64 706) := cellG (two_newT v4 706 713 24).1 (Below.drew hA4)
  have c41 : v6.drew.cell? ⟨v4.heap.size, 1, none⟩ = some (.int .i64 713) := cellG (two_newT v4 706 713 24).2 (Below.drew hA4)
  have hD : Below w.heap.size w v6.drew := Below.drew hA0
  clear hA0 hA1 hA2 hA3 hA4 hbw1 hbv1 hbw2 hbv2 hbw3 hbv3 hbw4 hbv4 hbu5 hbw5 hbv5 hbu6 hbw6 hbv6
  generalize v1.heap.size = b1 at *
  generalize v2.heap.size = b2 at *
  generalize v3.heap.size = b3 at *
  generalize v4.heap.size = b4 at *
  refine wp_region_seq [(0, true), (1, false), (2, true), (3, true), (4, true), (5, true), (6, true), (7, true), (8, true), (9, false), (10, true), (11, true), (12, true), (13, true), (14, true), (15, true), (16, true), (17, true), (18, false), (19, true), (20, true), (21, true), (22, true), (23, true), (24, true), (25, true), (26, true), (27, false), (28, true), (29, true), (30, true), (31, true), (32, true), (33, true), (34, true), (35, true), (36, true), (37, true), (38, true), (39, true), (40, true), (41, true), (42, true), (43, true), (44, true), (45, true), (46, true), (47, true), (48, true), (49, true), (50, true)]
    (fun w' => w'.cell? ⟨b1, 0, none⟩ = some (.int .i64 1197) ∧ w'.cell? ⟨b1, 1, none⟩ = some (.int .i64 1208) ∧ w'.cell? ⟨b2, 0, none⟩ = some (.int .i64 2997) ∧ w'.cell? ⟨b2, 1, none⟩ = some (.int .i64 3004) ∧ w'.cell? ⟨b3, 0, none⟩ = some (.int .i64 1201) ∧ w'.cell? ⟨b3, 1, none⟩ = some (.int .i64 1208) ∧ w'.cell? ⟨b4, 0, none⟩ = some (.int .i64 706) ∧ w'.cell? ⟨b4, 1, none⟩ = some (.int .i64 713)) (by kernel_rfl) (by kernel_rfl) (fun _ _ d _ _ h => by cases d <;> exact h) ⟨c10, c11, c20, c21, c30, c31, c40, c41⟩ ?_
  repeat (first | (refine seq_read rfl (by rfl) _ (fun w' hS => by (try dsimp only at hS); go_simp; (try with_reducible rfl)) ?_; (try simp only [Act.put, List.setIfInBounds_toArray, List.set_cons_zero, List.set_cons_succ])) | (refine seq_skip rfl (by rfl) ?_; (try simp only [Act.put, List.setIfInBounds_toArray, List.set_cons_zero, List.set_cons_succ])))
  (refine seq_do rfl (by rfl) (fun K hK => ?_); go_simp)
  refine (spanL_any _ _ _).mono ?_
  rintro e x1 ⟨rfl, hx1⟩
  have d110 := cellG c10 hx1; have d111 := cellG c11 hx1; have d120 := cellG c20 hx1; have d121 := cellG c21 hx1; have d130 := cellG c30 hx1; have d131 := cellG c31 hx1; have d140 := cellG c40 hx1; have d141 := cellG c41 hx1
  have hE1 := BT hD hx1
  refine hK _ _ ⟨d110, d111, d120, d121, d130, d131, d140, d141⟩ ?_
  clear hK K hD hx1 c10 c11 c20 c21 c30 c31 c40 c41
  repeat (first | (refine seq_read rfl (by rfl) _ (fun w' hS => by (try dsimp only at hS); go_simp; (try with_reducible rfl)) ?_; (try simp only [Act.put, List.setIfInBounds_toArray, List.set_cons_zero, List.set_cons_succ])) | (refine seq_skip rfl (by rfl) ?_; (try simp only [Act.put, List.setIfInBounds_toArray, List.set_cons_zero, List.set_cons_succ])))
  (refine seq_do rfl (by rfl) (fun K hK => ?_); go_simp)
  refine (spanL_any _ _ _).mono ?_
  rintro e x2 ⟨rfl, hx2⟩
  have d210 := cellG d110 hx2; have d211 := cellG d111 hx2; have d220 := cellG d120 hx2; have d221 := cellG d121 hx2; have d230 := cellG d130 hx2; have d231 := cellG d131 hx2; have d240 := cellG d140 hx2; have d241 := cellG d141 hx2
  have hE2 := BT hE1 hx2
  refine hK _ _ ⟨d210, d211, d220, d221, d230, d231, d240, d241⟩ ?_
  clear hK K hE1 hx2 d110 d111 d120 d121 d130 d131 d140 d141
  repeat (first | (refine seq_read rfl (by rfl) _ (fun w' hS => by (try dsimp only at hS); go_simp; (try with_reducible rfl)) ?_; (try simp only [Act.put, List.setIfInBounds_toArray, List.set_cons_zero, List.set_cons_succ])) | (refine seq_skip rfl (by rfl) ?_; (try simp only [Act.put, List.setIfInBounds_toArray, List.set_cons_zero, List.set_cons_succ])))
  (refine seq_do rfl (by rfl) (fun K hK => ?_); go_simp)
  refine (spanL_any _ _ _).mono ?_
  rintro e x3 ⟨rfl, hx3⟩
  have d310 := cellG d210 hx3; have d311 := cellG d211 hx3; have d320 := cellG d220 hx3; have d321 := cellG d221 hx3; have d330 := cellG d230 hx3; have d331 := cellG d231 hx3; have d340 := cellG d240 hx3; have d341 := cellG d241 hx3
  have hE3 := BT hE2 hx3
  refine hK _ _ ⟨d310, d311, d320, d321, d330, d331, d340, d341⟩ ?_
  clear hK K hE2 hx3 d210 d211 d220 d221 d230 d231 d240 d241
  repeat (first | (refine seq_read rfl (by rfl) _ (fun w' hS => by (try dsimp only at hS); go_simp; (try with_reducible rfl)) ?_; (try simp only [Act.put, List.setIfInBounds_toArray, List.set_cons_zero, List.set_cons_succ])) | (refine seq_skip rfl (by rfl) ?_; (try simp only [Act.put, List.setIfInBounds_toArray, List.set_cons_zero, List.set_cons_succ])))
  (refine seq_do rfl (by rfl) (fun K hK => ?_); go_simp)
  refine (spanL_any _ _ _).mono ?_
  rintro e x4 ⟨rfl, hx4⟩
  have d410 := cellG d310 hx4; have d411 := cellG d311 hx4; have d420 := cellG d320 hx4; have d421 := cellG d321 hx4; have d430 := cellG d330 hx4; have d431 := cellG d331 hx4; have d440 := cellG d340 hx4; have d441 := cellG d341 hx4
  have hE4 := BT hE3 hx4
  refine hK _ _ ⟨d410, d411, d420, d421, d430, d431, d440, d441⟩ ?_
  clear hK K hE3 hx4 d310 d311 d320 d321 d330 d331 d340 d341
  repeat (first | (refine seq_read rfl (by rfl) _ (fun w' hS => by (try dsimp only at hS); go_simp; (try with_reducible rfl)) ?_; (try simp only [Act.put, List.setIfInBounds_toArray, List.set_cons_zero, List.set_cons_succ])) | (refine seq_skip rfl (by rfl) ?_; (try simp only [Act.put, List.setIfInBounds_toArray, List.set_cons_zero, List.set_cons_succ])))
  refine seq_end ?_
  go_wp2
  go_ret
  exact ⟨rfl, hE4⟩

end Go.Proofs.Ytmfbkgdlfackcaa
