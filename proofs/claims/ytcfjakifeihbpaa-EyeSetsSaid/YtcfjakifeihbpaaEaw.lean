/- Eye: the examples hold: what the statements call awake. -/
import Derived.Test.YtcfjakifeihbpaaEsm
namespace Go.Proofs.Ytcfjakifeihbpaa
namespace Ey
open Go.RowKit

def lookV (l : LkV) : List Value := [.int .i64 l.1, .int .i64 l.2.1, .int .i64 l.2.2]
theorem flat_look (ls : List LkV) : ∀ k, k < ls.length → (ls.flatMap lookV)[k * 3]? = some (.int .i64 (ls.getD k (0, 0, 0)).1) ∧ (ls.flatMap lookV)[k * 3 + 1]? = some (.int .i64 (ls.getD k (0, 0, 0)).2.1) ∧ (ls.flatMap lookV)[k * 3 + 2]? = some (.int .i64 (ls.getD k (0, 0, 0)).2.2) := by
  induction ls with
  | nil => intro k hk; simp at hk
  | cons s ls ih =>
    intro k hk
    cases k with
    | zero => simp [lookV]
    | succ k =>
      have h := ih k (by simpa using hk)
      have e : ∀ i, (List.flatMap lookV (s :: ls))[(k + 1) * 3 + i]? = (List.flatMap lookV ls)[k * 3 + i]? := fun i => by
        rw [List.flatMap_cons, List.getElem?_append_right (by simp [lookV]; omega)]
        congr 1; simp [lookV]; omega
      have e0 := e 0
      simp only [Nat.add_zero] at e0
      rw [e0, e 1, e 2]
      simpa using h
theorem looks_row {W : World} {base g n cap : Nat} {ls : List LkV} (h : W.ownsRow base 47 3 (.slice (some ⟨g, 0, none⟩) n cap) n (ls.flatMap lookV)) (hn : ls.length = n) (hr : ∀ l ∈ ls, l.2.2 ≤ 9223372036854775807) : LooksIn W (some ⟨g, 0, none⟩) ls := by
  by_cases h0 : ls = []
  · exact .inl h0
  · refine .inr ⟨g, 0, rfl, (h.lt g rfl).2, fun k hk => ?_⟩
    obtain ⟨h1, h2, h3⟩ := flat_look ls k hk
    refine ⟨?_, ?_, ?_, hr _ (by simp [List.getD, hk])⟩
    · rw [Nat.zero_add, h.cellAt _ (by omega), h1]
    · rw [Nat.zero_add, h.cellAt _ (by omega), h2]
    · rw [Nat.zero_add, h.cellAt _ (by omega), h3]
theorem hasW_ex {W : World} {base S G cap : Nat} {hLo hHi : Int} (hs : Spans W (some ⟨S, 0, none⟩) exX) (hr : W.ownsRow base 47 3 (.slice (some ⟨G, 0, none⟩) 5 cap) 5 exV) : HasW W (exW S G 5 cap hLo hHi) exX exL :=
  ⟨hs, looks_row (ls := exL) hr rfl (by decide), rfl, rfl, by decide, by decide⟩
theorem hasW_ex6 {W : World} {base S G cap : Nat} {hLo hHi : Int} (hs : Spans W (some ⟨S, 0, none⟩) exX) (hr : W.ownsRow base 47 3 (.slice (some ⟨G, 0, none⟩) 6 cap) 6 (exV ++ lookV (2, 0, 560))) : HasW W (exW S G 6 cap hLo hHi) exX (exL ++ [(2, 0, 560)]) :=
  ⟨hs, looks_row (ls := exL ++ [(2, 0, 560)]) hr rfl (by decide), rfl, rfl, by decide, by decide⟩
theorem exHabitV (S G : Nat) : reply (habitR (exW S G 5 5 (-20) 20) exX exL 0) = .tuple #[.agg #[.int .i64 (-18), .int .i64 20], .int .i64 0] := by kernel_rfl
theorem exHabit (S G : Nat) (w : World) (hm : HasW w (exW S G 5 5 (-20) 20) exX exL) : Calls Try.prog 14 #[.agg #[.slice (some ⟨S, 0, none⟩) 4 4, .int .i64 (-3), .int .i64 3, .int .i64 2, .int .i64 3, .int .i64 (-20), .int .i64 20, .slice (some ⟨G, 0, none⟩) 5 5], .int .i64 0] w (Ret (.tuple #[.agg #[.int .i64 (-18), .int .i64 20], .int .i64 0]) w) := by
  have h := habit_any 0 _ _ _ w hm
  rw [exHabitV] at h
  exact h
theorem exBetweenV (S G : Nat) : reply (betweenR (exW S G 5 5 (-20) 20) exX exL 0 2) = .tuple #[.agg #[.int .i64 (-14), .int .i64 8], .int .i64 0] := by kernel_rfl
theorem exBetween (S G : Nat) (w : World) (hm : HasW w (exW S G 5 5 (-20) 20) exX exL) : Calls Try.prog 16 #[.agg #[.slice (some ⟨S, 0, none⟩) 4 4, .int .i64 (-3), .int .i64 3, .int .i64 2, .int .i64 3, .int .i64 (-20), .int .i64 20, .slice (some ⟨G, 0, none⟩) 5 5], .int .i64 0, .int .i64 2] w (Ret (.tuple #[.agg #[.int .i64 (-14), .int .i64 8], .int .i64 0]) w) := by
  have h := between_any 0 2 _ _ _ w hm
  rw [exBetweenV] at h
  exact h
theorem exPlaceV (S G : Nat) : reply (placeR (exW S G 5 5 (-20) 20) exX exL 0) = .tuple #[.agg #[.int .i64 487, .int .i64 525], .int .i64 0] := by kernel_rfl
theorem exPlace (S G : Nat) (w : World) (hm : HasW w (exW S G 5 5 (-20) 20) exX exL) : Calls Try.prog 18 #[.agg #[.slice (some ⟨S, 0, none⟩) 4 4, .int .i64 (-3), .int .i64 3, .int .i64 2, .int .i64 3, .int .i64 (-20), .int .i64 20, .slice (some ⟨G, 0, none⟩) 5 5], .int .i64 0] w (Ret (.tuple #[.agg #[.int .i64 487, .int .i64 525], .int .i64 0]) w) := by
  have h := place_any 0 _ _ _ w hm
  rw [exPlaceV] at h
  exact h
theorem exExplainV (S G : Nat) : replyI (explainA (exW S G 5 5 (-20) 20) exX exL) = .tuple #[.int .i64 1, .int .i64 0] := by kernel_rfl
theorem exExplain (S G : Nat) (w : World) (hm : HasW w (exW S G 5 5 (-20) 20) exX exL) : Calls Try.prog 26 #[.agg #[.slice (some ⟨S, 0, none⟩) 4 4, .int .i64 (-3), .int .i64 3, .int .i64 2, .int .i64 3, .int .i64 (-20), .int .i64 20, .slice (some ⟨G, 0, none⟩) 5 5]] w (Ret (.tuple #[.int .i64 1, .int .i64 0]) w) := by
  have h := explain_any _ _ _ w hm
  rw [exExplainV] at h
  exact h
theorem exSureV (S G : Nat) : replyI (sureA (exW S G 5 5 (0) 20) exX exL) = .tuple #[.int .i64 1, .int .i64 0] := by kernel_rfl
theorem exSure (S G : Nat) (w : World) (hm : HasW w (exW S G 5 5 (0) 20) exX exL) : Calls Try.prog 20 #[.agg #[.slice (some ⟨S, 0, none⟩) 4 4, .int .i64 (-3), .int .i64 3, .int .i64 2, .int .i64 3, .int .i64 (0), .int .i64 20, .slice (some ⟨G, 0, none⟩) 5 5]] w (Ret (.tuple #[.int .i64 1, .int .i64 0]) w) := by
  have h := sure_any _ _ _ w hm
  rw [exSureV] at h
  exact h
theorem exClashV (S G cap : Nat) : replyI (clashA (exW S G 6 cap (-20) 20) exX (exL ++ [(2, 0, 560)])) = .tuple #[.int .i64 33, .int .i64 0] := by kernel_rfl
theorem exClash (S G cap : Nat) (w : World) (hm : HasW w (exW S G 6 cap (-20) 20) exX (exL ++ [(2, 0, 560)])) : Calls Try.prog 22 #[.agg #[.slice (some ⟨S, 0, none⟩) 4 4, .int .i64 (-3), .int .i64 3, .int .i64 2, .int .i64 3, .int .i64 (-20), .int .i64 20, .slice (some ⟨G, 0, none⟩) 6 cap]] w (Ret (.tuple #[.int .i64 33, .int .i64 0]) w) := by
  have h := clash_any _ _ _ w hm
  rw [exClashV] at h
  exact h
theorem exDropV (S G cap : Nat) : replyI (dropA (exW S G 6 cap (-20) 20) exX (exL ++ [(2, 0, 560)])) = .tuple #[.int .i64 32, .int .i64 0] := by kernel_rfl
theorem exDrop (S G cap : Nat) (w : World) (hm : HasW w (exW S G 6 cap (-20) 20) exX (exL ++ [(2, 0, 560)])) : Calls Try.prog 24 #[.agg #[.slice (some ⟨S, 0, none⟩) 4 4, .int .i64 (-3), .int .i64 3, .int .i64 2, .int .i64 3, .int .i64 (-20), .int .i64 20, .slice (some ⟨G, 0, none⟩) 6 cap]] w (Ret (.tuple #[.int .i64 32, .int .i64 0]) w) := by
  have h := drop_any _ _ _ w hm
  rw [exDropV] at h
  exact h
theorem infoLk : (Try.prog.info? 47).map (fun i => (i.zero, i.size, i.bytes)) = some (some (.agg #[.int .i64 0, .int .i64 0, .int .i64 0]), 3, 24) := by kernel_rfl
theorem row_succL {w : World} {base : Nat} {v : Value} {n : Nat} {xs : List Value} (h : w.ownsRow base 47 3 v (n + 1) xs) : ∃ g cap, v = .slice (some ⟨g, 0, none⟩) (n + 1) cap := by
  rcases h.2 with ⟨_, h0⟩ | ⟨g, cap, cur, hv, _⟩
  · omega
  · exact ⟨g, cap, hv⟩
theorem two_newT (w : World) (lo hi : Int) (t : TypeId) : (w.alloc (.cells #[.int .i64 lo, .int .i64 hi] t)).cell? ⟨w.heap.size, 0, none⟩ = some (.int .i64 lo) ∧ (w.alloc (.cells #[.int .i64 lo, .int .i64 hi] t)).cell? ⟨w.heap.size, 1, none⟩ = some (.int .i64 hi) := ⟨by simp [go_sem], by simp [go_sem]⟩
set_option maxRecDepth 100000 in
set_option maxHeartbeats 8000000 in
theorem awake_any (w : World) : Calls Try.prog 13 #[] w (Ret (.bool true) w) := by
  go_enter Try.func13, Try.ntmps13
  go_wp2_with fail
  refine (sample_any _).mono ?_
  rintro e w1 ⟨S, G, rfl, hs, hSl, hr, hbw1⟩
  unfold exW Wd.val
  dsimp only
  have hm := hasW_ex (hLo := -20) (hHi := 20) hs hr
  go_wp2_with fail
  refine (exHabit S G _ hm).mono ?_
  rintro e v1 ⟨rfl, hbv1⟩
  clear hm hs hSl hr
  go_wp2_with fail
  refine (sample_any _).mono ?_
  rintro e w2 ⟨S, G, rfl, hs, hSl, hr, hbw2⟩
  unfold exW Wd.val
  dsimp only
  have hm := hasW_ex (hLo := -20) (hHi := 20) hs hr
  go_wp2_with fail
  refine (exBetween S G _ hm).mono ?_
  rintro e v2 ⟨rfl, hbv2⟩
  clear hm hs hSl hr
  go_wp2_with fail
  refine (sample_any _).mono ?_
  rintro e w3 ⟨S, G, rfl, hs, hSl, hr, hbw3⟩
  unfold exW Wd.val
  dsimp only
  have hm := hasW_ex (hLo := -20) (hHi := 20) hs hr
  go_wp2_with fail
  refine (exPlace S G _ hm).mono ?_
  rintro e v3 ⟨rfl, hbv3⟩
  clear hm hs hSl hr
  go_wp2_with fail
  refine (sample_any _).mono ?_
  rintro e w4 ⟨S, G, rfl, hs, hSl, hr, hbw4⟩
  unfold exW Wd.val
  dsimp only
  have hm := hasW_ex (hLo := -20) (hHi := 20) hs hr
  go_wp2_with fail
  refine (exExplain S G _ hm).mono ?_
  rintro e v4 ⟨rfl, hbv4⟩
  clear hm hs hSl hr
  go_wp2_with fail
  refine (sample_any _).mono ?_
  rintro e w5 ⟨S, G, rfl, hs, hSl, hr, hbw5⟩
  unfold exW Wd.val
  dsimp only
  go_upto_region 6 with fail
  have hBA : Below w.heap.size w (w5.alloc (.cells #[.slice (some ⟨S, 0, none⟩) 4 4, .int .i64 (-3), .int .i64 3, .int .i64 2, .int .i64 3, .int .i64 (-20), .int .i64 20, .slice (some ⟨G, 0, none⟩) 5 5] 29)) := by
    have hA4 := BT (BT hbw4 hbv4) (BA hbw5 (.cells #[.slice (some ⟨S, 0, none⟩) 4 4, .int .i64 (-3), .int .i64 3, .int .i64 2, .int .i64 3, .int .i64 (-20), .int .i64 20, .slice (some ⟨G, 0, none⟩) 5 5] 29))
    have hA3 := BT (BA (BT hbw3 hbv3) (.cells #[.int .i64 487, .int .i64 525] 24)) hA4
    have hA2 := BT (BA (BT hbw2 hbv2) (.cells #[.int .i64 (-14), .int .i64 8] 24)) hA3
    exact BT (BA (BT hbw1 hbv1) (.cells #[.int .i64 (-18), .int .i64 20] 24)) hA2
  have hX9 := newB w5 (.cells #[.slice (some ⟨S, 0, none⟩) 4 4, .int .i64 (-3), .int .i64 3, .int .i64 2, .int .i64 3, .int .i64 (-20), .int .i64 20, .slice (some ⟨G, 0, none⟩) 5 5] 29)
  have c0 : (w5.alloc (.cells #[.slice (some ⟨S, 0, none⟩) 4 4, .int .i64 (-3), .int .i64 3, .int .i64 2, .int .i64 3, .int .i64 (-20), .int .i64 20, .slice (some ⟨G, 0, none⟩) 5 5] 29)).cell? ⟨w5.heap.size, 0, none⟩ = some (.slice (some ⟨S, 0, none⟩) 4 4) := by simp [go_sem]
  have c1 : (w5.alloc (.cells #[.slice (some ⟨S, 0, none⟩) 4 4, .int .i64 (-3), .int .i64 3, .int .i64 2, .int .i64 3, .int .i64 (-20), .int .i64 20, .slice (some ⟨G, 0, none⟩) 5 5] 29)).cell? ⟨w5.heap.size, 1, none⟩ = some (.int .i64 (-3)) := by simp [go_sem]
  have c2 : (w5.alloc (.cells #[.slice (some ⟨S, 0, none⟩) 4 4, .int .i64 (-3), .int .i64 3, .int .i64 2, .int .i64 3, .int .i64 (-20), .int .i64 20, .slice (some ⟨G, 0, none⟩) 5 5] 29)).cell? ⟨w5.heap.size, 2, none⟩ = some (.int .i64 3) := by simp [go_sem]
  have c3 : (w5.alloc (.cells #[.slice (some ⟨S, 0, none⟩) 4 4, .int .i64 (-3), .int .i64 3, .int .i64 2, .int .i64 3, .int .i64 (-20), .int .i64 20, .slice (some ⟨G, 0, none⟩) 5 5] 29)).cell? ⟨w5.heap.size, 3, none⟩ = some (.int .i64 2) := by simp [go_sem]
  have c4 : (w5.alloc (.cells #[.slice (some ⟨S, 0, none⟩) 4 4, .int .i64 (-3), .int .i64 3, .int .i64 2, .int .i64 3, .int .i64 (-20), .int .i64 20, .slice (some ⟨G, 0, none⟩) 5 5] 29)).cell? ⟨w5.heap.size, 4, none⟩ = some (.int .i64 3) := by simp [go_sem]
  have c5 : (w5.alloc (.cells #[.slice (some ⟨S, 0, none⟩) 4 4, .int .i64 (-3), .int .i64 3, .int .i64 2, .int .i64 3, .int .i64 (-20), .int .i64 20, .slice (some ⟨G, 0, none⟩) 5 5] 29)).cell? ⟨w5.heap.size, 5, none⟩ = some (.int .i64 (-20)) := by simp [go_sem]
  have c6 : (w5.alloc (.cells #[.slice (some ⟨S, 0, none⟩) 4 4, .int .i64 (-3), .int .i64 3, .int .i64 2, .int .i64 3, .int .i64 (-20), .int .i64 20, .slice (some ⟨G, 0, none⟩) 5 5] 29)).cell? ⟨w5.heap.size, 6, none⟩ = some (.int .i64 20) := by simp [go_sem]
  have c7 : (w5.alloc (.cells #[.slice (some ⟨S, 0, none⟩) 4 4, .int .i64 (-3), .int .i64 3, .int .i64 2, .int .i64 3, .int .i64 (-20), .int .i64 20, .slice (some ⟨G, 0, none⟩) 5 5] 29)).cell? ⟨w5.heap.size, 7, none⟩ = some (.slice (some ⟨G, 0, none⟩) 5 5) := by simp [go_sem]
  have z7 : (w5.alloc (.cells #[.slice (some ⟨S, 0, none⟩) 4 4, .int .i64 (-3), .int .i64 3, .int .i64 2, .int .i64 3, .int .i64 (-20), .int .i64 20, .slice (some ⟨G, 0, none⟩) 5 5] 29)).frozen? ⟨w5.heap.size, 7, none⟩ = false := by simp
  have hr5 := hr.alloc (.cells #[.slice (some ⟨S, 0, none⟩) 4 4, .int .i64 (-3), .int .i64 3, .int .i64 2, .int .i64 3, .int .i64 (-20), .int .i64 20, .slice (some ⟨G, 0, none⟩) 5 5] 29)
  have hs5 := hs.below (Nat.le_refl _) hX9
  have hG5 : G < w5.heap.size := (hr.lt G rfl).2
  have hG0 : v4.heap.size ≤ G := (hr.lt G rfl).1
  have hord : w.heap.size ≤ v1.heap.size ∧ v1.heap.size < v2.heap.size ∧ v2.heap.size < v3.heap.size ∧ v3.heap.size < v4.heap.size := by
    have q1 := hbw1.size; have q2 := hbv1.size; have q3 := hbw2.size; have q4 := hbv2.size; have q5 := hbw3.size; have q6 := hbv3.size; have q7 := hbw4.size; have q8 := hbv4.size
    simp only [World.size_alloc] at q3 q5 q7
    omega
  have hb5 : v4.heap.size ≤ (w5.alloc (.cells #[.slice (some ⟨S, 0, none⟩) 4 4, .int .i64 (-3), .int .i64 3, .int .i64 2, .int .i64 3, .int .i64 (-20), .int .i64 20, .slice (some ⟨G, 0, none⟩) 5 5] 29)).heap.size := by have := hbw5.size; simp; omega
  have k10 := two_newT v1 (-18) 20 24
  have k20 := two_newT v2 (-14) 8 24
  have k30 := two_newT v3 487 525 24
  have hBw5 : Below v4.heap.size v4 (w5.alloc (.cells #[.slice (some ⟨S, 0, none⟩) 4 4, .int .i64 (-3), .int .i64 3, .int .i64 2, .int .i64 3, .int .i64 (-20), .int .i64 20, .slice (some ⟨G, 0, none⟩) 5 5] 29)) := BA hbw5 (.cells #[.slice (some ⟨S, 0, none⟩) 4 4, .int .i64 (-3), .int .i64 3, .int .i64 2, .int .i64 3, .int .i64 (-20), .int .i64 20, .slice (some ⟨G, 0, none⟩) 5 5] 29)
  have hB3 := BT hbw4 (BT hbv4 hBw5)
  have hB2 := BT hbw3 (BT hbv3 (BA (Below.refl v3.heap.size v3) (.cells #[.int .i64 487, .int .i64 525] 24)))
  have e30 := cellB k30.1 hB3
  have e31 := cellB k30.2 hB3
  have hB2' := BT hB2 hB3
  have e20 := cellB k20.1 hB2'
  have e21 := cellB k20.2 hB2'
  have hB1' := BT (BT hbw2 (BT hbv2 (BA (Below.refl v2.heap.size v2) (.cells #[.int .i64 (-14), .int .i64 8] 24)))) hB2'
  have e10 := cellB k10.1 hB1'
  have e11 := cellB k10.2 hB1'
  clear k10 k20 k30 hB3 hB2 hB2' hB1' hBw5 hX9 hr hs hbw1 hbv1 hbw2 hbv2 hbw3 hbv3 hbw4 hbv4 hbw5
  generalize w5.alloc (.cells #[.slice (some ⟨S, 0, none⟩) 4 4, .int .i64 (-3), .int .i64 3, .int .i64 2, .int .i64 3, .int .i64 (-20), .int .i64 20, .slice (some ⟨G, 0, none⟩) 5 5] 29) = W5 at *
  generalize w5.heap.size = X9 at *
  generalize v1.heap.size = b1 at *
  generalize v2.heap.size = b2 at *
  generalize v3.heap.size = b3 at *
  generalize v4.heap.size = bs at *
  obtain ⟨iL, hiL, hz0, hz1, hz2⟩ := info_parts infoLk
  have hN := newB W5 (.cells #[.int .i64 2, .int .i64 0, .int .i64 560] 47)
  have hr6 := hr5.alloc (.cells #[.int .i64 2, .int .i64 0, .int .i64 560] 47)
  have hnew : ∀ j u, (lookV (2, 0, 560))[j]? = some u → (W5.alloc (.cells #[.int .i64 2, .int .i64 0, .int .i64 560] 47)).cell? ((⟨W5.heap.size, 0, none⟩ : Addr).add j) = some u := by
    intro j u hu
    have hj : j < 3 := by have := (List.getElem?_eq_some_iff.1 hu).1; simpa [lookV] using this
    have : j = 0 ∨ j = 1 ∨ j = 2 := by omega
    rcases this with rfl | rfl | rfl <;> (simp [lookV] at hu; subst hu; simp [go_sem, Addr.add])
  have hX9l : X9 < W5.heap.size := World.block_lt_of_cell? _ _ c7
  have hb5' : bs ≤ (W5.alloc (.cells #[.int .i64 2, .int .i64 0, .int .i64 560] 47)).heap.size := by simp; omega
  have n7 := cellB c7 hN
  have zn7 := (hN.frozen (p := ⟨X9, 7, none⟩) hX9l).trans z7
  go_upto_region 7 with (at_builtin; refine wpList_append_own_at _ rfl _ _ 27 rfl bs 47 iL (.agg #[.int .i64 0, .int .i64 0, .int .i64 0]) 3 24 Try.underlying27 hiL hz0 hz1 hz2 rfl (by decide) (.slice (some ⟨G, 0, none⟩) 5 5) 5 exV rfl hr6 ⟨W5.heap.size, 0, none⟩ 1 1 (lookV (2, 0, 560)) rfl rfl hnew (by simp [lookV, Value.oneCell']) (by unfold maxLen; omega) (by omega) hb5' ?_; intro v' w6 hown hg6 _ hat; obtain ⟨G', cap', rfl⟩ := row_succL hown; have x7 := hg6.cell n7 (by simp [Value.ownBlock]; omega); have zx7 : w6.frozen? ⟨X9, 7, none⟩ = false := (World.frozen?_of_block (a := ⟨X9, 7, none⟩) (hg6.block X9 (World.block_lt_of_cell? _ _ n7) (by simp [Value.ownBlock]; omega))).trans zn7)
  have hcell : ∀ (o : Nat) (v : Value), o < 7 → W5.cell? ⟨X9, o, none⟩ = some v → (w6.setCell ⟨X9, 7, none⟩ (.slice (some ⟨G', 0, none⟩) 6 cap')).cell? ⟨X9, o, none⟩ = some v := fun o v ho hc => by
    rw [World.cell?_setCell_other _ _ _ _ (by intro he; injection he; omega)]
    exact hg6.cell (cellB hc hN) (by simp [Value.ownBlock]; omega)
  have c0 := hcell _ _ (by omega) c0
  have c1 := hcell _ _ (by omega) c1
  have c2 := hcell _ _ (by omega) c2
  have c3 := hcell _ _ (by omega) c3
  have c4 := hcell _ _ (by omega) c4
  have c5 := hcell _ _ (by omega) c5
  have c6 := hcell _ _ (by omega) c6
  have c7 := World.cell?_setCell_same w6 ⟨X9, 7, none⟩ (.slice (some ⟨G', 0, none⟩) 6 cap') x7
  have hGX : G' ≠ X9 := fun e => by
    rcases hat with h | h
    · simp [Value.ownBlock] at h; omega
    · simp only [Value.ownBlock, Option.some.injEq, World.size_alloc] at h; omega
  have hg7 := grownBy_set w6 X9 7 (.slice (some ⟨G', 0, none⟩) 6 cap')
  have hr7 := hown.kept hg7 (.inr (by simp [Value.ownBlock]; exact hGX))
  have hs7 := spans_by (B := X9) (by show S ≠ X9; omega) (spans_by (B := G) (by show S ≠ G; omega) (hs5.below (Nat.le_refl _) hN) hg6) hg7
  have hm := hasW_ex6 (hLo := -20) (hHi := 20) hs7 hr7
  have hB7 : Below w.heap.size w (w6.setCell ⟨X9, 7, none⟩ (.slice (some ⟨G', 0, none⟩) 6 cap')) :=
    BC ((BT hBA hN).grown hg6 (BT hBA hN).size (fun k e => by simp [Value.ownBlock] at e; omega)) X9 7 (by omega) _
  have hkeep : ∀ (b o : Nat) (v : Value), b < X9 → b ≠ G → W5.cell? ⟨b, o, none⟩ = some v → (w6.setCell ⟨X9, 7, none⟩ (.slice (some ⟨G', 0, none⟩) 6 cap')).cell? ⟨b, o, none⟩ = some v := fun b o v hb hbG hc => by
    rw [World.cell?_setCell_other _ _ _ _ (by intro he; injection he; omega)]
    exact hg6.cell (cellB hc hN) (by simp [Value.ownBlock]; omega)
  have e10 := hkeep _ _ _ (by omega) (by omega) e10
  have e11 := hkeep _ _ _ (by omega) (by omega) e11
  have e20 := hkeep _ _ _ (by omega) (by omega) e20
  have e21 := hkeep _ _ _ (by omega) (by omega) e21
  have e30 := hkeep _ _ _ (by omega) (by omega) e30
  have e31 := hkeep _ _ _ (by omega) (by omega) e31
  have hob : b1 < b2 ∧ b2 < b3 := ⟨hord.2.1, hord.2.2.1⟩
  have hwb : w.heap.size ≤ b1 := hord.1
  clear hkeep hcell hs7 hr7 hg7 hGX hown hg6 hat x7 zx7 n7 zn7 hN hr6 hnew hX9l hb5' hr5 hs5 hb5 z7 hBA hG5 hG0 hord hSl
  generalize w6.setCell ⟨X9, 7, none⟩ (.slice (some ⟨G', 0, none⟩) 6 cap') = W7 at *
  go_wp2_with fail
  refine (exClash S G' cap' _ hm).mono ?_
  rintro e w8 ⟨rfl, hb8⟩
  have c0 := cellB c0 hb8
  have c1 := cellB c1 hb8
  have c2 := cellB c2 hb8
  have c3 := cellB c3 hb8
  have c4 := cellB c4 hb8
  have c5 := cellB c5 hb8
  have c6 := cellB c6 hb8
  have c7 := cellB c7 hb8
  have hm8 := hm.below hb8
  clear hm
  go_wp2_with fail
  refine (exDrop S G' cap' _ hm8).mono ?_
  rintro e w9 ⟨rfl, hb9⟩
  have hb89 := BT hb8 hb9
  clear c0 c1 c2 c3 c4 c5 c6 c7 hm8 hb8 hb9
  have hB9 := BT hB7 hb89
  have e10 := cellB e10 hb89
  have e11 := cellB e11 hb89
  have e20 := cellB e20 hb89
  have e21 := cellB e21 hb89
  have e30 := cellB e30 hb89
  have e31 := cellB e31 hb89
  clear hb89 hB7
  go_wp2_with fail
  refine (sample_any _).mono ?_
  rintro e w10 ⟨S, G, rfl, hs, hSl, hr, hbw10⟩
  unfold exW Wd.val
  dsimp only
  go_upto_region 10 with fail
  have hY := newB w10 (.cells #[.slice (some ⟨S, 0, none⟩) 4 4, .int .i64 (-3), .int .i64 3, .int .i64 2, .int .i64 3, .int .i64 (-20), .int .i64 20, .slice (some ⟨G, 0, none⟩) 5 5] 29)
  have hBY := BT hbw10 hY
  have hYl : w10.heap.size < (w10.alloc (.cells #[.slice (some ⟨S, 0, none⟩) 4 4, .int .i64 (-3), .int .i64 3, .int .i64 2, .int .i64 3, .int .i64 (-20), .int .i64 20, .slice (some ⟨G, 0, none⟩) 5 5] 29)).heap.size := by simp
  have sY := slots8 w10 (.slice (some ⟨S, 0, none⟩) 4 4) (.slice (some ⟨G, 0, none⟩) 5 5) (-3) 3 2 3 (-20) 20 29
  have c0 : (w10.alloc (.cells #[.slice (some ⟨S, 0, none⟩) 4 4, .int .i64 (-3), .int .i64 3, .int .i64 2, .int .i64 3, .int .i64 (-20), .int .i64 20, .slice (some ⟨G, 0, none⟩) 5 5] 29)).cell? ⟨w10.heap.size, 0, none⟩ = some (.slice (some ⟨S, 0, none⟩) 4 4) := by simp [go_sem]
  have c1 : (w10.alloc (.cells #[.slice (some ⟨S, 0, none⟩) 4 4, .int .i64 (-3), .int .i64 3, .int .i64 2, .int .i64 3, .int .i64 (-20), .int .i64 20, .slice (some ⟨G, 0, none⟩) 5 5] 29)).cell? ⟨w10.heap.size, 1, none⟩ = some (.int .i64 (-3)) := by simp [go_sem]
  have c2 : (w10.alloc (.cells #[.slice (some ⟨S, 0, none⟩) 4 4, .int .i64 (-3), .int .i64 3, .int .i64 2, .int .i64 3, .int .i64 (-20), .int .i64 20, .slice (some ⟨G, 0, none⟩) 5 5] 29)).cell? ⟨w10.heap.size, 2, none⟩ = some (.int .i64 3) := by simp [go_sem]
  have c3 : (w10.alloc (.cells #[.slice (some ⟨S, 0, none⟩) 4 4, .int .i64 (-3), .int .i64 3, .int .i64 2, .int .i64 3, .int .i64 (-20), .int .i64 20, .slice (some ⟨G, 0, none⟩) 5 5] 29)).cell? ⟨w10.heap.size, 3, none⟩ = some (.int .i64 2) := by simp [go_sem]
  have c4 : (w10.alloc (.cells #[.slice (some ⟨S, 0, none⟩) 4 4, .int .i64 (-3), .int .i64 3, .int .i64 2, .int .i64 3, .int .i64 (-20), .int .i64 20, .slice (some ⟨G, 0, none⟩) 5 5] 29)).cell? ⟨w10.heap.size, 4, none⟩ = some (.int .i64 3) := by simp [go_sem]
  have c7 : (w10.alloc (.cells #[.slice (some ⟨S, 0, none⟩) 4 4, .int .i64 (-3), .int .i64 3, .int .i64 2, .int .i64 3, .int .i64 (-20), .int .i64 20, .slice (some ⟨G, 0, none⟩) 5 5] 29)).cell? ⟨w10.heap.size, 7, none⟩ = some (.slice (some ⟨G, 0, none⟩) 5 5) := by simp [go_sem]
  have hrY := hr.alloc (.cells #[.slice (some ⟨S, 0, none⟩) 4 4, .int .i64 (-3), .int .i64 3, .int .i64 2, .int .i64 3, .int .i64 (-20), .int .i64 20, .slice (some ⟨G, 0, none⟩) 5 5] 29)
  have hsY := hs.below (Nat.le_refl _) hY
  have hGY : G < w10.heap.size := (hr.lt G rfl).2
  have hB10 := BT hB9 hBY
  have e10 := cellB e10 hBY
  have e11 := cellB e11 hBY
  have e20 := cellB e20 hBY
  have e21 := cellB e21 hBY
  have e30 := cellB e30 hBY
  have e31 := cellB e31 hBY
  have hwY : w.heap.size ≤ w10.heap.size := by have := hbw10.size; have := hB9.size; omega
  have h3Y : b3 < w10.heap.size := by have h1 := hbw10.size; have h2 := World.block_lt_of_cell? _ _ ‹w9.cell? ⟨b3, 0, none⟩ = some (.int .i64 487)›; have h3 : b3 < w9.heap.size := h2; omega
  clear hY hBY hs hr hbw10 hB9
  generalize w10.alloc (.cells #[.slice (some ⟨S, 0, none⟩) 4 4, .int .i64 (-3), .int .i64 3, .int .i64 2, .int .i64 3, .int .i64 (-20), .int .i64 20, .slice (some ⟨G, 0, none⟩) 5 5] 29) = W10 at *
  generalize w10.heap.size = Y9 at *
  go_wp2_with fail
  refine (spanL_any _ _ _).mono ?_
  rintro e w11 ⟨rfl, hb11⟩
  have c0 := cellB c0 hb11
  have c1 := cellB c1 hb11
  have c2 := cellB c2 hb11
  have c3 := cellB c3 hb11
  have c4 := cellB c4 hb11
  have c7 := cellB c7 hb11
  have sY2 := sY.below hb11 hYl
  have hrY := hrY.kept (row := none) ⟨hb11.os, hb11.tape, hb11.output, hb11.size, fun i hi _ => hb11.block i hi⟩ (.inr (by simp [Value.ownBlock]))
  have hsY := hsY.below (Nat.le_refl _) hb11
  have hB11 := BT hB10 hb11
  have e10 := cellB e10 hb11
  have e11 := cellB e11 hb11
  have e20 := cellB e20 hb11
  have e21 := cellB e21 hb11
  have e30 := cellB e30 hb11
  have e31 := cellB e31 hb11
  clear hb11 sY hYl hB10
  obtain ⟨u5, p5, f5⟩ := sY2.get 5 (by omega)
  obtain ⟨u6, p6, f6⟩ := sY2.get 6 (by omega)
  go_upto_region 11 with fail
  have ho : ∀ (b o : Nat) (v : Value), (b ≠ Y9 ∨ (o ≠ 5 ∧ o ≠ 6)) → w11.cell? ⟨b, o, none⟩ = some v → ((w11.setCell ⟨Y9, 5, none⟩ (.int .i64 0)).setCell ⟨Y9, 6, none⟩ (.int .i64 20)).cell? ⟨b, o, none⟩ = some v := fun b o v hb hc => by
    rw [World.cell?_setCell_other _ _ _ _ (by intro he; injection he; omega), World.cell?_setCell_other _ _ _ _ (by intro he; injection he; omega)]
    exact hc
  have c0 := ho _ _ _ (by omega) c0
  have c1 := ho _ _ _ (by omega) c1
  have c2 := ho _ _ _ (by omega) c2
  have c3 := ho _ _ _ (by omega) c3
  have c4 := ho _ _ _ (by omega) c4
  have c7 := ho _ _ _ (by omega) c7
  have p6' := (World.cell?_setCell_other w11 ⟨Y9, 5, none⟩ ⟨Y9, 6, none⟩ (.int .i64 0) (by intro he; injection he; omega)).trans p6
  have c5 := (World.cell?_setCell_other (w11.setCell ⟨Y9, 5, none⟩ (.int .i64 0)) ⟨Y9, 6, none⟩ ⟨Y9, 5, none⟩ (.int .i64 20) (by intro he; injection he; omega)).trans (World.cell?_setCell_same w11 ⟨Y9, 5, none⟩ (.int .i64 0) p5)
  have c6 := World.cell?_setCell_same (w11.setCell ⟨Y9, 5, none⟩ (.int .i64 0)) ⟨Y9, 6, none⟩ (.int .i64 20) p6'
  have e10 := ho _ _ _ (by omega) e10
  have e11 := ho _ _ _ (by omega) e11
  have e20 := ho _ _ _ (by omega) e20
  have e21 := ho _ _ _ (by omega) e21
  have e30 := ho _ _ _ (by omega) e30
  have e31 := ho _ _ _ (by omega) e31
  have g5 := grownBy_set w11 Y9 5 (.int .i64 0)
  have g6 := grownBy_set (w11.setCell ⟨Y9, 5, none⟩ (.int .i64 0)) Y9 6 (.int .i64 20)
  have hrZ := (hrY.kept g5 (.inr (by simp [Value.ownBlock]; omega))).kept g6 (.inr (by simp [Value.ownBlock]; omega))
  have hsZ := spans_by (B := Y9) (by show S ≠ Y9; omega) (spans_by (B := Y9) (by show S ≠ Y9; omega) hsY g5) g6
  have hm := hasW_ex (hLo := 0) (hHi := 20) hsZ hrZ
  have hB12 := BC (BC hB11 Y9 5 hwY (.int .i64 0)) Y9 6 hwY (.int .i64 20)
  clear ho p5 p6 p6' f5 f6 sY2 hrY hsY g5 g6 hrZ hsZ hB11
  generalize (w11.setCell ⟨Y9, 5, none⟩ (.int .i64 0)).setCell ⟨Y9, 6, none⟩ (.int .i64 20) = W12 at *
  go_wp2_with fail
  refine (exSure S G _ hm).mono ?_
  rintro e w13 ⟨rfl, hb13⟩
  have hD : Below W12.heap.size W12 w13.drew := Below.drew hb13
  have e10 := cellB e10 hD
  have e11 := cellB e11 hD
  have e20 := cellB e20 hD
  have e21 := cellB e21 hD
  have e30 := cellB e30 hD
  have e31 := cellB e31 hD
  have hB13 := BT hB12 hD
  clear c0 c1 c2 c3 c4 c5 c6 c7 hm hb13 hD hB12
  go_wp2_with fail
  refine wp_region_seq [(0, true), (1, false), (2, true), (3, true), (4, true), (5, true), (6, true), (7, true), (8, true), (9, false), (10, true), (11, true), (12, true), (13, true), (14, true), (15, true), (16, true), (17, true), (18, false), (19, true), (20, true), (21, true), (22, true), (23, true), (24, true), (25, true), (26, true), (27, true), (28, true), (29, true), (30, true), (31, true), (32, true), (33, true), (34, true), (35, true), (36, true), (37, true), (38, true), (39, true), (40, true), (41, true), (42, true), (43, true), (44, true), (45, true), (46, true), (47, true), (48, true), (49, true), (50, true), (51, true), (52, true), (53, true), (54, true), (55, true), (56, true), (57, true)]
    (fun w' => w'.cell? ⟨b1, 0, none⟩ = some (.int .i64 (-18)) ∧ w'.cell? ⟨b1, 1, none⟩ = some (.int .i64 20) ∧ w'.cell? ⟨b2, 0, none⟩ = some (.int .i64 (-14)) ∧ w'.cell? ⟨b2, 1, none⟩ = some (.int .i64 8) ∧ w'.cell? ⟨b3, 0, none⟩ = some (.int .i64 487) ∧ w'.cell? ⟨b3, 1, none⟩ = some (.int .i64 525)) (by kernel_rfl) (by kernel_rfl) (fun _ _ d _ _ h => by cases d <;> exact h) ⟨e10, e11, e20, e21, e30, e31⟩ ?_
  repeat (first | (refine seq_read rfl (by rfl) _ (fun w' hS => by (try dsimp only at hS); go_simp; (try with_reducible rfl)) ?_; (try simp only [Act.put, List.setIfInBounds_toArray, List.set_cons_zero, List.set_cons_succ])) | (refine seq_skip rfl (by rfl) ?_; (try simp only [Act.put, List.setIfInBounds_toArray, List.set_cons_zero, List.set_cons_succ])))
  refine seq_do rfl (by rfl) (fun K hK => ?_)
  go_simp
  refine (spanL_any _ _ _).mono ?_
  rintro e x1 ⟨rfl, hx1⟩
  have e10 := cellB e10 hx1
  have e11 := cellB e11 hx1
  have e20 := cellB e20 hx1
  have e21 := cellB e21 hx1
  have e30 := cellB e30 hx1
  have e31 := cellB e31 hx1
  have hB13 := BT hB13 hx1
  refine hK _ _ ⟨e10, e11, e20, e21, e30, e31⟩ ?_
  clear hK K hx1
  (try simp only [Act.put, List.setIfInBounds_toArray, List.set_cons_zero, List.set_cons_succ])
  repeat (first | (refine seq_read rfl (by rfl) _ (fun w' hS => by (try dsimp only at hS); go_simp; (try with_reducible rfl)) ?_; (try simp only [Act.put, List.setIfInBounds_toArray, List.set_cons_zero, List.set_cons_succ])) | (refine seq_skip rfl (by rfl) ?_; (try simp only [Act.put, List.setIfInBounds_toArray, List.set_cons_zero, List.set_cons_succ])))
  refine seq_do rfl (by rfl) (fun K hK => ?_)
  go_simp
  refine (spanL_any _ _ _).mono ?_
  rintro e x1 ⟨rfl, hx1⟩
  have e10 := cellB e10 hx1
  have e11 := cellB e11 hx1
  have e20 := cellB e20 hx1
  have e21 := cellB e21 hx1
  have e30 := cellB e30 hx1
  have e31 := cellB e31 hx1
  have hB13 := BT hB13 hx1
  refine hK _ _ ⟨e10, e11, e20, e21, e30, e31⟩ ?_
  clear hK K hx1
  (try simp only [Act.put, List.setIfInBounds_toArray, List.set_cons_zero, List.set_cons_succ])
  repeat (first | (refine seq_read rfl (by rfl) _ (fun w' hS => by (try dsimp only at hS); go_simp; (try with_reducible rfl)) ?_; (try simp only [Act.put, List.setIfInBounds_toArray, List.set_cons_zero, List.set_cons_succ])) | (refine seq_skip rfl (by rfl) ?_; (try simp only [Act.put, List.setIfInBounds_toArray, List.set_cons_zero, List.set_cons_succ])))
  refine seq_do rfl (by rfl) (fun K hK => ?_)
  go_simp
  refine (spanL_any _ _ _).mono ?_
  rintro e x1 ⟨rfl, hx1⟩
  have e10 := cellB e10 hx1
  have e11 := cellB e11 hx1
  have e20 := cellB e20 hx1
  have e21 := cellB e21 hx1
  have e30 := cellB e30 hx1
  have e31 := cellB e31 hx1
  have hB13 := BT hB13 hx1
  refine hK _ _ ⟨e10, e11, e20, e21, e30, e31⟩ ?_
  clear hK K hx1
  (try simp only [Act.put, List.setIfInBounds_toArray, List.set_cons_zero, List.set_cons_succ])
  repeat (first | (refine seq_read rfl (by rfl) _ (fun w' hS => by (try dsimp only at hS); go_simp; (try with_reducible rfl)) ?_; (try simp only [Act.put, List.setIfInBounds_toArray, List.set_cons_zero, List.set_cons_succ])) | (refine seq_skip rfl (by rfl) ?_; (try simp only [Act.put, List.setIfInBounds_toArray, List.set_cons_zero, List.set_cons_succ])))
  refine seq_end ?_
  go_wp2
  go_ret
  exact ⟨rfl, hB13⟩
end Ey
end Go.Proofs.Ytcfjakifeihbpaa
