/- Eye: the examples hold: what the statements call awake. -/
import Derived.Test.YtcfjakifeihbpaaGreatEsm
namespace Go.Proofs.YtcfjakifeihbpaaGreat
namespace Ey
open Go.RowKit

def lookV (l : LkV) : List Value := [.int .i64 l.1, .int .i64 l.2.1, .int .i64 l.2.2]
theorem flat_look (ls : List LkV) : ∀ k, k < ls.length → (ls.flatMap lookV)[k * 3]? = some (.int .i64 (ls.getD k (0, 0, 0)).1) ∧ (ls.flatMap lookV)[k * 3 + 1]? = some (.int .i64 (ls.getD k (0, 0, 0)).2.1) ∧ (ls.flatMap lookV)[k * 3 + 2]? = some (.int .i64 (ls.getD k (0, 0, 0)).2.2) := by
  induction ls with
  | nil => intro k hk; simp at hk
  | cons s ls ih =>
    intro k hk
    cases k with
    | zero => simp [lookV]
    | succ k =>
      have h := ih k (by simpa using hk)
      have e : ∀ i, (List.flatMap lookV (s :: ls))[(k + 1) * 3 + i]? = (List.flatMap lookV ls)[k * 3 + i]? := fun i => by
        rw [List.flatMap_cons, List.getElem?_append_right (by simp [lookV]; omega)]
        congr 1; simp [lookV]; omega
      have e0 := e 0
      simp only [Nat.add_zero] at e0
      rw [e0, e 1, e 2]
      simpa using h
theorem looks_row {W : World} {base g n cap : Nat} {ls : List LkV} (h : W.ownsRow base 36 3 (.slice (some ⟨g, 0, none⟩) n cap) n (ls.flatMap lookV)) (hn : ls.length = n) (hr : ∀ l ∈ ls, l.2.2 ≤ 9223372036854775807) : LooksIn W (some ⟨g, 0, none⟩) ls := by
  by_cases h0 : ls = []
  · exact .inl h0
  · refine .inr ⟨g, 0, rfl, (h.lt g rfl).2, fun k hk => ?_⟩
    obtain ⟨h1, h2, h3⟩ := flat_look ls k hk
    refine ⟨?_, ?_, ?_, hr _ (by simp [List.getD, hk])⟩
    · rw [Nat.zero_add, h.cellAt _ (by omega), h1]
    · rw [Nat.zero_add, h.cellAt _ (by omega), h2]
    · rw [Nat.zero_add, h.cellAt _ (by omega), h3]
theorem hasW_ex {W : World} {base S G cap : Nat} {hLo hHi : Int} (hs : Spans W (some ⟨S, 0, none⟩) exX) (hr : W.ownsRow base 36 3 (.slice (some ⟨G, 0, none⟩) 5 cap) 5 exV) : HasW W (exW S G 5 cap hLo hHi) exX exL :=
  ⟨hs, looks_row (ls := exL) hr rfl (by decide), rfl, rfl, by decide, by decide⟩
theorem hasW_ex6 {W : World} {base S G cap : Nat} {hLo hHi : Int} (hs : Spans W (some ⟨S, 0, none⟩) exX) (hr : W.ownsRow base 36 3 (.slice (some ⟨G, 0, none⟩) 6 cap) 6 (exV ++ lookV (2, 0, 560))) : HasW W (exW S G 6 cap hLo hHi) exX (exL ++ [(2, 0, 560)]) :=
  ⟨hs, looks_row (ls := exL ++ [(2, 0, 560)]) hr rfl (by decide), rfl, rfl, by decide, by decide⟩
theorem exHabitV (S G : Nat) : reply (habitR (exW S G 5 5 (-20) 20) exX exL 0) = .tuple #[.agg #[.int .i64 (-18), .int .i64 20], .int .i64 0] := by kernel_rfl
theorem exHabit (S G : Nat) (w : World) (hm : HasW w (exW S G 5 5 (-20) 20) exX exL) : Calls Tryz.prog 15 #[.agg #[.slice (some ⟨S, 0, none⟩) 4 4, .int .i64 (-3), .int .i64 3, .int .i64 2, .int .i64 3, .int .i64 (-20), .int .i64 20, .slice (some ⟨G, 0, none⟩) 5 5], .int .i64 0] w (Ret (.tuple #[.agg #[.int .i64 (-18), .int .i64 20], .int .i64 0]) w) := by
  have h := habit_any 0 _ _ _ w hm
  rw [exHabitV] at h
  exact h
theorem exBetweenV (S G : Nat) : reply (betweenR (exW S G 5 5 (-20) 20) exX exL 0 2) = .tuple #[.agg #[.int .i64 (-14), .int .i64 8], .int .i64 0] := by kernel_rfl
theorem exPlaceV (S G : Nat) : reply (placeR (exW S G 5 5 (-20) 20) exX exL 0) = .tuple #[.agg #[.int .i64 487, .int .i64 525], .int .i64 0] := by kernel_rfl
theorem exPlace (S G : Nat) (w : World) (hm : HasW w (exW S G 5 5 (-20) 20) exX exL) : Calls Tryz.prog 10 #[.agg #[.slice (some ⟨S, 0, none⟩) 4 4, .int .i64 (-3), .int .i64 3, .int .i64 2, .int .i64 3, .int .i64 (-20), .int .i64 20, .slice (some ⟨G, 0, none⟩) 5 5], .int .i64 0] w (Ret (.tuple #[.agg #[.int .i64 487, .int .i64 525], .int .i64 0]) w) := by
  have h := place_any 0 _ _ _ w hm
  rw [exPlaceV] at h
  exact h
theorem exExplainV (S G : Nat) : replyI (explainA (exW S G 5 5 (-20) 20) exX exL) = .tuple #[.int .i64 1, .int .i64 0] := by kernel_rfl
theorem exSureV (S G : Nat) : replyI (sureA (exW S G 5 5 (0) 20) exX exL) = .tuple #[.int .i64 1, .int .i64 0] := by kernel_rfl
theorem exClashV (S G cap : Nat) : replyI (clashA (exW S G 6 cap (-20) 20) exX (exL ++ [(2, 0, 560)])) = .tuple #[.int .i64 33, .int .i64 0] := by kernel_rfl
theorem exClash (S G cap : Nat) (w : World) (hm : HasW w (exW S G 6 cap (-20) 20) exX (exL ++ [(2, 0, 560)])) : Calls Tryz.prog 6 #[.agg #[.slice (some ⟨S, 0, none⟩) 4 4, .int .i64 (-3), .int .i64 3, .int .i64 2, .int .i64 3, .int .i64 (-20), .int .i64 20, .slice (some ⟨G, 0, none⟩) 6 cap]] w (Ret (.tuple #[.int .i64 33, .int .i64 0]) w) := by
  have h := clash_any _ _ _ w hm
  rw [exClashV] at h
  exact h
theorem exDropV (S G cap : Nat) : replyI (dropA (exW S G 6 cap (-20) 20) exX (exL ++ [(2, 0, 560)])) = .tuple #[.int .i64 32, .int .i64 0] := by kernel_rfl
theorem exDrop (S G cap : Nat) (w : World) (hm : HasW w (exW S G 6 cap (-20) 20) exX (exL ++ [(2, 0, 560)])) : Calls Tryz.prog 8 #[.agg #[.slice (some ⟨S, 0, none⟩) 4 4, .int .i64 (-3), .int .i64 3, .int .i64 2, .int .i64 3, .int .i64 (-20), .int .i64 20, .slice (some ⟨G, 0, none⟩) 6 cap]] w (Ret (.tuple #[.int .i64 32, .int .i64 0]) w) := by
  have h := drop_any _ _ _ w hm
  rw [exDropV] at h
  exact h
theorem infoLk : (Tryz.prog.info? 36).map (fun i => (i.zero, i.size, i.bytes)) = some (some (.agg #[.int .i64 0, .int .i64 0, .int .i64 0]), 3, 24) := by kernel_rfl
theorem row_succL {w : World} {base : Nat} {v : Value} {n : Nat} {xs : List Value} (h : w.ownsRow base 36 3 v (n + 1) xs) : ∃ g cap, v = .slice (some ⟨g, 0, none⟩) (n + 1) cap := by
  rcases h.2 with ⟨_, h0⟩ | ⟨g, cap, cur, hv, _⟩
  · omega
  · exact ⟨g, cap, hv⟩
theorem two_newT (w : World) (lo hi : Int) (t : TypeId) : (w.alloc (.cells #[.int .i64 lo, .int .i64 hi] t)).cell? ⟨w.heap.size, 0, none⟩ = some (.int .i64 lo) ∧ (w.alloc (.cells #[.int .i64 lo, .int .i64 hi] t)).cell? ⟨w.heap.size, 1, none⟩ = some (.int .i64 hi) := ⟨by simp [go_sem], by simp [go_sem]⟩
end Ey
end Go.Proofs.YtcfjakifeihbpaaGreat
