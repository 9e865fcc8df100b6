/- Through the layers: the watch of the examples, and what is told of it. -/
import Derived.Test.YtcfjakifeihbpaaGreatEaw
import Derived.Test.YtcfjakifeihbpaaGreatTra
namespace Go.Proofs.YtcfjakifeihbpaaGreat
namespace Ta
open Go.RowKit Ey

set_option maxRecDepth 100000 in
set_option maxHeartbeats 4000000 in
theorem watch03_any (w : World) : Calls Tryz.prog 16 #[] w (SamOut w) := by
  have hsl0 : Slots w.heap.size 8 (w.alloc (.cells #[.slice none 0 0, .int .i64 0, .int .i64 0, .int .i64 0, .int .i64 0, .int .i64 0, .int .i64 0, .slice none 0 0] 29)) := slots8 w _ _ 0 0 0 0 0 0 _
  have hl0 : w.heap.size < (w.alloc (.cells #[.slice none 0 0, .int .i64 0, .int .i64 0, .int .i64 0, .int .i64 0, .int .i64 0, .int .i64 0, .slice none 0 0] 29)).heap.size := by simp
  have hZ := newB w (.cells #[.slice none 0 0, .int .i64 0, .int .i64 0, .int .i64 0, .int .i64 0, .int .i64 0, .int .i64 0, .slice none 0 0] 29)
  obtain ⟨w0, hw0⟩ : ∃ w0 : World, w.alloc (.cells #[.slice none 0 0, .int .i64 0, .int .i64 0, .int .i64 0, .int .i64 0, .int .i64 0, .int .i64 0, .slice none 0 0] 29) = w0 := ⟨_, rfl⟩
  rw [hw0] at hsl0 hl0 hZ
  have hs0 : w.heap.size + 1 = w0.heap.size := by rw [← hw0]; simp
  have hSp := newB w0 (.cells #[.int .i64 (-2), .int .i64 2, .int .i64 0, .int .i64 5, .int .i64 1, .int .i64 1, .int .i64 (-4), .int .i64 0] 24)
  have hsp1 : Spans (w0.alloc (.cells #[.int .i64 (-2), .int .i64 2, .int .i64 0, .int .i64 5, .int .i64 1, .int .i64 1, .int .i64 (-4), .int .i64 0] 24)) (some ⟨w0.heap.size, 0, none⟩) exX := by
    refine spans_ex (fun j u hu => ?_)
    have hj : j < 8 := by have := (List.getElem?_eq_some_iff.1 hu).1; simpa using this
    have : j = 0 ∨ j = 1 ∨ j = 2 ∨ j = 3 ∨ j = 4 ∨ j = 5 ∨ j = 6 ∨ j = 7 := by omega
    rcases this with rfl | rfl | rfl | rfl | rfl | rfl | rfl | rfl <;> (simp at hu; subst hu; simp [go_sem])
  obtain ⟨w1, hw1⟩ : ∃ w1 : World, w0.alloc (.cells #[.int .i64 (-2), .int .i64 2, .int .i64 0, .int .i64 5, .int .i64 1, .int .i64 1, .int .i64 (-4), .int .i64 0] 24) = w1 := ⟨_, rfl⟩
  rw [hw1] at hSp hsp1
  have hs1 : w0.heap.size + 1 = w1.heap.size := by rw [← hw1]; simp
  have hT := newB w1 (.cells #[.slice (some ⟨w0.heap.size, 0, none⟩) 4 4, .int .i64 (-3), .int .i64 3] 26)
  have t0 : (w1.alloc (.cells #[.slice (some ⟨w0.heap.size, 0, none⟩) 4 4, .int .i64 (-3), .int .i64 3] 26)).cell? ⟨w1.heap.size, 0, none⟩ = some (.slice (some ⟨w0.heap.size, 0, none⟩) 4 4) := by simp [go_sem]
  have t1 : (w1.alloc (.cells #[.slice (some ⟨w0.heap.size, 0, none⟩) 4 4, .int .i64 (-3), .int .i64 3] 26)).cell? ⟨w1.heap.size, 1, none⟩ = some (.int .i64 (-3)) := by simp [go_sem]
  have t2 : (w1.alloc (.cells #[.slice (some ⟨w0.heap.size, 0, none⟩) 4 4, .int .i64 (-3), .int .i64 3] 26)).cell? ⟨w1.heap.size, 2, none⟩ = some (.int .i64 3) := by simp [go_sem]
  go_enter Tryz.func16, Tryz.ntmps16
  go_upto_region 2 with fail
  (try rw [hw0]); (try rw [hs0]); (try rw [hw1]); (try rw [hs1])
  clear hw0 hw1
  have hsl2 := (hsl0.below hSp hl0).below hT (by omega)
  have hsp2 := hsp1.below (Nat.le_refl _) hT
  have hB2 := (hZ.trans (hSp.mono (by omega))).trans (hT.mono (by omega))
  have hwS : w.heap.size < w0.heap.size := by omega
  have hs2 : w1.heap.size < (w1.alloc (.cells #[.slice (some ⟨w0.heap.size, 0, none⟩) 4 4, .int .i64 (-3), .int .i64 3] 26)).heap.size := by simp
  have hS2 : w0.heap.size < (w1.alloc (.cells #[.slice (some ⟨w0.heap.size, 0, none⟩) 4 4, .int .i64 (-3), .int .i64 3] 26)).heap.size := by omega
  generalize w0.heap.size = S at *
  generalize w1.heap.size = T at *
  generalize w1.alloc (.cells #[.slice (some ⟨S, 0, none⟩) 4 4, .int .i64 (-3), .int .i64 3] 26) = w2 at *
  have hwG : w.heap.size < w2.heap.size := by omega
  obtain ⟨v0, u0, f0⟩ := hsl2.get 0 (by omega)
  obtain ⟨v1, u1, f1⟩ := hsl2.get 1 (by omega)
  obtain ⟨v2, u2, f2⟩ := hsl2.get 2 (by omega)
  obtain ⟨v3, u3, f3⟩ := hsl2.get 3 (by omega)
  obtain ⟨v4, u4, f4⟩ := hsl2.get 4 (by omega)
  obtain ⟨v5, u5, f5⟩ := hsl2.get 5 (by omega)
  obtain ⟨v6, u6, f6⟩ := hsl2.get 6 (by omega)
  obtain ⟨v7, u7, f7⟩ := hsl2.get 7 (by omega)
  go_wp2_with fail
  clear u0 u1 u2 u3 u4 u5 u6 u7 f0 f1 f2 f3 f4 f5 f6 f7
  obtain ⟨X, hX, hgX, q0, q1, q2, q3, q4, q5, q6, q7⟩ := put8 w2 w.heap.size (exW S w2.heap.size 5 5 (-20) 20) hsl2
  dsimp only [exW] at hX q0 q1 q2 q3 q4 q5 q6 q7
  have hXs : X.heap.size = w2.heap.size := by rw [hX]; simp
  rw [← hX]
  have hN := newB X (.cells #[.int .i64 0, .int .i64 0, .int .i64 500, .int .i64 1, .int .i64 0, .int .i64 512, .int .i64 0, .int .i64 1, .int .i64 1200, .int .i64 1, .int .i64 1, .int .i64 1213, .int .i64 2, .int .i64 1, .int .i64 1203] 36)
  have hsX := (spans_by (by show S ≠ w.heap.size; omega) hsp2 hgX).below (Nat.le_refl _) hN
  have hrX := World.ownsRow_lit (base := w.heap.size) (e := 36) (size := 3) X #[.int .i64 0, .int .i64 0, .int .i64 500, .int .i64 1, .int .i64 0, .int .i64 512, .int .i64 0, .int .i64 1, .int .i64 1200, .int .i64 1, .int .i64 1, .int .i64 1213, .int .i64 2, .int .i64 1, .int .i64 1203] 5 (by omega) (by unfold maxLen; omega) rfl
  have hBX : Below w.heap.size w X := hB2.grown hgX hB2.size (fun k e => by injection e with e; omega)
  have hBN := hBX.trans (hN.mono hBX.size)
  have q0 := cellB q0 hN
  have q1 := cellB q1 hN
  have q2 := cellB q2 hN
  have q3 := cellB q3 hN
  have q4 := cellB q4 hN
  have q5 := cellB q5 hN
  have q6 := cellB q6 hN
  have q7 := cellB q7 hN
  rw [hXs] at hrX
  exact bodyPost_ret (v := (exW S w2.heap.size 5 5 (-20) 20).val) (by simp [results, Tryz.results16, go_sem, q0, q1, q2, q3, q4, q5, q6, q7]; rfl) rfl ⟨S, w2.heap.size, rfl, hsX, by omega, hrX, hBN⟩
theorem exTravelV : reply (travelR exX (-3) 3 1200) = .tuple #[.agg #[.int .i64 1197, .int .i64 1208], .int .i64 0] := by kernel_rfl
set_option maxRecDepth 100000 in
set_option maxHeartbeats 4000000 in
theorem awake03_any (w : World) : Calls Tryz.prog 5 #[] w (Ret (.bool true) w) := by
  go_enter Tryz.func5, Tryz.ntmps5
  go_wp2_with fail
  refine (watch03_any _).mono ?_
  rintro e w1 ⟨S, G, rfl, hs, hSl, hr, hbw1⟩
  unfold exW Wd.val
  dsimp only
  have hm := hasW_ex (hLo := -20) (hHi := 20) hs hr
  go_wp2_with fail
  refine (exHabit S G _ hm).mono ?_
  rintro e v1 ⟨rfl, hbv1⟩
  have hB1 := hbw1.trans (hbv1.mono hbw1.size)
  clear hm hs hSl hr hbw1 hbv1
  obtain ⟨d0, _, d1, _⟩ := two_new v1 (-18) 20
  have hn := newB v1 (.cells #[.int .i64 (-18), .int .i64 20] 24)
  have hB2 := hB1.trans (hn.mono hB1.size)
  go_wp2_with fail
  refine (watch03_any _).mono ?_
  rintro e w2 ⟨S, G, rfl, hs, hSl, hr, hbw2⟩
  have d0 := cellB d0 hbw2
  have d1 := cellB d1 hbw2
  have hB3 := hB2.trans (hbw2.mono hB2.size)
  have htr : Calls Tryz.prog 17 #[.agg #[.slice (some ⟨S, 0, none⟩) 4 4, .int .i64 (-3), .int .i64 3], .int .i64 1200] w2 (Ret (.tuple #[.agg #[.int .i64 1197, .int .i64 1208], .int .i64 0]) w2) := by
    have := travel_any16 (some ⟨S, 0, none⟩) 4 (-3) 3 1200 exX w2 hs (by decide) (by omega)
    rw [exTravelV] at this
    exact this
  have hfd : ∀ (S G : Nat) (W : World), (Instr.field 29 (.agg #[.slice (some ⟨S, 0, none⟩) 4 4, .int .i64 (-3), .int .i64 3, .int .i64 2, .int .i64 3, .int .i64 (-20), .int .i64 20, .slice (some ⟨G, 0, none⟩) 5 5]) 0).run Tryz.prog W = .ok (.agg #[.slice (some ⟨S, 0, none⟩) 4 4, .int .i64 (-3), .int .i64 3]) W := fun S G W => by first | rfl | kernel_rfl
  unfold exW Wd.val
  dsimp only
  go_wp2_with fail
  refine htr.mono ?_
  rintro e v2 ⟨rfl, hbv2⟩
  have d0 := cellB d0 hbv2
  have d1 := cellB d1 hbv2
  have hB4 := hB3.trans (hbv2.mono hB3.size)
  obtain ⟨e0, _, e1, _⟩ := two_new v2 1197 1208
  have hn2 := newB v2 (.cells #[.int .i64 1197, .int .i64 1208] 24)
  have d0 := cellB d0 hn2
  have d1 := cellB d1 hn2
  have hB5 := hB4.trans (hn2.mono hB4.size)
  clear hn hB1 hB2 hB3 hB4 hbv2 htr hs hSl hr hbw2 hn2
  go_wp2
  go_ret
  exact ⟨rfl, hB5⟩
end Ta
end Go.Proofs.YtcfjakifeihbpaaGreat
