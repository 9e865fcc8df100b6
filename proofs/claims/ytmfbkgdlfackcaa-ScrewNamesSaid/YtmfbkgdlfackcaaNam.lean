/- ScrewNames: the errors, numbers and limits, and the examples of the chapter. -/
import Derived.Test.YtmfbkgdlfackcaaAli
namespace Go.Proofs.Ytmfbkgdlfackcaa
open Go.RowKit

def oneS : List Sett := [(0, 500, false), (1, 1200, false), (1, 1788, true)]
theorem exOnce1V (a sa : Addr) (n cap ns scap : Nat) : replyI (onceA (exM a sa n cap ns scap) exX oneS) = .tuple #[.int .i64 1, .int .i64 0] := by kernel_rfl
theorem exOnce1 (a sa : Addr) (n cap ns scap : Nat) (w : World) (hm : HasM w (exM a sa n cap ns scap) exX oneS) :
    Calls Try.prog 28 #[.agg #[.slice (some a) n cap, .int .i64 (-3), .int .i64 3, .int .i64 2, .int .i64 2900, .int .i64 3100, .slice (some sa) ns scap]] w (Ret (.tuple #[.int .i64 1, .int .i64 0]) w) := by
  have h := once_any _ _ _ w hm
  rw [exOnce1V] at h
  exact h
set_option maxRecDepth 100000 in
set_option maxHeartbeats 4000000 in
theorem names_any (w : World) : Calls Try.prog 6 #[] w (Ret (.bool true) w) := by
  go_enter Try.func6, Try.ntmps6
  go_wp2_with fail
  refine (sample_nil _).mono ?_
  rintro e w1 ⟨a, sa, n, cap, ns, scap, rfl, hm, hbw1⟩
  unfold Hd.val
  obtain ⟨sb, so, hsa, hsb, hst⟩ := hm.st.resolve_left (by decide)
  injection hsa with hsa
  subst hsa
  have hns : 4 = ns := hm.ns
  subst hns
  go_wp2_with fail
  have hA1 : Below w1.heap.size w1 (w1.alloc (.cells #[.slice (some a) n cap, .int .i64 (-3), .int .i64 3, .int .i64 2, .int .i64 2900, .int .i64 3100, .slice (some ⟨sb, so, none⟩) 4 scap] 29)) := newB w1 (.cells #[.slice (some a) n cap, .int .i64 (-3), .int .i64 3, .int .i64 2, .int .i64 2900, .int .i64 3100, .slice (some ⟨sb, so, none⟩) 4 scap] 29)
  have o0 : (w1.alloc (.cells #[.slice (some a) n cap, .int .i64 (-3), .int .i64 3, .int .i64 2, .int .i64 2900, .int .i64 3100, .slice (some ⟨sb, so, none⟩) 4 scap] 29)).drew.cell? ⟨w1.heap.size, 0, none⟩ = some (.slice (some a) n cap) := by simp [go_sem]
  have o1 : (w1.alloc (.cells #[.slice (some a) n cap, .int .i64 (-3), .int .i64 3, .int .i64 2, .int .i64 2900, .int .i64 3100, .slice (some ⟨sb, so, none⟩) 4 scap] 29)).drew.cell? ⟨w1.heap.size, 1, none⟩ = some (.int .i64 (-3)) := by simp [go_sem]
  have o2 : (w1.alloc (.cells #[.slice (some a) n cap, .int .i64 (-3), .int .i64 3, .int .i64 2, .int .i64 2900, .int .i64 3100, .slice (some ⟨sb, so, none⟩) 4 scap] 29)).drew.cell? ⟨w1.heap.size, 2, none⟩ = some (.int .i64 3) := by simp [go_sem]
  have o3 : (w1.alloc (.cells #[.slice (some a) n cap, .int .i64 (-3), .int .i64 3, .int .i64 2, .int .i64 2900, .int .i64 3100, .slice (some ⟨sb, so, none⟩) 4 scap] 29)).drew.cell? ⟨w1.heap.size, 3, none⟩ = some (.int .i64 2) := by simp [go_sem]
  have o4 : (w1.alloc (.cells #[.slice (some a) n cap, .int .i64 (-3), .int .i64 3, .int .i64 2, .int .i64 2900, .int .i64 3100, .slice (some ⟨sb, so, none⟩) 4 scap] 29)).drew.cell? ⟨w1.heap.size, 4, none⟩ = some (.int .i64 2900) := by simp [go_sem]
  have o5 : (w1.alloc (.cells #[.slice (some a) n cap, .int .i64 (-3), .int .i64 3, .int .i64 2, .int .i64 2900, .int .i64 3100, .slice (some ⟨sb, so, none⟩) 4 scap] 29)).drew.cell? ⟨w1.heap.size, 5, none⟩ = some (.int .i64 3100) := by simp [go_sem]
  have o6 : (w1.alloc (.cells #[.slice (some a) n cap, .int .i64 (-3), .int .i64 3, .int .i64 2, .int .i64 2900, .int .i64 3100, .slice (some ⟨sb, so, none⟩) 4 scap] 29)).drew.cell? ⟨w1.heap.size, 6, none⟩ = some (.slice (some ⟨sb, so, none⟩) 4 scap) := by simp [go_sem]
  have s00 : (w1.alloc (.cells #[.slice (some a) n cap, .int .i64 (-3), .int .i64 3, .int .i64 2, .int .i64 2900, .int .i64 3100, .slice (some ⟨sb, so, none⟩) 4 scap] 29)).drew.cell? ⟨sb, so, none⟩ = some (.int .i64 0) := cellG (hst 0 (by decide)).1 (Below.drew hA1)
  have s01 : (w1.alloc (.cells #[.slice (some a) n cap, .int .i64 (-3), .int .i64 3, .int .i64 2, .int .i64 2900, .int .i64 3100, .slice (some ⟨sb, so, none⟩) 4 scap] 29)).drew.cell? ⟨sb, so + 1, none⟩ = some (.int .i64 500) := cellG (hst 0 (by decide)).2.1 (Below.drew hA1)
  have s02 : (w1.alloc (.cells #[.slice (some a) n cap, .int .i64 (-3), .int .i64 3, .int .i64 2, .int .i64 2900, .int .i64 3100, .slice (some ⟨sb, so, none⟩) 4 scap] 29)).drew.cell? ⟨sb, so + 2, none⟩ = some (.bool false) := cellG (hst 0 (by decide)).2.2.1 (Below.drew hA1)
  have s20 : (w1.alloc (.cells #[.slice (some a) n cap, .int .i64 (-3), .int .i64 3, .int .i64 2, .int .i64 2900, .int .i64 3100, .slice (some ⟨sb, so, none⟩) 4 scap] 29)).drew.cell? ⟨sb, so + 6, none⟩ = some (.int .i64 1) := cellG (hst 2 (by decide)).1 (Below.drew hA1)
  have s21 : (w1.alloc (.cells #[.slice (some a) n cap, .int .i64 (-3), .int .i64 3, .int .i64 2, .int .i64 2900, .int .i64 3100, .slice (some ⟨sb, so, none⟩) 4 scap] 29)).drew.cell? ⟨sb, so + 7, none⟩ = some (.int .i64 1200) := cellG (hst 2 (by decide)).2.1 (Below.drew hA1)
  have s22 : (w1.alloc (.cells #[.slice (some a) n cap, .int .i64 (-3), .int .i64 3, .int .i64 2, .int .i64 2900, .int .i64 3100, .slice (some ⟨sb, so, none⟩) 4 scap] 29)).drew.cell? ⟨sb, so + 8, none⟩ = some (.bool false) := cellG (hst 2 (by decide)).2.2.1 (Below.drew hA1)
  have s30 : (w1.alloc (.cells #[.slice (some a) n cap, .int .i64 (-3), .int .i64 3, .int .i64 2, .int .i64 2900, .int .i64 3100, .slice (some ⟨sb, so, none⟩) 4 scap] 29)).drew.cell? ⟨sb, so + 9, none⟩ = some (.int .i64 1) := cellG (hst 3 (by decide)).1 (Below.drew hA1)
  have s31 : (w1.alloc (.cells #[.slice (some a) n cap, .int .i64 (-3), .int .i64 3, .int .i64 2, .int .i64 2900, .int .i64 3100, .slice (some ⟨sb, so, none⟩) 4 scap] 29)).drew.cell? ⟨sb, so + 10, none⟩ = some (.int .i64 1788) := cellG (hst 3 (by decide)).2.1 (Below.drew hA1)
  have s32 : (w1.alloc (.cells #[.slice (some a) n cap, .int .i64 (-3), .int .i64 3, .int .i64 2, .int .i64 2900, .int .i64 3100, .slice (some ⟨sb, so, none⟩) 4 scap] 29)).drew.cell? ⟨sb, so + 11, none⟩ = some (.bool true) := cellG (hst 3 (by decide)).2.2.1 (Below.drew hA1)
  have f6 : (w1.alloc (.cells #[.slice (some a) n cap, .int .i64 (-3), .int .i64 3, .int .i64 2, .int .i64 2900, .int .i64 3100, .slice (some ⟨sb, so, none⟩) 4 scap] 29)).drew.frozen? ⟨w1.heap.size, 6, none⟩ = false := by simp
  have hsp : Spans (w1.alloc (.cells #[.slice (some a) n cap, .int .i64 (-3), .int .i64 3, .int .i64 2, .int .i64 2900, .int .i64 3100, .slice (some ⟨sb, so, none⟩) 4 scap] 29)).drew (some a) exX := hm.sp.below (Nat.le_refl _) (Below.drew hA1)
  have hsb' : sb ≠ w1.heap.size := by omega
  have hOa : a.block ≠ w1.heap.size := by
    rcases hm.sp with h | ⟨b, o, h1, h2, _⟩
    · exact absurd h (by decide)
    · injection h1 with h1; subst h1; show b ≠ _; omega
  have hnx : exX.length = n := hm.nx
  have hwO : w.heap.size ≤ w1.heap.size := hbw1.size
  have hsz : (w1.alloc (.cells #[.slice (some a) n cap, .int .i64 (-3), .int .i64 3, .int .i64 2, .int .i64 2900, .int .i64 3100, .slice (some ⟨sb, so, none⟩) 4 scap] 29)).drew.heap.size = w1.heap.size + 1 := by simp
  have hB2 : Below w.heap.size w (w1.alloc (.cells #[.slice (some a) n cap, .int .i64 (-3), .int .i64 3, .int .i64 2, .int .i64 2900, .int .i64 3100, .slice (some ⟨sb, so, none⟩) 4 scap] 29)).drew := Below.drew (BT hbw1 hA1)
  clear hst hm hA1 hsb hbw1
  generalize w1.heap.size = O at *
  generalize hWd : (w1.alloc (.cells #[.slice (some a) n cap, .int .i64 (-3), .int .i64 3, .int .i64 2, .int .i64 2900, .int .i64 3100, .slice (some ⟨sb, so, none⟩) 4 scap] 29)) = Wd at *
  clear hWd w1
  refine wp_region_seq [(0, true), (1, true), (2, true), (3, true), (4, true), (5, true), (6, true), (7, true), (8, true), (9, true), (10, true), (11, true), (12, false), (13, true), (14, false)]
    (fun w' => w'.cell? ⟨O, 6, none⟩ = some (.slice (some ⟨sb, so, none⟩) 4 scap) ∧ w'.cell? ⟨sb, so, none⟩ = some (.int .i64 0) ∧ w'.cell? ⟨sb, so + 1, none⟩ = some (.int .i64 500) ∧ w'.cell? ⟨sb, so + 2, none⟩ = some (.bool false) ∧ w'.cell? ⟨sb, so + 6, none⟩ = some (.int .i64 1) ∧ w'.cell? ⟨sb, so + 7, none⟩ = some (.int .i64 1200) ∧ w'.cell? ⟨sb, so + 8, none⟩ = some (.bool false) ∧ w'.cell? ⟨sb, so + 9, none⟩ = some (.int .i64 1) ∧ w'.cell? ⟨sb, so + 10, none⟩ = some (.int .i64 1788) ∧ w'.cell? ⟨sb, so + 11, none⟩ = some (.bool true)) (by kernel_rfl) (by kernel_rfl) (fun _ _ d _ _ h => by cases d <;> exact h) ⟨o6, s00, s01, s02, s20, s21, s22, s30, s31, s32⟩ ?_
  repeat (first | (refine seq_read rfl (by rfl) _ (fun w' hS => by (try dsimp only at hS); go_simp; (try with_reducible rfl)) ?_; (try simp only [Act.put, List.setIfInBounds_toArray, List.set_cons_zero, List.set_cons_succ])) | (refine seq_skip rfl (by rfl) ?_; (try simp only [Act.put, List.setIfInBounds_toArray, List.set_cons_zero, List.set_cons_succ])))
  have hA2 : Below Wd.drew.heap.size Wd.drew (Wd.alloc (.cells #[.int .i64 0, .int .i64 500, .bool false, .int .i64 1, .int .i64 1200, .bool false, .int .i64 1, .int .i64 1788, .bool true] 44)).drew := newB Wd.drew (.cells #[.int .i64 0, .int .i64 500, .bool false, .int .i64 1, .int .i64 1200, .bool false, .int .i64 1, .int .i64 1788, .bool true] 44)
  have hrow := World.ownsRow_lit (base := O + 1) (e := 44) (size := 3) Wd.drew #[.int .i64 0, .int .i64 500, .bool false, .int .i64 1, .int .i64 1200, .bool false, .int .i64 1, .int .i64 1788, .bool true] 3 (by omega) (by unfold maxLen; omega) rfl
  rw [hsz] at hrow
  have hrow : (Wd.alloc (.cells #[.int .i64 0, .int .i64 500, .bool false, .int .i64 1, .int .i64 1200, .bool false, .int .i64 1, .int .i64 1788, .bool true] 44)).drew.ownsRow (O + 1) 44 3 (.slice (some ⟨O + 1, 0, none⟩) 3 3) 3 (oneS.flatMap settV) := hrow
  have hXX : BX O (Wd.alloc (.cells #[.int .i64 0, .int .i64 500, .bool false, .int .i64 1, .int .i64 1200, .bool false, .int .i64 1, .int .i64 1788, .bool true] 44)).drew ((Wd.alloc (.cells #[.int .i64 0, .int .i64 500, .bool false, .int .i64 1, .int .i64 1200, .bool false, .int .i64 1, .int .i64 1788, .bool true] 44)).setCell ⟨O, 6, none⟩ (.slice (some ⟨O + 1, 0, none⟩) 3 3)).drew := BX.set O 6 (Wd.alloc (.cells #[.int .i64 0, .int .i64 500, .bool false, .int .i64 1, .int .i64 1200, .bool false, .int .i64 1, .int .i64 1788, .bool true] 44)).drew (.slice (some ⟨O + 1, 0, none⟩) 3 3)
  have hst3 : Setts ((Wd.alloc (.cells #[.int .i64 0, .int .i64 500, .bool false, .int .i64 1, .int .i64 1200, .bool false, .int .i64 1, .int .i64 1788, .bool true] 44)).setCell ⟨O, 6, none⟩ (.slice (some ⟨O + 1, 0, none⟩) 3 3)).drew (some ⟨O + 1, 0, none⟩) oneS := setts_bx (by show O + 1 ≠ O; omega) (setts_row (ss := oneS) hrow rfl (by decide)) hXX
  have hsp3 : Spans ((Wd.alloc (.cells #[.int .i64 0, .int .i64 500, .bool false, .int .i64 1, .int .i64 1200, .bool false, .int .i64 1, .int .i64 1788, .bool true] 44)).setCell ⟨O, 6, none⟩ (.slice (some ⟨O + 1, 0, none⟩) 3 3)).drew (some a) exX := spans_bx hOa (hsp.below (Nat.le_refl _) hA2) hXX
  have hm3 : HasM ((Wd.alloc (.cells #[.int .i64 0, .int .i64 500, .bool false, .int .i64 1, .int .i64 1200, .bool false, .int .i64 1, .int .i64 1788, .bool true] 44)).setCell ⟨O, 6, none⟩ (.slice (some ⟨O + 1, 0, none⟩) 3 3)).drew (exM a ⟨O + 1, 0, none⟩ n cap 3 3) exX oneS := ⟨hsp3, hst3, hnx, rfl, by decide, by decide⟩
  have p0 : ((Wd.alloc (.cells #[.int .i64 0, .int .i64 500, .bool false, .int .i64 1, .int .i64 1200, .bool false, .int .i64 1, .int .i64 1788, .bool true] 44)).setCell ⟨O, 6, none⟩ (.slice (some ⟨O + 1, 0, none⟩) 3 3)).drew.cell? ⟨O, 0, none⟩ = some (.slice (some a) n cap) := (World.cell?_setCell_other (Wd.alloc (.cells #[.int .i64 0, .int .i64 500, .bool false, .int .i64 1, .int .i64 1200, .bool false, .int .i64 1, .int .i64 1788, .bool true] 44)).drew _ _ _ (by simp)).trans (cellG o0 hA2)
  have p1 : ((Wd.alloc (.cells #[.int .i64 0, .int .i64 500, .bool false, .int .i64 1, .int .i64 1200, .bool false, .int .i64 1, .int .i64 1788, .bool true] 44)).setCell ⟨O, 6, none⟩ (.slice (some ⟨O + 1, 0, none⟩) 3 3)).drew.cell? ⟨O, 1, none⟩ = some (.int .i64 (-3)) := (World.cell?_setCell_other (Wd.alloc (.cells #[.int .i64 0, .int .i64 500, .bool false, .int .i64 1, .int .i64 1200, .bool false, .int .i64 1, .int .i64 1788, .bool true] 44)).drew _ _ _ (by simp)).trans (cellG o1 hA2)
  have p2 : ((Wd.alloc (.cells #[.int .i64 0, .int .i64 500, .bool false, .int .i64 1, .int .i64 1200, .bool false, .int .i64 1, .int .i64 1788, .bool true] 44)).setCell ⟨O, 6, none⟩ (.slice (some ⟨O + 1, 0, none⟩) 3 3)).drew.cell? ⟨O, 2, none⟩ = some (.int .i64 3) := (World.cell?_setCell_other (Wd.alloc (.cells #[.int .i64 0, .int .i64 500, .bool false, .int .i64 1, .int .i64 1200, .bool false, .int .i64 1, .int .i64 1788, .bool true] 44)).drew _ _ _ (by simp)).trans (cellG o2 hA2)
  have p3 : ((Wd.alloc (.cells #[.int .i64 0, .int .i64 500, .bool false, .int .i64 1, .int .i64 1200, .bool false, .int .i64 1, .int .i64 1788, .bool true] 44)).setCell ⟨O, 6, none⟩ (.slice (some ⟨O + 1, 0, none⟩) 3 3)).drew.cell? ⟨O, 3, none⟩ = some (.int .i64 2) := (World.cell?_setCell_other (Wd.alloc (.cells #[.int .i64 0, .int .i64 500, .bool false, .int .i64 1, .int .i64 1200, .bool false, .int .i64 1, .int .i64 1788, .bool true] 44)).drew _ _ _ (by simp)).trans (cellG o3 hA2)
  have p4 : ((Wd.alloc (.cells #[.int .i64 0, .int .i64 500, .bool false, .int .i64 1, .int .i64 1200, .bool false, .int .i64 1, .int .i64 1788, .bool true] 44)).setCell ⟨O, 6, none⟩ (.slice (some ⟨O + 1, 0, none⟩) 3 3)).drew.cell? ⟨O, 4, none⟩ = some (.int .i64 2900) := (World.cell?_setCell_other (Wd.alloc (.cells #[.int .i64 0, .int .i64 500, .bool false, .int .i64 1, .int .i64 1200, .bool false, .int .i64 1, .int .i64 1788, .bool true] 44)).drew _ _ _ (by simp)).trans (cellG o4 hA2)
  have p5 : ((Wd.alloc (.cells #[.int .i64 0, .int .i64 500, .bool false, .int .i64 1, .int .i64 1200, .bool false, .int .i64 1, .int .i64 1788, .bool true] 44)).setCell ⟨O, 6, none⟩ (.slice (some ⟨O + 1, 0, none⟩) 3 3)).drew.cell? ⟨O, 5, none⟩ = some (.int .i64 3100) := (World.cell?_setCell_other (Wd.alloc (.cells #[.int .i64 0, .int .i64 500, .bool false, .int .i64 1, .int .i64 1200, .bool false, .int .i64 1, .int .i64 1788, .bool true] 44)).drew _ _ _ (by simp)).trans (cellG o5 hA2)
  have p6 : ((Wd.alloc (.cells #[.int .i64 0, .int .i64 500, .bool false, .int .i64 1, .int .i64 1200, .bool false, .int .i64 1, .int .i64 1788, .bool true] 44)).setCell ⟨O, 6, none⟩ (.slice (some ⟨O + 1, 0, none⟩) 3 3)).drew.cell? ⟨O, 6, none⟩ = some (.slice (some ⟨O + 1, 0, none⟩) 3 3) := World.cell?_setCell_same (Wd.alloc (.cells #[.int .i64 0, .int .i64 500, .bool false, .int .i64 1, .int .i64 1200, .bool false, .int .i64 1, .int .i64 1788, .bool true] 44)).drew _ _ (cellG o6 hA2)
  have hB3 : Below w.heap.size w ((Wd.alloc (.cells #[.int .i64 0, .int .i64 500, .bool false, .int .i64 1, .int .i64 1200, .bool false, .int .i64 1, .int .i64 1788, .bool true] 44)).setCell ⟨O, 6, none⟩ (.slice (some ⟨O + 1, 0, none⟩) 3 3)).drew := BX.below (BT hB2 hA2) hXX hwO (by have := hA2.size; have := hB2.size; omega)
  have g6 : (Wd.alloc (.cells #[.int .i64 0, .int .i64 500, .bool false, .int .i64 1, .int .i64 1200, .bool false, .int .i64 1, .int .i64 1788, .bool true] 44)).drew.frozen? ⟨O, 6, none⟩ = false := (hA2.frozen (p := ⟨O, 6, none⟩) (by show O < _; omega)).trans f6
  have q6 := cellG o6 hA2
  refine seq_do rfl (by rfl) (fun K hK => ?_)
  go_simp
  refine hK _ _ ⟨q6, cellG s00 hA2, cellG s01 hA2, cellG s02 hA2, cellG s20 hA2, cellG s21 hA2, cellG s22 hA2, cellG s30 hA2, cellG s31 hA2, cellG s32 hA2⟩ ?_
  clear hK K
  (try simp only [Act.put, List.setIfInBounds_toArray, List.set_cons_zero, List.set_cons_succ])
  repeat (first | (refine seq_read rfl (by rfl) _ (fun w' hS => by (try dsimp only at hS); go_simp; (try with_reducible rfl)) ?_; (try simp only [Act.put, List.setIfInBounds_toArray, List.set_cons_zero, List.set_cons_succ])) | (refine seq_skip rfl (by rfl) ?_; (try simp only [Act.put, List.setIfInBounds_toArray, List.set_cons_zero, List.set_cons_succ])))
  refine seq_last rfl (by rfl) (by kernel_rfl) (fun K hK => ?_)
  go_simp
  refine hK _ _ ?_
  clear hK K q6 g6 hXX hrow hst3 hsp3 hA2 hB2 f6 hsp o0 o1 o2 o3 o4 o5 o6 s00 s01 s02 s20 s21 s22 s30 s31 s32
  generalize hW3 : ((Wd.alloc (.cells #[.int .i64 0, .int .i64 500, .bool false, .int .i64 1, .int .i64 1200, .bool false, .int .i64 1, .int .i64 1788, .bool true] 44)).setCell ⟨O, 6, none⟩ (.slice (some ⟨O + 1, 0, none⟩) 3 3)).drew = W3 at *
  clear hW3 hsz
  go_wp2_with fail
  refine (exTravel4 a ⟨O + 1, 0, none⟩ n cap 3 3 _ W3 hm3).mono ?_
  rintro e v3 ⟨rfl, hbv3⟩
  have HM := Lib.hid hm3
  have HP := Lib.hid (And.intro p0 (And.intro p1 (And.intro p2 (And.intro p3 (And.intro p4 (And.intro p5 p6))))))
  clear hm3 p0 p1 p2 p3 p4 p5 p6 hrow hnx hsb' hOa hwO
  go_wp2_with fail
  refine (sample_nil _).mono ?_
  rintro e w4 ⟨aw4, saw4, nw4, capw4, nsw4, scapw4, rfl, hm, hbw4⟩
  unfold Hd.val
  go_wp2_with fail
  refine (exPlace0 aw4 saw4 nw4 capw4 nsw4 scapw4 _ hm).mono ?_
  rintro e v4 ⟨rfl, hbv4⟩
  clear hm
  go_wp2_with fail
  refine (sample_nil _).mono ?_
  rintro e w5 ⟨aw5, saw5, nw5, capw5, nsw5, scapw5, rfl, hm, hbw5⟩
  unfold Hd.val
  go_wp2_with fail
  refine (exApart10 aw5 saw5 nw5 capw5 nsw5 scapw5 _ hm).mono ?_
  rintro e v5 ⟨rfl, hbv5⟩
  clear hm
  go_wp2_with fail
  refine (sample_nil _).mono ?_
  rintro e w6 ⟨aw6, saw6, nw6, capw6, nsw6, scapw6, rfl, hm, hbw6⟩
  unfold Hd.val
  go_wp2_with fail
  refine (exClash aw6 saw6 nw6 capw6 nsw6 scapw6 _ hm).mono ?_
  rintro e v6 ⟨rfl, hbv6⟩
  clear hm
  go_wp2_with fail
  refine (sample_nil _).mono ?_
  rintro e w7 ⟨aw7, saw7, nw7, capw7, nsw7, scapw7, rfl, hm, hbw7⟩
  unfold Hd.val
  go_wp2_with fail
  refine (exDrop aw7 saw7 nw7 capw7 nsw7 scapw7 _ hm).mono ?_
  rintro e v7 ⟨rfl, hbv7⟩
  clear hm
  go_wp2_with fail
  refine (sample_nil _).mono ?_
  rintro e w8 ⟨aw8, saw8, nw8, capw8, nsw8, scapw8, rfl, hm, hbw8⟩
  unfold Hd.val
  go_wp2_with fail
  refine (exIdle aw8 saw8 nw8 capw8 nsw8 scapw8 _ hm).mono ?_
  rintro e v8 ⟨rfl, hbv8⟩
  clear hm
  go_wp2_with fail
  refine (sample_nil _).mono ?_
  rintro e w9 ⟨aw9, saw9, nw9, capw9, nsw9, scapw9, rfl, hm, hbw9⟩
  unfold Hd.val
  go_wp2_with fail
  refine (exOnce aw9 saw9 nw9 capw9 nsw9 scapw9 _ hm).mono ?_
  rintro e v9 ⟨rfl, hbv9⟩
  clear hm
  have h5 := BT (BT (BT (BT (BT (BT (BT hbw6 hbv6) hbw7) hbv7) hbw8) hbv8) hbw9) hbv9
  have h4 := BT (BA (BT hbw5 hbv5) (.cells #[.int .i64 (-713), .int .i64 (-706)] 24)) h5
  have h3 := BT (BA (BT (BT (BA hbv3 (.cells #[.int .i64 (0), .int .i64 (0)] 24)) hbw4) hbv4) (.cells #[.int .i64 (495), .int .i64 (502)] 24)) h4
  have h0 := BT hB3 h3
  have HM9 := Lib.hid (HM.out.below (Nat.le_refl _) h3)
  have C4 := Lib.hid (And.intro (cellG (two_newT v4 495 502 24).1 h4) (cellG (two_newT v4 495 502 24).2 h4))
  have C5 := Lib.hid (And.intro (cellG (two_newT v5 (-713) (-706) 24).1 h5) (cellG (two_newT v5 (-713) (-706) 24).2 h5))
  have r0 := cellG HP.out.1 h3
  have r1 := cellG HP.out.2.1 h3
  have r2 := cellG HP.out.2.2.1 h3
  have r3 := cellG HP.out.2.2.2.1 h3
  have r4 := cellG HP.out.2.2.2.2.1 h3
  have r5 := cellG HP.out.2.2.2.2.2.1 h3
  have r6 := cellG HP.out.2.2.2.2.2.2 h3
  clear HP HM h3 h4 h5 hB3 hbv3 hbw4 hbv4 hbw5 hbv5 hbw6 hbv6 hbw7 hbv7 hbw8 hbv8 hbw9 hbv9
  go_wp2_with fail
  refine (exOnce1 a ⟨O + 1, 0, none⟩ n cap 3 3 v9 HM9.out).mono ?_
  rintro e v10 ⟨rfl, hbv10⟩
  clear HM9 r0 r1 r2 r3 r4 r5 r6
  go_wp2_with fail
  refine (fifth_any _).mono ?_
  rintro e u11 ⟨rfl, hbu11⟩
  go_wp2_with fail
  refine (sample_one _ _ (by simp [go_sem]) (by simp [go_sem]) (by simp [go_sem])).mono ?_
  rintro e w11 ⟨aw11, saw11, nw11, capw11, nsw11, scapw11, rfl, hm, hbw11⟩
  unfold Hd.val
  go_wp2_with fail
  refine (exSum5 aw11 saw11 nw11 capw11 nsw11 scapw11 _ hm).mono ?_
  rintro e v11 ⟨rfl, hbv11⟩
  clear hm
  go_wp2_with fail
  have hE := BA (BT (BT (BA (BT hbv10 hbu11) (.cells #[.int .i64 0, .int .i64 520, .bool false] 44)) hbw11) hbv11) (.cells #[.int .i64 (0), .int .i64 (0)] 24)
  have c40 := cellG C4.out.1 (Below.drew hE)
  have c41 := cellG C4.out.2 (Below.drew hE)
  have c50 := cellG C5.out.1 (Below.drew hE)
  have c51 := cellG C5.out.2 (Below.drew hE)
  have hD := Below.drew (BT h0 hE)
  clear h0 hE C4 C5 hbv10 hbu11 hbw11 hbv11
  generalize v4.heap.size = b4 at *
  generalize v5.heap.size = b5 at *
  refine wp_region_seq [(0, true), (1, false), (2, true), (3, true), (4, true), (5, true), (6, true), (7, true), (8, true), (9, true), (10, false), (11, true), (12, true), (13, true), (14, true), (15, true), (16, true), (17, true), (18, true), (19, false), (20, true), (21, true), (22, true), (23, true), (24, true), (25, true), (26, true), (27, true), (28, true), (29, true), (30, true), (31, true), (32, true), (33, true), (34, true), (35, true), (36, true), (37, true), (38, true), (39, true), (40, true), (41, true)]
    (fun w' => w'.cell? ⟨b4, 0, none⟩ = some (.int .i64 495) ∧ w'.cell? ⟨b4, 1, none⟩ = some (.int .i64 502) ∧ w'.cell? ⟨b5, 0, none⟩ = some (.int .i64 (-713)) ∧ w'.cell? ⟨b5, 1, none⟩ = some (.int .i64 (-706))) (by kernel_rfl) (by kernel_rfl) (fun _ _ d _ _ h => by cases d <;> exact h) ⟨c40, c41, c50, c51⟩ ?_
  repeat (first | (refine seq_read rfl (by rfl) _ (fun w' hS => by (try dsimp only at hS); go_simp; (try with_reducible rfl)) ?_; (try simp only [Act.put, List.setIfInBounds_toArray, List.set_cons_zero, List.set_cons_succ])) | (refine seq_skip rfl (by rfl) ?_; (try simp only [Act.put, List.setIfInBounds_toArray, List.set_cons_zero, List.set_cons_succ])))
  (refine seq_do rfl (by rfl) (fun K hK => ?_); go_simp)
  refine (alive_any _).mono ?_
  rintro e x1 ⟨rfl, hx1⟩
  have d140 := cellG c40 hx1; have d141 := cellG c41 hx1; have d150 := cellG c50 hx1; have d151 := cellG c51 hx1
  have hE1 := BT hD hx1
  refine hK _ _ ⟨d140, d141, d150, d151⟩ ?_
  clear hK K hD hx1 c40 c41 c50 c51
  repeat (first | (refine seq_read rfl (by rfl) _ (fun w' hS => by (try dsimp only at hS); go_simp; (try with_reducible rfl)) ?_; (try simp only [Act.put, List.setIfInBounds_toArray, List.set_cons_zero, List.set_cons_succ])) | (refine seq_skip rfl (by rfl) ?_; (try simp only [Act.put, List.setIfInBounds_toArray, List.set_cons_zero, List.set_cons_succ])))
  (refine seq_do rfl (by rfl) (fun K hK => ?_); go_simp)
  refine (spanL_any _ _ _).mono ?_
  rintro e x2 ⟨rfl, hx2⟩
  have d240 := cellG d140 hx2; have d241 := cellG d141 hx2; have d250 := cellG d150 hx2; have d251 := cellG d151 hx2
  have hE2 := BT hE1 hx2
  refine hK _ _ ⟨d240, d241, d250, d251⟩ ?_
  clear hK K hE1 hx2 d140 d141 d150 d151
  repeat (first | (refine seq_read rfl (by rfl) _ (fun w' hS => by (try dsimp only at hS); go_simp; (try with_reducible rfl)) ?_; (try simp only [Act.put, List.setIfInBounds_toArray, List.set_cons_zero, List.set_cons_succ])) | (refine seq_skip rfl (by rfl) ?_; (try simp only [Act.put, List.setIfInBounds_toArray, List.set_cons_zero, List.set_cons_succ])))
  (refine seq_do rfl (by rfl) (fun K hK => ?_); go_simp)
  refine (spanL_any _ _ _).mono ?_
  rintro e x3 ⟨rfl, hx3⟩
  have d340 := cellG d240 hx3; have d341 := cellG d241 hx3; have d350 := cellG d250 hx3; have d351 := cellG d251 hx3
  have hE3 := BT hE2 hx3
  refine hK _ _ ⟨d340, d341, d350, d351⟩ ?_
  clear hK K hE2 hx3 d240 d241 d250 d251
  repeat (first | (refine seq_read rfl (by rfl) _ (fun w' hS => by (try dsimp only at hS); go_simp; (try with_reducible rfl)) ?_; (try simp only [Act.put, List.setIfInBounds_toArray, List.set_cons_zero, List.set_cons_succ])) | (refine seq_skip rfl (by rfl) ?_; (try simp only [Act.put, List.setIfInBounds_toArray, List.set_cons_zero, List.set_cons_succ])))
  refine seq_end ?_
  go_wp2
  go_ret
  exact ⟨rfl, hE3⟩

end Go.Proofs.Ytmfbkgdlfackcaa
