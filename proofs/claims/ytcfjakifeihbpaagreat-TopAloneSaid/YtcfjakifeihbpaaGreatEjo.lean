/- Eye: two spans joined. -/
import Derived.Test.YtcfjakifeihbpaaGreatEmb
import Derived.LoopTactic
namespace Go.Proofs.YtcfjakifeihbpaaGreat
namespace Ey
open Go.RowKit

theorem slots2_new (w : World) (a b : Int) (t : TypeId) : Slots w.heap.size 2 (w.alloc (.cells #[.int .i64 a, .int .i64 b] t)) := by
  intro o ho
  have : o = 0 ∨ o = 1 := by omega
  rcases this with rfl | rfl <;> simp [go_sem]
def maxJ (a c : Int) : Int := if a < c then c else a
def minJ (b d : Int) : Int := if d < b then d else b
set_option maxRecDepth 100000 in
set_option maxHeartbeats 2000000 in
theorem join_any (a b c d : Int) (g : Nat) (w : World) (h0 : w.cell? ⟨g, 0, none⟩ = some (.int .i64 c)) (h1 : w.cell? ⟨g, 1, none⟩ = some (.int .i64 d)) :
    Calls Tryz.prog 91 #[.agg #[.int .i64 a, .int .i64 b], .slice (some ⟨g, 0, none⟩) 1 1] w (Ret (.agg #[.int .i64 (maxJ a c), .int .i64 (minJ b d)]) w) := by
  have hmx : (if a < c then c else a) = maxJ a c := rfl
  have hmn : (if d < b then d else b) = minJ b d := rfl
  generalize maxJ a c = mx at *
  generalize minJ b d = mn at *
  have hZ := newB w (.cells #[.int .i64 a, .int .i64 b] 24)
  have hZ2 := newB (w.alloc (.cells #[.int .i64 a, .int .i64 b] 24)) (.cells #[.int .i64 0, .int .i64 0] 24)
  have hB := BT hZ hZ2
  have s1 := (slots2_new w a b 24).below hZ2 (by simp)
  have s2 := slots2_new (w.alloc (.cells #[.int .i64 a, .int .i64 b] 24)) 0 0 24
  have q0 : ((w.alloc (.cells #[.int .i64 a, .int .i64 b] 24)).alloc (.cells #[.int .i64 0, .int .i64 0] 24)).cell? ⟨w.heap.size, 0, none⟩ = some (.int .i64 a) := by simp [go_sem]
  have q1 : ((w.alloc (.cells #[.int .i64 a, .int .i64 b] 24)).alloc (.cells #[.int .i64 0, .int .i64 0] 24)).cell? ⟨w.heap.size, 1, none⟩ = some (.int .i64 b) := by simp [go_sem]
  rw [show (w.alloc (.cells #[.int .i64 a, .int .i64 b] 24)).heap.size = w.heap.size + 1 by simp] at s2
  have hg0 := World.block_lt_of_cell? _ _ h0
  have hl2 : w.heap.size + 1 < ((w.alloc (.cells #[.int .i64 a, .int .i64 b] 24)).alloc (.cells #[.int .i64 0, .int .i64 0] 24)).heap.size := by simp
  have HM := Lib.hid hmx
  have HN := Lib.hid hmn
  have H0 := Lib.hid h0
  have H1 := Lib.hid h1
  clear hZ hZ2 hmx hmn h0 h1
  go_enter Tryz.func91, Tryz.ntmps91
  go_wp2_with fail
  have hw : Hid (w.heap.size = w.heap.size) := rfl
  generalize hBB : w.heap.size = BB at s1 s2 q0 q1 hl2 ⊢
  generalize (w.alloc (.cells #[.int .i64 a, .int .i64 b] 24)).alloc (.cells #[.int .i64 0, .int .i64 0] 24) = W at hB s1 s2 q0 q1 hl2 ⊢
  have hwB : w.heap.size ≤ BB := by omega
  have hgB : g < BB := by have : g < w.heap.size := hg0; omega
  have HBB := Lib.hid hBB
  clear hBB hw
  go_loopw [9] (fun i wr => ∃ (k : Nat) (u v : Int), k ≤ 1 ∧ i = .int .i64 k ∧ (k = 0 → u = a ∧ v = b) ∧ (k = 1 → u = mx ∧ v = mn) ∧ wr.cell? ⟨BB, 0, none⟩ = some (.int .i64 u) ∧ wr.cell? ⟨BB, 1, none⟩ = some (.int .i64 v) ∧ Hid (Slots BB 2 wr) ∧ Hid (Slots (BB + 1) 2 wr) ∧ Below w.heap.size w wr ∧ BB + 1 < wr.heap.size) (fun i _ => 1 - (intOf i).toNat)
  case atStart => exact ⟨0, a, b, by omega, rfl, fun _ => ⟨rfl, rfl⟩, (fun h => by cases h), q0, q1, s1, s2, hB, hl2⟩
  case round =>
    clear q0 q1 s1 s2 hB hl2
    obtain ⟨k, u, v, hk, rfl, hk0, hk1, q0, q1, s1, s2, hB, hl2⟩ := hrel
    have hkk : k = 0 ∨ k = 1 := by omega
    rcases hkk with rfl | rfl
    · obtain ⟨rfl, rfl⟩ := hk0 rfl
      have e0 := (hB.cell (p := ⟨g, 0, none⟩) hg0).trans H0.out
      have e1 := (hB.cell (p := ⟨g, 1, none⟩) hg0).trans H1.out
      obtain ⟨u0, p0, f0⟩ := s1.out.get 0 (by omega)
      obtain ⟨u1, p1, f1⟩ := s1.out.get 1 (by omega)
      have hx := HM.out
      have hn := HN.out
      have hl3 : BB < wr.heap.size := by omega
      have hD := newB ((wr.setCell ⟨BB, 0, none⟩ (.int .i64 mx)).setCell ⟨BB, 1, none⟩ (.int .i64 mn)) (.cells #[.int .i64 c, .int .i64 d] 24)
      have hsz : ((wr.setCell ⟨BB, 0, none⟩ (.int .i64 mx)).setCell ⟨BB, 1, none⟩ (.int .i64 mn)).heap.size = wr.heap.size := by simp
      have t1 := Lib.hid (((s1.out.set ⟨BB, 0, none⟩ (.int .i64 mx)).set ⟨BB, 1, none⟩ (.int .i64 mn)).below hD (by omega))
      have t2 := Lib.hid (((s2.out.set ⟨BB, 0, none⟩ (.int .i64 mx)).set ⟨BB, 1, none⟩ (.int .i64 mn)).below hD (by omega))
      have hE : Below w.heap.size w (((wr.setCell ⟨BB, 0, none⟩ (.int .i64 mx)).setCell ⟨BB, 1, none⟩ (.int .i64 mn)).alloc (.cells #[.int .i64 c, .int .i64 d] 24)) := BT (BC (BC hB BB 0 hwB _) BB 1 hwB _) hD
      have r0 : (((wr.setCell ⟨BB, 0, none⟩ (.int .i64 mx)).setCell ⟨BB, 1, none⟩ (.int .i64 mn)).alloc (.cells #[.int .i64 c, .int .i64 d] 24)).cell? ⟨BB, 0, none⟩ = some (.int .i64 mx) := by
        refine cellB ?_ hD
        rw [World.cell?_setCell_other _ _ _ _ (by intro he; injection he; omega)]
        exact World.cell?_setCell_same _ _ _ q0
      have r1 : (((wr.setCell ⟨BB, 0, none⟩ (.int .i64 mx)).setCell ⟨BB, 1, none⟩ (.int .i64 mn)).alloc (.cells #[.int .i64 c, .int .i64 d] 24)).cell? ⟨BB, 1, none⟩ = some (.int .i64 mn) := by
        refine cellB ?_ hD
        refine World.cell?_setCell_same _ _ _ (u := .int .i64 v) ?_
        rw [World.cell?_setCell_other _ _ _ _ (by intro he; injection he; omega)]
        exact q1
      have hl4 : BB + 1 < (((wr.setCell ⟨BB, 0, none⟩ (.int .i64 mx)).setCell ⟨BB, 1, none⟩ (.int .i64 mn)).alloc (.cells #[.int .i64 c, .int .i64 d] 24)).heap.size := by simp; omega
      have R0 := Lib.hid r0
      have R1 := Lib.hid r1
      have HE := Lib.hid hE
      have HL := Lib.hid hl4
      clear r0 r1 hE hl4 hD s1 s2 hk0 hk1 hsz
      go_wp2
      go_roundw
      case rel => exact ⟨1, mx, mn, by omega, by go_num, (fun h => by cases h), (fun _ => ⟨rfl, rfl⟩), R0.out, R1.out, t1, t2, HE.out, HL.out⟩
      case measure => simp [intOf]
    · obtain ⟨rfl, rfl⟩ := hk1 rfl
      obtain ⟨u0, p0, f0⟩ := s2.out.get 0 (by omega)
      obtain ⟨u1, p1, f1⟩ := s2.out.get 1 (by omega)
      have hw2 : w.heap.size ≤ BB + 1 := by omega
      have hfin : Below w.heap.size w ((wr.setCell ⟨BB + 1, 0, none⟩ (.int .i64 u)).setCell ⟨BB + 1, 1, none⟩ (.int .i64 v)) := BC (BC hB (BB + 1) 0 hw2 _) (BB + 1) 1 hw2 _
      go_wp2
      exact bodyPost_ret (v := .agg #[.int .i64 u, .int .i64 v]) (by simp [results, Tryz.results91, go_sem, p0, p1]) rfl ⟨rfl, hfin⟩
end Ey
end Go.Proofs.YtcfjakifeihbpaaGreat
