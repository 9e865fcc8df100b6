/- Sums of spans, and the travels of a reading. -/
import Derived.Test.YtcfjakifeihbpaaGreatLeaf
import Derived.WalkSpells
import Derived.Deep.RegionHeld3
namespace Go.Proofs.YtcfjakifeihbpaaGreat
open Go.RowKit

def sumTo (f : Nat → Int) : Nat → Int
  | 0 => 0
  | k + 1 => wrap64 (sumTo f k + f k)

set_option maxHeartbeats 400000 in
theorem add_any (b : Nat) (f : Nat → Int) (w : World) (h0 : ∀ k, k < 6 → w.cell? ⟨b, k, none⟩ = some (.int .i64 (f k))) :
    Calls Tryz.prog 85 #[.slice (some ⟨b, 0, none⟩) 3 3] w (Ret (.agg #[.int .i64 (sumTo (fun k => f (2*k)) 3), .int .i64 (sumTo (fun k => f (2*k+1)) 3)]) w) := by
  have hbw : b < w.heap.size := World.block_lt_of_cell? w _ (h0 0 (by omega))
  have HB := Lib.hid h0; clear h0
  have HG : Hid (∀ k, sumTo (fun k => f (2*k)) (k+1) = wrap64 (sumTo (fun k => f (2*k)) k + f (2*k))) := fun k => rfl
  have HH : Hid (∀ k, sumTo (fun k => f (2*k+1)) (k+1) = wrap64 (sumTo (fun k => f (2*k+1)) k + f (2*k+1))) := fun k => rfl
  have g0 : Hid (sumTo (fun k => f (2*k)) 0 = 0) := rfl
  have g1 : Hid (sumTo (fun k => f (2*k+1)) 0 = 0) := rfl
  generalize sumTo (fun k => f (2*k)) = s at *
  generalize sumTo (fun k => f (2*k+1)) = t at *
  go_enter Tryz.func85, Tryz.ntmps85
  go_wp2
  go_loopw [9] (fun i wr => ∃ k : Nat, k ≤ 3 ∧ i = .int .i64 k ∧ Below w.heap.size w wr ∧ w.heap.size + 1 < wr.heap.size ∧ Slots w.heap.size 2 wr ∧
      wr.cell? ⟨w.heap.size + 1, 0, none⟩ = some (.int .i64 (s k)) ∧ wr.cell? ⟨w.heap.size + 1, 1, none⟩ = some (.int .i64 (t k)) ∧
      wr.frozen? ⟨w.heap.size + 1, 0, none⟩ = false ∧ wr.frozen? ⟨w.heap.size + 1, 1, none⟩ = false) (fun i _ => 3 - (intOf i).toNat)
  case atStart =>
    refine ⟨0, by omega, rfl, ((Below.refl _ _).alloc (Nat.le_refl _) _).alloc (by simp) _, by simp, ?_, ?_, ?_, ?_, ?_⟩
    · intro o ho
      have : o = 0 ∨ o = 1 := by omega
      rcases this with rfl | rfl <;> simp [go_sem]
    · rw [g0.out]; simp [go_sem]
    · rw [g1.out]; simp [go_sem]
    · simp [go_sem]
    · simp [go_sem]
  case round =>
    obtain ⟨k, hk, rfl, hB, hN, hS, ht0, ht1, hf0, hf1⟩ := hrel
    have HS := Lib.hid hS; clear hS
    by_cases hlt : k < 3
    · have hc0 := (hB.cell (p := ⟨b, 2*k, none⟩) hbw).trans (HB.out (2*k) (by omega))
      have hc1 := (hB.cell (p := ⟨b, 2*k+1, none⟩) hbw).trans (HB.out (2*k+1) (by omega))
      have hbr : b < wr.heap.size := by have := hB.size; omega
      have e2 : 2 * k = k * 2 := by omega
      rw [e2] at hc0 hc1
      have HK := Lib.hid (HG.out k)
      have HL := Lib.hid (HH.out k)
      rw [e2] at HK HL
      clear e2
      go_wp2
      go_roundw
      case rel =>
        have hS := HS.out
        refine ⟨k + 1, by omega, by go_num, ?_, (by (first | omega | (simp; done) | (simp; omega))), ?_, ?_, ?_, ?_, ?_⟩
        · (repeat (first | assumption | exact Below.refl _ _ | refine BA ?_ _ | refine BC ?_ _ _ (by omega) _ | refine Below.drew ?_ | refine BT ?_ (by assumption)))
        · (repeat (first | assumption | refine Slots.alloc ?_ (by (first | omega | (simp; done) | (simp; omega))) _ | refine Slots.set ?_ _ _ | refine Slots.drew ?_ | refine Slots.below ?_ (by assumption) (by (first | omega | (simp; done) | (simp; omega)))))
        · rw [HK.out]; simp [go_sem, ht0, hN]
        · rw [HL.out]; simp [go_sem, ht1, hN]
        · rw [World.frozen?_alloc_old _ _ _ (by first | omega | (simp; omega)), World.frozen?_setCell, World.frozen?_setCell]; exact hf0
        · rw [World.frozen?_alloc_old _ _ _ (by first | omega | (simp; omega)), World.frozen?_setCell, World.frozen?_setCell]; exact hf1
      case measure => simp [intOf]; omega
    · obtain rfl : k = 3 := by omega
      obtain ⟨x0, hx0, hxf0⟩ := HS.out.get 0 (by omega)
      obtain ⟨x1, hx1, hxf1⟩ := HS.out.get 1 (by omega)
      go_wp2
      refine bodyPost_ret (v := .agg #[.int .i64 (s 3), .int .i64 (t 3)]) (by simp [results, Tryz.results85, go_sem, hx0, hx1]) rfl ⟨rfl, ?_⟩
      (repeat (first | assumption | exact Below.refl _ _ | refine BA ?_ _ | refine BC ?_ _ _ (by omega) _ | refine Below.drew ?_ | refine BT ?_ (by assumption)))

theorem quo1000 (r : Int) (h0 : 0 ≤ r) (h1 : r ≤ 9223372036854775807) : IntKind.i64.wrap (r.tdiv 1000) = r / 1000 := by
  rw [Int.tdiv_eq_ediv_of_nonneg h0]
  exact IntWalk.i64_in _ (by omega)

/-- The travels of a reading, as both ends. -/
def trav (r lo eLo : Int) : Int := wrap64 (wrap64 (wrap64 (0 + r) + lo) + eLo)

theorem six_new (w : World) (T : TypeId) (a b c d e f : Int) : ∀ k, k < 6 → (w.alloc (.cells #[.int .i64 a, .int .i64 b, .int .i64 c, .int .i64 d, .int .i64 e, .int .i64 f] T)).cell? ⟨w.heap.size, k, none⟩ =
    some (.int .i64 ((fun k => if k = 0 then a else if k = 1 then b else if k = 2 then c else if k = 3 then d else if k = 4 then e else f) k)) := by
  intro k hk
  rw [World.cell?_alloc_new]
  have : k = 0 ∨ k = 1 ∨ k = 2 ∨ k = 3 ∨ k = 4 ∨ k = 5 := by omega
  rcases this with rfl | rfl | rfl | rfl | rfl | rfl <;> rfl

set_option maxHeartbeats 1000000 in
theorem travel_any (b o n cap q : Nat) (r eLo eHi lo hi : Int) (w : World) (h0 : 0 ≤ r) (hr : r ≤ 9223372036854775807) (hq : r / 1000 = q) (h1 : q < n)
   (hb : b < w.heap.size)
   (hc1 : w.cell? ⟨b, o + q * 2, none⟩ = some (.int .i64 lo)) (hc2 : w.cell? ⟨b, o + q * 2 + 1, none⟩ = some (.int .i64 hi)) :
    Calls Tryz.prog 59 #[.agg #[.slice (some ⟨b, o, none⟩) n cap, .int .i64 eLo, .int .i64 eHi], .int .i64 r] w
     (Ret (.agg #[.int .i64 (trav r lo eLo), .int .i64 (trav r hi eHi)]) w) := by
  have h2 := quo1000 r h0 hr
  rw [hq] at h2
  clear hq h0 hr
  have h3 : (q : Int) < (n : Int) := by omega
  have h4 : (0 : Int) ≤ (q : Int) := by omega
  go_enter Tryz.func59, Tryz.ntmps59
  go_wp2_with fail
  obtain ⟨W, hW⟩ : ∃ W, (w.alloc (Obj.cells #[Value.slice (some { block := b, off := o }) n cap, Value.int IntKind.i64 eLo, Value.int IntKind.i64 eHi] 26)).alloc (Obj.cells #[Value.int IntKind.i64 0, Value.int IntKind.i64 0] 90) = W := ⟨_, rfl⟩
  have s0 : W.heap.size = w.heap.size + 2 := by rw [← hW]; simp
  have c0 : W.cell? ⟨w.heap.size, 0, none⟩ = some (.slice (some { block := b, off := o }) n cap) := by rw [← hW]; simp [go_sem]
  have c1 : W.cell? ⟨w.heap.size, 1, none⟩ = some (.int .i64 eLo) := by rw [← hW]; simp [go_sem]
  have c2 : W.cell? ⟨w.heap.size, 2, none⟩ = some (.int .i64 eHi) := by rw [← hW]; simp [go_sem]
  have c3 : W.cell? ⟨b, o + q * 2, none⟩ = some (.int .i64 lo) := by rw [← hW]; simp [go_sem, hc1, hb]
  have c4 : W.cell? ⟨b, o + q * 2 + 1, none⟩ = some (.int .i64 hi) := by rw [← hW]; simp [go_sem, hc2, hb]
  have hBW : Below w.heap.size w W := by rw [← hW]; (repeat (first | assumption | exact Below.refl _ _ | refine BA ?_ _ | refine BC ?_ _ _ (by omega) _ | refine Below.drew ?_ | refine BT ?_ (by assumption)))
  have hres : Slots (w.heap.size + 1) 2 W := by
    rw [← hW]; intro o ho
    have : o = 0 ∨ o = 1 := by omega
    rcases this with rfl | rfl <;> simp [go_sem]
  have hk0 : Kept (w.heap.size + 1) 2 W W.drew := ⟨⟨(by (first | omega | (simp; done) | (simp; omega))), fun _ _ _ => rfl⟩, hres, (by (first | omega | (simp; done) | (simp; omega)))⟩
  clear hres
  rw [hW]
  clear hc1 hc2
  have hb0 : b < w.heap.size + 1 := by omega
  go_region_held3 (fun w' => (w.heap.size + 1 ≤ w'.heap.size ∧ ∀ b' o', b' < w.heap.size + 1 → w'.cell? ⟨b', o', none⟩ = W.cell? ⟨b', o', none⟩) ∧ Slots (w.heap.size + 1) 2 w' ∧ w.heap.size + 1 < w'.heap.size)
    (first | exact hk0 | exact hkk | exact Kept.by (by assumption) (by assumption) | exact Kept.alloc (by assumption) _ | exact Kept.set (Kept.set (by assumption) _ _) _ _ | go_keep)
    (first | (go_at_call 84; refine (known_any _ _ _).mono ?_; rintro e w1 ⟨rfl, hb1⟩)
           | (go_at_call 85; refine (add_any _ (fun k => if k = 0 then r else if k = 1 then r else if k = 2 then lo else if k = 3 then hi else if k = 4 then eLo else eHi) _ (six_new _ _ _ _ _ _ _ _)).mono ?_; rintro e w2 ⟨rfl, hb2⟩; have hkk := Kept.by hb2 (by assumption); obtain ⟨x0, hx0, hf0⟩ := hkk.get 0 (by omega); obtain ⟨x1, hx1, hf1⟩ := hkk.get 1 (by omega)))
  go_wp2
  refine bodyPost_ret (v := .agg #[.int .i64 (trav r lo eLo), .int .i64 (trav r hi eHi)]) ?_ rfl ⟨rfl, ?_⟩
  · simp [results, Tryz.results59, go_sem, hx0, hx1]
    exact ⟨rfl, rfl⟩
  · (repeat (first | assumption | exact Below.refl _ _ | refine BA ?_ _ | refine BC ?_ _ _ (by omega) _ | refine Below.drew ?_ | refine BT ?_ (by assumption)))
end Go.Proofs.YtcfjakifeihbpaaGreat
