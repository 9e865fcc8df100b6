/- Plate: the closures that are asked in all truths of a scale. -/
import Derived.Test.YtdkegkacpdkjgaaGreatPap
import Derived.Test.YtdkegkacpdkjgaaGreatPfi
namespace Go.Proofs.YtdkegkacpdkjgaaGreat
open Go.RowKit

set_option maxRecDepth 100000 in
set_option maxHeartbeats 2000000 in
theorem scaleC_any (d : Bool) (sc lo hi : Int) (p : Pl) (w : World) : Calls Tryz.prog 103 #[.agg (viewV p d sc lo hi)] w (Ret (.agg #[.int .i64 sc, .int .i64 sc]) w) := by
  unfold viewV
  generalize dirF d = f at *
  unfold sideV
  simp only [List.append_toArray, List.cons_append, List.nil_append]
  have hst := @store_fn Tryz.prog
  go_enter Tryz.func103, Tryz.ntmps103
  go_wp2_with fail
  obtain ⟨W, hW⟩ : ∃ W, (w.alloc (.cells #[.int .i64 p.lo, .int .i64 p.hi, .slice p.a p.n p.cap, .func (.func f) #[] #[], .int .i64 sc, .int .i64 lo, .int .i64 hi] 84)).alloc (.cells #[.int .i64 0, .int .i64 0] 23) = W := ⟨_, rfl⟩
  have hsl : Slots (w.heap.size + 1) 2 W := by
    rw [← hW]; intro o ho
    have : o = 0 ∨ o = 1 := by omega
    rcases this with rfl | rfl <;> simp [go_sem]
  have hB00 : Below w.heap.size w W := by rw [← hW]; exact BA (BA (Below.refl _ _) _) _
  have hTlt : w.heap.size + 1 < W.heap.size := by rw [← hW]; simp
  have HBX : BoxV W w.heap.size p f sc lo hi := by
    have : BoxV (w.alloc (.cells #[.int .i64 p.lo, .int .i64 p.hi, .slice p.a p.n p.cap, .func (.func f) #[] #[], .int .i64 sc, .int .i64 lo, .int .i64 hi] 84)) w.heap.size p f sc lo hi := ⟨by simp [go_sem], by simp [go_sem], by simp [go_sem], by simp [go_sem], by simp [go_sem], by simp [go_sem], by simp [go_sem]⟩
    rw [← hW]; exact this.grown (newB _ _)
  obtain ⟨b0, b1, b2, b3, b4, b5, b6⟩ := HBX
  rw [hW]
  clear hW
  refine (only_any sc W).mono ?_
  rintro e X ⟨rfl, hX⟩
  have hsl := hsl.below hX hTlt
  have hB3 := BT hB00 hX
  obtain ⟨x0, q0, z0⟩ := hsl.get 0 (by omega)
  obtain ⟨x1, q1, z1⟩ := hsl.get 1 (by omega)
  have hfin := (BC (BC hB3 (w.heap.size + 1) 0 (by omega) (.int .i64 (sc))) (w.heap.size + 1) 1 (by omega) (.int .i64 (sc)))
  clear hsl hB3 hX
  go_wp2_with fail
  exact bodyPost_ret (v := .agg #[.int .i64 (sc), .int .i64 (sc)]) (by simp [results, Tryz.results103, go_sem, q0, q1]) rfl ⟨rfl, hfin⟩
set_option maxRecDepth 100000 in
set_option maxHeartbeats 2000000 in
theorem zeroC_any (d : Bool) (sc lo hi : Int) (p : Pl) (w : World) : Calls Tryz.prog 44 #[.agg (viewV p d sc lo hi)] w (Ret (.agg #[.int .i64 lo, .int .i64 hi]) w) := by
  unfold viewV
  generalize dirF d = f at *
  unfold sideV
  simp only [List.append_toArray, List.cons_append, List.nil_append]
  have hst := @store_fn Tryz.prog
  go_enter Tryz.func44, Tryz.ntmps44
  go_wp2
  exact bodyPost_ret (v := .agg #[.int .i64 lo, .int .i64 hi]) (by simp [results, Tryz.results44, go_sem]) rfl ⟨rfl, (by (repeat (first | assumption | exact Below.refl _ _ | refine BA ?_ _ | refine BC ?_ _ _ (by first | omega | (simp; done) | (simp; omega)) _ | refine Below.drew ?_ | refine BT ?_ (by assumption))))⟩
set_option maxRecDepth 100000 in
set_option maxHeartbeats 2000000 in
theorem starC_any (d : Bool) (sc lo hi : Int) (p : Pl) (ss : List St) (i C : Nat) (w : World) (h : PlAt p ss w) (hok : PlOk p ss) (hi' : i < ss.length) (hs0 : 0 ≤ sc) (hs1 : sc ≤ 1000) (hl : -100000000 ≤ lo ∧ lo ≤ 100000000) (hh : -100000000 ≤ hi ∧ hi ≤ 100000000) (hc : w.cell? ⟨C, 0, none⟩ = some (.int .i64 i)) :
    Calls Tryz.prog 51 #[.agg (viewV p d sc lo hi), .pointer (some ⟨C, 0, none⟩)] w (Ret (.agg #[.int .i64 (plS sc lo hi (ss.getD i default) d).1, .int .i64 (plS sc lo hi (ss.getD i default) d).2]) w) := by
  have HP : Hid (∀ Y, Below w.heap.size w Y → Calls Tryz.prog 52 #[.agg (viewV p d sc lo hi), .int .i64 i] Y (Ret (.agg #[.int .i64 (plS sc lo hi (ss.getD i default) d).1, .int .i64 (plS sc lo hi (ss.getD i default) d).2]) Y)) := fun Y hY => place_any d sc lo hi p ss i Y (h.below hY (Nat.le_refl _)) hok hi' hs0 hs1 hl hh
  clear h hok hi' hl hh
  generalize plS sc lo hi (ss.getD i default) d = r at *
  unfold viewV at HP
  have hst := @store_fn Tryz.prog
  have hcX : Hid (∀ Y, Below w.heap.size w Y → Y.cell? ⟨C, 0, none⟩ = some (.int .i64 i)) := fun Y hY => cellB hc hY
  unfold viewV
  generalize dirF d = f at *
  unfold sideV at HP ⊢
  simp only [List.append_toArray, List.cons_append, List.nil_append] at HP ⊢
  obtain ⟨W, hW⟩ : ∃ W, (w.alloc (.cells #[.int .i64 p.lo, .int .i64 p.hi, .slice p.a p.n p.cap, .func (.func f) #[] #[], .int .i64 sc, .int .i64 lo, .int .i64 hi] 84)).alloc (.cells #[.int .i64 0, .int .i64 0] 23) = W := ⟨_, rfl⟩
  have hsl : Slots (w.heap.size + 1) 2 W := by
    rw [← hW]; intro o ho
    have : o = 0 ∨ o = 1 := by omega
    rcases this with rfl | rfl <;> simp [go_sem]
  have hB00 : Below w.heap.size w W := by rw [← hW]; exact BA (BA (Below.refl _ _) _) _
  have hTlt : w.heap.size + 1 < W.heap.size := by rw [← hW]; simp
  have HBX : BoxV W w.heap.size p f sc lo hi := by
    have : BoxV (w.alloc (.cells #[.int .i64 p.lo, .int .i64 p.hi, .slice p.a p.n p.cap, .func (.func f) #[] #[], .int .i64 sc, .int .i64 lo, .int .i64 hi] 84)) w.heap.size p f sc lo hi := ⟨by simp [go_sem], by simp [go_sem], by simp [go_sem], by simp [go_sem], by simp [go_sem], by simp [go_sem], by simp [go_sem]⟩
    rw [← hW]; exact this.grown (newB _ _)
  obtain ⟨b0, b1, b2, b3, b4, b5, b6⟩ := HBX
  have hcW := hcX.out W hB00
  clear hc
  go_enter Tryz.func51, Tryz.ntmps51
  go_wp2_with fail
  clear hW
  refine (HP.out W hB00).mono ?_
  rintro e X ⟨rfl, hX⟩
  have hsl := hsl.below hX hTlt
  have hB3 := BT hB00 hX
  obtain ⟨x0, q0, z0⟩ := hsl.get 0 (by omega)
  obtain ⟨x1, q1, z1⟩ := hsl.get 1 (by omega)
  have hfin := (BC (BC hB3 (w.heap.size + 1) 0 (by omega) (.int .i64 (r.1))) (w.heap.size + 1) 1 (by omega) (.int .i64 (r.2)))
  clear hsl hB3 hX
  go_wp2_with fail
  exact bodyPost_ret (v := .agg #[.int .i64 (r.1), .int .i64 (r.2)]) (by simp [results, Tryz.results51, go_sem, q0, q1]) rfl ⟨rfl, hfin⟩
set_option maxRecDepth 100000 in
set_option maxHeartbeats 2000000 in
theorem poorC_any (d : Bool) (sc lo hi : Int) (p : Pl) (ss : List St) (i C : Nat) (w : World) (h : PlAt p ss w) (hok : PlOk p ss) (hi' : i < ss.length) (hs0 : 0 ≤ sc) (hs1 : sc ≤ 1000) (hl : -100000000 ≤ lo ∧ lo ≤ 100000000) (hh : -100000000 ≤ hi ∧ hi ≤ 100000000) (hc : w.cell? ⟨C, 0, none⟩ = some (.int .i64 i)) :
    Calls Tryz.prog 80 #[.agg (viewV p d sc lo hi), .pointer (some ⟨C, 0, none⟩)] w (Ret (.agg #[.int .i64 (plS sc lo hi (ss.getD i default) d).1, .int .i64 (plS sc lo hi (ss.getD i default) d).2]) w) := by
  have HP : Hid (∀ Y, Below w.heap.size w Y → Calls Tryz.prog 52 #[.agg (viewV p d sc lo hi), .int .i64 i] Y (Ret (.agg #[.int .i64 (plS sc lo hi (ss.getD i default) d).1, .int .i64 (plS sc lo hi (ss.getD i default) d).2]) Y)) := fun Y hY => place_any d sc lo hi p ss i Y (h.below hY (Nat.le_refl _)) hok hi' hs0 hs1 hl hh
  clear h hok hi' hl hh
  generalize plS sc lo hi (ss.getD i default) d = r at *
  unfold viewV at HP
  have hst := @store_fn Tryz.prog
  have hcX : Hid (∀ Y, Below w.heap.size w Y → Y.cell? ⟨C, 0, none⟩ = some (.int .i64 i)) := fun Y hY => cellB hc hY
  unfold viewV
  generalize dirF d = f at *
  unfold sideV at HP ⊢
  simp only [List.append_toArray, List.cons_append, List.nil_append] at HP ⊢
  obtain ⟨W, hW⟩ : ∃ W, (w.alloc (.cells #[.int .i64 p.lo, .int .i64 p.hi, .slice p.a p.n p.cap, .func (.func f) #[] #[], .int .i64 sc, .int .i64 lo, .int .i64 hi] 84)).alloc (.cells #[.int .i64 0, .int .i64 0] 23) = W := ⟨_, rfl⟩
  have hsl : Slots (w.heap.size + 1) 2 W := by
    rw [← hW]; intro o ho
    have : o = 0 ∨ o = 1 := by omega
    rcases this with rfl | rfl <;> simp [go_sem]
  have hB00 : Below w.heap.size w W := by rw [← hW]; exact BA (BA (Below.refl _ _) _) _
  have hTlt : w.heap.size + 1 < W.heap.size := by rw [← hW]; simp
  have HBX : BoxV W w.heap.size p f sc lo hi := by
    have : BoxV (w.alloc (.cells #[.int .i64 p.lo, .int .i64 p.hi, .slice p.a p.n p.cap, .func (.func f) #[] #[], .int .i64 sc, .int .i64 lo, .int .i64 hi] 84)) w.heap.size p f sc lo hi := ⟨by simp [go_sem], by simp [go_sem], by simp [go_sem], by simp [go_sem], by simp [go_sem], by simp [go_sem], by simp [go_sem]⟩
    rw [← hW]; exact this.grown (newB _ _)
  obtain ⟨b0, b1, b2, b3, b4, b5, b6⟩ := HBX
  have hcW := hcX.out W hB00
  clear hc
  go_enter Tryz.func80, Tryz.ntmps80
  go_wp2_with fail
  clear hW
  refine (HP.out W hB00).mono ?_
  rintro e X ⟨rfl, hX⟩
  have hsl := hsl.below hX hTlt
  have hB3 := BT hB00 hX
  obtain ⟨x0, q0, z0⟩ := hsl.get 0 (by omega)
  obtain ⟨x1, q1, z1⟩ := hsl.get 1 (by omega)
  have hfin := (BC (BC hB3 (w.heap.size + 1) 0 (by omega) (.int .i64 (r.1))) (w.heap.size + 1) 1 (by omega) (.int .i64 (r.2)))
  clear hsl hB3 hX
  go_wp2_with fail
  exact bodyPost_ret (v := .agg #[.int .i64 (r.1), .int .i64 (r.2)]) (by simp [results, Tryz.results80, go_sem, q0, q1]) rfl ⟨rfl, hfin⟩
set_option maxRecDepth 100000 in
set_option maxHeartbeats 2000000 in
theorem apartC_any (d : Bool) (sc lo hi : Int) (p : Pl) (ss : List St) (i j C D : Nat) (w : World) (h : PlAt p ss w) (hok : PlOk p ss) (hi' : i < ss.length) (hj' : j < ss.length) (hs0 : 0 ≤ sc) (hs1 : sc ≤ 1000) (hl : -100000000 ≤ lo ∧ lo ≤ 100000000) (hh : -100000000 ≤ hi ∧ hi ≤ 100000000) (hc : w.cell? ⟨C, 0, none⟩ = some (.int .i64 i)) (hd : w.cell? ⟨D, 0, none⟩ = some (.int .i64 j)) (r : Int × Int) (hr : r = if i = j then (0, 0) else apS sc lo hi (ss.getD i default) (ss.getD j default) d) :
    Calls Tryz.prog 56 #[.agg (viewV p d sc lo hi), .pointer (some ⟨C, 0, none⟩), .pointer (some ⟨D, 0, none⟩)] w (Ret (.agg #[.int .i64 r.1, .int .i64 r.2]) w) := by
  have HP : Hid (∀ Y, Below w.heap.size w Y → Calls Tryz.prog 57 #[.agg (viewV p d sc lo hi), .int .i64 i, .int .i64 j] Y (Ret (.agg #[.int .i64 r.1, .int .i64 r.2]) Y)) := fun Y hY => by
    have := apart_any d sc lo hi p ss i j Y (h.below hY (Nat.le_refl _)) hok hi' hj' hs0 hs1 hl hh
    rw [hr]
    by_cases e : i = j
    · rw [if_pos e] at this ⊢; exact this
    · rw [if_neg e] at this ⊢; exact this
  clear h hok hi' hj' hl hh hr
  unfold viewV at HP
  have hst := @store_fn Tryz.prog
  have hcX : Hid (∀ Y, Below w.heap.size w Y → Y.cell? ⟨C, 0, none⟩ = some (.int .i64 i) ∧ Y.cell? ⟨D, 0, none⟩ = some (.int .i64 j)) := fun Y hY => ⟨cellB hc hY, cellB hd hY⟩
  unfold viewV
  generalize dirF d = f at *
  unfold sideV at HP ⊢
  simp only [List.append_toArray, List.cons_append, List.nil_append] at HP ⊢
  obtain ⟨W, hW⟩ : ∃ W, (w.alloc (.cells #[.int .i64 p.lo, .int .i64 p.hi, .slice p.a p.n p.cap, .func (.func f) #[] #[], .int .i64 sc, .int .i64 lo, .int .i64 hi] 84)).alloc (.cells #[.int .i64 0, .int .i64 0] 23) = W := ⟨_, rfl⟩
  have hsl : Slots (w.heap.size + 1) 2 W := by
    rw [← hW]; intro o ho
    have : o = 0 ∨ o = 1 := by omega
    rcases this with rfl | rfl <;> simp [go_sem]
  have hB00 : Below w.heap.size w W := by rw [← hW]; exact BA (BA (Below.refl _ _) _) _
  have hTlt : w.heap.size + 1 < W.heap.size := by rw [← hW]; simp
  have HBX : BoxV W w.heap.size p f sc lo hi := by
    have : BoxV (w.alloc (.cells #[.int .i64 p.lo, .int .i64 p.hi, .slice p.a p.n p.cap, .func (.func f) #[] #[], .int .i64 sc, .int .i64 lo, .int .i64 hi] 84)) w.heap.size p f sc lo hi := ⟨by simp [go_sem], by simp [go_sem], by simp [go_sem], by simp [go_sem], by simp [go_sem], by simp [go_sem], by simp [go_sem]⟩
    rw [← hW]; exact this.grown (newB _ _)
  obtain ⟨b0, b1, b2, b3, b4, b5, b6⟩ := HBX
  obtain ⟨hcW, hdW⟩ := hcX.out W hB00
  clear hc hd
  go_enter Tryz.func56, Tryz.ntmps56
  go_wp2_with fail
  clear hW
  refine (HP.out W hB00).mono ?_
  rintro e X ⟨rfl, hX⟩
  have hsl := hsl.below hX hTlt
  have hB3 := BT hB00 hX
  obtain ⟨x0, q0, z0⟩ := hsl.get 0 (by omega)
  obtain ⟨x1, q1, z1⟩ := hsl.get 1 (by omega)
  have hfin := (BC (BC hB3 (w.heap.size + 1) 0 (by omega) (.int .i64 (r.1))) (w.heap.size + 1) 1 (by omega) (.int .i64 (r.2)))
  clear hsl hB3 hX
  go_wp2_with fail
  exact bodyPost_ret (v := .agg #[.int .i64 (r.1), .int .i64 (r.2)]) (by simp [results, Tryz.results56, go_sem, q0, q1]) rfl ⟨rfl, hfin⟩
set_option maxRecDepth 100000 in
set_option maxHeartbeats 2000000 in
theorem findC_any (d : Bool) (sc lo hi : Int) (p : Pl) (s : St) (C : Nat) (w : World) (hs0 : 1 ≤ sc) (hs1 : sc ≤ 1000) (hl : -100000000 ≤ lo ∧ lo ≤ 100000000) (hh : -100000000 ≤ hi ∧ hi ≤ 100000000)
    (hk0 : -100000000 ≤ (s.sky d).1 ∧ (s.sky d).1 ≤ 100000000) (hk1 : -100000000 ≤ (s.sky d).2 ∧ (s.sky d).2 ≤ 100000000) (hc : StAt s C 0 w) :
    Calls Tryz.prog 64 #[.agg (viewV p d sc lo hi), .pointer (some ⟨C, 0, none⟩)] w (Ret (.agg #[.int .i64 (fiS sc lo hi s d).1, .int .i64 (fiS sc lo hi s d).2]) w) := by
  have HP : Hid (∀ Y, Calls Tryz.prog 65 #[.agg (viewV p d sc lo hi), .agg s.cells] Y (Ret (.agg #[.int .i64 (fiS sc lo hi s d).1, .int .i64 (fiS sc lo hi s d).2]) Y)) := fun Y => find_any d sc lo hi p s Y hs0 hs1 hl hh hk0 hk1
  clear hl hh hk0 hk1
  generalize fiS sc lo hi s d = r at *
  unfold viewV St.cells at HP
  have hst := @store_fn Tryz.prog
  have hcX : Hid (∀ Y, Below w.heap.size w Y → StAt s C 0 Y) := fun Y hY => hc.below hY hc.lt
  unfold viewV
  generalize dirF d = f at *
  unfold sideV at HP ⊢
  simp only [List.append_toArray, List.cons_append, List.nil_append] at HP ⊢
  obtain ⟨W, hW⟩ : ∃ W, (w.alloc (.cells #[.int .i64 p.lo, .int .i64 p.hi, .slice p.a p.n p.cap, .func (.func f) #[] #[], .int .i64 sc, .int .i64 lo, .int .i64 hi] 84)).alloc (.cells #[.int .i64 0, .int .i64 0] 23) = W := ⟨_, rfl⟩
  have hsl : Slots (w.heap.size + 1) 2 W := by
    rw [← hW]; intro o ho
    have : o = 0 ∨ o = 1 := by omega
    rcases this with rfl | rfl <;> simp [go_sem]
  have hB00 : Below w.heap.size w W := by rw [← hW]; exact BA (BA (Below.refl _ _) _) _
  have hTlt : w.heap.size + 1 < W.heap.size := by rw [← hW]; simp
  have HBX : BoxV W w.heap.size p f sc lo hi := by
    have : BoxV (w.alloc (.cells #[.int .i64 p.lo, .int .i64 p.hi, .slice p.a p.n p.cap, .func (.func f) #[] #[], .int .i64 sc, .int .i64 lo, .int .i64 hi] 84)) w.heap.size p f sc lo hi := ⟨by simp [go_sem], by simp [go_sem], by simp [go_sem], by simp [go_sem], by simp [go_sem], by simp [go_sem], by simp [go_sem]⟩
    rw [← hW]; exact this.grown (newB _ _)
  obtain ⟨b0, b1, b2, b3, b4, b5, b6⟩ := HBX
  obtain ⟨a0, a1, a2, a3, a4, a5, a6, a7, a8⟩ := hcX.out W hB00
  simp only [Nat.zero_add] at a0 a1 a2 a3 a4 a5 a6 a7 a8
  clear hc
  go_enter Tryz.func64, Tryz.ntmps64
  go_wp2_with fail
  clear hW
  refine (HP.out W).mono ?_
  rintro e X ⟨rfl, hX⟩
  have hsl := hsl.below hX hTlt
  have hB3 := BT hB00 hX
  obtain ⟨x0, q0, z0⟩ := hsl.get 0 (by omega)
  obtain ⟨x1, q1, z1⟩ := hsl.get 1 (by omega)
  have hfin := (BC (BC hB3 (w.heap.size + 1) 0 (by omega) (.int .i64 (r.1))) (w.heap.size + 1) 1 (by omega) (.int .i64 (r.2)))
  clear hsl hB3 hX
  go_wp2_with fail
  exact bodyPost_ret (v := .agg #[.int .i64 (r.1), .int .i64 (r.2)]) (by simp [results, Tryz.results64, go_sem, q0, q1]) rfl ⟨rfl, hfin⟩
end Go.Proofs.YtdkegkacpdkjgaaGreat
