/- Plate: the reference's Plate: it says what the package's valid says. -/
import Derived.Test.YtdkegkacpdkjgaaGreatPva
import Derived.Test.YtdkegkacpdkjgaaGreatPlo
namespace Go.Proofs.YtdkegkacpdkjgaaGreat
open Go.RowKit

theorem spanR_any (a b lo hi : Int) (w : World) : Calls Tryz.prog 59 #[.agg #[.int .i64 a, .int .i64 b], .int .i64 lo, .int .i64 hi] w (Ret (.bool (decide (lo ≤ a) && decide (a ≤ b) && decide (b ≤ hi))) w) := by
  by_cases h0 : lo ≤ a
  · by_cases h1 : a ≤ b
    · go_enter Tryz.func59, Tryz.ntmps59
      go_wp2
      go_ret
      exact ⟨by simp [h0, h1], (by (repeat (first | assumption | exact Below.refl _ _ | refine BA ?_ _ | refine BC ?_ _ _ (by first | omega | (simp; done) | (simp; omega)) _ | refine Below.drew ?_ | refine BT ?_ (by assumption))))⟩
    · go_enter Tryz.func59, Tryz.ntmps59
      go_wp2
      go_ret
      exact ⟨by simp; omega, (by (repeat (first | assumption | exact Below.refl _ _ | refine BA ?_ _ | refine BC ?_ _ _ (by first | omega | (simp; done) | (simp; omega)) _ | refine Below.drew ?_ | refine BT ?_ (by assumption))))⟩
  · go_enter Tryz.func59, Tryz.ntmps59
    go_wp2
    go_ret
    exact ⟨by simp; omega, (by (repeat (first | assumption | exact Below.refl _ _ | refine BA ?_ _ | refine BC ?_ _ _ (by first | omega | (simp; done) | (simp; omega)) _ | refine Below.drew ?_ | refine BT ?_ (by assumption))))⟩
set_option maxRecDepth 100000 in
set_option maxHeartbeats 4000000 in
theorem plateR_any (p : Pl) (ss : List St) (w : World) (h : PlAt p ss w) : Calls Tryz.prog 16 #[p.val] w (Ret (.bool (plB p ss)) w) := by
  unfold Pl.val
  have HM := Lib.hid h; clear h
  obtain ⟨R, HR⟩ : ∃ R, Hid (plB p ss = R) := ⟨_, rfl⟩
  rw [HR.out]
  obtain ⟨W0, hW0⟩ : ∃ X, w.alloc (.cells #[.int .i64 p.lo, .int .i64 p.hi, .slice p.a p.n p.cap] 26) = X := ⟨_, rfl⟩
  have hB0 : Below w.heap.size w W0 := by rw [← hW0]; exact newB _ _
  have hQ : BoxP W0 w.heap.size p := by rw [← hW0]; exact boxP_new w p _
  have hRa : Hid (∀ k, k < ss.length → stB (ss.getD k default) = false → R = false) := fun k hk hf => by rw [← HR.out]; unfold plB; rw [all_cut ss k hk hf, Bool.and_false]
  have hRn : Hid (ss.all stB = true → R = ((decide (1 ≤ p.lo) && decide (p.lo ≤ p.hi) && decide (p.hi ≤ 1000)) && decide (p.n ≤ 10))) := fun hf => by rw [← HR.out]; unfold plB; rw [hf, Bool.and_true]
  clear HR
  obtain ⟨b1, HB1⟩ : ∃ b1, Hid ((decide (1 ≤ p.lo) && decide (p.lo ≤ p.hi) && decide (p.hi ≤ 1000)) = b1) := ⟨_, rfl⟩
  have S9 : Hid (∀ Y, Calls Tryz.prog 59 #[.agg #[.int .i64 p.lo, .int .i64 p.hi], .int .i64 1, .int .i64 1000] Y (Ret (.bool b1) Y)) := fun Y => by rw [← HB1.out]; exact spanR_any _ _ _ _ Y
  have hRn2 : Hid (ss.all stB = true → R = (b1 && decide ((p.n : Int) ≤ 10))) := fun hf => by rw [hRn.out hf, HB1.out, decide_eq_decide.2 (show p.n ≤ 10 ↔ (p.n : Int) ≤ 10 by omega)]
  clear hRn HB1
  go_enter Tryz.func16, Tryz.ntmps16
  go_wp2_with fail
  clear hW0
  go_loopw [3] (fun i wr => ∃ k : Nat, k ≤ p.n ∧ i = .int .i64 k ∧ Hid ((ss.take k).all stB = true) ∧ Below W0.heap.size W0 wr) (fun i _ => p.n - (intOf i).toNat)
  case atStart => exact ⟨0, by omega, rfl, rfl, Below.refl _ _⟩
  case round =>
    obtain ⟨k, hk, rfl, hall, hB⟩ := hrel
    have hB1 := BT hB0 hB
    have hm := HM.out.below hB1 (Nat.le_refl _)
    have hnl : ss.length = p.n := hm.nl
    have hbig : p.n ≤ 1000000000 := hm.big
    have hk0 : (0 : Int) ≤ (k : Int) := by omega
    obtain ⟨b0, b1', b2⟩ := hQ.grown hB
    by_cases hlt : k < p.n
    · have hkl : k < ss.length := by omega
      have hki : (k : Int) < (p.n : Int) := by omega
      rcases hm.lk with hnil | ⟨b, o, hla, hb, hct⟩
      · exfalso; rw [hnil] at hkl; simp at hkl
      rw [hla] at b2
      clear hla
      have hs := hct k hkl
      have hRf := Lib.hid (hRa.out k hkl)
      have hon := Lib.hid (all_on ss k hkl hall.out)
      clear hm hct hall hRa hRn2 S9
      generalize ss.getD k default = s at hs hRf hon
      obtain ⟨c0, c1, c2, c3, c4, c5, c6, c7, c8⟩ := hs
      go_upto_region 5 with fail
      have hv : Below wr.heap.size wr (wr.alloc (.cells s.cells 60)) := BA (Below.refl _ _) _
      obtain ⟨t0, t1, t2, t3, t4, t5, t6, t7, t8⟩ := StAt.new s 60 wr
      simp only [Nat.zero_add] at t1 t2 t3 t4 t5 t6 t7 t8
      change Code.wp _ _ _ _ (wr.alloc (.cells s.cells 60))
      generalize wr.heap.size = gT at t0 t1 t2 t3 t4 t5 t6 t7 t8 ⊢
      generalize hWQ : wr.alloc (.cells s.cells 60) = X0 at hv t0 t1 t2 t3 t4 t5 t6 t7 t8 ⊢
      clear hWQ c0 c1 c2 c3 c4 c5 c6 c7 c8 hb b0 b1' b2
      have S0 : Hid (∀ Y, Calls Tryz.prog 59 #[.agg #[.int .i64 s.x0, .int .i64 s.x1], .int .i64 0, .int .i64 32768] Y (Ret (.bool (sideB s.x0 s.x1)) Y)) := fun Y => spanR_any _ _ _ _ Y
      have S1 : Hid (∀ Y, Calls Tryz.prog 59 #[.agg #[.int .i64 s.y0, .int .i64 s.y1], .int .i64 0, .int .i64 32768] Y (Ret (.bool (sideB s.y0 s.y1)) Y)) := fun Y => spanR_any _ _ _ _ Y
      have S2 : Hid (∀ Y, Calls Tryz.prog 59 #[.agg #[.int .i64 s.e0, .int .i64 s.e1], .int .i64 (-1048576), .int .i64 1048576] Y (Ret (.bool (skyB s.e0 s.e1)) Y)) := fun Y => spanR_any _ _ _ _ Y
      have S3 : Hid (∀ Y, Calls Tryz.prog 59 #[.agg #[.int .i64 s.n0, .int .i64 s.n1], .int .i64 (-1048576), .int .i64 1048576] Y (Ret (.bool (skyB s.n0 s.n1)) Y)) := fun Y => spanR_any _ _ _ _ Y
      have hst : Hid (stB s = ((sideB s.x0 s.x1 && sideB s.y0 s.y1) && (!s.k || (skyB s.e0 s.e1 && skyB s.n0 s.n1)))) := rfl
      generalize sideB s.x0 s.x1 = v0 at S0 hst
      generalize sideB s.y0 s.y1 = v1 at S1 hst
      generalize skyB s.e0 s.e1 = v2 at S2 hst
      generalize skyB s.n0 s.n1 = v3 at S3 hst
      generalize s.k = kk at t4 hst
      go_wp2_with fail
      refine (S0.out X0).mono ?_
      rintro e X1 ⟨rfl, hx⟩
      have hv := BT hv hx
      have t2 := cellB t2 hx
      have t3 := cellB t3 hx
      have t4 := cellB t4 hx
      have t5 := cellB t5 hx
      have t6 := cellB t6 hx
      have t7 := cellB t7 hx
      have t8 := cellB t8 hx
      clear S0 hx
      cases v0
      · skip
        go_wp2_with fail
        go_ret
        exact ⟨by rw [hRf.out (by rw [hst.out]; rfl)]; rfl, BT hB1 hv⟩
      go_wp2_with fail
      refine (S1.out X1).mono ?_
      rintro e X2 ⟨rfl, hx⟩
      have hv := BT hv hx
      have t2 := cellB t2 hx
      have t3 := cellB t3 hx
      have t4 := cellB t4 hx
      have t5 := cellB t5 hx
      have t6 := cellB t6 hx
      have t7 := cellB t7 hx
      have t8 := cellB t8 hx
      clear S1 hx
      cases v1
      · skip
        go_wp2_with fail
        go_ret
        exact ⟨by rw [hRf.out (by rw [hst.out]; rfl)]; rfl, BT hB1 hv⟩
      cases kk
      · skip
        go_wp2_with fail
        go_roundw
        case rel => exact ⟨k + 1, by omega, by go_num, hon.out (by rw [hst.out]; rfl), BT hB hv⟩
        case measure => simp [intOf]; omega
      go_wp2_with fail
      refine (S2.out X2).mono ?_
      rintro e X3 ⟨rfl, hx⟩
      have hv := BT hv hx
      have t2 := cellB t2 hx
      have t3 := cellB t3 hx
      have t4 := cellB t4 hx
      have t5 := cellB t5 hx
      have t6 := cellB t6 hx
      have t7 := cellB t7 hx
      have t8 := cellB t8 hx
      clear S2 hx
      cases v2
      · skip
        go_wp2_with fail
        go_ret
        exact ⟨by rw [hRf.out (by rw [hst.out]; rfl)]; rfl, BT hB1 hv⟩
      go_wp2_with fail
      refine (S3.out X3).mono ?_
      rintro e X4 ⟨rfl, hx⟩
      have hv := BT hv hx
      have t2 := cellB t2 hx
      have t3 := cellB t3 hx
      have t4 := cellB t4 hx
      have t5 := cellB t5 hx
      have t6 := cellB t6 hx
      have t7 := cellB t7 hx
      have t8 := cellB t8 hx
      clear S3 hx
      cases v3
      · skip
        go_wp2_with fail
        go_ret
        exact ⟨by rw [hRf.out (by rw [hst.out]; rfl)]; rfl, BT hB1 hv⟩
      go_wp2_with fail
      go_roundw
      case rel => exact ⟨k + 1, by omega, by go_num, hon.out (by rw [hst.out]; rfl), BT hB hv⟩
      case measure => simp [intOf]; omega
    · obtain rfl : k = p.n := by omega
      have ha : ss.all stB = true := by have := hall.out; rwa [List.take_of_length_le (by omega)] at this
      have hfin := Lib.hid (hRn2.out ha)
      clear hm hall hRa hRn2 ha hnl
      have hx0 : Below wr.heap.size wr wr := Below.refl _ _
      go_wp2_with fail
      refine (S9.out wr).mono ?_
      rintro e Y ⟨rfl, hY⟩
      have b2 := cellB b2 hY
      have hBY := BT hB1 hY
      clear hB hB1 hY b0 b1' S9
      cases b1
      · go_wp2_with fail
        go_ret
        exact ⟨by rw [hfin.out]; rfl, hBY⟩
      · go_wp2_with fail
        go_ret
        exact ⟨by rw [hfin.out]; rfl, hBY⟩
end Go.Proofs.YtdkegkacpdkjgaaGreat
