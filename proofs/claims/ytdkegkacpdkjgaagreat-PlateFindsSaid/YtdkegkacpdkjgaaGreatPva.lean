/- Plate: which plates are valid. -/
import Derived.Test.YtdkegkacpdkjgaaGreatPst
import Derived.Deep.CutRange
namespace Go.Proofs.YtdkegkacpdkjgaaGreat
open Go.RowKit

theorem all_cut (ss : List St) (k : Nat) (hk : k < ss.length) (hf : stB (ss.getD k default) = false) : ss.all stB = false := by
  rw [List.all_eq_false]
  refine ⟨ss[k], List.getElem_mem hk, ?_⟩
  have e : ss.getD k default = ss[k] := by simp [List.getD, hk]
  rw [← e, hf]; decide
theorem all_on (ss : List St) (k : Nat) (hk : k < ss.length) (h : (ss.take k).all stB = true) (hf : stB (ss.getD k default) = true) : (ss.take (k + 1)).all stB = true := by
  have e : ss.getD k default = ss[k] := by simp [List.getD, hk]
  rw [List.take_succ_eq_append_getElem hk, List.all_append, h]
  rw [e] at hf
  simp [hf]

set_option maxRecDepth 100000 in
set_option maxHeartbeats 4000000 in
theorem valid_any (p : Pl) (ss : List St) (w : World) (h : PlAt p ss w) : Calls Tryz.prog 99 #[p.val] w (Ret (.bool (plB p ss)) w) := by
  unfold Pl.val
  have HM := Lib.hid h; clear h
  obtain ⟨R, HR⟩ : ∃ R, Hid (plB p ss = R) := ⟨_, rfl⟩
  rw [HR.out]
  obtain ⟨b1, HB1⟩ : ∃ b1, Hid ((decide (1 ≤ p.lo) && decide (p.lo ≤ p.hi) && decide (p.hi ≤ 1000)) = b1) := ⟨_, rfl⟩
  obtain ⟨lo, hi, a, n, cap⟩ := p
  dsimp only at HB1 ⊢
  cases b1
  · have hRn : Hid (R = false) := by show _ = _; rw [← HR.out]; unfold plB; rw [HB1.out]; rfl
    go_enter Tryz.func99, Tryz.ntmps99
    go_wp2_with (go_at_call 116; refine (rising4_any _ 1 lo hi 1000 _ (by go_cell) (by go_cell) (by go_cell) (by go_cell)).mono ?_; rintro e w' ⟨rfl, hb⟩; rw [HB1.out]; have q2 : w'.cell? ⟨w.heap.size, 2, none⟩ = some (.slice a n cap) := (hb.cell (p := ⟨w.heap.size, 2, none⟩) (by simp; try omega)).trans (by simp [go_sem]); have hB0 : Below w.heap.size w w' := BT (by (repeat (first | exact Below.refl _ _ | refine BA ?_ _))) hb; clear hb)
    go_ret
    exact ⟨by rw [hRn.out]; rfl, (by (repeat (first | assumption | exact Below.refl _ _ | refine BA ?_ _ | refine Below.drew ?_ | refine BT ?_ (by assumption))))⟩
  by_cases hn : (n : Int) > 10
  · have hRn : Hid (R = false) := by
      show _ = _; rw [← HR.out]; unfold plB
      have : decide (n ≤ 10) = false := by simp; omega
      simp [this]
    go_enter Tryz.func99, Tryz.ntmps99
    go_wp2_with (go_at_call 116; refine (rising4_any _ 1 lo hi 1000 _ (by go_cell) (by go_cell) (by go_cell) (by go_cell)).mono ?_; rintro e w' ⟨rfl, hb⟩; rw [HB1.out]; have q2 : w'.cell? ⟨w.heap.size, 2, none⟩ = some (.slice a n cap) := (hb.cell (p := ⟨w.heap.size, 2, none⟩) (by simp; try omega)).trans (by simp [go_sem]); have hB0 : Below w.heap.size w w' := BT (by (repeat (first | exact Below.refl _ _ | refine BA ?_ _))) hb; clear hb)
    go_ret
    exact ⟨by rw [hRn.out]; rfl, (by (repeat (first | assumption | exact Below.refl _ _ | refine BA ?_ _ | refine Below.drew ?_ | refine BT ?_ (by assumption))))⟩
  have hRa : Hid (ss.all stB = R) := by
    show _ = _
    have : decide (n ≤ 10) = true := by simp; omega
    rw [← HR.out]; unfold plB; dsimp only; rw [HB1.out, this]; rfl
  clear HR
  go_enter Tryz.func99, Tryz.ntmps99
  go_wp2_with (go_at_call 116; refine (rising4_any _ 1 lo hi 1000 _ (by go_cell) (by go_cell) (by go_cell) (by go_cell)).mono ?_; rintro e w' ⟨rfl, hb⟩; rw [HB1.out]; have q2 : w'.cell? ⟨w.heap.size, 2, none⟩ = some (.slice a n cap) := (hb.cell (p := ⟨w.heap.size, 2, none⟩) (by simp; try omega)).trans (by simp [go_sem]); have hB0 : Below w.heap.size w w' := BT (by (repeat (first | exact Below.refl _ _ | refine BA ?_ _))) hb; clear hb)
  clear q2 hn
  obtain ⟨wo, rfl⟩ : ∃ wo : World, wo = w' := ⟨_, rfl⟩
  go_loopw [23] (fun i wr => ∃ k : Nat, k ≤ n ∧ i = .int .i64 k ∧ Hid ((ss.take k).all stB = true) ∧ Below wo.heap.size wo wr) (fun i _ => n - (intOf i).toNat)
  case atStart => exact ⟨0, by omega, rfl, rfl, Below.refl _ _⟩
  case round =>
    obtain ⟨k, hk, rfl, hall, hB⟩ := hrel
    have hm := HM.out.below (BT hB0 hB) (Nat.le_refl _)
    have hnl : ss.length = n := hm.nl
    have hbig : n ≤ 1000000000 := hm.big
    have hk0 : (0 : Int) ≤ (k : Int) := by omega
    by_cases hlt : k < n
    · have hkl : k < ss.length := by omega
      rcases hm.lk with hnil | ⟨b, o, hla, hb, hct⟩
      · exfalso; rw [hnil] at hkl; simp at hkl
      dsimp only at hla
      subst hla
      have hs := hct k hkl
      have hcut := Lib.hid (all_cut ss k hkl)
      have hon := Lib.hid (all_on ss k hkl hall.out)
      clear hm hct hall
      generalize ss.getD k default = s at hs hcut hon
      obtain ⟨c0, c1, c2, c3, c4, c5, c6, c7, c8⟩ := hs
      go_upto_region 6 with fail
      have hv : Below wr.heap.size wr (wr.alloc (.cells s.cells 60)) := BA (Below.refl _ _) _
      obtain ⟨t0, t1, t2, t3, t4, t5, t6, t7, t8⟩ := StAt.new s 60 wr
      simp only [Nat.zero_add] at t1 t2 t3 t4 t5 t6 t7 t8
      have hRf : Hid (stB s = false → R = false) := fun hf => by rw [← hRa.out]; exact hcut.out hf
      change Code.wp _ _ _ _ (wr.alloc (.cells s.cells 60))
      generalize wr.heap.size = gT at t0 t1 t2 t3 t4 t5 t6 t7 t8 ⊢
      generalize hWQ : wr.alloc (.cells s.cells 60) = X0 at hv t0 t1 t2 t3 t4 t5 t6 t7 t8 ⊢
      clear hWQ c0 c1 c2 c3 c4 c5 c6 c7 c8 hcut hb
      go_wp2_with fail
      refine (isSide_any s.x0 s.x1 _).mono ?_
      rintro e X1 ⟨rfl, hx⟩
      have hg : gT < X0.heap.size := World.block_lt_of_cell? _ _ t8
      have hv := BT hv hx
      have t2 := (hx.cell (p := ⟨gT, 2, none⟩) hg).trans t2
      have t3 := (hx.cell (p := ⟨gT, 3, none⟩) hg).trans t3
      have t4 := (hx.cell (p := ⟨gT, 4, none⟩) hg).trans t4
      have t5 := (hx.cell (p := ⟨gT, 5, none⟩) hg).trans t5
      have t6 := (hx.cell (p := ⟨gT, 6, none⟩) hg).trans t6
      have t7 := (hx.cell (p := ⟨gT, 7, none⟩) hg).trans t7
      have t8 := (hx.cell (p := ⟨gT, 8, none⟩) hg).trans t8
      clear t0 t1 hx hg
      cases p0 : sideB s.x0 s.x1
      · have hRn : Hid (R = false) := hRf.out (by unfold stB; simp [p0])
        have hfin := BT hB0 (BT hB hv)
        clear hRf hon
        go_wp2
        go_ret
        exact ⟨by rw [hRn.out]; rfl, hfin⟩
      have P0 := Lib.hid p0
      clear p0
      go_wp2_with fail
      refine (isSide_any s.y0 s.y1 _).mono ?_
      rintro e X2 ⟨rfl, hx⟩
      have hg : gT < X1.heap.size := World.block_lt_of_cell? _ _ t8
      have hv := BT hv hx
      have t4 := (hx.cell (p := ⟨gT, 4, none⟩) hg).trans t4
      have t5 := (hx.cell (p := ⟨gT, 5, none⟩) hg).trans t5
      have t6 := (hx.cell (p := ⟨gT, 6, none⟩) hg).trans t6
      have t7 := (hx.cell (p := ⟨gT, 7, none⟩) hg).trans t7
      have t8 := (hx.cell (p := ⟨gT, 8, none⟩) hg).trans t8
      clear t2 t3 hx hg
      cases p1 : sideB s.y0 s.y1
      · have hRn : Hid (R = false) := hRf.out (by unfold stB; simp [P0.out, p1])
        have hfin := BT hB0 (BT hB hv)
        clear hRf hon
        go_wp2
        go_ret
        exact ⟨by rw [hRn.out]; rfl, hfin⟩
      have P1 := Lib.hid p1
      clear p1
      cases p2 : s.k
      · have hsn2 := Lib.hid (hon.out (by unfold stB; simp [P0.out, P1.out, p2]))
        rw [p2] at t4
        clear hon hRf t5 t6 t7 t8
        have hBB := BT hB hv
        go_wp2_with fail
        go_roundw
        case rel => first | exact ⟨k + 1, by omega, by go_num, hsn2, hBB⟩ | ((repeat apply Exists.intro); exact ⟨⟨k + 1, by omega, by go_num, hsn2, hBB⟩, rfl⟩)
        case measure => simp [intOf]; omega
      have P2 := Lib.hid p2
      rw [p2] at t4
      clear p2
      go_wp2_with fail
      refine (isSky_any s.e0 s.e1 _).mono ?_
      rintro e X3 ⟨rfl, hx⟩
      have hg : gT < X2.heap.size := World.block_lt_of_cell? _ _ t8
      have hv := BT hv hx
      have t7 := (hx.cell (p := ⟨gT, 7, none⟩) hg).trans t7
      have t8 := (hx.cell (p := ⟨gT, 8, none⟩) hg).trans t8
      clear t5 t6 hx hg
      cases p3 : skyB s.e0 s.e1
      · have hRn : Hid (R = false) := hRf.out (by unfold stB; simp [P0.out, P1.out, P2.out, p3])
        have hfin := BT hB0 (BT hB hv)
        clear hRf hon
        go_wp2
        go_ret
        exact ⟨by rw [hRn.out]; rfl, hfin⟩
      have P3 := Lib.hid p3
      clear p3
      go_wp2_with fail
      refine (isSky_any s.n0 s.n1 _).mono ?_
      rintro e X4 ⟨rfl, hx⟩
      have hv := BT hv hx
      clear t7 t8 hx
      cases p4 : skyB s.n0 s.n1
      · have hRn : Hid (R = false) := hRf.out (by unfold stB; simp [P0.out, P1.out, P2.out, P3.out, p4])
        have hfin := BT hB0 (BT hB hv)
        clear hRf hon
        go_wp2
        go_ret
        exact ⟨by rw [hRn.out]; rfl, hfin⟩
      have hsn2 := Lib.hid (hon.out (by unfold stB; simp [P0.out, P1.out, P2.out, P3.out, p4]))
      clear p4 hon hRf
      have hBB := BT hB hv
      go_wp2_with fail
      go_roundw
      case rel => first | exact ⟨k + 1, by omega, by go_num, hsn2, hBB⟩ | ((repeat apply Exists.intro); exact ⟨⟨k + 1, by omega, by go_num, hsn2, hBB⟩, rfl⟩)
      case measure => simp [intOf]; omega
    · obtain rfl : k = n := by omega
      have hRt : Hid (R = true) := by
        show _ = _
        rw [← hRa.out, ← hall.out, ← hnl, List.take_length]
      go_wp2
      go_ret
      exact ⟨by rw [hRt.out]; rfl, (by (repeat (first | assumption | exact Below.refl _ _ | refine BA ?_ _ | refine Below.drew ?_ | refine BT ?_ (by assumption))))⟩
end Go.Proofs.YtdkegkacpdkjgaaGreat
