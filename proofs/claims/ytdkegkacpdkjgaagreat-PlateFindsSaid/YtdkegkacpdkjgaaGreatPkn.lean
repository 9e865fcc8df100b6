/- Plate: which stars are known. -/
import Derived.Test.YtdkegkacpdkjgaaGreatPis
import Derived.Deep.CutRange
namespace Go.Proofs.YtdkegkacpdkjgaaGreat
open Go.RowKit

/-- The known ones of the first k stars, by bits. -/
def knownTo (ss : List St) : Nat → Int
  | 0 => 0
  | k + 1 => if (ss.getD k default).k then bits .or .i64 (knownTo ss k) (wrap64 (2 ^ k)) else knownTo ss k
set_option maxRecDepth 100000 in
set_option maxHeartbeats 4000000 in
theorem known_any (p : Pl) (ss : List St) (w : World) (h : PlAt p ss w) (hn : p.n ≤ 12) : Calls Tryz.prog 70 #[.agg (lookV p)] w (Ret (.int .i64 (knownTo ss p.n)) w) := by
  unfold lookV sideV
  have HM := Lib.hid h; clear h
  obtain ⟨lo, hi, a, n, cap⟩ := p
  dsimp only at hn ⊢
  have g0 : Hid (knownTo ss 0 = 0) := rfl
  have HG : Hid (∀ k, knownTo ss (k + 1) = if (ss.getD k default).k then bits .or .i64 (knownTo ss k) (wrap64 (2 ^ k)) else knownTo ss k) := fun k => rfl
  generalize knownTo ss = f at *
  go_enter Tryz.func70, Tryz.ntmps70
  go_wp2
  go_loopw [3, 10] (fun s i wr => ∃ k : Nat, k ≤ n ∧ i = .int .i64 k ∧ s = .int .i64 (f k) ∧ Below w.heap.size w wr) (fun _ i _ => n - (intOf i).toNat)
  case atStart => exact ⟨0, by omega, rfl, by rw [g0.out], (by (repeat (first | assumption | exact Below.refl _ _ | refine BA ?_ _ | refine Below.drew ?_ | refine BT ?_ (by assumption))))⟩
  case round =>
    obtain ⟨k, hk, rfl, rfl, hB⟩ := hrel
    have hm := HM.out.below hB (Nat.le_refl _)
    have hnl : ss.length = n := hm.nl
    have hk0 : (0 : Int) ≤ (k : Int) := by omega
    have hk1 : (k : Int) ≤ 12 := by omega
    by_cases hlt : k < n
    · have hkl : k < ss.length := by omega
      rcases hm.lk with hnil | ⟨b, o, hla, hb, hct⟩
      · exfalso; rw [hnil] at hkl; simp at hkl
      dsimp only at hla
      subst hla
      have hs := hct k hkl
      have hg := Lib.hid (HG.out k)
      clear hm hct
      generalize ss.getD k default = s at hs hg
      obtain ⟨c0, c1, c2, c3, c4, c5, c6, c7, c8⟩ := hs
      cases hsk : s.k
      all_goals
        rw [hsk] at c4 hg
        have hg2 := Lib.hid hg.out
        go_wp2
        go_roundw
        case rel => exact ⟨k + 1, by omega, by go_num, by rw [hg.out]; rfl, (by (repeat (first | assumption | exact Below.refl _ _ | refine BA ?_ _ | refine Below.drew ?_ | refine BT ?_ (by assumption))))⟩
        case measure => simp [intOf]; omega
    · obtain rfl : k = n := by omega
      go_wp2
      go_ret
      exact ⟨rfl, (by (repeat (first | assumption | exact Below.refl _ _ | refine BA ?_ _ | refine Below.drew ?_ | refine BT ?_ (by assumption))))⟩
set_option maxRecDepth 100000 in
set_option maxHeartbeats 2000000 in
theorem insistKnown_ok (p : Pl) (ss : List St) (w : World) (h : PlAt p ss w) (hn : p.n ≤ 12) (hk : ¬ knownTo ss p.n = 0) : Calls Tryz.prog 42 #[.agg (lookV p)] w (Ret (.tuple #[]) w) := by
  have hkn : ∀ w' : World, Below w.heap.size w w' → Calls Tryz.prog 70 #[.agg (lookV p)] w' (Ret (.int .i64 (knownTo ss p.n)) w') := fun w' hB => known_any p ss w' (h.below hB (Nat.le_refl _)) hn
  have HK := Lib.hid hkn
  clear hkn h
  generalize knownTo ss p.n = x at *
  have hne : Hid ((x != 0) = true) := by show _ = _; simpa using hk
  clear hk
  unfold lookV sideV at HK ⊢
  go_enter Tryz.func42, Tryz.ntmps42
  go_wp2_with (first
    | (go_at_call 70; refine (HK.out _ (by (repeat (first | exact Below.refl _ _ | refine BA ?_ _)))).mono ?_; rintro e w1 ⟨rfl, hb1⟩; have hB1 : Below w.heap.size w w1 := BT (by (repeat (first | exact Below.refl _ _ | refine BA ?_ _))) hb1; clear hb1)
    | (go_at_call 62; rw [hne.out]; refine (insist_yes 12 _).mono ?_; rintro e w2 ⟨rfl, hb2⟩))
  go_end0
  exact ⟨rfl, BT hB1 hb2⟩
set_option maxRecDepth 100000 in
set_option maxHeartbeats 2000000 in
theorem insistKnown_no (p : Pl) (ss : List St) (w : World) (h : PlAt p ss w) (hn : p.n ≤ 12) (hk : knownTo ss p.n = 0) : Calls Tryz.prog 42 #[.agg (lookV p)] w (Pan 12 w) := by
  have hkn : ∀ w' : World, Below w.heap.size w w' → Calls Tryz.prog 70 #[.agg (lookV p)] w' (Ret (.int .i64 (knownTo ss p.n)) w') := fun w' hB => known_any p ss w' (h.below hB (Nat.le_refl _)) hn
  have HK := Lib.hid hkn
  clear hkn h
  generalize knownTo ss p.n = x at *
  have hne : Hid ((x != 0) = false) := by show _ = _; subst hk; rfl
  clear hk
  unfold lookV sideV at HK ⊢
  go_enter Tryz.func42, Tryz.ntmps42
  go_wp2_with (first
    | (go_at_call 70; refine (HK.out _ (by (repeat (first | exact Below.refl _ _ | refine BA ?_ _)))).mono ?_; rintro e w1 ⟨rfl, hb1⟩; have hB1 : Below w.heap.size w w1 := BT (by (repeat (first | exact Below.refl _ _ | refine BA ?_ _))) hb1; clear hb1)
    | (go_at_call 62; rw [hne.out]; refine (insist_no 12 _).mono ?_; rintro e w2 ⟨rfl, hb2⟩))
  
  exact ⟨rfl, rfl, BT hB1 hb2⟩
end Go.Proofs.YtdkegkacpdkjgaaGreat
