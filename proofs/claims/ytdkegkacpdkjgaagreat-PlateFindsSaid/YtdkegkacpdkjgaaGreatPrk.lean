/- Plate: the reference's Size, power and Known. -/
import Derived.Test.YtdkegkacpdkjgaaGreatPrp
import Derived.Test.YtdkegkacpdkjgaaGreatPbt
import Derived.Test.YtdkegkacpdkjgaaGreatPon
import Derived.IntWalk
namespace Go.Proofs.YtdkegkacpdkjgaaGreat
open Go.RowKit

/-- How many bits are set, of the lowest ones. -/
def sizeF : Nat → Int → Int
  | 0, _ => 0
  | k + 1, s => s % 2 + sizeF k (s / 2)
theorem sizeF_zero : ∀ k, sizeF k 0 = 0
  | 0 => rfl
  | k + 1 => by rw [sizeF]; simp [sizeF_zero k]
set_option maxRecDepth 100000 in
theorem sizeF_popc {s : Int} (h : 0 ≤ s ∧ s < 4096) : sizeF 12 s = popc s := by
  have := (by decide +kernel : ∀ k : Fin 4096, sizeF 12 k.val = popc k.val) ⟨s.toNat, by omega⟩
  have e : ((s.toNat : Nat) : Int) = s := by omega
  rw [← e]; exact this
theorem sizeR_any (s : Int) (hs : 0 ≤ s ∧ s < 4096) (w : World) : Calls Tryz.prog 74 #[.int .i64 s] w (Ret (.int .i64 (popc s)) w) := by
  rw [← sizeF_popc hs]
  obtain ⟨R, hR0⟩ : ∃ R, R = sizeF 12 s := ⟨_, rfl⟩
  rw [← hR0]
  have hR : Hid (R = 0 + sizeF 12 s) := by show _ = _; omega
  clear hR0
  go_enter Tryz.func74, Tryz.ntmps74
  go_wp2_with fail
  go_loopw [0, 3] (fun t o wr => ∃ (j : Nat) (x n : Int), t = .int .i64 x ∧ o = .int .i64 n ∧ 0 ≤ x ∧ x ≤ 4095 ∧ x < 2 ^ j ∧ 0 ≤ n ∧ n ≤ 10000 - j ∧ j ≤ 12 ∧ Hid (R = n + sizeF j x) ∧ Below w.heap.size w wr) (fun t _ _ => (intOf t).toNat)
  case atStart => exact ⟨12, s, 0, rfl, rfl, by omega, by omega, by omega, by omega, by omega, by omega, hR, Below.refl _ _⟩
  case round =>
    obtain ⟨j, x, n, rfl, rfl, hx0, hx1, hxj, hn0, hn1, hj, hE, hB⟩ := hrel
    by_cases hlt : x > 0
    · obtain ⟨i, rfl⟩ : ∃ i, j = i + 1 := by
        cases j with
        | zero => simp at hxj; omega
        | succ i => exact ⟨i, rfl⟩
      have hpi : x / 2 < 2 ^ i := by
        have : (2 : Int) ^ (i + 1) = 2 * 2 ^ i := by rw [Int.pow_succ, Int.mul_comm]
        omega
      have hE2 : Hid (R = n + x % 2 + sizeF i (x / 2)) := by show _ = _; rw [hE.out, sizeF]; omega
      have hP := Lib.hid hpi
      clear hxj hpi hE
      go_wp2
      go_roundw
      case rel => exact ⟨i, x / 2, n + x % 2, by go_num, by go_num, by omega, by omega, hP.out, by omega, by omega, by omega, hE2, hB⟩
      case measure => simp [intOf]; omega
    · obtain rfl : x = 0 := by omega
      clear hxj
      go_wp2
      go_ret
      exact ⟨by rw [hE.out, sizeF_zero]; simp, hB⟩

set_option maxRecDepth 100000 in
set_option maxHeartbeats 2000000 in
theorem powerR_any (n : Nat) (hn : n ≤ 12) (w : World) : Calls Tryz.prog 73 #[.int .i64 n] w (Ret (.int .i64 (2 ^ n)) w) := by
  have g0 : Hid ((2 : Int) ^ 0 = 1) := rfl
  have HG : Hid (∀ k : Nat, (2 : Int) ^ (k + 1) = 2 * 2 ^ k) := fun k => by rw [Int.pow_succ, Int.mul_comm]
  have HR : Hid (∀ k : Nat, k ≤ 12 → 1 ≤ (2 : Int) ^ k ∧ (2 : Int) ^ k ≤ 4096) := fun k hk => (by decide +kernel : ∀ k : Fin 13, 1 ≤ (2 : Int) ^ k.val ∧ (2 : Int) ^ k.val ≤ 4096) ⟨k, by omega⟩
  obtain ⟨f, hf⟩ : ∃ f : Nat → Int, (fun k : Nat => (2 : Int) ^ k) = f := ⟨_, rfl⟩
  have e : ∀ k : Nat, (2 : Int) ^ k = f k := fun k => by rw [← hf]
  have g0 : Hid (f 0 = 1) := by show _ = _; rw [← e]; rfl
  have HG : Hid (∀ k : Nat, f (k + 1) = 2 * f k) := fun k => by rw [← e, ← e]; exact HG.out k
  have HR : Hid (∀ k : Nat, k ≤ 12 → 1 ≤ f k ∧ f k ≤ 4096) := fun k hk => by rw [← e]; exact HR.out k hk
  rw [e n]
  clear e hf
  have hn0 : (0 : Int) ≤ (n : Int) := by omega
  have hn1 : (n : Int) ≤ 12 := by omega
  go_enter Tryz.func73, Tryz.ntmps73
  go_wp2_with fail
  go_loopw [3, 4] (fun o i wr => ∃ k : Nat, k ≤ n ∧ i = .int .i64 k ∧ o = .int .i64 (f k) ∧ Below w.heap.size w wr) (fun _ i _ => n - (intOf i).toNat)
  case atStart => exact ⟨0, by omega, rfl, by rw [g0.out], (by (repeat (first | assumption | exact Below.refl _ _ | refine BA ?_ _ | refine BC ?_ _ _ (by first | omega | (simp; done) | (simp; omega)) _ | refine Below.drew ?_ | refine BT ?_ (by assumption))))⟩
  case round =>
    obtain ⟨k, hk, rfl, rfl, hB⟩ := hrel
    have hk0 : (0 : Int) ≤ (k : Int) := by omega
    have hk1 : (k : Int) ≤ 12 := by omega
    obtain ⟨r0, r1⟩ := HR.out k (by omega)
    by_cases hlt : k < n
    · have hki : (k : Int) < (n : Int) := by omega
      have hg := Lib.hid (HG.out k)
      go_wp2_with fail
      go_roundw
      case rel => exact ⟨k + 1, by omega, by go_num, by rw [hg.out], (by (repeat (first | assumption | exact Below.refl _ _ | refine BA ?_ _ | refine BC ?_ _ _ (by first | omega | (simp; done) | (simp; omega)) _ | refine Below.drew ?_ | refine BT ?_ (by assumption))))⟩
      case measure => simp [intOf]; omega
    · obtain rfl : k = n := by omega
      go_wp2_with fail
      go_ret
      exact ⟨rfl, (by (repeat (first | assumption | exact Below.refl _ _ | refine BA ?_ _ | refine BC ?_ _ _ (by first | omega | (simp; done) | (simp; omega)) _ | refine Below.drew ?_ | refine BT ?_ (by assumption))))⟩
theorem known_step (ss : List St) (k : Nat) (hk : k < 12) : knownTo ss (k + 1) = if (ss.getD k default).k then knownTo ss k + 2 ^ k else knownTo ss k := by
  have h := known_rng ss k (by omega)
  rw [knownTo, or_bit12 hk h.1 h.2]
set_option maxRecDepth 100000 in
set_option maxHeartbeats 4000000 in
theorem knownR_any (p : Pl) (ss : List St) (w : World) (h : PlAt p ss w) (hn : p.n ≤ 12) : Calls Tryz.prog 48 #[p.val] w (Ret (.int .i64 (knownTo ss p.n)) w) := by
  unfold Pl.val
  have HM := Lib.hid h; clear h
  have g0 : Hid (knownTo ss 0 = 0) := rfl
  have HG : Hid (∀ k, k < 12 → knownTo ss (k + 1) = if (ss.getD k default).k then knownTo ss k + 2 ^ k else knownTo ss k) := known_step ss
  have HR : Hid (∀ k, k ≤ 12 → 0 ≤ knownTo ss k ∧ knownTo ss k < 4096) := fun k hk => known_lt hk
  generalize knownTo ss = f at *
  obtain ⟨W0, hW0⟩ : ∃ X, w.alloc (.cells #[.int .i64 p.lo, .int .i64 p.hi, .slice p.a p.n p.cap] 26) = X := ⟨_, rfl⟩
  have hB0 : Below w.heap.size w W0 := by rw [← hW0]; exact newB _ _
  have hQ : BoxP W0 w.heap.size p := by rw [← hW0]; exact boxP_new w p _
  go_enter Tryz.func48, Tryz.ntmps48
  go_wp2_with fail
  clear hW0
  go_loopw [3, 4] (fun s i wr => ∃ k : Nat, k ≤ p.n ∧ i = .int .i64 k ∧ s = .int .i64 (f k) ∧ Below W0.heap.size W0 wr) (fun _ i _ => p.n - (intOf i).toNat)
  case atStart => exact ⟨0, by omega, rfl, by rw [g0.out], Below.refl _ _⟩
  case round =>
    obtain ⟨k, hk, rfl, rfl, hB⟩ := hrel
    have hB1 := BT hB0 hB
    have hm := HM.out.below hB1 (Nat.le_refl _)
    have hnl : ss.length = p.n := hm.nl
    have hk0 : (0 : Int) ≤ (k : Int) := by omega
    have hk1 : (k : Int) ≤ 12 := by omega
    obtain ⟨b0, b1, b2⟩ := hQ.grown hB
    by_cases hlt : k < p.n
    · have hkl : k < ss.length := by omega
      have hki : (k : Int) < (p.n : Int) := by omega
      rcases hm.lk with hnil | ⟨b, o, hla, hb, hct⟩
      · exfalso; rw [hnil] at hkl; simp at hkl
      rw [hla] at b2
      clear hla
      have hs := hct k hkl
      have hg := Lib.hid (HG.out k (by omega))
      have hpw := Lib.hid (powerR_any k (by omega))
      have hr := HR.out k (by omega)
      have hp1 : Hid (1 ≤ (2 : Int) ^ k ∧ (2 : Int) ^ k ≤ 4096) := (by decide +kernel : ∀ k : Fin 13, 1 ≤ (2 : Int) ^ k.val ∧ (2 : Int) ^ k.val ≤ 4096) ⟨k, by omega⟩
      generalize (2 : Int) ^ k = q at hg hpw hp1
      clear hm hct HR HG
      generalize ss.getD k default = s at hs hg
      obtain ⟨c0, c1, c2, c3, c4, c5, c6, c7, c8⟩ := hs
      obtain ⟨r0, r1⟩ := hr
      obtain ⟨q0, q1⟩ := hp1.out
      cases hsk : s.k
      · rw [hsk] at c4 hg
        have hg2 : Hid (f (k + 1) = f k) := hg.out
        clear hg
        go_wp2_with fail
        go_roundw
        case rel => exact ⟨k + 1, by omega, by go_num, by rw [hg2.out], (by (repeat (first | assumption | exact Below.refl _ _ | refine BA ?_ _ | refine BC ?_ _ _ (by first | omega | (simp; done) | (simp; omega)) _ | refine Below.drew ?_ | refine BT ?_ (by assumption))))⟩
        case measure => simp [intOf]; omega
      · rw [hsk] at c4 hg
        have hg2 : Hid (f (k + 1) = f k + q) := hg.out
        clear hg
        go_wp2_with fail
        refine (hpw.out wr).mono ?_
        rintro e Y ⟨rfl, hY⟩
        have hB2 := BT hB hY
        clear hY hB hB1
        go_wp2_with fail
        go_roundw
        case rel => exact ⟨k + 1, by omega, by go_num, by rw [hg2.out], hB2⟩
        case measure => simp [intOf]; omega
    · obtain rfl : k = p.n := by omega
      clear hm
      go_wp2_with fail
      go_ret
      exact ⟨rfl, hB1⟩
end Go.Proofs.YtdkegkacpdkjgaaGreat
