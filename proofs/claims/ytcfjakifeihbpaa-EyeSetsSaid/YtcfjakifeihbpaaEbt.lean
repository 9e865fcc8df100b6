/- Sets as bits. -/
import Derived.Test.YtcfjakifeihbpaaEmw
import Derived.IntWalk
namespace Go.Proofs.Ytcfjakifeihbpaa
namespace Ey
open Go.RowKit

def hasB (x : Int) (k : Nat) : Bool := x / 2 ^ k % 2 == 1
/-- How many bits are set, of the lowest ones. -/
def sizeF : Nat → Int → Int
  | 0, _ => 0
  | k + 1, s => s % 2 + sizeF k (s / 2)
theorem sizeF_zero : ∀ k, sizeF k 0 = 0
  | 0 => rfl
  | k + 1 => by rw [sizeF]; simp [sizeF_zero k]
set_option maxRecDepth 100000 in
theorem sizeF_popc {s : Int} (h : 0 ≤ s ∧ s < 4096) : sizeF 12 s = popc s := by
  have := (by decide +kernel : ∀ k : Fin 4096, sizeF 12 k.val = popc k.val) ⟨s.toNat, by omega⟩
  have e : ((s.toNat : Nat) : Int) = s := by omega
  rw [← e]; exact this
theorem sizeR_any (s : Int) (hs : 0 ≤ s ∧ s < 4096) (w : World) : Calls Try.prog 32 #[.int .i64 s] w (Ret (.int .i64 (popc s)) w) := by
  rw [← sizeF_popc hs]
  obtain ⟨R, hR0⟩ : ∃ R, R = sizeF 12 s := ⟨_, rfl⟩
  rw [← hR0]
  have hR : Hid (R = 0 + sizeF 12 s) := by show _ = _; omega
  clear hR0
  go_enter Try.func32, Try.ntmps32
  go_wp2_with fail
  go_loopw [0, 3] (fun t o wr => ∃ (j : Nat) (x n : Int), t = .int .i64 x ∧ o = .int .i64 n ∧ 0 ≤ x ∧ x ≤ 4095 ∧ x < 2 ^ j ∧ 0 ≤ n ∧ n ≤ 10000 - j ∧ j ≤ 12 ∧ Hid (R = n + sizeF j x) ∧ Below w.heap.size w wr) (fun t _ _ => (intOf t).toNat)
  case atStart => exact ⟨12, s, 0, rfl, rfl, by omega, by omega, by omega, by omega, by omega, by omega, hR, Below.refl _ _⟩
  case round =>
    obtain ⟨j, x, n, rfl, rfl, hx0, hx1, hxj, hn0, hn1, hj, hE, hB⟩ := hrel
    by_cases hlt : x > 0
    · obtain ⟨i, rfl⟩ : ∃ i, j = i + 1 := by
        cases j with
        | zero => simp at hxj; omega
        | succ i => exact ⟨i, rfl⟩
      have hpi : x / 2 < 2 ^ i := by
        have : (2 : Int) ^ (i + 1) = 2 * 2 ^ i := by rw [Int.pow_succ, Int.mul_comm]
        omega
      have hE2 : Hid (R = n + x % 2 + sizeF i (x / 2)) := by show _ = _; rw [hE.out, sizeF]; omega
      have hP := Lib.hid hpi
      clear hxj hpi hE
      go_wp2
      go_roundw
      case rel => exact ⟨i, x / 2, n + x % 2, by go_num, by go_num, by omega, by omega, hP.out, by omega, by omega, by omega, hE2, hB⟩
      case measure => simp [intOf]; omega
    · obtain rfl : x = 0 := by omega
      clear hxj
      go_wp2
      go_ret
      exact ⟨by rw [hE.out, sizeF_zero]; simp, hB⟩
theorem i64_of_nat {m : Nat} (h : m < 1000000) : IntKind.i64.wrap (m : Int) = m := IntWalk.i64_in _ (by omega)
theorem and_pow (n k : Nat) : n &&& 2 ^ k = if n.testBit k then 2 ^ k else 0 := by
  apply Nat.eq_of_testBit_eq
  intro i
  rw [Nat.testBit_and, Nat.testBit_two_pow]
  by_cases h : k = i
  · subst h
    cases hb : n.testBit k
    · simp
    · simp
  · rw [decide_eq_false h, Bool.and_false]
    split
    · rw [Nat.testBit_two_pow, decide_eq_false h]
    · simp
theorem bv_nat {n : Nat} (h : n < 1000000) : (BitVec.ofInt IntKind.i64.bits (n : Int)).toNat = n := by
  rw [BitVec.toNat_ofInt]; show ((n : Int) % ((2 ^ 64 : Nat) : Int)).toNat = n; omega
theorem setI_has {x : Int} (hx : 0 ≤ x ∧ x < 4096) {k : Nat} (hk : k < 12) : setI x k = hasB x k := by
  obtain ⟨n, rfl⟩ : ∃ n : Nat, x = (n : Int) := ⟨x.toNat, by omega⟩
  have hp : wrap64 (2 ^ k) = ((2 ^ k : Nat) : Int) := (by decide +kernel : ∀ k : Fin 12, wrap64 (2 ^ k.val) = ((2 ^ k.val : Nat) : Int)) ⟨k, hk⟩
  have hp2 : 1 ≤ 2 ^ k ∧ 2 ^ k < 4096 := (by decide +kernel : ∀ k : Fin 12, 1 ≤ 2 ^ k.val ∧ 2 ^ k.val < 4096) ⟨k, hk⟩
  have h1 : setI (n : Int) k = (IntKind.i64.wrap (((if n.testBit k then 2 ^ k else 0) : Nat) : Int) != 0) := by
    unfold setI bits
    rw [hp]
    dsimp only
    rw [BitVec.toNat_and, bv_nat (by omega), bv_nat (by omega), and_pow]
  have h2 : hasB (n : Int) k = n.testBit k := by
    unfold hasB
    rw [Nat.testBit_eq_decide_div_mod_eq]
    have : (n : Int) / 2 ^ k % 2 = ((n / 2 ^ k % 2 : Nat) : Int) := by simp
    rw [this]
    by_cases h : n / 2 ^ k % 2 = 1
    · rw [h]; rfl
    · rw [decide_eq_false h]; simp; omega
  rw [h1, h2]
  cases n.testBit k
  · rw [if_neg (by simp), i64_of_nat (by omega)]; rfl
  · rw [if_pos rfl, i64_of_nat (by omega)]
    generalize 2 ^ k = q at *
    simp; omega
theorem butS_eq {n x : Nat} (hn : n ≤ 12) (hx : x < 2 ^ n) : butS n (x : Int) = 2 ^ n - 1 - (x : Int) := by
  have hp : (2 : Int) ^ n - 1 = ((2 ^ n - 1 : Nat) : Int) ∧ 2 ^ n ≤ 4096 := (by decide +kernel : ∀ n : Fin 13, (2 : Int) ^ n.val - 1 = ((2 ^ n.val - 1 : Nat) : Int) ∧ 2 ^ n.val ≤ 4096) ⟨n, by omega⟩
  unfold butS allS bits
  rw [hp.1]
  dsimp only
  have e : (BitVec.ofInt IntKind.i64.bits ((2 ^ n - 1 : Nat) : Int) &&& ~~~ BitVec.ofInt IntKind.i64.bits (x : Int)).toNat = 2 ^ n - (x + 1) := by
    rw [BitVec.toNat_and, BitVec.toNat_not, bv_nat (by omega), bv_nat (by omega)]
    apply Nat.eq_of_testBit_eq
    intro i
    have h64 : 2 ^ IntKind.i64.bits - 1 - x = 2 ^ 64 - (x + 1) := by show 2 ^ 64 - 1 - x = _; omega
    rw [Nat.testBit_and, Nat.testBit_two_pow_sub_one, h64, Nat.testBit_two_pow_sub_succ (by omega), Nat.testBit_two_pow_sub_succ hx]
    by_cases hi : i < n
    · rw [decide_eq_true hi, decide_eq_true (show i < 64 by omega)]; simp
    · rw [decide_eq_false hi]; simp
  rw [e, i64_of_nat (by omega)]
  omega
theorem and_one12 {x : Int} (h : 0 ≤ x ∧ x < 4096) : bits .and .i64 x 1 = x % 2 := by
  obtain ⟨n, rfl⟩ : ∃ n : Nat, x = (n : Int) := ⟨x.toNat, by omega⟩
  unfold bits
  dsimp only
  have h1 : (BitVec.ofInt IntKind.i64.bits (1 : Int)).toNat = 1 := bv_nat (n := 1) (by omega)
  rw [BitVec.toNat_and, bv_nat (by omega), h1, Nat.and_one_is_mod, i64_of_nat (by omega)]
  omega
theorem bit_at {set : Int} (h : 0 ≤ set ∧ set < 4096) (k : Nat) : (bits .and .i64 (set / 2 ^ k) 1 == 1) = hasB set k := by
  have hp := Nat.two_pow_pos k
  have e : set / 2 ^ k = ((set.toNat / 2 ^ k : Nat) : Int) := by
    obtain ⟨n, rfl⟩ : ∃ n : Nat, set = (n : Int) := ⟨set.toNat, by omega⟩
    simp
  have hle : set.toNat / 2 ^ k ≤ set.toNat := Nat.div_le_self _ _
  have hr : 0 ≤ set / 2 ^ k ∧ set / 2 ^ k < 4096 := by rw [e]; generalize set.toNat / 2 ^ k = z at *; omega
  rw [and_one12 hr]; rfl
theorem row_mem {s : Nat} : ∀ {k : Nat} {y : Int}, y ∈ setsRow s k → ∃ j : Nat, y = j ∧ j < k ∧ popc y = s
  | 0, y, h => by rw [setsRow] at h; cases h
  | k + 1, y, h => by
    rw [setsRow] at h
    split at h
    · rename_i hp
      rcases List.mem_append.1 h with h | h
      · obtain ⟨j, a, b, c⟩ := row_mem h; exact ⟨j, a, by omega, c⟩
      · obtain rfl : y = (k : Int) := by simpa using h
        exact ⟨k, rfl, by omega, by simpa using hp⟩
    · obtain ⟨j, a, b, c⟩ := row_mem h; exact ⟨j, a, by omega, c⟩
theorem to_mem {n : Nat} : ∀ {s : Nat} {y : Int}, y ∈ setsTo n s → ∃ j : Nat, y = j ∧ j < 2 ^ n ∧ popc y < s
  | 0, y, h => by rw [setsTo] at h; cases h
  | s + 1, y, h => by
    rw [setsTo] at h
    rcases List.mem_append.1 h with h | h
    · obtain ⟨j, a, b, c⟩ := to_mem h; exact ⟨j, a, b, by omega⟩
    · obtain ⟨j, a, b, c⟩ := row_mem h; exact ⟨j, a, b, by omega⟩
theorem pow_12 {n : Nat} (hn : n ≤ 12) : 1 ≤ 2 ^ n ∧ 2 ^ n ≤ 4096 ∧ (2 : Int) ^ n = ((2 ^ n : Nat) : Int) := (by decide +kernel : ∀ k : Fin 13, 1 ≤ 2 ^ k.val ∧ 2 ^ k.val ≤ 4096 ∧ (2 : Int) ^ k.val = ((2 ^ k.val : Nat) : Int)) ⟨n, by omega⟩
theorem sizeF_rng : ∀ (n k y : Nat), n ≤ k → y < 2 ^ n → (0 ≤ sizeF k (y : Int) ∧ sizeF k (y : Int) ≤ n) ∧ (sizeF k (y : Int) = n → y + 1 = 2 ^ n)
  | 0, k, y, _, hy => by
    obtain rfl : y = 0 := by simpa using hy
    rw [show ((0 : Nat) : Int) = 0 from rfl, sizeF_zero]; simp
  | n + 1, 0, y, h, _ => by omega
  | n + 1, k + 1, y, h, hy => by
    have hp : 2 ^ (n + 1) = 2 * 2 ^ n := by rw [Nat.pow_succ, Nat.mul_comm]
    have ih := sizeF_rng n k (y / 2) (by omega) (by omega)
    rw [sizeF]
    have e : (y : Int) / 2 = ((y / 2 : Nat) : Int) := by omega
    rw [e]
    generalize sizeF k ((y / 2 : Nat) : Int) = z at *
    obtain ⟨⟨a, b⟩, c⟩ := ih
    refine ⟨by omega, fun hz => ?_⟩
    have := c (by omega)
    omega
theorem popc_rng {n y : Nat} (hn : n ≤ 12) (hy : y < 2 ^ n) : (0 ≤ popc (y : Int) ∧ popc (y : Int) ≤ n) ∧ (popc (y : Int) = n → y + 1 = 2 ^ n) := by
  have := sizeF_rng n 12 y hn hy
  rw [sizeF_popc (by have := pow_12 hn; omega)] at this
  exact this
theorem popc_all {n : Nat} (hn : n ≤ 12) : popc (((2 ^ n - 1 : Nat)) : Int) = n := (by decide +kernel : ∀ n : Fin 13, popc (((2 ^ n.val - 1 : Nat)) : Int) = n.val) ⟨n, by omega⟩
theorem firstOf_best {n : Nat} (hn : n ≤ 12) {b : Int → Bool} {x : Nat} (hx : x < 2 ^ n) (hb : b x = true)
    (hmin : ∀ y : Nat, y < 2 ^ n → b y = true → popc (x : Int) < popc (y : Int) ∨ (popc (x : Int) = popc (y : Int) ∧ x ≤ y)) : firstOf n b = x := by
  obtain ⟨⟨p0, p1⟩, _⟩ := popc_rng hn hx
  obtain ⟨s, hs⟩ : ∃ s : Nat, popc (x : Int) = (s : Int) := ⟨(popc (x : Int)).toNat, by omega⟩
  refine firstOf_some (sets_at n s x (by omega) hx (by rw [hs]; simp)) (fun y hy => ?_) hb
  cases hby : b y
  · rfl
  · exfalso
    rcases List.mem_append.1 hy with hy | hy
    · obtain ⟨j, rfl, h1, h2⟩ := to_mem hy
      rcases hmin j h1 hby with h | ⟨h, _⟩ <;> omega
    · obtain ⟨j, rfl, h1, h2⟩ := row_mem hy
      rcases hmin j (by omega) hby with h | ⟨h, h3⟩ <;> omega
theorem bit_set {set : Int} (h : 0 ≤ set ∧ set < 4096) {k : Nat} (hk : k < 12) : (bits .and .i64 (set / 2 ^ k) 1 == 1) = setI set k := by rw [bit_at h, setI_has h hk]
end Ey
end Go.Proofs.Ytcfjakifeihbpaa
