/- Plate: sets as bits. -/
import Derived.Test.YtdkegkacpdkjgaaGreatPkn
import Derived.IntWalk
namespace Go.Proofs.YtdkegkacpdkjgaaGreat
open Go.RowKit

theorem i64_of_nat {m : Nat} (h : m < 1000000) : IntKind.i64.wrap (m : Int) = m := IntWalk.i64_in _ (by omega)
theorem bv_nat {n : Nat} (h : n < 1000000) : (BitVec.ofInt IntKind.i64.bits (n : Int)).toNat = n := by
  rw [BitVec.toNat_ofInt]; show ((n : Int) % ((2 ^ 64 : Nat) : Int)).toNat = n; omega
theorem or_bit12 {a : Int} {e : Nat} (he : e < 12) (h0 : 0 ≤ a) (h1 : a < 2 ^ e) : bits .or .i64 a (wrap64 (2 ^ e)) = a + 2 ^ e := by
  obtain ⟨n, rfl⟩ : ∃ n : Nat, a = (n : Int) := ⟨a.toNat, by omega⟩
  have hp : wrap64 (2 ^ e) = ((2 ^ e : Nat) : Int) := (by decide +kernel : ∀ k : Fin 12, wrap64 (2 ^ k.val) = ((2 ^ k.val : Nat) : Int)) ⟨e, he⟩
  have hp2 : 1 ≤ 2 ^ e ∧ 2 ^ e < 4096 := (by decide +kernel : ∀ k : Fin 12, 1 ≤ 2 ^ k.val ∧ 2 ^ k.val < 4096) ⟨e, he⟩
  have hpi : (2 : Int) ^ e = ((2 ^ e : Nat) : Int) := by simp
  have hn : n < 2 ^ e := by rw [hpi] at h1; omega
  unfold bits
  rw [hp]
  dsimp only
  have ho : n ||| 2 ^ e = n + 2 ^ e := by
    have := Nat.two_pow_add_eq_or_of_lt hn 1
    rw [Nat.mul_one] at this
    rw [Nat.or_comm]
    omega
  rw [BitVec.toNat_or, bv_nat (by omega), bv_nat (by omega), ho, i64_of_nat (by omega), hpi]
  simp
theorem known_rng (ss : List St) : ∀ k : Nat, k ≤ 12 → 0 ≤ knownTo ss k ∧ knownTo ss k < 2 ^ k
  | 0, _ => by rw [knownTo]; simp
  | k + 1, h => by
    have ih := known_rng ss k (by omega)
    have hp : (2 : Int) ^ (k + 1) = 2 * 2 ^ k := by rw [Int.pow_succ, Int.mul_comm]
    rw [knownTo]
    split
    · rw [or_bit12 (by omega) ih.1 ih.2, hp]; generalize (2 : Int) ^ k = z at *; omega
    · rw [hp]; generalize (2 : Int) ^ k = z at *; omega
theorem known_lt {ss : List St} {k : Nat} (h : k ≤ 12) : 0 ≤ knownTo ss k ∧ knownTo ss k < 4096 := by
  have h1 := known_rng ss k h
  have h2 : (2 : Int) ^ k ≤ 4096 := (by decide +kernel : ∀ k : Fin 13, (2 : Int) ^ k.val ≤ 4096) ⟨k, by omega⟩
  omega
end Go.Proofs.YtdkegkacpdkjgaaGreat
