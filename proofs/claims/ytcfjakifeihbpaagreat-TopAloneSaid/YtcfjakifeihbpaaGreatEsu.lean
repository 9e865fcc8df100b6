/- Eye: the closure of Sure. -/
import Derived.Test.YtcfjakifeihbpaaGreatEmw
namespace Go.Proofs.YtcfjakifeihbpaaGreat
namespace Ey
open Go.RowKit Nb

/-- The numbers of which something is so, as bits. -/
def sureTo (p : Nat → Bool) : Nat → Int
  | 0 => 0
  | e + 1 => if p e then sureTo p e + 2 ^ e else sureTo p e
def sureP (b : B) (e : Nat) : Bool :=
  match b (1 + e) with
  | some s => !holdB s.1 s.2 0 0
  | none => false
theorem sure_rng (p : Nat → Bool) : ∀ e, 0 ≤ sureTo p e ∧ sureTo p e < 2 ^ e
  | 0 => by simp [sureTo]
  | e + 1 => by
    have := sure_rng p e
    have hp : (2 : Int) ^ (e + 1) = 2 * 2 ^ e := by rw [Int.pow_succ, Int.mul_comm]
    rw [sureTo, hp]
    split <;> omega
theorem or_bit {a : Int} {e : Nat} (he : e < 4) (h0 : 0 ≤ a) (h1 : a < 2 ^ e) : bits .or .i64 a (wrap64 (2 ^ e)) = a + 2 ^ e := by
  have h := (by decide +kernel : ∀ e : Fin 4, ∀ a : Fin 16, (a.val : Int) < 2 ^ e.val → bits .or .i64 (a.val : Int) (wrap64 (2 ^ e.val)) = a.val + 2 ^ e.val)
  have h16 : ∀ e : Fin 4, (2 : Int) ^ e.val ≤ 16 := by decide
  have := h16 ⟨e, he⟩
  dsimp only at this
  have h2 := h ⟨e, he⟩ ⟨a.toNat, by omega⟩
  dsimp only at h2
  rw [show ((a.toNat : Nat) : Int) = a by omega] at h2
  exact h2 h1
def sureR (h : Wd) (xs : List (Int × Int)) (ls : List LkV) : Except Int Int :=
  match ovW h xs ls 0 with
  | none => .error 10
  | some b => .ok (sureTo (sureP b) (eyesN h))
end Ey
end Go.Proofs.YtcfjakifeihbpaaGreat
