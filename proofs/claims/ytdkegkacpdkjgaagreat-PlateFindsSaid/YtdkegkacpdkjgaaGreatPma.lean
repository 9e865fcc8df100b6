/- Plate: the mathematics of corners; where the corner can be if a star is where it is said to be. -/
import Derived.Test.YtdkegkacpdkjgaaGreatPsb
namespace Go.Proofs.YtdkegkacpdkjgaaGreat
open Go.RowKit

structure StOk (s : St) (d : Bool) : Prop where
  a : 0 ≤ (s.on d).1
  b : (s.on d).1 ≤ (s.on d).2
  c : (s.on d).2 ≤ 32768
  e : s.k = true → -1048576 ≤ (s.sky d).1
  f : s.k = true → (s.sky d).1 ≤ (s.sky d).2
  g : s.k = true → (s.sky d).2 ≤ 1048576
theorem stOk {s : St} (h : stB s = true) (d : Bool) : StOk s d := by
  unfold stB sideB skyB at h
  simp only [Bool.and_eq_true, Bool.or_eq_true, Bool.not_eq_true', decide_eq_true_eq] at h
  obtain ⟨⟨⟨⟨h1, h2⟩, h3⟩, ⟨h4, h5⟩, h6⟩, h7⟩ := h
  have hk : s.k = true → ((-1048576 ≤ s.e0 ∧ s.e0 ≤ s.e1) ∧ s.e1 ≤ 1048576) ∧ (-1048576 ≤ s.n0 ∧ s.n0 ≤ s.n1) ∧ s.n1 ≤ 1048576 := fun hk => by
    rcases h7 with h7 | h7
    · rw [hk] at h7; cases h7
    · exact h7
  cases d
  · exact ⟨h1, h2, h3, fun h => (hk h).1.1.1, fun h => (hk h).1.1.2, fun h => (hk h).1.2⟩
  · exact ⟨h4, h5, h6, fun h => (hk h).2.1.1, fun h => (hk h).2.1.2, fun h => (hk h).2.2⟩
theorem said_rng {s : St} {d : Bool} (h : StOk s d) : -67108864 ≤ (saidS s d).1 ∧ (saidS s d).1 ≤ (saidS s d).2 ∧ (saidS s d).2 ≤ 67108864 := by
  unfold saidS
  split
  · rename_i hk
    have := h.e hk; have := h.f hk; have := h.g hk
    omega
  · decide
theorem bey_rng {s : St} {d : Bool} (h : StOk s d) {sc : Int} (h0 : 0 ≤ sc) (h1 : sc ≤ 1000) : 0 ≤ (beyS sc s d).1 ∧ (beyS sc s d).1 ≤ (beyS sc s d).2 ∧ (beyS sc s d).2 ≤ 32768 := by
  have ha := h.a; have hb := h.b; have hc := h.c
  unfold beyS
  generalize (s.on d).1 = a at *
  generalize (s.on d).2 = b at *
  have n0 := Int.mul_nonneg h0 ha
  have n1 := Int.mul_le_mul_of_nonneg_left hb h0
  have n2 := Int.mul_le_mul h1 hc (by omega) (by omega : (0 : Int) ≤ 1000)
  dsimp only
  omega
/-- Where the corner can be if a star is where it is said to be. -/
def cbS (sc : Int) (s : St) (d : Bool) : Int × Int := ((saidS s d).1 - (beyS sc s d).2, (saidS s d).2 - (beyS sc s d).1)
theorem cb_rng {s : St} {d : Bool} (h : StOk s d) {sc : Int} (h0 : 0 ≤ sc) (h1 : sc ≤ 1000) : -67141632 ≤ (cbS sc s d).1 ∧ (cbS sc s d).1 ≤ 67108864 ∧ -67141632 ≤ (cbS sc s d).2 ∧ (cbS sc s d).2 ≤ 67108864 := by
  have h2 := said_rng h
  have h3 := bey_rng h h0 h1
  unfold cbS
  dsimp only
  omega
/-- Where it can be if the first k stars that are in a set are. -/
def corS (ss : List St) (sc : Int) (R : Nat → Bool) (d : Bool) : Nat → Int × Int
  | 0 => (-67108864, 67108864)
  | k + 1 => if R k then (max (corS ss sc R d k).1 (cbS sc (ss.getD k default) d).1, min (corS ss sc R d k).2 (cbS sc (ss.getD k default) d).2) else corS ss sc R d k
def corB (ss : List St) (sc : Int) (R : Nat → Bool) (k : Nat) : Bool := decide ((corS ss sc R false k).1 ≤ (corS ss sc R false k).2) && decide ((corS ss sc R true k).1 ≤ (corS ss sc R true k).2)
theorem cor_rng {ss : List St} {sc : Int} {R : Nat → Bool} {d : Bool} (h0 : 0 ≤ sc) (h1 : sc ≤ 1000) (hs : ∀ i, i < ss.length → StOk (ss.getD i default) d) : ∀ k, k ≤ ss.length →
    -67108864 ≤ (corS ss sc R d k).1 ∧ (corS ss sc R d k).1 ≤ 67108864 ∧ -67141632 ≤ (corS ss sc R d k).2 ∧ (corS ss sc R d k).2 ≤ 67108864
  | 0, _ => by simp [corS]
  | k + 1, hk => by
    have ih := cor_rng h0 h1 hs (R := R) k (by omega)
    have hc := cb_rng (hs k (by omega)) h0 h1
    unfold corS
    split
    · dsimp only; omega
    · exact ih
theorem cor_mono (ss : List St) (sc : Int) (R : Nat → Bool) (d : Bool) {j : Nat} : ∀ {k : Nat}, j ≤ k → (corS ss sc R d j).1 ≤ (corS ss sc R d k).1 ∧ (corS ss sc R d k).2 ≤ (corS ss sc R d j).2
  | 0, h => by obtain rfl : j = 0 := by omega
               omega
  | k + 1, h => by
    rcases Nat.lt_or_ge k j with h' | h'
    · obtain rfl : j = k + 1 := by omega
      omega
    · have ih := cor_mono ss sc R d h'
      rw [corS]
      split
      · dsimp only; omega
      · exact ih
theorem corB_cut (ss : List St) (sc : Int) (R : Nat → Bool) {j k : Nat} (h : j ≤ k) (hj : corB ss sc R j = false) : corB ss sc R k = false := by
  have h1 := cor_mono ss sc R false h
  have h2 := cor_mono ss sc R true h
  unfold corB at *
  simp only [Bool.and_eq_false_iff, decide_eq_false_iff_not] at *
  omega
/-- What is answered. -/
def corV (ss : List St) (sc : Int) (R : Nat → Bool) (k : Nat) : Value :=
  if corB ss sc R k then .tuple #[.agg #[.int .i64 (corS ss sc R false k).1, .int .i64 (corS ss sc R false k).2, .int .i64 (corS ss sc R true k).1, .int .i64 (corS ss sc R true k).2], .bool true]
  else .tuple #[.agg #[.int .i64 0, .int .i64 0, .int .i64 0, .int .i64 0], .bool false]

/-- A valid plate. -/
structure PlOk (p : Pl) (ss : List St) : Prop where
  lo : 1 ≤ p.lo
  mid : p.lo ≤ p.hi
  hi : p.hi ≤ 1000
  n10 : p.n ≤ 10
  nl : ss.length = p.n
  st : ∀ i, i < ss.length → ∀ d, StOk (ss.getD i default) d
theorem plOk {p : Pl} {ss : List St} {w : World} (h : PlAt p ss w) (hv : plB p ss = true) : PlOk p ss := by
  unfold plB at hv
  simp only [Bool.and_eq_true, decide_eq_true_eq, List.all_eq_true] at hv
  obtain ⟨⟨⟨⟨h1, h2⟩, h3⟩, h4⟩, h5⟩ := hv
  refine ⟨h1, h2, h3, h4, h.nl, fun i hi d => stOk (h5 _ ?_) d⟩
  have e : ss.getD i default = ss[i] := by simp [List.getD, hi]
  rw [e]; exact List.getElem_mem hi

end Go.Proofs.YtdkegkacpdkjgaaGreat
