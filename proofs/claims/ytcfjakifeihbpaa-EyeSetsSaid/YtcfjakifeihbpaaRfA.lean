/- The reference's bounds of a watch: they are made, and shortened. -/
import Derived.Test.YtcfjakifeihbpaaBase
import Derived.OrdersHeld
import Derived.WalkKit
import Derived.Test.YtcfjakifeihbpaaErl
import Derived.Test.YtcfjakifeihbpaaEbt
import Derived.Test.YtcfjakifeihbpaaEsm
import Derived.Test.YtcfjakifeihbpaaTvl
import Derived.Test.YtcfjakifeihbpaaEpf
import Derived.Test.YtcfjakifeihbpaaEsu
import Derived.Test.YtcfjakifeihbpaaEcs
namespace Go.Proofs.Ytcfjakifeihbpaa
namespace Fwn

/-- No bound. -/
abbrev F : Int := 1073741824
abbrev Mat := Nat → Nat → Int
def put (M : Mat) (i k : Nat) (v : Int) : Mat := fun a b => if a = i ∧ b = k then v else M a b
def stepM (m i k : Nat) (M : Mat) : Mat := if M i m < F ∧ M m k < F then put M i k (min (M i k) (M i m + M m k)) else M
def rowM (m i : Nat) : Nat → Mat → Mat
  | 0, M => M
  | k + 1, M => stepM m i k (rowM m i k M)
def roundM (n m : Nat) : Nat → Mat → Mat
  | 0, M => M
  | i + 1, M => rowM m i n (roundM n m i M)
def allM (n : Nat) : Nat → Mat → Mat
  | 0, M => M
  | m + 1, M => roundM n m n (allM n m M)

/-- Numbers that keep all bounds. -/
def Sol (n : Nat) (E : Mat) (x : Nat → Int) : Prop := ∀ i j, i < n → j < n → E i j < F → x j - x i ≤ E i j
def Bd (n : Nat) (E : Mat) (B : Int) : Prop := ∀ i j, i < n → j < n → E i j < F → -B ≤ E i j ∧ E i j ≤ B
def Top (n : Nat) (E : Mat) : Prop := ∀ i j, i < n → j < n → E i j ≤ F
def Cl (n : Nat) (E : Mat) (l : Nat) : Prop := ∀ i j, i < n → j < n → E i l < F → E l j < F → E i j < F ∧ E i j ≤ E i l + E l j

theorem step_le (m i k : Nat) (M : Mat) (a b : Nat) : stepM m i k M a b ≤ M a b := by
  unfold stepM; split
  · unfold put; split
    · rename_i h; rw [h.1, h.2]; omega
    · omega
  · omega
theorem step_other (m i k : Nat) (M : Mat) {a b : Nat} (h : ¬ (a = i ∧ b = k)) : stepM m i k M a b = M a b := by
  unfold stepM; split
  · unfold put; rw [if_neg h]
  · rfl
theorem step_sol {n m i k : Nat} (hm : m < n) (hi : i < n) (hk : k < n) {M : Mat} {x : Nat → Int} (h : Sol n M x) : Sol n (stepM m i k M) x := fun a b ha hb hf => by
  by_cases e : a = i ∧ b = k
  · obtain ⟨rfl, rfl⟩ := e
    unfold stepM at hf ⊢
    by_cases hc : M a m < F ∧ M m b < F
    · rw [if_pos hc] at hf ⊢
      unfold put at hf ⊢
      rw [if_pos ⟨rfl, rfl⟩] at hf ⊢
      have h1 := h a m ha hm hc.1; have h2 := h m b hm hb hc.2
      by_cases h3 : M a b < F
      · have := h a b ha hb h3; omega
      · have : F = 1073741824 := rfl
        omega
    · rw [if_neg hc] at hf ⊢; exact h a b ha hb hf
  · rw [step_other m i k M e] at hf ⊢; exact h a b ha hb hf
theorem row_le (m i : Nat) (M : Mat) (a b : Nat) : ∀ k, rowM m i k M a b ≤ M a b
  | 0 => Int.le_refl _
  | k + 1 => Int.le_trans (step_le _ _ _ _ _ _) (row_le m i M a b k)
theorem round_le (n m : Nat) (M : Mat) (a b : Nat) : ∀ i, roundM n m i M a b ≤ M a b
  | 0 => Int.le_refl _
  | i + 1 => Int.le_trans (row_le _ _ _ _ _ _) (round_le n m M a b i)
theorem all_le (n : Nat) (M : Mat) (a b : Nat) : ∀ m m', m ≤ m' → allM n m' M a b ≤ allM n m M a b
  | m, 0, h => by obtain rfl : m = 0 := by omega
                  exact Int.le_refl _
  | m, m' + 1, h => by
    by_cases e : m = m' + 1
    · subst e; exact Int.le_refl _
    · exact Int.le_trans (round_le _ _ _ _ _ _) (all_le n M a b m m' (by omega))
theorem row_sol {n m i : Nat} (hm : m < n) (hi : i < n) {M : Mat} {x : Nat → Int} (h : Sol n M x) : ∀ k, k ≤ n → Sol n (rowM m i k M) x
  | 0, _ => h
  | k + 1, hk => step_sol hm hi (by omega) (row_sol hm hi h k (by omega))
theorem round_sol {n m : Nat} (hm : m < n) {M : Mat} {x : Nat → Int} (h : Sol n M x) : ∀ i, i ≤ n → Sol n (roundM n m i M) x
  | 0, _ => h
  | i + 1, hi => row_sol hm (by omega) (round_sol hm h i (by omega)) n (Nat.le_refl _)
theorem all_sol {n : Nat} {M : Mat} {x : Nat → Int} (h : Sol n M x) : ∀ m, m ≤ n → Sol n (allM n m M) x
  | 0, _ => h
  | m + 1, hm => round_sol (by omega) (all_sol h m (by omega)) n (Nat.le_refl _)

/-! ## How low: no sum is too large for the machine -/
structure Low (n m : Nat) (O : Mat) (X : Int) (i0 k0 : Nat) (S : Mat) : Prop where
  same : ∀ i k, i < n → k < n → (i0 < i ∨ (i = i0 ∧ k0 ≤ k)) → S i k = O i k
  mm : -(2 * X) ≤ S m m
  row : ∀ k, k < n → -(3 * X) ≤ S m k
  col : ∀ i, i < n → -(3 * X) ≤ S i m
  all : ∀ i k, i < n → k < n → -(6 * X) ≤ S i k
theorem Low.step {n m i0 k0 : Nat} {O S : Mat} {X : Int} (_hm : m < n) (hi : i0 < n) (hk : k0 < n) (hX : 0 ≤ X) (hO : ∀ i k, i < n → k < n → -X ≤ O i k) (h : Low n m O X i0 k0 S) : Low n m O X i0 (k0 + 1) (stepM m i0 k0 S) := by
  have key : stepM m i0 k0 S i0 k0 = S i0 k0 ∨ stepM m i0 k0 S i0 k0 = S i0 m + S m k0 := by
    unfold stepM; split
    · unfold put; rw [if_pos ⟨rfl, rfl⟩]; omega
    · exact .inl rfl
  have o0 := hO i0 k0 hi hk
  have s0 := h.same i0 k0 hi hk (.inr ⟨rfl, Nat.le_refl _⟩)
  refine ⟨fun i k hi' hk' hc => ?_, ?_, fun k hk' => ?_, fun i hi' => ?_, fun i k hi' hk' => ?_⟩
  · rw [step_other m i0 k0 S (by omega)]; exact h.same i k hi' hk' (by omega)
  · by_cases e : m = i0 ∧ m = k0
    · obtain ⟨e1, e2⟩ := e
      subst e1; subst e2
      have := h.mm
      omega
    · rw [step_other m i0 k0 S e]; exact h.mm
  · by_cases e : m = i0 ∧ k = k0
    · obtain ⟨rfl, rfl⟩ := e
      have := h.mm
      omega
    · rw [step_other m i0 k0 S e]; exact h.row k hk'
  · by_cases e : i = i0 ∧ m = k0
    · obtain ⟨rfl, rfl⟩ := e
      have := h.mm
      omega
    · rw [step_other m i0 k0 S e]; exact h.col i hi'
  · by_cases e : i = i0 ∧ k = k0
    · obtain ⟨rfl, rfl⟩ := e
      have := h.row k hk; have := h.col i hi
      omega
    · rw [step_other m i0 k0 S e]; exact h.all i k hi' hk'
theorem Low.row' {n m i0 : Nat} {O S : Mat} {X : Int} (hm : m < n) (hi : i0 < n) (hX : 0 ≤ X) (hO : ∀ i k, i < n → k < n → -X ≤ O i k) (h : Low n m O X i0 0 S) : ∀ k, k ≤ n → Low n m O X i0 k (rowM m i0 k S)
  | 0, _ => h
  | k + 1, hk => (Low.row' hm hi hX hO h k (by omega)).step hm hi (by omega) hX hO
theorem Low.next {n m i0 : Nat} {O S : Mat} {X : Int} (h : Low n m O X i0 n S) : Low n m O X (i0 + 1) 0 S :=
  ⟨fun i k hi hk hc => h.same i k hi hk (by omega), h.mm, h.row, h.col, h.all⟩
theorem low_round {n m : Nat} {O : Mat} {X : Int} (hm : m < n) (hX : 0 ≤ X) (hO : ∀ i k, i < n → k < n → -X ≤ O i k) : ∀ i, i ≤ n → Low n m O X i 0 (roundM n m i O)
  | 0, _ => ⟨fun i k hi hk _ => rfl, by have := hO m m hm hm; show _ ≤ O m m; omega, fun k hk => by have := hO m k hm hk; show _ ≤ O m k; omega, fun i hi => by have := hO i m hi hm; show _ ≤ O i m; omega, fun i k hi hk => by have := hO i k hi hk; show _ ≤ O i k; omega⟩
  | i + 1, hi => ((low_round hm hX hO i (by omega)).row' hm (by omega) hX hO n (Nat.le_refl _)).next
theorem low_all {n : Nat} {M : Mat} {B : Int} (hB : 0 ≤ B) (hM : ∀ i k, i < n → k < n → -B ≤ M i k) : ∀ m, m ≤ n → ∀ i k, i < n → k < n → -(6 ^ m * B) ≤ allM n m M i k
  | 0, _, i, k, hi, hk => by simpa [allM] using hM i k hi hk
  | m + 1, hm, i, k, hi, hk => by
    have ih := low_all hB hM m (by omega)
    have h0 : (0 : Int) ≤ 6 ^ m * B := Int.mul_nonneg (Int.pow_nonneg (by omega)) hB
    have := (low_round (m := m) (by omega) h0 ih n (Nat.le_refl _)).all i k hi hk
    rw [Int.pow_succ, Int.mul_comm (6 ^ m) 6, Int.mul_assoc]
    exact this
theorem pow6 : ∀ m : Nat, m ≤ 11 → (6 : Int) ^ m ≤ 362797056 ∧ (0 : Int) ≤ 6 ^ m := by
  intro m hm
  have : ∀ k : Fin 12, (6 : Int) ^ k.val ≤ 362797056 ∧ (0 : Int) ≤ 6 ^ k.val := by decide
  exact this ⟨m, by omega⟩
/-- All that is met on the way lies between these. -/
theorem low_mid {n : Nat} (hn : n ≤ 11) {M : Mat} {B : Int} (hB : 0 ≤ B ∧ B ≤ 100000) (hM : ∀ i k, i < n → k < n → -B ≤ M i k) (ht : Top n M) {m i k : Nat} (hm : m < n) (hi : i < n) (hk : k ≤ n) :
    ∀ a b, a < n → b < n → -(300000000000000) ≤ rowM m i k (roundM n m i (allM n m M)) a b ∧ rowM m i k (roundM n m i (allM n m M)) a b ≤ F := fun a b ha hb => by
  obtain ⟨p1, p2⟩ := pow6 m (by omega)
  have h0 : (0 : Int) ≤ 6 ^ m * B := Int.mul_nonneg p2 hB.1
  have h1 : 6 ^ m * B ≤ 362797056 * 100000 := Int.mul_le_mul p1 hB.2 hB.1 (by omega)
  have l := ((low_round hm h0 (low_all hB.1 hM m (by omega)) i (by omega)).row' hm hi h0 (low_all hB.1 hM m (by omega)) k hk).all a b ha hb
  have t := Int.le_trans (Int.le_trans (Int.le_trans (row_le m i (roundM n m i (allM n m M)) a b k) (round_le n m (allM n m M) a b i)) (all_le n M a b 0 m (by omega))) (ht a b ha hb)
  exact ⟨by omega, t⟩

/-! ## By way of a point -/
def upd (E : Mat) (b : Nat) : Mat := fun i j => if E i b < F ∧ E b j < F then min (E i j) (E i b + E b j) else E i j
theorem upd_le (E : Mat) (b i j : Nat) : upd E b i j ≤ E i j := by unfold upd; split <;> omega
theorem upd_cases (E : Mat) (b i j : Nat) : (upd E b i j = E i j) ∨ (E i b < F ∧ E b j < F ∧ upd E b i j = E i b + E b j) := by
  unfold upd; split
  · rename_i h
    by_cases hh : E i b + E b j < E i j
    · exact .inr ⟨h.1, h.2, by omega⟩
    · exact .inl (by omega)
  · exact .inl rfl
theorem upd_sum (E : Mat) (b i j : Nat) (h1 : E i b < F) (h2 : E b j < F) : upd E b i j ≤ E i b + E b j := by unfold upd; rw [if_pos ⟨h1, h2⟩]; omega
theorem upd_col (E : Mat) (b i : Nat) (h : E b b = 0) : upd E b i b = E i b := by unfold upd; split <;> omega
theorem upd_row (E : Mat) (b j : Nat) (h : E b b = 0) : upd E b b j = E b j := by unfold upd; split <;> omega
theorem step_upd {m i k : Nat} {O S : Mat} (h1 : S i m = O i m) (h2 : S m k = O m k) (h3 : S i k = O i k) : stepM m i k S i k = upd O m i k := by
  unfold stepM upd
  rw [h1, h2, h3]
  split
  · unfold put; rw [if_pos ⟨rfl, rfl⟩]
  · exact h3
theorem round_upd {n m : Nat} {O : Mat} (hm : m < n) (h0 : O m m = 0) : ∀ i, i ≤ n → ∀ a b, a < n → b < n → roundM n m i O a b = if a < i then upd O m a b else O a b
  | 0, _, a, b, _, _ => by rw [if_neg (by omega)]; rfl
  | i + 1, hi, a, b, ha, hb => by
    have ih := round_upd hm h0 i (by omega)
    have hr : ∀ k, k ≤ n → ∀ a b, a < n → b < n → rowM m i k (roundM n m i O) a b = if a < i ∨ (a = i ∧ b < k) then upd O m a b else O a b := by
      intro k
      induction k with
      | zero => intro _ a b ha hb; rw [rowM, ih a b ha hb]; by_cases h : a < i
                · rw [if_pos h, if_pos (.inl h)]
                · rw [if_neg h, if_neg (by omega)]
      | succ k ihk =>
        intro hk a b ha hb
        have ik := ihk (by omega)
        rw [rowM]
        by_cases e : a = i ∧ b = k
        · obtain ⟨rfl, rfl⟩ := e
          rw [if_pos (.inr ⟨rfl, by omega⟩)]
          refine step_upd ?_ ?_ ?_
          · rw [ik a m ha hm]; split
            · exact upd_col O m a h0
            · rfl
          · rw [ik m b hm hb]; split
            · exact upd_row O m b h0
            · rfl
          · rw [ik a b ha hb, if_neg (by omega)]
        · rw [step_other m i k _ e, ik a b ha hb]
          by_cases h : a < i ∨ (a = i ∧ b < k)
          · rw [if_pos h, if_pos (by omega)]
          · rw [if_neg h, if_neg (by omega)]
    rw [roundM, hr n (Nat.le_refl _) a b ha hb]
    by_cases h : a < i + 1
    · rw [if_pos (by omega), if_pos h]
    · rw [if_neg (by omega), if_neg h]
section
variable {n : Nat} {E : Mat} {B : Int} {b : Nat}
theorem upd_bd (hb : b < n) (h : Bd n E B) (_h0 : 0 ≤ B) : Bd n (upd E b) (2 * B) := fun i j hi hj hne => by
  rcases upd_cases E b i j with e | ⟨h1, h2, e⟩
  · rw [e] at hne ⊢; have := h i j hi hj hne; omega
  · have a := h i b hi hb h1; have c := h b j hb hj h2; omega
theorem upd_fin (hb : b < n) (h : Bd n E B) (h2 : 2 * B < F) {i j : Nat} (hi : i < n) (hj : j < n) : upd E b i j < F ↔ (E i j < F ∨ (E i b < F ∧ E b j < F)) := by
  constructor
  · intro hne
    rcases upd_cases E b i j with e | ⟨a, c, _⟩
    · exact .inl (e ▸ hne)
    · exact .inr ⟨a, c⟩
  · intro hh
    rcases hh with hh | ⟨a, c⟩
    · have l := upd_le E b i j; omega
    · have p := h i b hi hb a; have q := h b j hb hj c
      have l := upd_sum E b i j a c
      omega
theorem upd_cl_new (hb : b < n) (h : Bd n E B) (h2 : 2 * B < F) (h0 : E b b = 0) : Cl n (upd E b) b := fun i j hi hj h1 h3 => by
  rw [upd_col E b i h0] at h1 ⊢
  rw [upd_row E b j h0] at h3 ⊢
  exact ⟨(upd_fin hb h h2 hi hj).2 (.inr ⟨h1, h3⟩), upd_sum E b i j h1 h3⟩
theorem upd_cl_old {l : Nat} (hb : b < n) (h : Bd n E B) (h2 : 2 * B < F) (h0 : E b b = 0) (hc : Cl n E l) : Cl n (upd E b) l := fun i j hi hj h1 h3 => by
  rcases upd_cases E b i l with e1 | ⟨p1, p2, e1⟩ <;> rcases upd_cases E b l j with e2 | ⟨q1, q2, e2⟩
  · rw [e1] at h1 ⊢; rw [e2] at h3 ⊢
    obtain ⟨c1, c2⟩ := hc i j hi hj h1 h3
    exact ⟨(upd_fin hb h h2 hi hj).2 (.inl c1), Int.le_trans (upd_le _ _ _ _) c2⟩
  · rw [e1] at h1 ⊢; rw [e2]
    obtain ⟨c1, c2⟩ := hc i b hi hb h1 q1
    exact ⟨(upd_fin hb h h2 hi hj).2 (.inr ⟨c1, q2⟩), by have := upd_sum E b i j c1 q2; omega⟩
  · rw [e1]; rw [e2] at h3 ⊢
    obtain ⟨c1, c2⟩ := hc b j hb hj p2 h3
    exact ⟨(upd_fin hb h h2 hi hj).2 (.inr ⟨p1, c1⟩), by have := upd_sum E b i j p1 c1; omega⟩
  · rw [e1, e2]
    obtain ⟨_, c2⟩ := hc b b hb hb p2 q1
    exact ⟨(upd_fin hb h h2 hi hj).2 (.inr ⟨p1, q2⟩), by have := upd_sum E b i j p1 q2; omega⟩
end
/-- Bounds that have shortened each other. -/
structure Short (n : Nat) (D : Mat) (B : Int) : Prop where
  zero : ∀ i, i < n → D i i = 0
  bd : Bd n D B
  cl : ∀ l, l < n → Cl n D l
theorem Bd.congr {n : Nat} {E E' : Mat} {B : Int} (h : ∀ i j, i < n → j < n → E i j = E' i j) (hb : Bd n E B) : Bd n E' B := fun i j hi hj hne => by rw [← h i j hi hj] at hne ⊢; exact hb i j hi hj hne
theorem Cl.congr {n : Nat} {E E' : Mat} {l : Nat} (hl : l < n) (h : ∀ i j, i < n → j < n → E i j = E' i j) (hb : Cl n E l) : Cl n E' l := fun i j hi hj h1 h2 => by
  rw [← h i l hi hl] at h1 ⊢; rw [← h l j hl hj] at h2 ⊢; rw [← h i j hi hj]; exact hb i j hi hj h1 h2
/-- If no point is below itself in the end, all have shortened each other. -/
theorem all_good {n : Nat} (hn : n ≤ 11) {M : Mat} {B : Int} (hB : 0 ≤ B ∧ B ≤ 100000) (hM : Bd n M B) (h0 : ∀ i, i < n → M i i = 0) (hd : ∀ i, i < n → 0 ≤ allM n n M i i) :
    ∀ m, m ≤ n → Bd n (allM n m M) (2 ^ m * B) ∧ (∀ l, l < m → Cl n (allM n m M) l) ∧ ∀ i j, i < n → j < n → M i j < F → allM n m M i j < F
  | 0, _ => ⟨by simpa [allM] using hM, fun l h => by omega, fun i j _ _ h => h⟩
  | m + 1, hm => by
    obtain ⟨bd, cl, fin⟩ := all_good hn hB hM h0 hd m (by omega)
    have hp : (2 : Int) ^ m ≤ 2048 ∧ (0 : Int) ≤ 2 ^ m := by
      have : ∀ k : Fin 12, (2 : Int) ^ k.val ≤ 2048 ∧ (0 : Int) ≤ 2 ^ k.val := by decide
      exact this ⟨m, by omega⟩
    have hm0 : (0 : Int) ≤ 2 ^ m * B := Int.mul_nonneg hp.2 hB.1
    have hm1 : (2 : Int) ^ m * B ≤ 2048 * 100000 := Int.mul_le_mul hp.1 hB.2 hB.1 (by omega)
    have h2' : 2 * (2 ^ m * B) < F := by show _ < (1073741824 : Int); omega
    have hz : allM n m M m m = 0 := by
      have a := all_le n M m m m n (by omega)
      have c := all_le n M m m 0 m (by omega)
      have d := hd m (by omega)
      have e := h0 m (by omega)
      have f : allM n 0 M m m = M m m := rfl
      omega
    have hr : ∀ i j, i < n → j < n → upd (allM n m M) m i j = allM n (m + 1) M i j := fun i j hi hj => by
      rw [allM, round_upd (by omega) hz n (Nat.le_refl _) i j hi hj, if_pos hi]
    have e2 : (2 : Int) ^ (m + 1) * B = 2 * (2 ^ m * B) := by rw [Int.pow_succ, Int.mul_comm (2 ^ m) 2, Int.mul_assoc]
    refine ⟨?_, fun l hl => ?_, fun i j hi hj h => ?_⟩
    · rw [e2]; exact Bd.congr hr (upd_bd (by omega) bd hm0)
    · refine Cl.congr (by omega) hr ?_
      by_cases e : l = m
      · subst e; exact upd_cl_new (by omega) bd h2' hz
      · exact upd_cl_old (by omega) bd h2' hz (cl l (by omega))
    · rw [← hr i j hi hj]
      exact (upd_fin (by omega) bd h2' hi hj).2 (.inl (fin i j hi hj h))
theorem least (f : Nat → Int) (ok : Nat → Bool) : ∀ n, (∃ m, m < n ∧ ok m = true) → ∃ m, m < n ∧ ok m = true ∧ ∀ k, k < n → ok k = true → f m ≤ f k
  | 0, h => by obtain ⟨m, hm, _⟩ := h; omega
  | n + 1, h => by
    by_cases hn : ∃ m, m < n ∧ ok m = true
    · obtain ⟨m, hm, ho, hl⟩ := least f ok n hn
      by_cases hon : ok n = true
      · by_cases hf : f m ≤ f n
        · refine ⟨m, by omega, ho, fun k hk hok => ?_⟩
          by_cases e : k = n
          · subst e; exact hf
          · exact hl k (by omega) hok
        · refine ⟨n, by omega, hon, fun k hk hok => ?_⟩
          by_cases e : k = n
          · subst e; omega
          · have := hl k (by omega) hok; omega
      · refine ⟨m, by omega, ho, fun k hk hok => ?_⟩
        by_cases e : k = n
        · subst e; exact absurd hok hon
        · exact hl k (by omega) hok
    · obtain ⟨m, hm, ho⟩ := h
      have e : m = n := by
        by_cases e : m = n
        · exact e
        · exact absurd ⟨m, by omega, ho⟩ hn
      subst e
      refine ⟨m, hm, ho, fun k hk hok => ?_⟩
      by_cases e : k = m
      · subst e; omega
      · exact absurd ⟨k, by omega, hok⟩ hn
/-- Each bound is reached; what is not bound is as great as you like. -/
theorem Short.reach {n : Nat} {D : Mat} {B : Int} (h : Short n D B) {i j : Nat} (hi : i < n) (hj : j < n) :
    (D i j < F → ∃ x, Sol n D x ∧ x i = 0 ∧ x j = D i j) ∧ (¬ D i j < F → ∀ T : Int, ∃ x, Sol n D x ∧ x i = 0 ∧ T ≤ x j) := by
  have main : ∀ G : Int, 3 * B + 1 ≤ G → 0 ≤ G → ∃ x : Nat → Int, Sol n D x ∧ x i = 0 ∧ (∀ k, k < n → (∃ m, m < n ∧ D m k < F ∧ x k = (if m = i then 0 else G) + D m k) ∧ ∀ m, m < n → D m k < F → x k ≤ (if m = i then 0 else G) + D m k) := by
    intro G hG hG0
    let c : Nat → Int := fun m => if m = i then 0 else G
    have hx : ∀ k, ∃ v : Int, k < n → (∃ m, m < n ∧ D m k < F ∧ v = c m + D m k) ∧ ∀ m, m < n → D m k < F → v ≤ c m + D m k := fun k => by
      by_cases hk : k < n
      · obtain ⟨m, hm, ho, hl⟩ := least (fun m => c m + D m k) (fun m => decide (D m k < F)) n ⟨k, hk, by rw [h.zero k hk]; decide⟩
        exact ⟨c m + D m k, fun _ => ⟨⟨m, hm, by simpa using ho, rfl⟩, fun q hq hne => hl q hq (by simpa using hne)⟩⟩
      · exact ⟨0, fun h => absurd h hk⟩
    obtain ⟨x, hx⟩ := Classical.axiomOfChoice hx
    have ci : c i = 0 := if_pos rfl
    have cm : ∀ m, m ≠ i → c m = G := fun m hm => if_neg hm
    refine ⟨x, fun a b ha hb hf => ?_, ?_, hx⟩
    · obtain ⟨⟨m, hm, hma, e⟩, _⟩ := hx a ha
      obtain ⟨_, hl⟩ := hx b hb
      obtain ⟨c1, c2⟩ := h.cl a ha m b hm hb hma hf
      have := hl m hm c1
      omega
    · obtain ⟨⟨m, hm, hf, e⟩, hl⟩ := hx i hi
      have h1 := hl i hi (by rw [h.zero i hi]; decide)
      rw [ci, h.zero i hi] at h1
      by_cases hmi : m = i
      · subst hmi; rw [e, ci, h.zero m hi]; rfl
      · rw [cm m hmi] at e
        have := h.bd m i hm hi hf
        omega
  constructor
  · intro hne
    have b0 := h.bd i j hi hj hne
    obtain ⟨x, hs, x0, hx⟩ := main (3 * B + 1) (by omega) (by omega)
    refine ⟨x, hs, x0, ?_⟩
    obtain ⟨⟨m, hm, hf, e⟩, hl⟩ := hx j hj
    have h1 := hl i hi hne
    rw [if_pos rfl] at h1
    by_cases hmi : m = i
    · subst hmi; rw [e, if_pos rfl]; omega
    · rw [if_neg hmi] at e
      have p := h.bd m j hm hj hf
      omega
  · intro hne T
    have b0 := h.bd i i hi hi (by rw [h.zero i hi]; decide)
    rw [h.zero i hi] at b0
    obtain ⟨x, hs, x0, hx⟩ := main (max (3 * B + 1) (T + B)) (by omega) (by omega)
    refine ⟨x, hs, x0, ?_⟩
    obtain ⟨⟨m, hm, hf, e⟩, _⟩ := hx j hj
    by_cases hmi : m = i
    · subst hmi; exact absurd hf hne
    · rw [if_neg hmi] at e
      have p := h.bd m j hm hj hf
      omega
/-- What all of it says. -/
theorem all_yes {n : Nat} (hn : n ≤ 11) {M : Mat} {B : Int} (hB : 0 ≤ B ∧ B ≤ 100000) (hM : Bd n M B) (h0 : ∀ i, i < n → M i i = 0) (hd : ∀ i, i < n → 0 ≤ allM n n M i i) :
    Short n (allM n n M) (2 ^ n * B) ∧ (∀ x, Sol n (allM n n M) x ↔ Sol n M x) := by
  obtain ⟨bd, cl, fin⟩ := all_good hn hB hM h0 hd n (Nat.le_refl _)
  refine ⟨⟨fun i hi => ?_, bd, cl⟩, fun x => ⟨fun h i j hi hj hf => ?_, fun h => all_sol h n (Nat.le_refl _)⟩⟩
  · have c := all_le n M i i 0 n (by omega)
    have d := hd i hi
    have e := h0 i hi
    have f : allM n 0 M i i = M i i := rfl
    omega
  · have c := all_le n M i j 0 n (by omega)
    have f : allM n 0 M i j = M i j := rfl
    have := h i j hi hj (fin i j hi hj hf)
    omega
theorem all_no {n : Nat} {M : Mat} {i : Nat} (hi : i < n) (hd : allM n n M i i < 0) (x : Nat → Int) : ¬ Sol n M x := fun h => by
  have := all_sol h n (Nat.le_refl _) i i hi hi (by show _ < (1073741824 : Int); omega)
  omega
theorem all_truth {n : Nat} (hn : n ≤ 11) (h1 : 0 < n) {M : Mat} {B : Int} (hB : 0 ≤ B ∧ B ≤ 100000) (hM : Bd n M B) (h0 : ∀ i, i < n → M i i = 0) :
    (∃ x, Sol n M x) ↔ ∀ i, i < n → 0 ≤ allM n n M i i := by
  constructor
  · rintro ⟨x, hx⟩ i hi
    by_cases h : allM n n M i i < 0
    · exact absurd hx (all_no hi h x)
    · omega
  · intro hd
    obtain ⟨sh, sol⟩ := all_yes hn hB hM h0 hd
    obtain ⟨x, hx, _⟩ := (sh.reach h1 h1).1 (by rw [sh.zero 0 h1]; decide)
    exact ⟨x, (sol x).1 hx⟩
end Fwn
end Go.Proofs.Ytcfjakifeihbpaa

namespace Go.Proofs.Ytcfjakifeihbpaa
namespace Sq6
section
variable {P : Program} {ops : Array Oper} {l : List Oper} {Q : Exit → Act → World → Prop} {md : Region.Mode} {S : World → Prop}

/-- What an operation waits for, at once. -/
def deps (md : Region.Mode) (ops : Array Oper) (j : Nat) : List Nat :=
  ((ops[j]?).map fun o => (o.after.toList.filter fun e => Region.binds md e).map (·.on)).getD []
/-- What is waited for in some steps. -/
def depsN (md : Region.Mode) (ops : Array Oper) : Nat → List Nat → List Nat
  | 0, l => l
  | n + 1, l => l ++ depsN md ops n (l.flatMap (deps md ops))
/-- It waits for all others. -/
def finalOp (md : Region.Mode) (ops : Array Oper) (j : Nat) : Bool :=
  (List.range ops.size).all fun k => k == j || (depsN md ops 6 (deps md ops j)).contains k
/-- What came up had all come up for which it waits. -/
def Closed (md : Region.Mode) (ops : Array Oper) (listed : Array Bool) : Prop := ∀ j, listed.getD j false = true → ∀ k ∈ deps md ops j, listed.getD k false = true
theorem closed_none (n : Nat) : Closed md ops (Array.replicate n false) := fun j h => by
  rw [Array.getD_eq_getD_getElem?, Array.getElem?_replicate] at h
  split at h <;> cases h
theorem deps_ready {listed : Array Bool} {j : Nat} (hj : j ∈ Region.ready md ops listed) : ∀ k ∈ deps md ops j, listed.getD k false = true := by
  intro k hk
  obtain ⟨_, o, ho, hall⟩ := mem_ready.1 hj
  simp only [deps, ho, Option.map_some, Option.getD_some, List.mem_map, List.mem_filter] at hk
  obtain ⟨e, ⟨he, hb⟩, rfl⟩ := hk
  exact hall e (Array.mem_toList_iff.1 he) hb
theorem closed_set {listed : Array Bool} {j : Nat} (h : Closed md ops listed) (hj : j ∈ Region.ready md ops listed) : Closed md ops (listed.setIfInBounds j true) := by
  intro x hx k hk
  refine getD_set_true ?_
  by_cases e : j = x
  · subst e; exact deps_ready hj k hk
  · exact h x (by rw [getD_set_ne false e] at hx; exact hx) k hk
theorem closed_depsN {listed : Array Bool} (h : Closed md ops listed) : ∀ (n : Nat) (l : List Nat), (∀ k ∈ l, listed.getD k false = true) → ∀ k ∈ depsN md ops n l, listed.getD k false = true
  | 0, _, hl => hl
  | n + 1, l, hl => fun k hk => by
    rw [depsN, List.mem_append] at hk
    rcases hk with hk | hk
    · exact hl k hk
    · refine closed_depsN h n _ (fun x hx => ?_) k hk
      obtain ⟨y, hy, hx⟩ := List.mem_flatMap.1 hx
      exact h y (hl y hy) x hx
/-- Whatever order is picked, and S holds behind each operation that is carried out, but for one that waits for all others. -/
def wpAnyR (P : Program) (md : Region.Mode) (ops : Array Oper) (Q : Exit → Act → World → Prop) (S : World → Prop) : Nat → Array Bool → Act → World → Prop
  | 0, listed, a, w => Region.ready md ops listed = [] ∧ Q .normal a w
  | fuel + 1, listed, a, w =>
    (Region.ready md ops listed = [] → Q .normal a w) ∧
    ∀ i ∈ Region.ready md ops listed, wpOp P ops Q i (fun a' w' => (finalOp md ops i = false → S w') ∧ wpAnyR P md ops Q S fuel (listed.setIfInBounds i true) a' w') a w
theorem wpAny_of_R : ∀ (fuel : Nat) (listed : Array Bool) (a : Act) (w : World), wpAnyR P md ops Q S fuel listed a w → wpAny P md ops Q fuel listed a w
  | 0, _, _, _, h => h
  | fuel + 1, _, _, _, h => ⟨h.1, fun i hi => wpOp_mono (fun a' w' h' => wpAny_of_R fuel _ a' w' h'.2) (h.2 i hi)⟩
/-- What is not final may come up while another one has not. -/
theorem not_final {listed : Array Bool} {i j : Nat} (hc : Closed md ops listed) (hi : i ∈ Region.ready md ops listed) (hj : j ∈ Region.ready md ops listed) (hne : j ≠ i) : finalOp md ops j = false := by
  obtain ⟨hi0, oi, hoi, _⟩ := mem_ready.1 hi
  have hsz : i < ops.size := (Array.getElem?_eq_some_iff.1 hoi).1
  cases hf : finalOp md ops j
  · rfl
  · exfalso
    unfold finalOp at hf
    rw [List.all_eq_true] at hf
    have h1 := hf i (List.mem_range.2 hsz)
    simp only [Bool.or_eq_true, beq_iff_eq, List.contains_iff_mem] at h1
    rcases h1 with h1 | h1
    · exact hne h1.symm
    · have h2 := closed_depsN hc 6 _ (deps_ready hj) i h1
      rcases Nat.lt_or_ge i listed.size with h' | h'
      · simp [h'] at hi0 h2; rw [hi0] at h2; cases h2
      · simp [Array.getElem?_eq_none h'] at h2
/-- What yields one value in each world that meets S, and may come up, may be taken first. -/
theorem wpAnyR_first {i : Nat} {oi : Oper} {v : Value} (hi : ops[i]? = some oi) (hsel : ∀ (j : Nat) (o : Oper) cs b, ops[j]? = some o → o.op ≠ .select cs b)
    (hQ : ∀ c a w, Q (.panic c) (a.put oi.dst v) w → Q (.panic c) a w) :
    ∀ (fuel : Nat) (listed : Array Bool) (a : Act) (w : World), Closed md ops listed →
      (∀ j oj, ops[j]? = some oj → j ≠ i → listed.getD j true = false → (∀ e ∈ oj.after, Region.binds md e = true → e.on ≠ i) → oi.apart ops oj = true) →
      i ∈ Region.ready md ops listed → YieldsIf P ops S oi v a → S w →
      wpAnyR P md ops Q S fuel (listed.setIfInBounds i true) (a.put oi.dst v) w → wpAnyR P md ops Q S (fuel + 1) listed a w := by
  intro fuel
  induction fuel with
  | zero =>
    intro listed a w _ _ hr hy hS H
    refine ⟨fun h => absurd hr (by rw [h]; simp), fun j hj => ?_⟩
    by_cases hji : j = i
    · subst hji; exact hy.wpOp hi hS ⟨fun _ => hS, H⟩
    · have hj' := ready_mono hj hji
      rw [H.1] at hj'; cases hj'
  | succ fuel ih =>
    intro listed a w hcl hfree hr hy hS H
    refine ⟨fun h => absurd hr (by rw [h]; simp), fun j hj => ?_⟩
    by_cases hji : j = i
    · subst hji; exact hy.wpOp hi hS ⟨fun _ => hS, H⟩
    · have hnf := not_final hcl hr hj hji
      obtain ⟨hjun, oj, hoj, hall⟩ := mem_ready.1 hj
      have hnot : ∀ e ∈ oj.after, Region.binds md e = true → e.on ≠ i := fun e he hb heq => by
        have h2 := hall e he hb
        have h0 := (mem_ready.1 hr).1
        rw [heq] at h2
        rcases Nat.lt_or_ge i listed.size with h' | h'
        · simp [h'] at h0 h2; rw [h0] at h2; cases h2
        · simp [Array.getElem?_eq_none h'] at h2
      have hstep := wpOp_putIf hoj (hfree j oj hoj hji hjun hnot) (fun cs b => hsel i oi cs b hi) (fun cs b => hsel j oj cs b hoj) hQ hy (H.2 j (ready_mono hj hji))
      have hfree2 : ∀ k ok, ops[k]? = some ok → k ≠ i → (listed.setIfInBounds j true).getD k true = false →
          (∀ e ∈ ok.after, Region.binds md e = true → e.on ≠ i) → oi.apart ops ok = true := fun k ok hk hki hun hno => by
        refine hfree k ok hk hki ?_ hno
        by_cases hjk : j = k
        · subst hjk; exact hjun
        · rw [getD_set_ne true hjk] at hun; exact hun
      refine wpOp_mono (fun a' w' h3 => ?_) hstep
      obtain ⟨hy3, hS3, h3⟩ := h3
      rw [Array.setIfInBounds_comm _ _ (Ne.symm hji)] at h3
      exact ⟨hS3, ih (listed.setIfInBounds j true) a' w' (closed_set hcl hj) hfree2 (ready_mono hr (Ne.symm hji)) hy3 (hS3 hnf) h3⟩

/-- Steps in the order of the walk, and then F; 'true': it only reads. -/
def wpSeq (P : Program) (md : Region.Mode) (l : List Oper) (Q : Exit → Act → World → Prop) (S : World → Prop) (F : Act → World → Prop) : List (Nat × Bool) → Act → World → Prop
  | [], a, w => F a w
  | (i, b) :: rest, a, w =>
    match l[i]? with
    | none => False
    | some o =>
      (Region.wanted o (yielded l.toArray a.tmps) = false ∧ wpSeq P md l Q S F rest (a.put o.dst undef) w) ∨
      (Region.wanted o (yielded l.toArray a.tmps) = true ∧
        if b then ∃ v, (∀ w', S w' → (execOp a.eval o).run P w' = .ok (.value v) w') ∧ wpSeq P md l Q S F rest (a.put o.dst v) w
        else o.wp P a w (fun a' w' => (finalOp md l.toArray i = false → S w') ∧ ((finalOp md l.toArray i = false → S w') → wpSeq P md l Q S F rest a' w')) Q)

/-- The list may come so, from these on; what is then behind. -/
def seqPre (md : Region.Mode) (ops : Array Oper) : List (Nat × Bool) → Array Bool → Option (Array Bool)
  | [], listed => some listed
  | (i, true) :: rest, listed => if (Region.ready md ops listed).contains i && Region.free md ops listed i then seqPre md ops rest (listed.setIfInBounds i true) else none
  | (i, false) :: rest, listed => if decide (Region.ready md ops listed = [i]) && (!finalOp md ops i || rest.isEmpty) then seqPre md ops rest (listed.setIfInBounds i true) else none

theorem seqPre_closed : ∀ (L : List (Nat × Bool)) (listed d : Array Bool), Closed md ops listed → seqPre md ops L listed = some d → Closed md ops d
  | [], listed, d, h, hd => by
    simp only [seqPre, Option.some.injEq] at hd
    subst hd; exact h
  | (i, true) :: rest, listed, d, h, hd => by
    simp only [seqPre] at hd
    split at hd
    case isFalse => cases hd
    case isTrue hc =>
      simp only [Bool.and_eq_true] at hc
      exact seqPre_closed rest _ d (closed_set h (by simpa using hc.1)) hd
  | (i, false) :: rest, listed, d, h, hd => by
    simp only [seqPre] at hd
    split at hd
    case isFalse => cases hd
    case isTrue hc =>
      simp only [Bool.and_eq_true, decide_eq_true_eq] at hc
      exact seqPre_closed rest _ d (closed_set h (by rw [hc.1]; simp)) hd

theorem wpSeq_sound {F : Act → World → Prop} (hs : Region.noSelect l.toArray = true) (hQ : ∀ c a d v w, Q (.panic c) (Act.put a d v) w → Q (.panic c) a w) (n : Nat) (done : Array Bool) (fin : Prop)
    (hF : ∀ fuel a w, n ≤ fuel → (fin → S w) → F a w → wpAnyR P md l.toArray Q S fuel done a w) :
    ∀ (L : List (Nat × Bool)) (fuel : Nat) (listed : Array Bool) (a : Act) (w : World), L.length + n ≤ fuel → Closed md l.toArray listed → seqPre md l.toArray L listed = some done →
      (fin → ∀ p ∈ L, finalOp md l.toArray p.1 = false) → S w → wpSeq P md l Q S F L a w → wpAnyR P md l.toArray Q S fuel listed a w := by
  intro L
  induction L with
  | nil =>
    intro fuel listed a w hf _ hok _ hS h
    simp only [seqPre, Option.some.injEq] at hok
    subst hok
    exact hF fuel a w (by simpa using hf) (fun _ => hS) h
  | cons p rest ih =>
    intro fuel listed a w hf hcl hok hfin hS h
    obtain ⟨i, b⟩ := p
    cases fuel with
    | zero => simp at hf
    | succ fuel =>
      have hf' : rest.length + n ≤ fuel := by simp at hf; omega
      have hfin' : fin → ∀ p ∈ rest, finalOp md l.toArray p.1 = false := fun hh p hp => hfin hh p (List.mem_cons_of_mem _ hp)
      simp only [wpSeq] at h
      cases ho : l[i]? with
      | none => rw [ho] at h; exact h.elim
      | some o =>
        rw [ho] at h
        have ho' : l.toArray[i]? = some o := by simpa using ho
        cases b with
        | true =>
          simp only [seqPre] at hok
          split at hok
          case isFalse => cases hok
          case isTrue hc =>
            simp only [Bool.and_eq_true] at hc
            have hr : i ∈ Region.ready md l.toArray listed := by simpa using hc.1
            rcases h with ⟨hw, h⟩ | ⟨hw, h⟩
            · exact wpAnyR_first ho' (Region.noSelect_spec hs) (fun c a w => hQ c a _ _ w) fuel listed a w hcl (Region.free_spec ho' hc.2) hr (Or.inr ⟨hw, rfl⟩) hS (ih fuel _ _ _ hf' (closed_set hcl hr) hok hfin' hS h)
            · simp only [if_true] at h
              obtain ⟨v, hv, h⟩ := h
              exact wpAnyR_first ho' (Region.noSelect_spec hs) (fun c a w => hQ c a _ _ w) fuel listed a w hcl (Region.free_spec ho' hc.2) hr (Or.inl ⟨hw, hv⟩) hS (ih fuel _ _ _ hf' (closed_set hcl hr) hok hfin' hS h)
        | false =>
          simp only [seqPre] at hok
          split at hok
          case isFalse => cases hok
          case isTrue hc =>
            simp only [Bool.and_eq_true, decide_eq_true_eq, Bool.or_eq_true, Bool.not_eq_true'] at hc
            obtain ⟨hr, hend⟩ := hc
            refine ⟨fun h0 => absurd h0 (by rw [hr]; simp), fun j hj => ?_⟩
            rw [hr] at hj
            obtain rfl : j = i := by simpa using hj
            have go : ∀ a' w', (finalOp md l.toArray j = false → S w') → wpSeq P md l Q S F rest a' w' → wpAnyR P md l.toArray Q S fuel (listed.setIfInBounds j true) a' w' := fun a' w' hS' h' => by
              rcases hend with hnf | hemp
              · exact ih fuel _ _ _ hf' (closed_set hcl (by rw [hr]; simp)) hok hfin' (hS' hnf) h'
              · have : rest = [] := by simpa using hemp
                subst this
                simp only [seqPre, Option.some.injEq] at hok
                subst hok
                exact hF fuel a' w' (by simpa using hf') (fun hh => hS' (hfin hh (j, false) (List.mem_cons_self ..))) h'
            unfold Go.wpOp
            rw [ho']
            rcases h with ⟨hw, h⟩ | ⟨hw, h⟩
            · simp only [hw, Bool.false_eq_true, if_false]
              exact ⟨fun _ => hS, go _ _ (fun _ => hS) h⟩
            · simp only [Bool.false_eq_true, if_false] at h
              simp only [hw, if_true]
              exact Or.inl (Oper.wp_mono (fun a' w' h' => ⟨h'.1, go a' w' h'.1 (h'.2 h'.1)⟩) h)

def seqOk (ops : Array Oper) (L : List (Nat × Bool)) : Bool :=
  Region.noSelect ops && decide (L.length ≤ ops.size) && (match seqPre .any ops L (Array.replicate ops.size false) with | some d => (Region.ready .any ops d).isEmpty | none => false)

/-- The beginning: the list, checked by the kernel; S of the world at hand. -/
theorem wp_region_seq {id : Nat} {a : Act} {w : World} (L : List (Nat × Bool)) (S : World → Prop) (hm : P.follows .mixedOrders = true) (hok : seqOk l.toArray L = true)
    (hQ : ∀ c a d v w, Q (.panic c) (Act.put a d v) w → Q (.panic c) a w) (hS : S w.drew)
    (h : wpSeq P .any l Q S (Q .normal) L a w.drew) : (Code.region id l.toArray true).wp P Q a w := by
  unfold seqOk at hok
  simp only [Bool.and_eq_true, decide_eq_true_eq] at hok
  obtain ⟨⟨h1, h2⟩, h3⟩ := hok
  split at h3
  case h_2 => cases h3
  case h_1 d hd =>
    refine wp_region_any hm (wpAny_of_R (S := S) _ _ _ _ (wpSeq_sound h1 hQ 0 d False ?_ L _ _ _ _ h2 (closed_none _) hd (fun hh => hh.elim) hS h))
    intro fuel a w _ _ hq
    have hr : Region.ready .any l.toArray d = [] := by simpa using h3
    cases fuel with
    | zero => exact ⟨hr, hq⟩
    | succ fuel => exact ⟨fun _ => hq, by rw [hr]; simp⟩

/-- Two that may come in either order, behind L: each with what follows it then. -/
def forkOk (ops : Array Oper) (L L1 L2 : List (Nat × Bool)) : Bool :=
  Region.noSelect ops && decide (L.length + L1.length ≤ ops.size) && decide (L.length + L2.length ≤ ops.size) && L.all (fun p => !finalOp .any ops p.1) &&
  (match seqPre .any ops L (Array.replicate ops.size false), L1, L2 with
    | some d, (i, false) :: R1, (j, false) :: R2 => decide (Region.ready .any ops d = [i, j]) && !finalOp .any ops i && !finalOp .any ops j &&
        (match seqPre .any ops R1 (d.setIfInBounds i true), seqPre .any ops R2 (d.setIfInBounds j true) with
          | some d1, some d2 => (Region.ready .any ops d1).isEmpty && (Region.ready .any ops d2).isEmpty
          | _, _ => false)
    | _, _, _ => false)
theorem wp_region_fork {id : Nat} {a : Act} {w : World} (L L1 L2 : List (Nat × Bool)) (S : World → Prop) (hm : P.follows .mixedOrders = true) (hok : forkOk l.toArray L L1 L2 = true)
    (hQ : ∀ c a d v w, Q (.panic c) (Act.put a d v) w → Q (.panic c) a w) (hS : S w.drew)
    (h : wpSeq P .any l Q S (fun a w => S w → wpSeq P .any l Q S (Q .normal) L1 a w ∧ wpSeq P .any l Q S (Q .normal) L2 a w) L a w.drew) : (Code.region id l.toArray true).wp P Q a w := by
  unfold forkOk at hok
  simp only [Bool.and_eq_true, decide_eq_true_eq] at hok
  obtain ⟨⟨⟨⟨h1, h2⟩, h2'⟩, hnf⟩, h3⟩ := hok
  split at h3
  case h_2 => cases h3
  case h_1 d i R1 j R2 hd =>
    simp only [Bool.and_eq_true, decide_eq_true_eq, Bool.not_eq_true'] at h3
    obtain ⟨⟨⟨hr, hi⟩, hj⟩, h4⟩ := h3
    split at h4
    case h_2 => cases h4
    case h_1 d1 d2 hd1 hd2 =>
      simp only [Bool.and_eq_true, List.isEmpty_iff] at h4
      have hend : ∀ (dd : Array Bool), Region.ready .any l.toArray dd = [] → ∀ (fuel : Nat) (a : Act) (w : World), 0 ≤ fuel → (False → S w) → Q .normal a w → wpAnyR P .any l.toArray Q S fuel dd a w := by
        intro dd hrr fuel a w _ _ hq
        cases fuel with
        | zero => exact ⟨hrr, hq⟩
        | succ fuel => exact ⟨fun _ => hq, by rw [hrr]; simp⟩
      refine wp_region_any hm (wpAny_of_R (S := S) _ _ _ _ (wpSeq_sound h1 hQ (max (R1.length + 1) (R2.length + 1)) d True ?_ L _ _ _ _ ?_ (closed_none _) hd ?_ hS h))
      · intro fuel a w hf hSw hb
        have hSw := hSw trivial
        obtain ⟨b1, b2⟩ := hb hSw
        cases fuel with
        | zero => omega
        | succ fuel =>
          refine ⟨fun h0 => absurd h0 (by rw [hr]; simp), fun k hk => ?_⟩
          rw [hr] at hk
          have hcd : Closed .any l.toArray d := seqPre_closed L _ d (closed_none _) hd
          have one : ∀ (k : Nat) (R : List (Nat × Bool)) (dd : Array Bool), k ∈ Region.ready .any l.toArray d → finalOp .any l.toArray k = false → R.length ≤ fuel → seqPre .any l.toArray R (d.setIfInBounds k true) = some dd → Region.ready .any l.toArray dd = [] →
              wpSeq P .any l Q S (Q .normal) ((k, false) :: R) a w → wpOp P l.toArray Q k (fun a' w' => (finalOp .any l.toArray k = false → S w') ∧ wpAnyR P .any l.toArray Q S fuel (d.setIfInBounds k true) a' w') a w := by
            intro k R dd hkr hkf hlen hdd hrd hb
            simp only [wpSeq] at hb
            cases ho : l[k]? with
            | none => rw [ho] at hb; exact hb.elim
            | some o =>
              rw [ho] at hb
              have ho' : l.toArray[k]? = some o := by simpa using ho
              have go : ∀ a' w', S w' → wpSeq P .any l Q S (Q .normal) R a' w' → wpAnyR P .any l.toArray Q S fuel (d.setIfInBounds k true) a' w' := fun a' w' hS' h' =>
                wpSeq_sound h1 hQ 0 dd False (hend dd hrd) R fuel _ a' w' (by omega) (closed_set hcd hkr) hdd (fun hh => hh.elim) hS' h'
              unfold Go.wpOp
              rw [ho']
              rcases hb with ⟨hw, hb⟩ | ⟨hw, hb⟩
              · simp only [hw, Bool.false_eq_true, if_false]
                exact ⟨fun _ => hSw, go _ _ hSw hb⟩
              · simp only [Bool.false_eq_true, if_false] at hb
                simp only [hw, if_true]
                exact Or.inl (Oper.wp_mono (fun a' w' h' => ⟨h'.1, go a' w' (h'.1 hkf) (h'.2 h'.1)⟩) hb)
          simp only [List.mem_cons, List.not_mem_nil, or_false] at hk
          rcases hk with rfl | rfl
          · exact one k R1 d1 (by rw [hr]; simp) hi (by omega) hd1 h4.1 b1
          · exact one k R2 d2 (by rw [hr]; simp) hj (by omega) hd2 h4.2 b2
      · simp at h2 h2'; simp; omega
      · intro _ p hp
        have := List.all_eq_true.1 hnf p hp
        simpa using this

variable {F : Act → World → Prop}
theorem seq_end {a : Act} {w : World} (h : F a w) : wpSeq P md l Q S F [] a w := h
theorem seq_skip {i : Nat} {b : Bool} {rest : List (Nat × Bool)} {o : Oper} {a : Act} {w : World} (ho : l[i]? = some o) (hw : Region.wanted o (yielded l.toArray a.tmps) = false)
    (h : wpSeq P md l Q S F rest (a.put o.dst undef) w) : wpSeq P md l Q S F ((i, b) :: rest) a w := by
  simp only [wpSeq, ho]; exact .inl ⟨hw, h⟩
theorem seq_read {i : Nat} {rest : List (Nat × Bool)} {o : Oper} {a : Act} {w : World} (ho : l[i]? = some o) (hw : Region.wanted o (yielded l.toArray a.tmps) = true) (v : Value)
    (hv : ∀ w', S w' → (execOp a.eval o).run P w' = .ok (.value v) w') (h : wpSeq P md l Q S F rest (a.put o.dst v) w) : wpSeq P md l Q S F ((i, true) :: rest) a w := by
  simp only [wpSeq, ho]; exact .inr ⟨hw, v, hv, h⟩
theorem seq_do {i : Nat} {rest : List (Nat × Bool)} {o : Oper} {a : Act} {w : World} (ho : l[i]? = some o) (hw : Region.wanted o (yielded l.toArray a.tmps) = true)
    (h : ∀ K : Act → World → Prop, (∀ a w, S w → wpSeq P md l Q S F rest a w → K a w) → o.wp P a w K Q) : wpSeq P md l Q S F ((i, false) :: rest) a w := by
  simp only [wpSeq, ho]; exact .inr ⟨hw, by simpa using h _ (fun a w hS h => ⟨fun _ => hS, fun _ => h⟩)⟩
/-- The last one, which waits for all others. -/
theorem seq_last {i : Nat} {o : Oper} {a : Act} {w : World} (ho : l[i]? = some o) (hw : Region.wanted o (yielded l.toArray a.tmps) = true) (hf : finalOp md l.toArray i = true)
    (h : ∀ K : Act → World → Prop, (∀ a w, F a w → K a w) → o.wp P a w K Q) : wpSeq P md l Q S F [(i, false)] a w := by
  simp only [wpSeq, ho]; exact .inr ⟨hw, by simpa [hf] using h F (fun a w h => h)⟩
theorem wp_cut {c : Code} {K : Act → World → Prop} {a : Act} {w : World} (Mid : Act → World → Prop) (h1 : c.wp P (Exit.then Mid Q) a w) (h2 : ∀ a' w', Mid a' w' → K a' w') : c.wp P (Exit.then K Q) a w :=
  Code.wp_mono (fun e a w h => by cases e <;> first | exact h2 _ _ h | exact h) h1
end
end Sq6
end Go.Proofs.Ytcfjakifeihbpaa

namespace Go.Proofs.Ytcfjakifeihbpaa
namespace Ey
open Go.RowKit

theorem pow_le {k n : Nat} (h : k ≤ n) (hn : n ≤ 30) : (1 : Int) ≤ 2 ^ k ∧ (2 : Int) ^ k ≤ 1073741824 := by
  have : ∀ k : Fin 31, (1 : Int) ≤ 2 ^ k.val ∧ (2 : Int) ^ k.val ≤ 1073741824 := by decide
  exact this ⟨k, by omega⟩
set_option maxHeartbeats 1000000 in
theorem power_any (n : Nat) (hn : n ≤ 30) (w : World) : Calls Try.prog 55 #[.int .i64 n] w (Ret (.int .i64 (2 ^ n)) w) := by
  have hn0 : (n : Int) ≤ 30 := by omega
  go_enter Try.func55, Try.ntmps55
  go_wp2_with fail
  go_loopw [3, 4] (fun o i wr => ∃ k : Nat, k ≤ n ∧ i = .int .i64 k ∧ o = .int .i64 (2 ^ k) ∧ Below w.heap.size w wr) (fun _ i _ => n - (intOf i).toNat)
  case atStart => exact ⟨0, by omega, rfl, rfl, Below.refl _ _⟩
  case round =>
    obtain ⟨k, hk, rfl, rfl, hB⟩ := hrel
    obtain ⟨p0, p1⟩ := pow_le hk hn
    have hk0 : (0 : Int) ≤ (k : Int) := by omega
    by_cases hlt : k < n
    · have hp : Hid ((2 : Int) ^ (k + 1) = 2 * 2 ^ k) := by show _ = _; rw [Int.pow_succ, Int.mul_comm]
      generalize (2 : Int) ^ k = q at *
      go_wp2
      go_roundw
      case rel => exact ⟨k + 1, by omega, by go_num, by rw [hp.out], hB⟩
      case measure => simp [intOf]; omega
    · obtain rfl : k = n := by omega
      go_wp2
      go_ret
      exact ⟨rfl, hB⟩
set_option maxHeartbeats 1000000 in
theorem has_anyR (set : Int) (i : Nat) (hs : 0 ≤ set ∧ set ≤ 1000000) (hi : i ≤ 30) (w : World) : Calls Try.prog 94 #[.int .i64 set, .int .i64 i] w (Ret (.bool (hasB set i)) w) := by
  obtain ⟨hs0, hs1⟩ := hs
  obtain ⟨p0, p1⟩ := pow_le (Nat.le_refl i) hi
  have hH : Hid (hasB set i = (set / 2 ^ i % 2 == 1)) := rfl
  have hp := Lib.hid (power_any i hi)
  generalize hasB set i = b at *
  generalize (2 : Int) ^ i = q at *
  have hd0 : 0 ≤ set / q := Int.ediv_nonneg hs0 (by omega)
  go_enter Try.func94, Try.ntmps94
  go_wp2_with fail
  refine (hp.out _).mono ?_
  rintro e w1 ⟨rfl, hb1⟩
  go_wp2
  go_ret
  exact ⟨by rw [hH.out]; rfl, hb1⟩
set_option maxRecDepth 100000 in
set_option maxHeartbeats 1000000 in
theorem travels_any (a : Option Addr) (cap : Nat) (xs : List (Int × Int)) (eLo eHi r : Int) (w : World) (hx : Spans w a xs) (hl : xs.length ≤ 100) (he : -100 ≤ eLo ∧ eHi ≤ 100 ∧ eLo ≤ eHi) (hev : evB (-100) 100 xs = true) (hr : 0 ≤ r ∧ r / 1000 < xs.length) :
    Calls Try.prog 112 #[.agg #[.slice a xs.length cap, .int .i64 eLo, .int .i64 eHi], .int .i64 r] w (Ret (.agg #[.int .i64 (trav r (xs.getD (r / 1000).toNat (0, 0)).1 eLo), .int .i64 (trav r (xs.getD (r / 1000).toNat (0, 0)).2 eHi)]) w) := by
  obtain ⟨hr0, hr1⟩ := hr
  obtain ⟨he0, he1, he2⟩ := he
  have hk : (r / 1000).toNat < xs.length := by omega
  obtain ⟨v1, v2⟩ := ev_get hev (r / 1000).toNat
  have hrn : r < 100000 := by omega
  have hq : Hid (((r / 1000).toNat : Int) = r / 1000) := by show _ = _; omega
  rcases hx with h | ⟨b, o, rfl, hb, hc⟩
  · rw [h] at hk; simp at hk
  obtain ⟨d0, d1⟩ := hc _ hk
  clear hc hev
  have hT1 := Lib.hid (trav_eq (r := r) (lo := (xs.getD (r / 1000).toNat (0, 0)).1) (eLo := eLo) (by omega) (by omega) (by omega))
  have hT2 := Lib.hid (trav_eq (r := r) (lo := (xs.getD (r / 1000).toNat (0, 0)).2) (eLo := eHi) (by omega) (by omega) (by omega))
  generalize trav r (xs.getD (r / 1000).toNat (0, 0)).1 eLo = t1 at *
  generalize trav r (xs.getD (r / 1000).toNat (0, 0)).2 eHi = t2 at *
  generalize (xs.getD (r / 1000).toNat (0, 0)).1 = l at *
  generalize (xs.getD (r / 1000).toNat (0, 0)).2 = h at *
  generalize xs.length = n at *
  obtain ⟨k, hkr⟩ : ∃ k : Nat, (r / 1000).toNat = k := ⟨_, rfl⟩
  rw [hkr] at d0 d1 hq hk
  have hkk : r / 1000 = (k : Int) := by omega
  clear hkr hq
  have hk0 : (0 : Int) ≤ (k : Int) := by omega
  go_enter Try.func112, Try.ntmps112
  go_wp2
  exact bodyPost_ret (v := .agg #[.int .i64 (r + l + eLo), .int .i64 (r + h + eHi)]) (by simp [results, Try.results112, go_sem]) rfl ⟨by rw [hT1.out, hT2.out], by (repeat (first | assumption | exact Below.refl _ _ | refine BA ?_ _ | refine BC ?_ _ _ (by omega) _ | refine Below.drew ?_ | refine BT ?_ (by assumption)))⟩
set_option maxRecDepth 100000 in
set_option maxHeartbeats 1000000 in
theorem travelR_any (a : Option Addr) (cap : Nat) (xs : List (Int × Int)) (eLo eHi r : Int) (w : World) (hx : Spans w a xs) (hl : xs.length ≤ 100) :
    Calls Try.prog 96 #[.agg #[.slice a xs.length cap, .int .i64 eLo, .int .i64 eHi], .int .i64 r] w (Ret (reply (travelR xs eLo eHi r)) w) := by
  have hZ : Below w.heap.size w ((w.alloc (.cells #[.slice a xs.length cap, .int .i64 eLo, .int .i64 eHi] 26)).alloc (.cells #[.int .i64 0, .int .i64 0] 24)) := by (repeat (first | assumption | exact Below.refl _ _ | refine BA ?_ _ | refine BC ?_ _ _ (by omega) _ | refine Below.drew ?_ | refine BT ?_ (by assumption)))
  have hI0 : InS ((w.alloc (.cells #[.slice a xs.length cap, .int .i64 eLo, .int .i64 eHi] 26)).alloc (.cells #[.int .i64 0, .int .i64 0] 24)) w.heap.size a xs.length cap eLo eHi := ⟨by simp [go_sem], by simp [go_sem], by simp [go_sem]⟩
  have hS0 : Slots (w.heap.size + 1) 2 ((w.alloc (.cells #[.slice a xs.length cap, .int .i64 eLo, .int .i64 eHi] 26)).alloc (.cells #[.int .i64 0, .int .i64 0] 24)) := by
    intro o ho
    have : o = 0 ∨ o = 1 := by omega
    rcases this with rfl | rfl <;> simp [go_sem]
  have hs0 : w.heap.size + 1 < ((w.alloc (.cells #[.slice a xs.length cap, .int .i64 eLo, .int .i64 eHi] 26)).alloc (.cells #[.int .i64 0, .int .i64 0] 24)).heap.size := by simp
  have hX := hx.below (Nat.le_refl _) hZ
  have hsc := screwR_any a xs cap eLo eHi _ hl hX
  have hrd := fun W => readingR_any a xs.length cap eLo eHi r W hl
  have hV : Hid (∀ b, validB xs eLo eHi = true → hasTrn xs.length r = b → reply (travelR xs eLo eHi r) = if b then .tuple #[.agg #[.int .i64 (trav r (xs.getD (r / 1000).toNat (0, 0)).1 eLo), .int .i64 (trav r (xs.getD (r / 1000).toNat (0, 0)).2 eHi)], .int .i64 0] else .tuple #[.agg #[.int .i64 0, .int .i64 0], .int .i64 2]) := fun b h1 h2 => by
    unfold travelR; rw [if_pos h1, h2]; cases b <;> rfl
  have hV0 : Hid (validB xs eLo eHi = false → reply (travelR xs eLo eHi r) = .tuple #[.agg #[.int .i64 0, .int .i64 0], .int .i64 1]) := fun h1 => by
    unfold travelR; rw [if_neg (by rw [h1]; decide)]; rfl
  have htr : Hid (∀ W, Spans W a xs → validB xs eLo eHi = true → hasTrn xs.length r = true → Calls Try.prog 112 #[.agg #[.slice a xs.length cap, .int .i64 eLo, .int .i64 eHi], .int .i64 r] W (Ret (.agg #[.int .i64 (trav r (xs.getD (r / 1000).toNat (0, 0)).1 eLo), .int .i64 (trav r (xs.getD (r / 1000).toNat (0, 0)).2 eHi)]) W)) := fun W hX h1 h2 => by
    simp only [validB, holdB, Bool.and_eq_true, decide_eq_true_eq] at h1
    simp only [hasTrn, Bool.and_eq_true, decide_eq_true_eq] at h2
    exact travels_any a cap xs eLo eHi r W hX hl (by omega) h1.1.2 h2
  generalize reply (travelR xs eLo eHi r) = R at *
  generalize trav r (xs.getD (r / 1000).toNat (0, 0)).1 eLo = t1 at *
  generalize trav r (xs.getD (r / 1000).toNat (0, 0)).2 eHi = t2 at *
  obtain ⟨c0, c1, c2⟩ := hI0
  have hl0 : (xs.length : Int) ≤ 100 := by omega
  go_enter Try.func96, Try.ntmps96
  go_wp2_with fail
  generalize hBw : w.heap.size = B at c0 c1 c2 hS0 hs0 ⊢
  have hwB : w.heap.size ≤ B + 1 := by omega
  clear hBw
  generalize (w.alloc (.cells #[.slice a xs.length cap, .int .i64 eLo, .int .i64 eHi] 26)).alloc (.cells #[.int .i64 0, .int .i64 0] 24) = W at *
  refine hsc.mono ?_
  rintro e w1 ⟨rfl, hb1⟩
  have d0 := cellB c0 hb1
  have d1 := cellB c1 hb1
  have d2 := cellB c2 hb1
  have hS1 := hS0.below hb1 hs0
  have hB1 := BT hZ hb1
  have hX1 := hX.below (Nat.le_refl _) hb1
  have hs1 : B + 1 < w1.heap.size := Nat.lt_of_lt_of_le hs0 hb1.size
  clear hsc c0 c1 c2 hS0 hs0 hX hZ
  cases h1 : validB xs eLo eHi
  · have H1 := Lib.hid h1; clear h1
    obtain ⟨v0, u0, f0⟩ := hS1.get 0 (by omega)
    obtain ⟨v1, u1, f1⟩ := hS1.get 1 (by omega)
    go_wp2
    exact bodyPost_ret (v := .tuple #[.agg #[.int .i64 0, .int .i64 0], .int .i64 1]) (by simp [results, Try.results96, go_sem, u0, u1]) rfl ⟨by rw [hV0.out H1.out], by (repeat (first | assumption | exact Below.refl _ _ | refine BA ?_ _ | refine BC ?_ _ _ (by omega) _ | refine Below.drew ?_ | refine BT ?_ (by assumption)))⟩
  have H1 := Lib.hid h1; clear h1
  go_wp2_with fail
  refine (hrd _).mono ?_
  rintro e w2 ⟨rfl, hb2⟩
  have e0 := cellB d0 hb2
  have e1 := cellB d1 hb2
  have e2 := cellB d2 hb2
  have hS2 := hS1.below hb2 hs1
  have hB2 := BT hB1 hb2
  have hX2 := hX1.below (Nat.le_refl _) hb2
  have hs2 : B + 1 < w2.heap.size := Nat.lt_of_lt_of_le hs1 hb2.size
  clear hrd d0 d1 d2 hS1 hs1 hX1 hB1 hb1 hb2
  cases h2 : hasTrn xs.length r
  · have H2 := Lib.hid h2; clear h2
    obtain ⟨v0, u0, f0⟩ := hS2.get 0 (by omega)
    obtain ⟨v1, u1, f1⟩ := hS2.get 1 (by omega)
    go_wp2
    exact bodyPost_ret (v := .tuple #[.agg #[.int .i64 0, .int .i64 0], .int .i64 2]) (by simp [results, Try.results96, go_sem, u0, u1]) rfl ⟨by rw [hV.out _ H1.out H2.out]; rfl, by (repeat (first | assumption | exact Below.refl _ _ | refine BA ?_ _ | refine BC ?_ _ _ (by omega) _ | refine Below.drew ?_ | refine BT ?_ (by assumption)))⟩
  have H2 := Lib.hid h2; clear h2
  have ht := htr.out w2 hX2 H1.out H2.out
  go_wp2_with fail
  refine ht.mono ?_
  rintro e w3 ⟨rfl, hb3⟩
  have hS3 := hS2.below hb3 hs2
  have hB3 := BT hB2 hb3
  obtain ⟨v0, u0, f0⟩ := hS3.get 0 (by omega)
  obtain ⟨v1, u1, f1⟩ := hS3.get 1 (by omega)
  clear ht e0 e1 e2 hS2 hB2 hX2
  go_wp2
  exact bodyPost_ret (v := .tuple #[.agg #[.int .i64 t1, .int .i64 t2], .int .i64 0]) (by simp [results, Try.results96, go_sem, u0, u1]) rfl ⟨by rw [hV.out _ H1.out H2.out]; rfl, by (repeat (first | assumption | exact Below.refl _ _ | refine BA ?_ _ | refine BC ?_ _ _ (by omega) _ | refine Below.drew ?_ | refine BT ?_ (by assumption)))⟩
end Ey
end Go.Proofs.Ytcfjakifeihbpaa

namespace Go.Proofs.Ytcfjakifeihbpaa
namespace Ey
open Go.RowKit Nb Fwn

def bdM (i k : Nat) (v : Int) (M : Mat) : Mat := put M i k (min (M i k) v)
def initM : Mat := fun a b => if a = b then 0 else F
def eyesM (h : Wd) (H : Int) : Nat → Mat
  | 0 => initM
  | e + 1 => bdM (1 + e) 0 (-(habS h H e).1) (bdM 0 (1 + e) (habS h H e).2 (eyesM h H e))
def looksM (h : Wd) (ts : List (Int × Int)) (ls : List LkV) (E : Nat) (S H : Int) : Nat → Mat
  | 0 => eyesM h H E
  | k + 1 => if setI S k then bdM (1 + E + (ls.getD k (0, 0, 0)).2.1.toNat) (1 + (ls.getD k (0, 0, 0)).1.toNat) (-(ts.getD k (0, 0)).1) (bdM (1 + (ls.getD k (0, 0, 0)).1.toNat) (1 + E + (ls.getD k (0, 0, 0)).2.1.toNat) (ts.getD k (0, 0)).2 (looksM h ts ls E S H k)) else looksM h ts ls E S H k
def ofM (h : Wd) (ts : List (Int × Int)) (ls : List LkV) (E I : Nat) (S H : Int) : Mat := allM (1 + E + I) (1 + E + I) (looksM h ts ls E S H ls.length)
/-- What is known of a watch, and of how many images. -/
structure RO (h : Wd) (ts : List (Int × Int)) (ls : List LkV) (E I : Nat) : Prop where
  w : WOk h ts ls E
  i6 : I ≤ 6
  im : ∀ k, k < ls.length → (ls.getD k (0, 0, 0)).2.1 < I
  hb : (-100000 ≤ h.hLo ∧ h.hLo ≤ 100000) ∧ -100000 ≤ h.hHi ∧ h.hHi ≤ 100000
  tb : ∀ k, (-100000 ≤ (ts.getD k (0, 0)).1 ∧ (ts.getD k (0, 0)).1 ≤ 100000) ∧ -100000 ≤ (ts.getD k (0, 0)).2 ∧ (ts.getD k (0, 0)).2 ≤ 100000
/-- Bounds that are small, or none. -/
structure Rd (n : Nat) (M : Mat) : Prop where
  bd : Bd n M 100000
  top : Top n M
  zero : ∀ i, i < n → M i i = 0
theorem Rd.low {n : Nat} {M : Mat} (r : Rd n M) : ∀ i k, i < n → k < n → -100000 ≤ M i k := fun i k hi hk => by
  by_cases h : M i k < F
  · exact (r.bd i k hi hk h).1
  · have : F = 1073741824 := rfl
    omega
theorem rd_init (n : Nat) : Rd n initM := by
  refine ⟨fun i j hi hj hn => ?_, fun i j hi hj => ?_, fun i hi => if_pos rfl⟩
  · unfold initM at hn ⊢
    split
    · omega
    · rename_i e; rw [if_neg e] at hn; exact absurd hn (by omega)
  · unfold initM; split <;> decide
theorem Rd.bound {n : Nat} {M : Mat} (r : Rd n M) {i k : Nat} (hi : i < n) (hk : k < n) (hne : i ≠ k) {v : Int} (hv : -100000 ≤ v ∧ v ≤ 100000) : Rd n (bdM i k v M) := by
  have hF : F = 1073741824 := rfl
  refine ⟨fun a b ha hb hf => ?_, fun a b ha hb => ?_, fun a ha => ?_⟩
  · unfold bdM put at hf ⊢
    split
    · rename_i e; have := r.low i k hi hk; omega
    · rename_i e; rw [if_neg e] at hf; exact r.bd a b ha hb hf
  · unfold bdM put
    split
    · omega
    · exact r.top a b ha hb
  · unfold bdM put
    rw [if_neg (by omega)]; exact r.zero a ha
theorem sol_bound {n : Nat} {M : Mat} {i k : Nat} (hi : i < n) (hk : k < n) {v : Int} (hv : v ≤ 100000) (ht : Top n M) (x : Nat → Int) : Sol n (bdM i k v M) x ↔ Sol n M x ∧ x k - x i ≤ v := by
  have hF : F = 1073741824 := rfl
  have e0 : bdM i k v M i k = min (M i k) v := by unfold bdM put; rw [if_pos ⟨rfl, rfl⟩]
  have e1 : ∀ a b, ¬ (a = i ∧ b = k) → bdM i k v M a b = M a b := fun a b h => by unfold bdM put; rw [if_neg h]
  have := ht i k hi hk
  constructor
  · intro h
    have h0 := h i k hi hk (by rw [e0]; omega)
    rw [e0] at h0
    refine ⟨fun a b ha hb hf => ?_, by omega⟩
    by_cases e : a = i ∧ b = k
    · obtain ⟨rfl, rfl⟩ := e; omega
    · have := h a b ha hb (by rw [e1 a b e]; exact hf)
      rw [e1 a b e] at this; exact this
  · rintro ⟨h, h2⟩ a b ha hb hf
    by_cases e : a = i ∧ b = k
    · obtain ⟨rfl, rfl⟩ := e
      rw [e0]
      by_cases hm : M a b < F
      · have := h a b ha hb hm; omega
      · omega
    · rw [e1 a b e] at hf ⊢; exact h a b ha hb hf
theorem sol_init (n : Nat) (x : Nat → Int) : Sol n initM x := fun i j hi hj hf => by
  unfold initM at hf ⊢
  by_cases e : i = j
  · subst e; rw [if_pos rfl]; omega
  · rw [if_neg e] at hf; exact absurd hf (by omega)
/-- A truth, by the reference's numbers. -/
structure TrR (h : Wd) (ts : List (Int × Int)) (ls : List LkV) (E : Nat) (S H : Int) (m k : Nat) (x : Nat → Int) : Prop where
  hab : ∀ e, e < m → (habS h H e).1 ≤ x (1 + e) - x 0 ∧ x (1 + e) - x 0 ≤ (habS h H e).2
  look : ∀ j, j < k → setI S j = true → (ts.getD j (0, 0)).1 ≤ x (1 + E + (ls.getD j (0, 0, 0)).2.1.toNat) - x (1 + (ls.getD j (0, 0, 0)).1.toNat) ∧ x (1 + E + (ls.getD j (0, 0, 0)).2.1.toNat) - x (1 + (ls.getD j (0, 0, 0)).1.toNat) ≤ (ts.getD j (0, 0)).2
section
variable {h : Wd} {ts : List (Int × Int)} {ls : List LkV} {E I : Nat} {S H : Int}
theorem habS_b' (r : RO h ts ls E I) (e : Nat) : (-100000 ≤ (habS h H e).1 ∧ (habS h H e).1 ≤ 100000) ∧ -100000 ≤ (habS h H e).2 ∧ (habS h H e).2 ≤ 100000 := by
  unfold habS
  split
  · exact r.hb
  · simp
theorem eyesM_ok (r : RO h ts ls E I) : ∀ e, e ≤ E → Rd (1 + E + I) (eyesM h H e) ∧ ∀ x, Sol (1 + E + I) (eyesM h H e) x ↔ TrR h ts ls E S H e 0 x
  | 0, _ => ⟨rd_init _, fun x => ⟨fun _ => ⟨fun e he => by omega, fun j hj => by omega⟩, fun _ => sol_init _ x⟩⟩
  | e + 1, he => by
    obtain ⟨rd, sol⟩ := eyesM_ok r e (by omega)
    obtain ⟨b1, b2⟩ := habS_b' (H := H) r e
    have r1 := rd.bound (i := 0) (k := 1 + e) (by omega) (by omega) (by omega) b2
    have r2 := r1.bound (i := 1 + e) (k := 0) (v := -(habS h H e).1) (by omega) (by omega) (by omega) ⟨by omega, by omega⟩
    refine ⟨r2, fun x => ?_⟩
    rw [eyesM, sol_bound (by omega) (by omega) (by omega) r1.top, sol_bound (by omega) (by omega) b2.2 rd.top, sol x]
    constructor
    · rintro ⟨⟨a, b⟩, c⟩
      refine ⟨fun m hm => ?_, fun j hj => by omega⟩
      by_cases hme : m = e
      · subst hme; omega
      · exact a.hab m (by omega)
    · intro a
      have := a.hab e (by omega)
      exact ⟨⟨⟨fun m hm => a.hab m (by omega), fun j hj => by omega⟩, this.2⟩, by omega⟩
theorem looksM_ok (r : RO h ts ls E I) : ∀ k, k ≤ ls.length → Rd (1 + E + I) (looksM h ts ls E S H k) ∧ ∀ x, Sol (1 + E + I) (looksM h ts ls E S H k) x ↔ TrR h ts ls E S H E k x
  | 0, _ => eyesM_ok r E (Nat.le_refl _)
  | k + 1, hk => by
    obtain ⟨rd, sol⟩ := looksM_ok r k (by omega)
    have step : ∀ x, TrR h ts ls E S H E (k + 1) x ↔ TrR h ts ls E S H E k x ∧ (setI S k = true → (ts.getD k (0, 0)).1 ≤ x (1 + E + (ls.getD k (0, 0, 0)).2.1.toNat) - x (1 + (ls.getD k (0, 0, 0)).1.toNat) ∧ x (1 + E + (ls.getD k (0, 0, 0)).2.1.toNat) - x (1 + (ls.getD k (0, 0, 0)).1.toNat) ≤ (ts.getD k (0, 0)).2) := fun x => by
      constructor
      · intro a; exact ⟨⟨a.hab, fun j hj => a.look j (by omega)⟩, a.look k (by omega)⟩
      · rintro ⟨a, b⟩
        refine ⟨a.hab, fun j hj => ?_⟩
        by_cases e : j = k
        · subst e; exact b
        · exact a.look j (by omega)
    have b1 := r.w.ey k (by omega)
    have b2 := r.w.im k (by omega)
    have b3 := r.im k (by omega)
    obtain ⟨t1, t2⟩ := r.tb k
    rw [looksM]
    cases hs : setI S k
    · rw [if_neg (by simp)]
      exact ⟨rd, fun x => by rw [sol x, step x]; exact ⟨fun a => ⟨a, fun e => by rw [hs] at e; cases e⟩, fun a => a.1⟩⟩
    · rw [if_pos rfl]
      have r1 := rd.bound (i := 1 + (ls.getD k (0, 0, 0)).1.toNat) (k := 1 + E + (ls.getD k (0, 0, 0)).2.1.toNat) (by omega) (by omega) (by omega) t2
      have r2 := r1.bound (i := 1 + E + (ls.getD k (0, 0, 0)).2.1.toNat) (k := 1 + (ls.getD k (0, 0, 0)).1.toNat) (v := -(ts.getD k (0, 0)).1) (by omega) (by omega) (by omega) ⟨by omega, by omega⟩
      refine ⟨r2, fun x => ?_⟩
      rw [sol_bound (by omega) (by omega) (by omega) r1.top, sol_bound (by omega) (by omega) t2.2 rd.top, sol x, step x]
      constructor
      · rintro ⟨⟨a, b⟩, c⟩; exact ⟨a, fun _ => ⟨by omega, b⟩⟩
      · rintro ⟨a, b⟩
        have := b hs
        exact ⟨⟨a, this.2⟩, by omega⟩
/-- The package's number of a point. -/
def sgm (E k : Nat) : Nat := if k ≤ E then k else k - (1 + E) + 5
theorem sgm_hab {E e : Nat} (he : e < E) : sgm E (1 + e) = 1 + e := if_pos (by omega)
theorem sgm_im (E i : Nat) : sgm E (1 + E + i) = 5 + i := by unfold sgm; rw [if_neg (by omega)]; omega
theorem to_trS (r : RO h ts ls E I) {x : Nat → Int} (hx : TrR h ts ls E S H E ls.length x) : ∃ y, TrS h ts ls E S H y ∧ ∀ k, y (sgm E k) = x k := by
  have e4 := r.w.e4
  refine ⟨fun j => if j < 5 then x j else x (j - 5 + (1 + E)), ⟨fun e he => ?_, fun k hk hs => ?_⟩, fun k => ?_⟩
  · have := hx.hab e he
    simp only [if_pos (show 1 + e < 5 by omega), if_pos (show 0 < 5 by omega)]
    exact this
  · have := hx.look k hk hs
    have a := r.w.ey k hk
    simp only [if_pos (show 1 + (ls.getD k (0, 0, 0)).1.toNat < 5 by omega), if_neg (show ¬ 5 + (ls.getD k (0, 0, 0)).2.1.toNat < 5 by omega)]
    rw [show 5 + (ls.getD k (0, 0, 0)).2.1.toNat - 5 + (1 + E) = 1 + E + (ls.getD k (0, 0, 0)).2.1.toNat by omega]
    exact this
  · unfold sgm
    by_cases e : k ≤ E
    · simp only [if_pos e, if_pos (show k < 5 by omega)]
    · simp only [if_neg e, if_neg (show ¬ k - (1 + E) + 5 < 5 by omega)]
      congr 1; omega
theorem of_trS (r : RO h ts ls E I) {y : Nat → Int} (hy : TrS h ts ls E S H y) : TrR h ts ls E S H E ls.length (fun k => y (sgm E k)) := by
  refine ⟨fun e he => ?_, fun k hk hs => ?_⟩
  · have := hy.hab e he
    simp only [sgm_hab he]
    exact this
  · have := hy.look k hk hs
    have a := r.w.ey k hk
    simp only [sgm_im, sgm_hab (show (ls.getD k (0, 0, 0)).1.toNat < E by omega)]
    exact this
theorem ref_truth (r : RO h ts ls E I) : (∃ x, TrS h ts ls E S H x) ↔ ∀ i, i < 1 + E + I → 0 ≤ ofM h ts ls E I S H i i := by
  obtain ⟨rd, sol⟩ := looksM_ok (S := S) (H := H) r ls.length (Nat.le_refl _)
  have e4 := r.w.e4
  have i6 := r.i6
  unfold ofM
  rw [← all_truth (by omega) (by omega) (by omega) rd.bd rd.zero]
  constructor
  · rintro ⟨y, hy⟩; exact ⟨_, (sol _).2 (of_trS r hy)⟩
  · rintro ⟨x, hx⟩
    obtain ⟨y, hy, _⟩ := to_trS r ((sol x).1 hx)
    exact ⟨y, hy⟩
theorem ref_ends (r : RO h ts ls E I) (hd : ∀ i, i < 1 + E + I → 0 ≤ ofM h ts ls E I S H i i) {i j : Nat} (hi : i < 1 + E + I) (hj : j < 1 + E + I) :
    (ofM h ts ls E I S H i j < F → ofM h ts ls E I S H j i < F → EndsS h ts ls E S H (sgm E i) (sgm E j) (-(ofM h ts ls E I S H j i), ofM h ts ls E I S H i j)) ∧
    (¬ ofM h ts ls E I S H i j < F → ∀ T : Int, ∃ y, TrS h ts ls E S H y ∧ T ≤ y (sgm E j) - y (sgm E i)) ∧ (ofM h ts ls E I S H i j < F → ∀ y, TrS h ts ls E S H y → y (sgm E j) - y (sgm E i) ≤ ofM h ts ls E I S H i j) := by
  obtain ⟨rd, sol⟩ := looksM_ok (S := S) (H := H) r ls.length (Nat.le_refl _)
  have e4 := r.w.e4
  have i6 := r.i6
  unfold ofM at hd ⊢
  obtain ⟨sh, sl⟩ := all_yes (by omega) (by omega) rd.bd rd.zero hd
  have hfw : ∀ x, Sol (1 + E + I) (allM (1 + E + I) (1 + E + I) (looksM h ts ls E S H ls.length)) x → ∃ y, TrS h ts ls E S H y ∧ ∀ k, y (sgm E k) = x k := fun x hx => to_trS r ((sol x).1 ((sl x).1 hx))
  have hbk : ∀ y, TrS h ts ls E S H y → Sol (1 + E + I) (allM (1 + E + I) (1 + E + I) (looksM h ts ls E S H ls.length)) (fun k => y (sgm E k)) := fun y hy => (sl _).2 ((sol _).2 (of_trS r hy))
  generalize allM (1 + E + I) (1 + E + I) (looksM h ts ls E S H ls.length) = D at *
  refine ⟨fun f1 f2 => ⟨fun y hy => ?_, ?_, ?_⟩, fun f1 T => ?_, fun f1 y hy => hbk y hy i j hi hj f1⟩
  · have a := hbk y hy i j hi hj f1
    have b := hbk y hy j i hj hi f2
    dsimp only at a b ⊢
    omega
  · obtain ⟨x, hx, x0, x1⟩ := (sh.reach hj hi).1 f2
    obtain ⟨y, hy, e⟩ := hfw x hx
    exact ⟨y, hy, by rw [e, e]; dsimp only; omega⟩
  · obtain ⟨x, hx, x0, x1⟩ := (sh.reach hi hj).1 f1
    obtain ⟨y, hy, e⟩ := hfw x hx
    exact ⟨y, hy, by rw [e, e]; dsimp only; omega⟩
  · obtain ⟨x, hx, x0, x1⟩ := (sh.reach hi hj).2 f1 T
    obtain ⟨y, hy, e⟩ := hfw x hx
    exact ⟨y, hy, by rw [e, e]; omega⟩
/-- A place that nobody looked at can be anywhere. -/
theorem ref_free (r : RO h ts ls E I) (hd : ∀ i, i < 1 + E + I → 0 ≤ ofM h ts ls E I S H i i) {i : Nat} (hi : i < I) (hn : ¬ inS ls E S (5 + i)) : ¬ ofM h ts ls E I S H 0 (1 + E + i) < F := fun hf => by
  have e4 := r.w.e4
  obtain ⟨y, hy⟩ := (ref_truth r).2 hd
  have hs0 : sgm E 0 = 0 := if_pos (by omega)
  have key := (ref_ends r hd (i := 0) (j := 1 + E + i) (by omega) (by omega)).2.2 hf
  rw [hs0, sgm_im] at key
  generalize ofM h ts ls E I S H 0 (1 + E + i) = D at *
  have := key (fun k => if k = 5 + i then y 0 + D + 1 else y k) ⟨fun e he => by
    rw [if_neg (by omega), if_neg (by omega)]; exact hy.hab e he, fun k hk hs => by
    have a := r.w.ey k hk
    rw [if_neg (fun e => hn (.inr (.inr ⟨k, hk, hs, e.symm⟩))), if_neg (by omega)]
    exact hy.look k hk hs⟩
  rw [if_pos rfl, if_neg (by omega)] at this
  omega
theorem ref_span (r : RO h ts ls E I) (hd : ∀ i, i < 1 + E + I → 0 ≤ ofM h ts ls E I S H i i) {i j : Nat} (hi : i < 1 + E + I) (hj : j < 1 + E + I) {s : Int × Int} (hs : EndsS h ts ls E S H (sgm E i) (sgm E j) s) :
    ofM h ts ls E I S H i j < F ∧ ofM h ts ls E I S H j i < F ∧ s = (-(ofM h ts ls E I S H j i), ofM h ts ls E I S H i j) := by
  obtain ⟨a1, a2, _⟩ := ref_ends r hd hi hj
  obtain ⟨_, b2, _⟩ := ref_ends r hd hj hi
  have f1 : ofM h ts ls E I S H i j < F := by
    by_cases f : ofM h ts ls E I S H i j < F
    · exact f
    · obtain ⟨y, hy, h1⟩ := a2 f (s.2 + 1)
      have := hs.all y hy
      omega
  have f2 : ofM h ts ls E I S H j i < F := by
    by_cases f : ofM h ts ls E I S H j i < F
    · exact f
    · obtain ⟨y, hy, h1⟩ := b2 f (-s.1 + 1)
      have := hs.all y hy
      omega
  exact ⟨f1, f2, EndsS.unique hs (a1 f1 f2) (fun x hx => ⟨x, hx, rfl⟩) (fun x hx => ⟨x, hx, rfl⟩)⟩
end
theorem ro_of {h : Wd} {xs : List (Int × Int)} {ls : List LkV} (hv : validW h xs ls = true) (hn : ls.length = h.ln) : RO h (ls.map (travOf h xs)) ls h.eyes.toNat h.images.toNat := by
  obtain ⟨a, b, c, d, e, f⟩ := validW_iff hv
  have hg : ∀ k, k < ls.length → ls.getD k (0, 0, 0) ∈ ls := fun k hk => by
    have : ls.getD k (0, 0, 0) = ls[k] := by simp [List.getD, hk]
    rw [this]; exact List.getElem_mem hk
  refine ⟨wok_of hv hn (by omega), by omega, fun k hk => ?_, by omega, fun k => ?_⟩
  · have := (f _ (hg k hk)).2.1; omega
  · by_cases hk : k < ls.length
    · rw [getD_map hk]
      have hs := (f _ (hg k hk)).2.2
      generalize ls.getD k (0, 0, 0) = l at hs
      unfold saysB at hs
      rw [Bool.and_eq_true] at hs
      obtain ⟨s1, s2⟩ := hs
      unfold validB at s1
      rw [Bool.and_eq_true, Bool.and_eq_true, hold_iff, hold_iff] at s1
      obtain ⟨⟨q1, q2⟩, q3⟩ := s1
      unfold hasTrn at s2
      simp only [Bool.and_eq_true, decide_eq_true_eq] at s2
      obtain ⟨⟨x1, x2⟩, x3, x4⟩ := ev_get q2 (l.2.2 / 1000).toNat
      unfold travOf
      dsimp only
      rw [trav_eq (by omega) (by omega) (by omega), trav_eq (by omega) (by omega) (by omega)]
      omega
    · have e1 : (ls.map (travOf h xs)).getD k (0, 0) = (0, 0) := by simp [List.getD, hk]
      rw [e1]; simp
/-! ## The reference's answers are the package's -/
section
variable {h : Wd} {xs : List (Int × Int)} {ls : List LkV}
/-- No point is below itself. -/
def goodB (n : Nat) (D : Mat) : Bool := (List.range n).all (fun i => decide (0 ≤ D i i))
theorem good_iff {n : Nat} {D : Mat} : goodB n D = true ↔ ∀ i, i < n → 0 ≤ D i i := by
  unfold goodB
  rw [List.all_eq_true]
  simp only [List.mem_range, decide_eq_true_eq]
theorem can_ref (hv : validW h xs ls = true) (hn : ls.length = h.ln) (S H : Int) : goodB (1 + h.eyes.toNat + h.images.toNat) (ofM h (ls.map (travOf h xs)) ls h.eyes.toNat h.images.toNat S H) = canW h (ls.map (travOf h xs)) ls h.eyes.toNat S H := by
  have r := ro_of hv hn
  rw [Bool.eq_iff_iff, good_iff, can_iff r.w]
  exact (ref_truth r).symm
/-- The reference's bounds of all looks and all measurers. -/
def refD (h : Wd) (xs : List (Int × Int)) (ls : List LkV) : Mat := ofM h (ls.map (travOf h xs)) ls h.eyes.toNat h.images.toNat (allS ls.length) (allS h.eyes.toNat)
def refN (h : Wd) : Nat := 1 + h.eyes.toNat + h.images.toNat
theorem ref_none (hv : validW h xs ls = true) (hn : ls.length = h.ln) {base : Nat} (hb : isBase h.eyes.toNat base) : ovW h xs ls base = none ↔ goodB (refN h) (refD h xs ls) = false := by
  rw [show goodB (refN h) (refD h xs ls) = _ from can_ref hv hn _ _]
  exact ov_none (ro_of hv hn).w hb
theorem ref_some (hv : validW h xs ls = true) (hn : ls.length = h.ln) {i j : Nat} (hb : isBase h.eyes.toNat (sgm h.eyes.toNat i)) (hi : i < refN h) (hj : j < refN h) {b : B} (ho : ovW h xs ls (sgm h.eyes.toNat i) = some b) (hin : inS ls h.eyes.toNat (allS ls.length) (sgm h.eyes.toNat j)) :
    b (sgm h.eyes.toNat j) = some (-(refD h xs ls j i), refD h xs ls i j) ∧ refD h xs ls i j < F ∧ refD h xs ls j i < F := by
  have r := ro_of hv hn
  have hg : goodB (refN h) (refD h xs ls) = true := by
    cases hg : goodB (refN h) (refD h xs ls)
    · have := (ref_none hv hn hb).2 hg; rw [ho] at this; cases this
    · rfl
  obtain ⟨_, h1, h2⟩ := ov_some r.w hb ho
  obtain ⟨s, hs, he⟩ := h1 _ hin
  obtain ⟨f1, f2, e⟩ := ref_span r (good_iff.1 hg) hi hj he
  exact ⟨by rw [hs, e]; rfl, f1, f2⟩
end
end Ey
end Go.Proofs.Ytcfjakifeihbpaa

namespace Go.Proofs.Ytcfjakifeihbpaa
namespace Ey
open Go.RowKit Fwn

def rowV (n : Nat) (f : Nat → Int) : List Value := (List.range n).map (fun k => .int .i64 (f k))
def outV (n m : Nat) (gs cs : Nat → Nat) : List Value := (List.range m).map (fun i => .slice (some ⟨gs i, 0, none⟩) n (cs i))
theorem rowV_len (n : Nat) (f : Nat → Int) : (rowV n f).length = n := by simp [rowV]
theorem rowV_get {n k : Nat} {f : Nat → Int} (hk : k < n) : (rowV n f)[k]? = some (.int .i64 (f k)) := by simp [rowV, hk]
theorem rowV_congr {n : Nat} {f g : Nat → Int} (h : ∀ k, k < n → f k = g k) : rowV n f = rowV n g := List.map_congr_left (fun k hk => by rw [h k (List.mem_range.1 hk)])
theorem rowV_set {n : Nat} {f : Nat → Int} {k : Nat} (v : Int) : (rowV n f).set k (.int .i64 v) = rowV n (fun j => if j = k then v else f j) := by
  apply List.ext_getElem?
  intro j
  rw [List.getElem?_set]
  by_cases hj : j < n
  · rw [rowV_get hj, rowV_get hj, rowV_len]
    by_cases e : k = j
    · subst e; rw [if_pos rfl, if_pos hj, if_pos rfl]
    · rw [if_neg e, if_neg (fun h => e h.symm)]
  · have h1 : ∀ f : Nat → Int, (rowV n f)[j]? = none := fun f => List.getElem?_eq_none (by rw [rowV_len]; omega)
    rw [h1, h1, rowV_len]
    split
    · rw [if_neg (by omega)]
    · rfl
theorem rowV_succ (n : Nat) (f : Nat → Int) : rowV (n + 1) f = rowV n f ++ [.int .i64 (f n)] := by simp [rowV, List.range_succ]
theorem outV_get {n m i : Nat} {gs cs : Nat → Nat} (hi : i < m) : (outV n m gs cs)[i]? = some (.slice (some ⟨gs i, 0, none⟩) n (cs i)) := by simp [outV, hi]
theorem outV_congr {n m : Nat} {gs cs gs' cs' : Nat → Nat} (h : ∀ i, i < m → gs i = gs' i ∧ cs i = cs' i) : outV n m gs cs = outV n m gs' cs' := List.map_congr_left (fun i hi => by rw [(h i (List.mem_range.1 hi)).1, (h i (List.mem_range.1 hi)).2])
theorem row_apart {X : World} {b b' s s' n n' : Nat} {e e' : TypeId} {v v' : Value} {xs xs' : List Value} (h : X.ownsRow b e s v n xs) (h' : X.ownsRow b' e' s' v' n' xs') (he : e ≠ e') : v.ownBlock = none ∨ v.ownBlock ≠ v'.ownBlock := by
  rcases h.2 with ⟨rfl, _⟩ | ⟨g, cap, cur, rfl, _, hg, _⟩
  · exact .inl rfl
  · right
    rcases h'.2 with ⟨rfl, _⟩ | ⟨g', cap', cur', rfl, _, hg', _⟩
    · simp [Value.ownBlock]
    · simp only [Value.ownBlock, ne_eq, Option.some.injEq]
      rintro rfl
      rw [hg] at hg'
      simp at hg'
      exact he hg'.2
theorem row_lower {X : World} {b b' s n : Nat} {e : TypeId} {v : Value} {xs : List Value} (h : X.ownsRow b e s v n xs) (hb : b' ≤ b) : X.ownsRow b' e s v n xs := by
  refine ⟨h.1, ?_⟩
  rcases h.2 with k | ⟨g, cap, cur, a, c, d⟩
  · exact .inl k
  · exact .inr ⟨g, cap, cur, a, Nat.le_trans hb c, d⟩
theorem row_shape {X : World} {b s n : Nat} {e : TypeId} {v : Value} {xs : List Value} (h : X.ownsRow b e s v n xs) (hn : 0 < n) : ∃ g cap, v = .slice (some ⟨g, 0, none⟩) n cap ∧ b ≤ g ∧ g < X.heap.size := by
  rcases h.2 with ⟨_, h0⟩ | ⟨g, cap, cur, rfl, hb, hg, _⟩
  · omega
  · exact ⟨g, cap, rfl, hb, (Array.getElem?_eq_some_iff.1 hg).1⟩
/-- Some rows of a matrix. -/
structure Mx (B : Nat) (X : World) (bv : Value) (gs cs : Nat → Nat) (n m : Nat) (M : Mat) : Prop where
  row : ∀ i, i < m → X.ownsRow B 3 1 (.slice (some ⟨gs i, 0, none⟩) n (cs i)) n (rowV n (M i))
  out : X.ownsRow B 41 1 bv m (outV n m gs cs)
  inj : ∀ i j, i < m → j < m → gs i = gs j → i = j
theorem Mx.nil (B : Nat) (X : World) (n : Nat) (M : Mat) : Mx B X (.slice none 0 0) (fun _ => 0) (fun _ => 0) n 0 M := ⟨fun i hi => by omega, World.ownsRow_nil _ _ _ _, fun i j hi => by omega⟩
section
variable {B : Nat} {X X' : World} {bv bv' : Value} {gs cs : Nat → Nat} {n m : Nat} {M M' : Mat}
theorem Mx.kept (k : Mx B X bv gs cs n m M) (hg : X.grownBy X' none) : Mx B X' bv gs cs n m M :=
  ⟨fun i hi => (k.row i hi).kept hg (.inr (by simp [Value.ownBlock])), k.out.kept hg (by cases h : bv.ownBlock <;> simp), k.inj⟩
theorem Mx.below (k : Mx B X bv gs cs n m M) (hb : Below X.heap.size X X') : Mx B X' bv gs cs n m M :=
  k.kept ⟨hb.os, hb.tape, hb.output, hb.size, fun i hi _ => hb.block i hi⟩
theorem Mx.congr (k : Mx B X bv gs cs n m M) (h : ∀ i j, i < m → j < n → M i j = M' i j) : Mx B X bv gs cs n m M' :=
  ⟨fun i hi => by rw [← rowV_congr (fun j hj => h i j hi hj)]; exact k.row i hi, k.out, k.inj⟩
theorem Mx.add (k : Mx B X bv gs cs n m M) {g c : Nat} (hrow : X.ownsRow B 3 1 (.slice (some ⟨g, 0, none⟩) n c) n (rowV n (M m))) (hne : ∀ i, i < m → gs i ≠ g) (hg : X.grownBy X' bv.ownBlock)
    (hown : X'.ownsRow B 41 1 bv' (m + 1) (outV n m gs cs ++ [.slice (some ⟨g, 0, none⟩) n c])) :
    Mx B X' bv' (fun i => if i = m then g else gs i) (fun i => if i = m then c else cs i) n (m + 1) M := by
  refine ⟨fun i hi => ?_, ?_, fun i j hi hj e => ?_⟩
  · by_cases e : i = m
    · subst e
      simp only [if_pos]
      exact hrow.kept hg (row_apart hrow k.out (by decide))
    · simp only [if_neg e]
      exact (k.row i (by omega)).kept hg (row_apart (k.row i (by omega)) k.out (by decide))
  · have e1 : outV n (m + 1) (fun i => if i = m then g else gs i) (fun i => if i = m then c else cs i) = outV n m gs cs ++ [.slice (some ⟨g, 0, none⟩) n c] := by
      have e2 : outV n m (fun i => if i = m then g else gs i) (fun i => if i = m then c else cs i) = outV n m gs cs := outV_congr (fun i hi => by
        have : i ≠ m := by omega
        simp [this])
      rw [← e2]
      simp [outV, List.range_succ]
    rw [e1]; exact hown
  · by_cases e1 : i = m <;> by_cases e2 : j = m
    · omega
    · simp only [if_pos e1, if_neg e2] at e
      exact absurd e.symm (hne j (by omega))
    · simp only [if_neg e1, if_pos e2] at e
      exact absurd e (hne i (by omega))
    · simp only [if_neg e1, if_neg e2] at e
      exact k.inj i j (by omega) (by omega) e
end
section
variable {B : Nat} {X X' : World} {gb bc : Nat} {gs cs : Nat → Nat} {n m : Nat} {M : Mat}
theorem Mx.at (k : Mx B X (.slice (some ⟨gb, 0, none⟩) m bc) gs cs n m M) {i : Nat} (hi : i < m) : X.cell? ⟨gb, i, none⟩ = some (.slice (some ⟨gs i, 0, none⟩) n (cs i)) := by
  rw [k.out.cellAt i (by omega), outV_get hi]
theorem Mx.cell (k : Mx B X (.slice (some ⟨gb, 0, none⟩) m bc) gs cs n m M) {i j : Nat} (hi : i < m) (hj : j < n) : X.cell? ⟨gs i, j, none⟩ = some (.int .i64 (M i j)) := by
  rw [(k.row i hi).cellAt j (by omega), rowV_get hj]
theorem Mx.frozen (k : Mx B X (.slice (some ⟨gb, 0, none⟩) m bc) gs cs n m M) {i : Nat} (hi : i < m) (j : Nat) : X.frozen? ⟨gs i, j, none⟩ = false := (k.row i hi).frozenAt j
theorem Mx.base (k : Mx B X (.slice (some ⟨gb, 0, none⟩) m bc) gs cs n m M) {i : Nat} (hi : i < m) : B ≤ gs i := ((k.row i hi).lt _ rfl).1
theorem Mx.stored (k : Mx B X (.slice (some ⟨gb, 0, none⟩) m bc) gs cs n m M) {i : Nat} (hi : i < m) (j : Nat) (v : Int) : Mx B (X.setCell ⟨gs i, j, none⟩ (.int .i64 v)) (.slice (some ⟨gb, 0, none⟩) m bc) gs cs n m (Fwn.put M i j v) := by
  obtain ⟨h1, h2⟩ := (k.row i hi).stored j (.int .i64 v)
  refine ⟨fun a ha => ?_, ?_, k.inj⟩
  · by_cases e : a = i
    · subst e
      rw [rowV_set] at h1
      have : (fun b => if b = j then v else M a b) = put M a j v a := by
        funext b; unfold Fwn.put; by_cases e : b = j <;> simp [e]
      rw [← this]; exact h1
    · have : rowV n (Fwn.put M i j v a) = rowV n (M a) := rowV_congr (fun b _ => by unfold Fwn.put; rw [if_neg (by omega)])
      rw [this]
      exact (k.row a ha).kept h2 (.inr (by simp only [Value.ownBlock, ne_eq, Option.some.injEq]; exact fun h => e (k.inj a i ha hi h)))
  · exact k.out.kept h2 (row_apart k.out (k.row i hi) (by decide))
end
/-- What can be read of a matrix that is handed on. -/
def MxIn (B : Nat) (X : World) (v : Value) (n : Nat) (M : Mat) : Prop := ∃ (gb bc : Nat) (gs cs : Nat → Nat), v = .slice (some ⟨gb, 0, none⟩) n bc ∧ B ≤ gb ∧ (∀ i, i < n → B ≤ gs i) ∧ (∀ i, i < n → X.cell? ⟨gb, i, none⟩ = some (.slice (some ⟨gs i, 0, none⟩) n (cs i))) ∧ ∀ i j, i < n → j < n → X.cell? ⟨gs i, j, none⟩ = some (.int .i64 (M i j))
theorem Mx.isIn {B : Nat} {X : World} {gb bc : Nat} {gs cs : Nat → Nat} {n : Nat} {M : Mat} (k : Mx B X (.slice (some ⟨gb, 0, none⟩) n bc) gs cs n n M) : MxIn B X (.slice (some ⟨gb, 0, none⟩) n bc) n M :=
  ⟨gb, bc, gs, cs, rfl, (k.out.lt gb rfl).1, fun _ hi => k.base hi, fun _ hi => k.at hi, fun _ _ hi hj => k.cell hi hj⟩
theorem MxIn.below {B : Nat} {X X' : World} {v : Value} {n : Nat} {M : Mat} (k : MxIn B X v n M) (hb : Below X.heap.size X X') : MxIn B X' v n M := by
  obtain ⟨gb, bc, gs, cs, e, b1, b2, h1, h2⟩ := k
  exact ⟨gb, bc, gs, cs, e, b1, b2, fun i hi => cellB (h1 i hi) hb, fun i j hi hj => cellB (h2 i j hi hj) hb⟩
theorem MxIn.lower {B B' : Nat} {X : World} {v : Value} {n : Nat} {M : Mat} (k : MxIn B X v n M) (hb : B' ≤ B) : MxIn B' X v n M := by
  obtain ⟨gb, bc, gs, cs, e, b1, b2, h1, h2⟩ := k
  exact ⟨gb, bc, gs, cs, e, Nat.le_trans hb b1, fun i hi => Nat.le_trans hb (b2 i hi), h1, h2⟩
end Ey
end Go.Proofs.Ytcfjakifeihbpaa

namespace Go.Proofs.Ytcfjakifeihbpaa
namespace Ey
open Go.RowKit Fwn

set_option maxRecDepth 100000 in
set_option maxHeartbeats 2000000 in
theorem bound_any (B gb bc : Nat) (gs cs : Nat → Nat) (n : Nat) (M : Mat) (i k : Nat) (a b v : Int) (ha : a = (i : Int)) (hb : b = (k : Int)) (X : World) (hX : Mx B X (.slice (some ⟨gb, 0, none⟩) n bc) gs cs n n M) (hi : i < n) (hk : k < n) :
    Calls Try.prog 95 #[.slice (some ⟨gb, 0, none⟩) n bc, .int .i64 a, .int .i64 b, .int .i64 v] X
      (fun e Y => e = .returned (.tuple #[]) ∧ Mx B Y (.slice (some ⟨gb, 0, none⟩) n bc) gs cs n n (bdM i k v M) ∧ Below B X Y ∧ ∃ u, Y = (X.setCell ⟨gs i, k, none⟩ u).drew) := by
  subst ha; subst hb
  have hi0 : (0 : Int) ≤ (i : Int) := by omega
  have hk0 : (0 : Int) ≤ (k : Int) := by omega
  have hi1 : (i : Int) < (n : Int) := by omega
  have hk1 : (k : Int) < (n : Int) := by omega
  have c0 := hX.at hi
  have c1 := hX.cell hi hk
  have z1 := hX.frozen hi k
  have hbs := hX.base hi
  have hBX : B ≤ X.heap.size := by have h9 := (hX.row i hi).lt (gs i) rfl; exact Nat.le_of_lt (Nat.lt_of_le_of_lt h9.1 h9.2)
  have hmin : Hid (∀ a : Int, (if v < a then v else a) = min a v) := fun a => by split <;> omega
  have HP : Hid (∀ a, Mx B (X.drew.setCell ⟨gs i, k, none⟩ (.int .i64 a)) (.slice (some ⟨gb, 0, none⟩) n bc) gs cs n n (put M i k a)) := fun a => Mx.stored (X := X.drew) ⟨hX.row, hX.out, hX.inj⟩ hi k a
  have hrow : ∀ a, Below B X (X.drew.setCell ⟨gs i, k, none⟩ a) := fun a => ((Below.drew (Below.refl X.heap.size X)).mono hBX).setCell (p := ⟨gs i, k, none⟩) hbs a
  clear hX
  unfold bdM
  generalize M i k = m at *
  go_enter Try.func95, Try.ntmps95
  go_wp2_with fail
  refine wp_region_seq [(0, true), (1, true), (2, true), (3, true), (4, true), (5, true), (6, true), (7, true), (8, true), (9, true), (10, true), (11, true), (12, true), (13, true), (14, true), (15, false)]
    (fun w' => w'.cell? ⟨gb, i, none⟩ = some (.slice (some ⟨gs i, 0, none⟩) n (cs i)) ∧ w'.cell? ⟨gs i, k, none⟩ = some (.int .i64 m) ∧ w'.frozen? ⟨gs i, k, none⟩ = false) (by kernel_rfl) (by kernel_rfl) (fun _ _ d _ _ h => by cases d <;> exact h) ⟨c0, c1, z1⟩ ?_
  repeat (first | (refine seq_read rfl (by rfl) _ (fun w' hS => by (try dsimp only at hS); go_simp; (try with_reducible rfl)) ?_; (try simp only [Act.put, List.setIfInBounds_toArray, List.set_cons_zero, List.set_cons_succ])) | (refine seq_skip rfl (by rfl) ?_; (try simp only [Act.put, List.setIfInBounds_toArray, List.set_cons_zero, List.set_cons_succ])))
  refine seq_last rfl (by rfl) (by kernel_rfl) (fun K hK => ?_)
  have c1' : X.drew.cell? ⟨gs i, k, none⟩ = some (.int .i64 m) := c1
  have z1' : X.drew.frozen? ⟨gs i, k, none⟩ = false := z1
  go_simp
  refine hK _ _ ?_
  clear hK K
  rw [hmin.out]
  first | show Exit.inBlock _ _ Exit.normal _ _ | show Exit.then _ _ Exit.normal _ _ | skip
  go_end0
  exact ⟨rfl, HP.out _, hrow _, _, rfl⟩
theorem cell_bound {X : World} {g k : Nat} {u v : Value} {p : Addr} (h : X.cell? p = some v) (hne : p.block ≠ g) : ((X.setCell ⟨g, k, none⟩ u).drew).cell? p = some v := by
  show (X.setCell ⟨g, k, none⟩ u).cell? p = some v
  rw [World.cell?_setCell_other _ _ _ _ (by rintro rfl; exact hne rfl)]
  exact h
end Ey
end Go.Proofs.Ytcfjakifeihbpaa

namespace Go.Proofs.Ytcfjakifeihbpaa
namespace Ey
open Go.RowKit

/-- The smallest set of which something is so, and whether there is one. -/
def bestN (p : Int → Bool) : Nat → Int × Bool
  | 0 => (0, false)
  | k + 1 => if (!(bestN p k).2 || decide (popc (k : Int) < popc (bestN p k).1)) && p (k : Int) then ((k : Int), true) else bestN p k
/-- The smallest set of which something is so, if it is so of one. -/
def bestT (p : Int → Bool) (b0 : Int) : Nat → Int
  | 0 => b0
  | k + 1 => if decide (popc (k : Int) < popc (bestT p b0 k)) && p (k : Int) then (k : Int) else bestT p b0 k
def Least (p : Int → Bool) (k : Nat) (x : Nat) : Prop := ∀ y : Nat, y < k → p y = true → popc (x : Int) < popc (y : Int) ∨ (popc (x : Int) = popc (y : Int) ∧ x ≤ y)
theorem bestN_spec (p : Int → Bool) : ∀ k, ((bestN p k).2 = false → (bestN p k).1 = 0 ∧ ∀ y : Nat, y < k → p y = false) ∧ ((bestN p k).2 = true → ∃ x : Nat, x < k ∧ (bestN p k).1 = x ∧ p x = true ∧ Least p k x)
  | 0 => ⟨fun _ => ⟨rfl, fun y hy => by omega⟩, fun h => by cases h⟩
  | k + 1 => by
    obtain ⟨ih1, ih2⟩ := bestN_spec p k
    rw [bestN]
    cases hf : (bestN p k).2
    · obtain ⟨e0, h0⟩ := ih1 hf
      cases hp : p (k : Int)
      · rw [if_neg (by simp)]
        refine ⟨fun _ => ⟨e0, fun y hy => ?_⟩, fun h => (by rw [hf] at h; cases h)⟩
        by_cases e : y = k
        · subst e; exact hp
        · exact h0 y (by omega)
      · rw [if_pos (by simp)]
        refine ⟨fun h => (by cases h), fun _ => ⟨k, by omega, rfl, hp, fun y hy hpy => ?_⟩⟩
        by_cases e : y = k
        · subst e; exact .inr ⟨rfl, Nat.le_refl _⟩
        · rw [h0 y (by omega)] at hpy; cases hpy
    · obtain ⟨x, hx, ex, hpx, hl⟩ := ih2 hf
      by_cases hc : popc (k : Int) < popc (bestN p k).1
      · cases hp : p (k : Int)
        · rw [if_neg (by simp)]
          refine ⟨fun h => (by rw [hf] at h; cases h), fun _ => ⟨x, by omega, ex, hpx, fun y hy hpy => ?_⟩⟩
          by_cases e : y = k
          · subst e; rw [hp] at hpy; cases hpy
          · exact hl y (by omega) hpy
        · rw [if_pos (by simp [hc])]
          refine ⟨fun h => (by cases h), fun _ => ⟨k, by omega, rfl, hp, fun y hy hpy => ?_⟩⟩
          by_cases e : y = k
          · subst e; exact .inr ⟨rfl, Nat.le_refl _⟩
          · have := hl y (by omega) hpy
            rw [ex] at hc
            omega
      · rw [if_neg (by simp [hc])]
        refine ⟨fun h => (by rw [hf] at h; cases h), fun _ => ⟨x, by omega, ex, hpx, fun y hy hpy => ?_⟩⟩
        rw [ex] at hc
        by_cases e : y = k
        · subst e; omega
        · exact hl y (by omega) hpy
theorem bestN_rng (p : Int → Bool) (k : Nat) : 0 ≤ (bestN p k).1 ∧ (bestN p k).1 ≤ k := by
  obtain ⟨h1, h2⟩ := bestN_spec p k
  cases hf : (bestN p k).2
  · rw [(h1 hf).1]; omega
  · obtain ⟨x, hx, ex, _⟩ := h2 hf
    omega
theorem bestN_first {n : Nat} (hn : n ≤ 12) (p : Int → Bool) : (bestN p (2 ^ n)).1 = if (List.range (2 ^ n)).any (fun y => p (y : Int)) then firstOf n p else 0 := by
  obtain ⟨h1, h2⟩ := bestN_spec p (2 ^ n)
  cases hf : (bestN p (2 ^ n)).2
  · obtain ⟨e0, h0⟩ := h1 hf
    rw [if_neg, e0]
    rw [List.any_eq_true]
    rintro ⟨y, hy, hp⟩
    rw [h0 y (List.mem_range.1 hy)] at hp; cases hp
  · obtain ⟨x, hx, ex, hpx, hl⟩ := h2 hf
    rw [if_pos, ex]
    · exact (firstOf_best hn hx hpx hl).symm
    · rw [List.any_eq_true]; exact ⟨x, List.mem_range.2 hx, hpx⟩
theorem bestT_spec {n : Nat} (hn : n ≤ 12) (p : Int → Bool) {b0 : Nat} (h0 : b0 = 2 ^ n - 1) (hp0 : p b0 = true) : ∀ k, k ≤ 2 ^ n → ∃ x : Nat, x < 2 ^ n ∧ bestT p b0 k = x ∧ p x = true ∧ (∀ y : Nat, y < k → p y = true → popc (x : Int) < popc (y : Int) ∨ (popc (x : Int) = popc (y : Int) ∧ (x ≤ y ∨ x = b0))) ∧ (x < k ∨ x = b0)
  | 0, _ => ⟨b0, by have := Nat.one_le_two_pow (n := n); omega, rfl, hp0, fun y hy => by omega, .inr rfl⟩
  | k + 1, hk => by
    obtain ⟨x, hx, ex, hpx, hl, hxk⟩ := bestT_spec hn p h0 hp0 k (by omega)
    rw [bestT, ex]
    have hall := popc_all hn
    have hrk := popc_rng hn (show k < 2 ^ n by omega)
    rw [← h0] at hall
    by_cases hc : popc (k : Int) < popc (x : Int)
    · cases hp : p (k : Int)
      · rw [if_neg (by simp)]
        refine ⟨x, hx, rfl, hpx, fun y hy hpy => ?_, by omega⟩
        by_cases e : y = k
        · subst e; rw [hp] at hpy; cases hpy
        · exact hl y (by omega) hpy
      · rw [if_pos (by simp [hc])]
        refine ⟨k, by omega, rfl, hp, fun y hy hpy => ?_, by omega⟩
        by_cases e : y = k
        · subst e; exact .inr ⟨rfl, .inl (Nat.le_refl _)⟩
        · have := hl y (by omega) hpy; omega
    · rw [if_neg (by simp [hc])]
      refine ⟨x, hx, rfl, hpx, fun y hy hpy => ?_, by omega⟩
      by_cases e : y = k
      · subst e
        by_cases e2 : x = b0
        · subst e2; have := hrk.2; omega
        · omega
      · exact hl y (by omega) hpy
theorem bestT_first {n : Nat} (hn : n ≤ 12) (p : Int → Bool) {b0 : Nat} (h0 : b0 = 2 ^ n - 1) (hp0 : p b0 = true) : bestT p b0 (2 ^ n) = firstOf n p := by
  obtain ⟨x, hx, ex, hpx, hl, _⟩ := bestT_spec hn p h0 hp0 (2 ^ n) (Nat.le_refl _)
  rw [ex]
  refine (firstOf_best hn hx hpx (fun y hy hpy => ?_)).symm
  rcases hl y hy hpy with h | ⟨h, h2⟩
  · exact .inl h
  · refine .inr ⟨h, ?_⟩
    rcases h2 with h2 | h2
    · exact h2
    · have h3 := (popc_rng hn hy).2
      have := popc_all hn
      rw [← h0] at this
      subst h2
      omega
theorem bestT_rng {n : Nat} (hn : n ≤ 12) (p : Int → Bool) {b0 : Nat} (h0 : b0 = 2 ^ n - 1) (hp0 : p b0 = true) {k : Nat} (hk : k ≤ 2 ^ n) : 0 ≤ bestT p b0 k ∧ bestT p b0 k < 4096 := by
  obtain ⟨x, hx, ex, _⟩ := bestT_spec hn p h0 hp0 k hk
  have := (pow_12 hn).2.1
  omega
/-- Fewer looks are no harder to be right. -/
theorem can_less {h : Wd} {ts : List (Int × Int)} {ls : List LkV} {E : Nat} (k : WOk h ts ls E) {S S' H : Int} (hs : ∀ j, j < ls.length → setI S' j = true → setI S j = true) (hc : canW h ts ls E S H = true) : canW h ts ls E S' H = true := by
  obtain ⟨x, hx⟩ := (can_iff k).1 hc
  exact (can_iff k).2 ⟨x, hx.hab, fun j hj hsj => hx.look j hj (hs j hj hsj)⟩
theorem can_zero {h : Wd} {xs : List (Int × Int)} {ls : List LkV} (hv : validW h xs ls = true) (hn : ls.length = h.ln) (H : Int) : canW h (ls.map (travOf h xs)) ls h.eyes.toNat 0 H = true := by
  have r := ro_of hv hn
  obtain ⟨_, _, _, hb, _, _⟩ := validW_iff hv
  refine (can_iff r.w).2 ⟨fun _ => 0, fun e he => ?_, fun j hj hs => ?_⟩
  · unfold habS; split <;> (dsimp only; omega)
  · rw [show setI 0 j = false by
      have h12 := r.w.l12
      rw [setI_has (by omega) (show j < 12 by omega)]; unfold hasB; simp] at hs
    cases hs
theorem firstOf_congr {n : Nat} {b b' : Int → Bool} (h : ∀ y : Nat, y < 2 ^ n → b y = b' y) : firstOf n b = firstOf n b' := by
  unfold firstOf
  congr 1
  have : ∀ l : List Int, (∀ y ∈ l, b y = b' y) → l.find? b = l.find? b' := by
    intro l
    induction l with
    | nil => intro _; rfl
    | cons a l ih => intro hl; rw [List.find?_cons, List.find?_cons, hl a (by simp), ih (fun y hy => hl y (by simp [hy]))]
  refine this _ (fun y hy => ?_)
  obtain ⟨j, rfl, hj, _⟩ := to_mem hy
  exact h j hj
theorem allS_nat {n : Nat} (hn : n ≤ 12) : allS n = ((2 ^ n - 1 : Nat) : Int) := by
  obtain ⟨a, b, c⟩ := pow_12 hn
  unfold allS; omega
theorem bestT_all {n : Nat} (hn : n ≤ 12) (p : Int → Bool) (hp : p (allS n) = true) : bestT p (allS n) (2 ^ n) = firstOf n p := by
  rw [allS_nat hn] at hp ⊢
  exact bestT_first hn p rfl hp
def clashQ (h : Wd) (xs : List (Int × Int)) (ls : List LkV) : Int := (bestN (fun s => !canW h (ls.map (travOf h xs)) ls h.eyes.toNat s (allS h.eyes.toNat)) (2 ^ ls.length)).1
def dropQ (h : Wd) (xs : List (Int × Int)) (ls : List LkV) : Int := bestT (fun s => canW h (ls.map (travOf h xs)) ls h.eyes.toNat (allS ls.length - s) (allS h.eyes.toNat)) (allS ls.length) (2 ^ ls.length)
def explainQ (h : Wd) (xs : List (Int × Int)) (ls : List LkV) : Int := bestT (fun s => canW h (ls.map (travOf h xs)) ls h.eyes.toNat (allS ls.length) s) (allS h.eyes.toNat) (2 ^ h.eyes.toNat)
section
variable {h : Wd} {xs : List (Int × Int)} {ls : List LkV}
theorem clash_same (hv : validW h xs ls = true) (hn : ls.length = h.ln) : clashQ h xs ls = clashR h xs ls := by
  have r := ro_of hv hn
  have h12 := r.w.l12
  unfold clashQ clashR eyesN
  rw [bestN_first h12]
  cases hc : canW h (ls.map (travOf h xs)) ls h.eyes.toNat (allS ls.length) (allS h.eyes.toNat)
  · rw [if_pos, if_neg (by simp)]
    rw [List.any_eq_true]
    have := (pow_12 h12).1
    exact ⟨2 ^ ls.length - 1, List.mem_range.2 (by omega), by rw [← allS_nat h12, hc]; rfl⟩
  · rw [if_neg, if_pos rfl]
    rw [List.any_eq_true]
    rintro ⟨y, hy, hp⟩
    rw [can_less r.w (fun j hj _ => setI_allS h12 hj) hc] at hp
    cases hp
theorem drop_same (hv : validW h xs ls = true) (hn : ls.length = h.ln) : dropQ h xs ls = dropR h xs ls := by
  have r := ro_of hv hn
  have h12 := r.w.l12
  unfold dropQ dropR eyesN
  rw [bestT_all h12 _ (by rw [show allS ls.length - allS ls.length = 0 by omega]; exact can_zero hv hn _)]
  refine firstOf_congr (fun y hy => ?_)
  rw [butS_eq h12 hy]
  rfl
theorem explain_same (hv : validW h xs ls = true) (hn : ls.length = h.ln) (hc : canW h (ls.map (travOf h xs)) ls h.eyes.toNat (allS ls.length) (allS h.eyes.toNat) = true) : explainR h xs ls = .ok (explainQ h xs ls) := by
  have r := ro_of hv hn
  have h4 := r.w.e4
  unfold explainQ explainR eyesN
  rw [if_pos hc, bestT_all (by omega) _ hc]
end
end Ey
end Go.Proofs.Ytcfjakifeihbpaa

namespace Go.Proofs.Ytcfjakifeihbpaa
namespace Ey
open Go.RowKit Go.Shelf Fwn

theorem infoIn : (Try.prog.info? 3).map (fun i => (i.zero, i.size, i.bytes)) = some (some (.int .i64 0), 1, 8) := by kernel_rfl
theorem infoIs : (Try.prog.info? 41).map (fun i => (i.zero, i.size, i.bytes)) = some (some (.slice none 0 0), 1, 24) := by kernel_rfl
theorem wrap_sum {E I : Nat} (h1 : E ≤ 4) (h2 : I ≤ 6) : wrap64 (wrap64 (1 + (E : Int)) + (I : Int)) = ((1 + E + I : Nat) : Int) :=
  (by decide +kernel : ∀ e : Fin 5, ∀ i : Fin 7, wrap64 (wrap64 (1 + (e.val : Int)) + (i.val : Int)) = ((1 + e.val + i.val : Nat) : Int)) ⟨E, by omega⟩ ⟨I, by omega⟩
def OfOut (w : World) (n : Nat) (D : Mat) (e : Ending) (w' : World) : Prop :=
  Below w.heap.size w w' ∧ if goodB n D then ∃ v, e = .returned (.tuple #[v, .bool true]) ∧ MxIn w.heap.size w' v n D else e = .returned (.tuple #[.slice none 0 0, .bool false])
set_option maxRecDepth 100000 in
set_option maxHeartbeats 8000000 in
theorem of_any (h : Wd) (xs : List (Int × Int)) (ls : List LkV) (S H : Int) (w : World) (hm : HasW w h xs ls) (hv : validW h xs ls = true) (hn : xs.length ≤ 100) (hS : 0 ≤ S ∧ S < 4096) (hH : 0 ≤ H ∧ H < 4096) :
    Calls Try.prog 69 #[h.val, .int .i64 S, .int .i64 H] w (OfOut w (refN h) (ofM h (ls.map (travOf h xs)) ls h.eyes.toNat h.images.toNat S H)) := by
  have r := ro_of hv hm.nl
  have hW0 := newB w (.cells #[.slice h.a h.n h.cap, .int .i64 h.eLo, .int .i64 h.eHi, .int .i64 h.images, .int .i64 h.eyes, .int .i64 h.hLo, .int .i64 h.hHi, .slice h.la h.ln h.lcap] 29)
  have hb0 : BoxA (w.alloc (.cells #[.slice h.a h.n h.cap, .int .i64 h.eLo, .int .i64 h.eHi, .int .i64 h.images, .int .i64 h.eyes, .int .i64 h.hLo, .int .i64 h.hHi, .slice h.la h.ln h.lcap] 29)) w.heap.size h xs ls := ⟨boxW_new w h _, hm.below hW0⟩
  obtain ⟨_, him, hey, hhb, _, _⟩ := validW_iff hv
  obtain ⟨E, hE⟩ : ∃ E : Nat, h.eyes = (E : Int) := ⟨h.eyes.toNat, by omega⟩
  obtain ⟨I, hI⟩ : ∃ I : Nat, h.images = (I : Int) := ⟨h.images.toNat, by omega⟩
  have e1 : h.eyes.toNat = E := by omega
  have e2 : h.images.toNat = I := by omega
  unfold refN
  rw [e1, e2] at r ⊢
  obtain ⟨n, hN⟩ : ∃ n : Nat, 1 + E + I = n := ⟨_, rfl⟩
  have hNi : 1 + (E : Int) + (I : Int) = (n : Int) := by omega
  have hn11 : n ≤ 11 := by omega
  have hn0 : 0 < n := by omega
  rw [hN]
  have HR := Lib.hid r
  have HTR : Hid (∀ r W, Spans W h.a xs → saysB xs h.eLo h.eHi r = true → Calls Try.prog 96 #[.agg #[.slice h.a h.n h.cap, .int .i64 h.eLo, .int .i64 h.eHi], .int .i64 r] W (Ret (.tuple #[.agg #[.int .i64 (trav r (xs.getD (r / 1000).toNat (0, 0)).1 h.eLo), .int .i64 (trav r (xs.getD (r / 1000).toNat (0, 0)).2 h.eHi)], .int .i64 0]) W)) := fun r W hs h1 => by
    have := travelR_any h.a h.cap xs h.eLo h.eHi r W hs hn
    rw [hm.nx, travelR_of h xs (0, 0, r) h1] at this
    exact this
  have HV := Lib.hid hv
  have HNL := Lib.hid hm.nl
  have HB0 := Lib.hid hb0
  have HW0 := Lib.hid hW0
  obtain ⟨c0, c1, c2, c3, c4, c5, c6, c7⟩ := hb0.box
  have HE := Lib.hid hE
  have HI := Lib.hid hI
  have hwn : Hid (wrap64 (wrap64 (1 + h.eyes) + h.images) = (n : Int)) := by
    show _ = _
    rw [hE, hI, wrap_sum r.w.e4 r.i6, hN]
  obtain ⟨hb1, hb2, hb3, hb4⟩ := hhb
  clear hm hv r hb0 hW0 him hey hE hI e1 e2
  unfold Wd.val
  go_enter Try.func69, Try.ntmps69
  go_wp2_with fail
  rw [hwn.out]
  generalize hBw : w.heap.size = B at HB0 HW0 c0 c1 c2 c3 c4 c5 c6 c7 ⊢
  generalize w.alloc (.cells #[.slice h.a h.n h.cap, .int .i64 h.eLo, .int .i64 h.eHi, .int .i64 h.images, .int .i64 h.eyes, .int .i64 h.hLo, .int .i64 h.hHi, .slice h.la h.ln h.lcap] 29) = W at *
  clear hwn
  rw [HE.out] at c4
  rw [HI.out] at c3
  have hn0i : (0 : Int) < (n : Int) := by omega
  have hn11i : (n : Int) ≤ 11 := by omega
  obtain ⟨i0, hi0, hz0, hz1, hz2⟩ := info_parts infoIn
  obtain ⟨i1, hi1, hy0, hy1, hy2⟩ := info_parts infoIs
  go_loopw [9, 10] (fun b i wr => ∃ k : Nat, k ≤ n ∧ i = .int .i64 k ∧ (∃ gs cs, Mx W.heap.size wr b gs cs n k initM) ∧ Below W.heap.size W wr) (fun _ i _ => n - (intOf i).toNat)
  case atStart => exact ⟨0, by omega, rfl, ⟨_, _, Mx.nil _ _ _ _⟩, Below.refl _ _⟩
  case round =>
    obtain ⟨k, hk, rfl, ⟨gs, cs, hMx⟩, hB⟩ := hrel
    by_cases hlt : k < n
    ·
      have hlti : (k : Int) < (n : Int) := by omega
      go_wp2_with fail
      obtain ⟨wo, rfl⟩ : ∃ wo : World, wo = wr := ⟨_, rfl⟩
      have HM := Lib.hid hMx
      have HBo := Lib.hid hB
      clear hMx hB
      go_loopw [11, 12] (fun u j wr => ∃ q : Nat, q ≤ n ∧ j = .int .i64 q ∧ wr.ownsRow wo.heap.size 3 1 u q (rowV q (fun _ => F)) ∧ Below wo.heap.size wo wr) (fun _ j _ => n - (intOf j).toNat)
      case atStart => exact ⟨0, by omega, rfl, World.ownsRow_nil _ _ _ _, Below.refl _ _⟩
      case round =>
        obtain ⟨q, hq, rfl, hrow, hB2⟩ := hrel
        by_cases hltq : q < n
        · have hltqi : (q : Int) < (n : Int) := by omega
          have hrow2 := Lib.hid (hrow.alloc (.cells #[.int .i64 1073741824] 3))
          have hbs : wo.heap.size ≤ wr.heap.size := hB2.size
          go_wp2_with (at_builtin; refine wpList_append_own _ rfl _ _ 41 rfl wo.heap.size 3 i0 (.int .i64 0) 1 8 Try.underlying41 hi0 hz0 hz1 hz2 rfl (by decide) _ _ _ rfl hrow2.out ⟨wr.heap.size, 0, none⟩ 1 1 [.int .i64 1073741824] rfl rfl ?c1 ?c2 ?c3 ?c4 ?c5 ?_)
          case c1 =>
            intro j u hj
            have hj3 : j < 1 := by have := (List.getElem?_eq_some_iff.1 hj).1; simpa using this
            obtain rfl : j = 0 := by omega
            simp at hj; subst hj; simp [go_sem]
          case c2 => simp [Value.oneCell']
          case c3 => unfold maxLen; omega
          case c4 => omega
          case c5 => simp; omega
          intro v' X' hown hgr _
          have hB3 := (hB2.trans ((newB wr (.cells #[.int .i64 1073741824] 3)).mono hbs)).grown hgr (by simp; omega) (fun j hj => (hrow2.out.lt j hj).1)
          have hown2 : X'.ownsRow wo.heap.size 3 1 v' (q + 1) (rowV (q + 1) (fun _ => F)) := by rw [rowV_succ]; exact hown
          clear hown hgr hrow2 hB2 hrow
          go_wp2_with fail
          go_roundw
          case rel => exact ⟨q + 1, by omega, by go_num, hown2, hB3⟩
          case measure => simp [intOf]; omega
        · obtain rfl : n = q := by omega
          obtain ⟨g, c, rfl, hg1, hg2⟩ := row_shape hrow hn0
          have hki : (0 : Int) ≤ (k : Int) := by omega
          have d0 : wr.cell? ⟨g, k, none⟩ = some (.int .i64 F) := by rw [hrow.cellAt k (by omega), rowV_get hlt]
          have f0 := hrow.frozenAt k
          obtain ⟨s1, s2⟩ := hrow.stored k (.int .i64 0)
          rw [rowV_set] at s1
          have hB4 := hB2.setCell (p := ⟨g, k, none⟩) hg1 (.int .i64 0)
          have hB5 : Below wo.heap.size wo ((wr.setCell ⟨g, k, none⟩ (.int .i64 0)).alloc (.cells #[.slice (some ⟨g, 0, none⟩) n c] 41)) := hB4.trans ((newB _ _).mono hB4.size)
          have HM2 := Lib.hid (HM.out.below hB5)
          rw [rowV_congr (g := initM k) (fun j _ => by
            unfold initM
            by_cases e : j = k
            · rw [if_pos e, if_pos e.symm]
            · rw [if_neg e, if_neg (fun h => e h.symm)])] at s1
          have HS1 := Lib.hid (s1.alloc (.cells #[.slice (some ⟨g, 0, none⟩) n c] 41))
          have hWo : W.heap.size ≤ wo.heap.size := HBo.out.size
          have hne : Hid (∀ i, i < k → gs i ≠ g) := fun i hi e => by have h9 := (HM.out.row i hi).lt (gs i) rfl; omega
          have hsz : wo.heap.size ≤ wr.heap.size := hB2.size
          clear s1 s2 hB2 hB4 hrow HM
          go_wp2_with (at_builtin; refine wpList_append_own _ rfl _ _ 77 rfl W.heap.size 41 i1 (.slice none 0 0) 1 24 Try.underlying77 hi1 hy0 hy1 hy2 rfl (by decide) _ _ _ rfl HM2.out.out ⟨wr.heap.size, 0, none⟩ 1 1 [.slice (some ⟨g, 0, none⟩) n c] rfl rfl ?c1 ?c2 ?c3 ?c4 ?c5 ?_)
          case c1 =>
            intro j u hj
            have hj3 : j < 1 := by have := (List.getElem?_eq_some_iff.1 hj).1; simpa using this
            obtain rfl : j = 0 := by omega
            simp at hj; subst hj; simp [go_sem]
          case c2 => simp [Value.oneCell']
          case c3 => unfold maxLen; omega
          case c4 => omega
          case c5 => simp; omega
          intro v' X' hown hgr _
          have hM3 := HM2.out.add (row_lower HS1.out hWo) hne.out hgr hown
          have hB6 := (HBo.out.trans (hB5.mono hWo)).grown hgr (by simp; omega) (fun j hj => (HM2.out.out.lt j hj).1)
          clear HM2 HS1 hne hown hgr hB5 HBo
          go_wp2_with fail
          go_roundw
          case rel => exact ⟨k + 1, by omega, by go_num, ⟨_, _, hM3⟩, hB6⟩
          case measure => simp [intOf]; omega
    · obtain rfl : n = k := by omega
      obtain ⟨gb, bc, rfl, hgb1, hgb2⟩ := row_shape hMx.out hn0
      have HM := Lib.hid hMx
      have HA := Lib.hid hB
      clear hMx hgb2 hk hlt hB hgb1
      go_wp2_with fail
      go_loopw [13] (fun m wr => ∃ e : Nat, e ≤ E ∧ m = .int .i64 e ∧ Mx W.heap.size wr (.slice (some ⟨gb, 0, none⟩) n bc) gs cs n n (eyesM h H e) ∧ Below W.heap.size W wr) (fun m _ => E - (intOf m).toNat)
      case atStart => exact ⟨0, by omega, rfl, HM.out, HA.out⟩
      case round =>
        obtain ⟨e, he, rfl, hMx, hB⟩ := hrel
        have a3 := cellB c3 hB
        have a4 := cellB c4 hB
        have a5 := cellB c5 hB
        have a6 := cellB c6 hB
        have a7 := cellB c7 hB
        have he0 : (0 : Int) ≤ (e : Int) := by omega
        by_cases hlt : e < E
        ·
          have hlti : (e : Int) < (E : Int) := by omega
          go_wp2_with fail
          obtain ⟨d0, f0, d1, f1⟩ := two_new wr 0 0
          have hX := newB wr (.cells #[.int .i64 0, .int .i64 0] 24)
          have hPX : wr.heap.size < (wr.alloc (.cells #[.int .i64 0, .int .i64 0] 24)).heap.size := by simp
          have hgP : Hid (∀ i, i < n → gs i < wr.heap.size) := fun i hi => by have h9 := (hMx.row i hi).lt (gs i) rfl; exact h9.2
          have HMx := Lib.hid hMx
          have HBr := Lib.hid hB
          clear hMx hB
          refine (has_anyR H e ⟨hH.1, by omega⟩ (by omega) _).mono ?_
          rintro en w1 ⟨rfl, hx1⟩
          have d0 := cellB d0 hx1
          have d1 := cellB d1 hx1
          have f0 := (hx1.frozen (p := ⟨wr.heap.size, 0, none⟩) hPX).trans f0
          have f1 := (hx1.frozen (p := ⟨wr.heap.size, 1, none⟩) hPX).trans f1
          have hX1 := hX.trans (hx1.mono (Nat.le_of_lt hPX))
          have hw1 : wr.heap.size < w1.heap.size := Nat.lt_of_lt_of_le hPX hx1.size
          have a5 := cellB a5 hX1
          have a6 := cellB a6 hX1
          have hst : Hid (eyesM h H (e + 1) = bdM (1 + e) 0 (-(habS h H e).1) (bdM 0 (1 + e) (habS h H e).2 (eyesM h H e))) := rfl
          have hhs : Hid (habS h H e = if hasB H e then (h.hLo, h.hHi) else (0, 0)) := by show _ = _; unfold habS; rw [setI_has hH (by omega)]
          clear hx1 hX hPX
          cases hs : hasB H e
          · rw [hs] at hhs
            have hh2 : Hid (habS h H e = (0, 0)) := hhs.out
            have hM1 := HMx.out.below hX1
            have HBe := Lib.hid (HBr.out.trans (hX1.mono HBr.out.size))
            clear hhs hs HMx HBr hX1
            rw [hh2.out] at hst
            clear hh2
            go_wp2_with fail
            refine (bound_any W.heap.size gb bc gs cs n _ 0 (1 + e) _ _ _ rfl (by omega) _ hM1 hn0 (by omega)).mono ?_
            rintro en Y ⟨rfl, hM2, hbY, u, rfl⟩
            have d0 := cell_bound (u := u) (k := 1 + e) d0 (by show wr.heap.size ≠ gs 0; have := hgP.out 0 hn0; omega)
            have HB2 := Lib.hid (HBe.out.trans hbY)
            clear hbY hM1 HBe d1 f0 f1
            generalize (World.setCell _ ⟨gs 0, 1 + e, none⟩ u).drew = Y at *
            go_wp2_with fail
            refine (bound_any W.heap.size gb bc gs cs n _ (1 + e) 0 _ _ _ (by omega) rfl _ hM2 (by omega) hn0).mono ?_
            rintro en Z ⟨rfl, hM3, hbZ, u2, rfl⟩
            have hB3 := HB2.out.trans hbZ
            clear hbZ hM2 HB2 d0
            generalize (World.setCell _ ⟨gs (1 + e), 0, none⟩ u2).drew = Z at *
            go_wp2_with fail
            go_roundw
            case rel => exact ⟨e + 1, by omega, by go_num, by rw [hst.out]; exact hM3, hB3⟩
            case measure => simp [intOf]; omega
          · rw [hs] at hhs
            have hh2 : Hid (habS h H e = (h.hLo, h.hHi)) := hhs.out
            have hX2 := (hX1.setCell (p := ⟨wr.heap.size, 0, none⟩) (Nat.le_refl _) (.int .i64 h.hLo)).setCell (p := ⟨wr.heap.size, 1, none⟩) (Nat.le_refl _) (.int .i64 h.hHi)
            have hM1 := HMx.out.below hX2
            have HBe := Lib.hid (HBr.out.trans (hX2.mono HBr.out.size))
            clear hhs hs HMx HBr hX1 hX2
            rw [hh2.out] at hst
            clear hh2
            go_wp2_with fail
            have d0 : ((w1.setCell ⟨wr.heap.size, 0, none⟩ (.int .i64 h.hLo)).setCell ⟨wr.heap.size, 1, none⟩ (.int .i64 h.hHi)).cell? ⟨wr.heap.size, 0, none⟩ = some (.int .i64 h.hLo) := by rw [World.cell?_setCell_other _ _ _ _ (by simp), World.cell?_setCell_same _ _ _ d0]
            refine (bound_any W.heap.size gb bc gs cs n _ 0 (1 + e) _ _ _ rfl (by omega) _ hM1 hn0 (by omega)).mono ?_
            rintro en Y ⟨rfl, hM2, hbY, u, rfl⟩
            have d0 := cell_bound (u := u) (k := 1 + e) d0 (by show wr.heap.size ≠ gs 0; have := hgP.out 0 hn0; omega)
            have HB2 := Lib.hid (HBe.out.trans hbY)
            clear hbY hM1 HBe d1 f0 f1
            generalize (World.setCell _ ⟨gs 0, 1 + e, none⟩ u).drew = Y at *
            go_wp2_with fail
            refine (bound_any W.heap.size gb bc gs cs n _ (1 + e) 0 _ _ _ (by omega) rfl _ hM2 (by omega) hn0).mono ?_
            rintro en Z ⟨rfl, hM3, hbZ, u2, rfl⟩
            have hB3 := HB2.out.trans hbZ
            clear hbZ hM2 HB2 d0
            generalize (World.setCell _ ⟨gs (1 + e), 0, none⟩ u2).drew = Z at *
            go_wp2_with fail
            go_roundw
            case rel => exact ⟨e + 1, by omega, by go_num, by rw [hst.out]; exact hM3, hB3⟩
            case measure => simp [intOf]; omega
        · obtain rfl : E = e := by omega
          have HM3 := Lib.hid hMx
          have HA3 := Lib.hid hB
          clear hMx hB a3 a5 a6 a7
          go_wp2_with fail
          clear a4
          have hlz : h.ln ≤ 12 := by rw [← HNL.out]; exact HR.out.w.l12
          have hlzi : (h.ln : Int) ≤ 12 := by omega
          have HTS : Hid (∀ k, k < ls.length → (ls.map (travOf h xs)).getD k (0, 0) = travOf h xs (ls.getD k (0, 0, 0))) := fun k hk => getD_map hk
          generalize ls.map (travOf h xs) = ts at *
          go_loopw [15] (fun m wr => ∃ k : Nat, k ≤ h.ln ∧ m = .int .i64 k ∧ Mx W.heap.size wr (.slice (some ⟨gb, 0, none⟩) n bc) gs cs n n (looksM h ts ls E S H k) ∧ Below W.heap.size W wr) (fun m _ => h.ln - (intOf m).toNat)
          case atStart => exact ⟨0, by omega, rfl, HM3.out, HA3.out⟩
          case round =>
            clear HM3 HA3 HM HA
            obtain ⟨k, hk, rfl, hMx, hB⟩ := hrel
            have a0 := cellB c0 hB
            have a1 := cellB c1 hB
            have a2 := cellB c2 hB
            have a4 := cellB c4 hB
            have a7 := cellB c7 hB
            have hk0 : (0 : Int) ≤ (k : Int) := by omega
            by_cases hlt : k < h.ln
            ·
              have hlti : (k : Int) < (h.ln : Int) := by omega
              have hlts : k < ls.length := by rw [HNL.out]; exact hlt
              have HBX := Lib.hid (HB0.out.grown hB)
              rcases HBX.out.has.lk with hnil | ⟨lb, lo, hla, hlb, hlc⟩
              · exfalso; rw [hnil] at hlts; simp at hlts
              obtain ⟨l0, l1, l2, _⟩ := hlc k hlts
              clear hlc
              rw [hla] at a7 ⊢
              clear hla
              have hey := HR.out.w.ey k hlts
              have hyy := HR.out.w.im k hlts
              have him := HR.out.im k hlts
              have htb := HR.out.tb k
              have hsy := (validW_look HV.out).2 k hlts
              have hTk := HTS.out k hlts
              have hst : Hid (looksM h ts ls E S H (k + 1) = if setI S k then bdM (1 + E + (ls.getD k (0, 0, 0)).2.1.toNat) (1 + (ls.getD k (0, 0, 0)).1.toNat) (-(ts.getD k (0, 0)).1) (bdM (1 + (ls.getD k (0, 0, 0)).1.toNat) (1 + E + (ls.getD k (0, 0, 0)).2.1.toNat) (ts.getD k (0, 0)).2 (looksM h ts ls E S H k)) else looksM h ts ls E S H k) := rfl
              have hsi : Hid (setI S k = hasB S k) := setI_has hS (by omega)
              have hgP : Hid (∀ i, i < n → gs i < wr.heap.size) := fun i hi => by have h9 := (hMx.row i hi).lt (gs i) rfl; exact h9.2
              have HMx := Lib.hid hMx
              have HBr := Lib.hid hB
              clear hMx hB
              go_wp2_with fail
              refine (has_anyR S k ⟨hS.1, by omega⟩ (by omega) _).mono ?_
              rintro en w1 ⟨rfl, hx1⟩
              cases hs : hasB S k
              · have hst2 : Hid (looksM h ts ls E S H (k + 1) = looksM h ts ls E S H k) := by show _ = _; rw [hst.out, hsi.out, hs]; rfl
                have hM1 := HMx.out.below hx1
                have hB3 := HBr.out.trans (hx1.mono HBr.out.size)
                clear hst hsi hs HMx HBr hey hyy him htb hsy hTk
                go_wp2_with fail
                go_roundw
                case rel => exact ⟨k + 1, by omega, by go_num, by rw [hst2.out]; exact hM1, hB3⟩
                case measure => simp [intOf]; omega
              · have HT : Hid (∀ W, Spans W h.a xs → Calls Try.prog 96 #[.agg #[.slice h.a h.n h.cap, .int .i64 h.eLo, .int .i64 h.eHi], .int .i64 (ls.getD k (0, 0, 0)).2.2] W (Ret (.tuple #[.agg #[.int .i64 (ts.getD k (0, 0)).1, .int .i64 (ts.getD k (0, 0)).2], .int .i64 0]) W)) := fun W hW => by
                  rw [hTk]
                  exact HTR.out _ W hW (by unfold lookB at hsy; simp only [Bool.and_eq_true] at hsy; exact hsy.2)
                have hst2 : Hid (looksM h ts ls E S H (k + 1) = bdM (1 + E + (ls.getD k (0, 0, 0)).2.1.toNat) (1 + (ls.getD k (0, 0, 0)).1.toNat) (-(ts.getD k (0, 0)).1) (bdM (1 + (ls.getD k (0, 0, 0)).1.toNat) (1 + E + (ls.getD k (0, 0, 0)).2.1.toNat) (ts.getD k (0, 0)).2 (looksM h ts ls E S H k))) := by show _ = _; rw [hst.out, hsi.out, hs]; rfl
                clear hst hsi hs hsy hTk
                generalize ts.getD k (0, 0) = t at *
                obtain ⟨tl, th⟩ := t
                generalize ls.getD k (0, 0, 0) = lk at *
                obtain ⟨ey, im, rd⟩ := lk
                dsimp only at hst2 HT hey hyy him htb l0 l1 l2
                obtain ⟨eyn, rfl⟩ : ∃ m : Nat, ey = (m : Int) := ⟨ey.toNat, by omega⟩
                obtain ⟨imn, rfl⟩ : ∃ m : Nat, im = (m : Int) := ⟨im.toNat, by omega⟩
                rw [Int.toNat_natCast, Int.toNat_natCast] at hst2
                have a0 := cellB a0 hx1
                have a1 := cellB a1 hx1
                have a2 := cellB a2 hx1
                have a4 := cellB a4 hx1
                have a7 := cellB a7 hx1
                have l0 := cellB l0 hx1
                have l1 := cellB l1 hx1
                have l2 := cellB l2 hx1
                have HBY := Lib.hid (HBX.out.grown hx1)
                have hM1 := Lib.hid (HMx.out.below hx1)
                have HBe := Lib.hid (HBr.out.trans (hx1.mono HBr.out.size))
                have hgw : Hid (∀ i, i < n → gs i < w1.heap.size) := fun i hi => Nat.lt_of_lt_of_le (hgP.out i hi) hx1.size
                clear hx1 HBX HMx HBr hgP
                have hn1 := newB w1 (.cells #[.int .i64 (eyn : Int), .int .i64 (imn : Int), .int .i64 rd] 47)
                have a0 := cellB a0 hn1
                have a1 := cellB a1 hn1
                have a2 := cellB a2 hn1
                have a4 := cellB a4 hn1
                have hX2 := HBY.out.grown hn1
                have k0 : (w1.alloc (.cells #[.int .i64 (eyn : Int), .int .i64 (imn : Int), .int .i64 rd] 47)).cell? ⟨w1.heap.size, 0, none⟩ = some (.int .i64 (eyn : Int)) := by simp [go_sem]
                have k1 : (w1.alloc (.cells #[.int .i64 (eyn : Int), .int .i64 (imn : Int), .int .i64 rd] 47)).cell? ⟨w1.heap.size, 1, none⟩ = some (.int .i64 (imn : Int)) := by simp [go_sem]
                have k2 : (w1.alloc (.cells #[.int .i64 (eyn : Int), .int .i64 (imn : Int), .int .i64 rd] 47)).cell? ⟨w1.heap.size, 2, none⟩ = some (.int .i64 rd) := by simp [go_sem]
                have hP2 : w1.heap.size < (w1.alloc (.cells #[.int .i64 (eyn : Int), .int .i64 (imn : Int), .int .i64 rd] 47)).heap.size := by simp
                go_wp2_with fail
                generalize w1.alloc (.cells #[.int .i64 (eyn : Int), .int .i64 (imn : Int), .int .i64 rd] 47) = X2 at *
                refine (HT.out X2 hX2.has.sp).mono ?_
                rintro en w2 ⟨rfl, hx2⟩
                have hx12 := hn1.trans (hx2.mono (Nat.le_of_lt hP2))
                have k0 := cellB k0 hx2
                have k1 := cellB k1 hx2
                have a4 := cellB a4 hx2
                have hn3 := newB w2 (.cells #[.int .i64 tl, .int .i64 th] 24)
                have k0 := cellB k0 hn3
                have k1 := cellB k1 hn3
                have a4 := cellB a4 hn3
                obtain ⟨d0, _, d1, _⟩ := two_new w2 tl th
                have hx13 := hx12.trans (hn3.mono hx12.size)
                have hM2 := hM1.out.below hx13
                have HB2 := Lib.hid (HBe.out.trans (hx13.mono HBe.out.size))
                have hgw2 : Hid (∀ i, i < n → gs i < w2.heap.size) := fun i hi => Nat.lt_of_lt_of_le (hgw.out i hi) hx12.size
                have e4i : (E : Int) ≤ 4 := by have := HR.out.w.e4; omega
                have i6i : (I : Int) ≤ 6 := by have := HR.out.i6; omega
                have ey0 : (0 : Int) ≤ (eyn : Int) := by omega
                have ey1 : (eyn : Int) < (E : Int) := by omega
                have im0 : (0 : Int) ≤ (imn : Int) := by omega
                have im1 : (imn : Int) < (I : Int) := him
                clear hx2 hn1 hx12 hn3 hx13 hM1 HBe hX2 hP2 HT a0 a1 a2 l0 l1 l2 k2 a7 HBY hey hyy him
                go_wp2_with fail
                have hiy : 1 + eyn < n := by omega
                have hiz : 1 + E + imn < n := by omega
                refine (bound_any W.heap.size gb bc gs cs n _ (1 + eyn) (1 + E + imn) _ _ _ (by omega) (by omega) _ hM2 hiy hiz).mono ?_
                rintro en Y ⟨rfl, hM3, hbY, u, rfl⟩
                have hg1 := hgw.out _ hiy
                have hg2 := hgw2.out _ hiy
                have hg3 := hM2.base hiy
                have hBW : B < W.heap.size := World.block_lt_of_cell? _ _ c0
                have k0 := cell_bound (u := u) (k := 1 + E + imn) k0 (by show w1.heap.size ≠ gs (1 + eyn); omega)
                have k1 := cell_bound (u := u) (k := 1 + E + imn) k1 (by show w1.heap.size ≠ gs (1 + eyn); omega)
                have d0 := cell_bound (u := u) (k := 1 + E + imn) d0 (by show w2.heap.size ≠ gs (1 + eyn); omega)
                have a4 := cell_bound (u := u) (k := 1 + E + imn) a4 (by show B ≠ gs (1 + eyn); omega)
                have HB3 := Lib.hid (HB2.out.trans hbY)
                clear hbY hM2 HB2 d1 hg1 hg2 hg3 hgw hgw2 hBW
                generalize (World.setCell _ ⟨gs (1 + eyn), 1 + E + imn, none⟩ u).drew = Y at *
                go_wp2_with fail
                refine (bound_any W.heap.size gb bc gs cs n _ (1 + E + imn) (1 + eyn) _ _ _ (by omega) (by omega) _ hM3 hiz hiy).mono ?_
                rintro en Z ⟨rfl, hM4, hbZ, u2, rfl⟩
                have hB4 := HB3.out.trans hbZ
                clear hbZ hM3 HB3 d0 k0 k1 a4
                generalize (World.setCell _ ⟨gs (1 + E + imn), 1 + eyn, none⟩ u2).drew = Z at *
                go_wp2_with fail
                go_roundw
                case rel => exact ⟨k + 1, by omega, by go_num, by rw [hst2.out]; exact hM4, hB4⟩
                case measure => simp [intOf]; omega
            · obtain rfl : h.ln = k := by omega
              have HM4 := Lib.hid hMx
              have HA4 := Lib.hid hB
              clear hMx hB a0 a1 a2 a4
              go_wp2_with fail
              clear a7
              have HO : Hid (ofM h ts ls E I S H = allM n n (looksM h ts ls E S H h.ln)) := by show _ = _; unfold ofM; rw [hN, HNL.out]
              have hrd := (looksM_ok (S := S) (H := H) HR.out ls.length (Nat.le_refl _)).1
              rw [hN, HNL.out] at hrd
              have HLOW : Hid (∀ m i k, m < n → i < n → k ≤ n → ∀ a b, a < n → b < n → -(300000000000000) ≤ rowM m i k (roundM n m i (allM n m (looksM h ts ls E S H h.ln))) a b ∧ rowM m i k (roundM n m i (allM n m (looksM h ts ls E S H h.ln))) a b ≤ F) := fun m i k hm hi hk => low_mid hn11 ⟨by omega, by omega⟩ hrd.low hrd.top hm hi hk
              clear hrd
              clear c0 c1 c2 c3 c4 c5 c6 c7 HR HTR HTS HV HNL HB0
              generalize looksM h ts ls E S H h.ln = M0 at *
              go_loopw [19] (fun m wr => ∃ mm : Nat, mm ≤ n ∧ m = .int .i64 mm ∧ Mx W.heap.size wr (.slice (some ⟨gb, 0, none⟩) n bc) gs cs n n (allM n mm M0) ∧ Below W.heap.size W wr) (fun m _ => n - (intOf m).toNat)
              case atStart => exact ⟨0, by omega, rfl, HM4.out, HA4.out⟩
              case round =>
                clear HM4 HA4
                obtain ⟨m, hm, rfl, hMx, hB⟩ := hrel
                by_cases hmn : m < n
                · have hmi : (m : Int) < (n : Int) := by omega
                  have hm0 : (0 : Int) ≤ (m : Int) := by omega
                  have HM5 := Lib.hid hMx
                  have HA5 := Lib.hid hB
                  clear hMx hB
                  go_wp2_with fail
                  go_loopw [20] (fun i wr => ∃ ii : Nat, ii ≤ n ∧ i = .int .i64 ii ∧ Mx W.heap.size wr (.slice (some ⟨gb, 0, none⟩) n bc) gs cs n n (roundM n m ii (allM n m M0)) ∧ Below W.heap.size W wr) (fun i _ => n - (intOf i).toNat)
                  case atStart => exact ⟨0, by omega, rfl, HM5.out, HA5.out⟩
                  case round =>
                    clear HM5 HA5
                    obtain ⟨i, hi, rfl, hMx, hB⟩ := hrel
                    by_cases hin : i < n
                    · have hii : (i : Int) < (n : Int) := by omega
                      have hi00 : (0 : Int) ≤ (i : Int) := by omega
                      have HM6 := Lib.hid hMx
                      have HA6 := Lib.hid hB
                      clear hMx hB
                      go_wp2_with fail
                      go_loopw [21] (fun k wr => ∃ kk : Nat, kk ≤ n ∧ k = .int .i64 kk ∧ Mx W.heap.size wr (.slice (some ⟨gb, 0, none⟩) n bc) gs cs n n (rowM m i kk (roundM n m i (allM n m M0))) ∧ Below W.heap.size W wr) (fun k _ => n - (intOf k).toNat)
                      case atStart => exact ⟨0, by omega, rfl, HM6.out, HA6.out⟩
                      case round =>
                        clear HM6 HA6
                        obtain ⟨k, hk, rfl, hMx, hB⟩ := hrel
                        by_cases hkn : k < n
                        · have hki : (k : Int) < (n : Int) := by omega
                          have hk00 : (0 : Int) ≤ (k : Int) := by omega
                          have r0 := hMx.at hin
                          have r1 := hMx.at hmn
                          have q0 := hMx.cell hin hmn
                          have q1 := hMx.cell hmn hkn
                          have b0 := HLOW.out m i k hmn hin hk i m hin hmn
                          have b1 := HLOW.out m i k hmn hin hk m k hmn hkn
                          have hst : Hid (rowM m i (k + 1) (roundM n m i (allM n m M0)) = stepM m i k (rowM m i k (roundM n m i (allM n m M0)))) := rfl
                          unfold stepM at hst
                          have HMx := Lib.hid hMx
                          have HBr := Lib.hid hB
                          clear hMx hB
                          generalize rowM m i k (roundM n m i (allM n m M0)) = Mc at *
                          have hbd : Hid (put Mc i k (min (Mc i k) (Mc i m + Mc m k)) = bdM i k (Mc i m + Mc m k) Mc) := rfl
                          rw [hbd.out] at hst
                          clear hbd
                          generalize Mc i m = x at *
                          generalize Mc m k = y at *
                          by_cases h1 : x < 1073741824
                          · by_cases h2 : y < 1073741824
                            · rw [if_pos ⟨h1, h2⟩] at hst
                              have hsum : Hid (IntKind.i64.wrap (x + y) = x + y) := IntWalk.i64_in _ (by omega)
                              go_wp2_with fail
                              refine Sq6.wp_region_seq [(0, true), (1, true), (2, true), (3, true), (4, true), (5, true), (6, true), (7, true), (8, true), (9, true), (10, true), (11, true), (12, true), (13, true), (14, true), (15, true), (16, true), (17, true), (18, false)] (fun w' => w'.cell? ⟨gb, i, none⟩ = some (.slice (some ⟨gs i, 0, none⟩) n (cs i)) ∧ w'.cell? ⟨gb, m, none⟩ = some (.slice (some ⟨gs m, 0, none⟩) n (cs m)) ∧ w'.cell? ⟨gs i, m, none⟩ = some (.int .i64 x) ∧ w'.cell? ⟨gs m, k, none⟩ = some (.int .i64 y)) (by kernel_rfl) (by kernel_rfl) (fun _ _ d _ _ h => by cases d <;> exact h) ⟨r0, r1, q0, q1⟩ ?_
                              repeat (first | (refine Sq6.seq_read rfl (by rfl) _ (fun w' hS => by (try dsimp only at hS); go_simp; (try with_reducible rfl)) ?_; (try simp only [Act.put, List.setIfInBounds_toArray, List.set_cons_zero, List.set_cons_succ])) | (refine Sq6.seq_skip rfl (by rfl) ?_; (try simp only [Act.put, List.setIfInBounds_toArray, List.set_cons_zero, List.set_cons_succ])))
                              refine Sq6.seq_last rfl (by rfl) (by kernel_rfl) (fun K hK => ?_)
                              go_simp
                              rw [hsum.out]
                              have hMd : Mx W.heap.size wr.drew (.slice (some ⟨gb, 0, none⟩) n bc) gs cs n n Mc := ⟨HMx.out.row, HMx.out.out, HMx.out.inj⟩
                              refine (bound_any W.heap.size gb bc gs cs n _ i k _ _ _ rfl rfl _ hMd hin hkn).mono ?_
                              rintro en Z ⟨rfl, hM4, hbZ, u2, rfl⟩
                              have hB4 := (HBr.out.trans ((Below.drew (Below.refl _ _)).mono HBr.out.size)).trans hbZ
                              clear hbZ
                              refine hK _ _ ?_
                              clear hK K
                              first | show Exit.inBlock _ _ Exit.normal _ _ | show Exit.then _ _ Exit.normal _ _ | skip
                              generalize (World.setCell _ ⟨gs i, k, none⟩ u2).drew = Z at *
                              go_wp2_with fail
                              go_roundw
                              case rel => exact ⟨k + 1, by omega, by go_num, by rw [hst.out]; exact hM4, hB4⟩
                              case measure => simp [intOf]; omega
                            · rw [if_neg (fun h => h2 h.2)] at hst
                              have hMN := HMx.out
                              have hBN := HBr.out
                              go_wp2_with fail
                              go_roundw
                              case rel => exact ⟨k + 1, by omega, by go_num, by rw [hst.out]; exact hMN, hBN⟩
                              case measure => simp [intOf]; omega
                          · rw [if_neg (fun h => h1 h.1)] at hst
                            have hMN := HMx.out
                            have hBN := HBr.out
                            go_wp2_with fail
                            go_roundw
                            case rel => exact ⟨k + 1, by omega, by go_num, by rw [hst.out]; exact hMN, hBN⟩
                            case measure => simp [intOf]; omega
                        · obtain rfl : n = k := by omega
                          have hMN : Mx W.heap.size wr (.slice (some ⟨gb, 0, none⟩) n bc) gs cs n n (roundM n m (i + 1) (allM n m M0)) := hMx
                          go_wp2_with fail
                          go_roundw
                          case rel => exact ⟨i + 1, by omega, by go_num, hMN, hB⟩
                          case measure => simp [intOf]; omega
                    · obtain rfl : n = i := by omega
                      have hMN : Mx W.heap.size wr (.slice (some ⟨gb, 0, none⟩) n bc) gs cs n n (allM n (m + 1) M0) := hMx
                      go_wp2_with fail
                      go_roundw
                      case rel => exact ⟨m + 1, by omega, by go_num, hMN, hB⟩
                      case measure => simp [intOf]; omega
                · obtain rfl : n = m := by omega
                  have HM7 := Lib.hid hMx
                  have HA7 := Lib.hid hB
                  clear hMx hB
                  go_wp2_with fail
                  have hgf : Hid (∀ j, j < n → allM n n M0 j j < 0 → goodB n (allM n n M0) = false) := fun j hj h0 => by
                    cases hg : goodB n (allM n n M0)
                    · rfl
                    · have := good_iff.1 hg j hj; omega
                  have hgt : Hid ((∀ j, j < n → 0 ≤ allM n n M0 j j) → goodB n (allM n n M0) = true) := fun h0 => good_iff.2 h0
                  have HWW : Hid (Below w.heap.size w W) := by rw [hBw]; exact HW0.out
                  clear HW0 HLOW
                  generalize allM n n M0 = D at *
                  go_loopw [22] (fun i wr => ∃ j : Nat, j ≤ n ∧ i = .int .i64 j ∧ Hid (∀ a, a < j → 0 ≤ D a a) ∧ Mx W.heap.size wr (.slice (some ⟨gb, 0, none⟩) n bc) gs cs n n D ∧ Below W.heap.size W wr) (fun i _ => n - (intOf i).toNat)
                  case atStart => exact ⟨0, by omega, rfl, fun a ha => by omega, HM7.out, HA7.out⟩
                  case round =>
                    clear HM7 HA7
                    obtain ⟨j, hj, rfl, hpos, hMx, hB⟩ := hrel
                    by_cases hjn : j < n
                    · have hji : (j : Int) < (n : Int) := by omega
                      have hj00 : (0 : Int) ≤ (j : Int) := by omega
                      have r0 := hMx.at hjn
                      have q0 := hMx.cell hjn hjn
                      have HMx := Lib.hid hMx
                      have HBr := Lib.hid hB
                      clear hMx hB
                      have hgj := Lib.hid (hgf.out j hjn)
                      by_cases h0 : D j j < 0
                      · have hG := hgj.out h0
                        generalize D j j = x at *
                        go_wp2_with fail
                        exact bodyPost_ret (v := .tuple #[.slice none 0 0, .bool false]) (by simp [results, Try.results69, go_sem]) rfl ⟨HWW.out.trans (HBr.out.mono HWW.out.size), by rw [HO.out, hG]; rfl⟩
                      · have hpn : Hid (∀ a, a < j + 1 → 0 ≤ D a a) := fun a ha => by
                          by_cases e : a = j
                          · subst e; omega
                          · exact hpos.out a (by omega)
                        have hMN := HMx.out
                        have hBN := HBr.out
                        clear hgj
                        generalize D j j = x at *
                        go_wp2_with fail
                        go_roundw
                        case rel => exact ⟨j + 1, by omega, by go_num, hpn, hMN, hBN⟩
                        case measure => simp [intOf]; omega
                    · obtain rfl : n = j := by omega
                      have hG := hgt.out hpos.out
                      have hIn := hMx.isIn
                      have hBN := HWW.out.trans (hB.mono HWW.out.size)
                      go_wp2_with fail
                      exact bodyPost_ret (v := .tuple #[.slice (some ⟨gb, 0, none⟩) n bc, .bool true]) (by simp [results, Try.results69, go_sem]) rfl ⟨hBN, by rw [HO.out, hG]; exact ⟨_, rfl, hIn.lower HWW.out.size⟩⟩
end Ey
end Go.Proofs.Ytcfjakifeihbpaa
