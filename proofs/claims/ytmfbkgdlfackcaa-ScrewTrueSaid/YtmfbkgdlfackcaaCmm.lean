/- Settings that clash, and those that must be wrong: how many they are, and what is left without them. -/
import Derived.Test.YtmfbkgdlfackcaaMcs
namespace Go.Proofs.Ytmfbkgdlfackcaa
open Fw Go.RowKit

theorem hasB_test (n k : Nat) : hasB (n : Int) k = n.testBit k := by
  unfold hasB
  rw [Nat.testBit_eq_decide_div_mod_eq]
  have : (n : Int) / 2 ^ k % 2 = ((n / 2 ^ k % 2 : Nat) : Int) := by simp
  rw [this]
  by_cases h : n / 2 ^ k % 2 = 1
  · rw [h]; rfl
  · rw [decide_eq_false h]; simp; omega
theorem test_zero (x : Nat) : x.testBit 0 = true ↔ x % 2 = 1 := by rw [Nat.testBit_zero, decide_eq_true_eq]
theorem sizeF_mono : ∀ (j x y : Nat), (∀ i, i < j → y.testBit i = true → x.testBit i = true) →
    sizeF j (y : Int) ≤ sizeF j (x : Int) ∧ ∀ i, i < j → x.testBit i = true → y.testBit i = false → sizeF j (y : Int) < sizeF j (x : Int)
  | 0, x, y, _ => ⟨by rw [sizeF, sizeF]; omega, fun i hi => by omega⟩
  | j + 1, x, y, h => by
    have ih := sizeF_mono j (x / 2) (y / 2) (fun i hi hb => by
      have := h (i + 1) (by omega) (by rw [Nat.testBit_succ]; exact hb)
      rw [Nat.testBit_succ] at this; exact this)
    have h0 := h 0 (by omega)
    rw [test_zero, test_zero] at h0
    rw [sizeF, sizeF]
    have e1 : (x : Int) / 2 = ((x / 2 : Nat) : Int) := by omega
    have e2 : (y : Int) / 2 = ((y / 2 : Nat) : Int) := by omega
    rw [e1, e2]
    generalize sizeF j ((x / 2 : Nat) : Int) = a at *
    generalize sizeF j ((y / 2 : Nat) : Int) = b at *
    refine ⟨by have := ih.1; omega, fun i hi hx hy => ?_⟩
    cases i with
    | zero =>
      have := ih.1
      rw [test_zero] at hx
      have : ¬ y % 2 = 1 := fun e => by rw [(test_zero y).2 e] at hy; cases hy
      omega
    | succ i =>
      rw [Nat.testBit_succ] at hx hy
      have := ih.2 i (by omega) hx hy
      omega
theorem popc_lt {x y : Nat} (hx : x < 4096) (hy : y < 4096) (h : ∀ i, i < 12 → y.testBit i = true → x.testBit i = true) {i : Nat} (hi : i < 12) (h1 : x.testBit i = true) (h2 : y.testBit i = false) : popc (y : Int) < popc (x : Int) := by
  have := (sizeF_mono 12 x y h).2 i hi h1 h2
  rw [sizeF_popc (by omega), sizeF_popc (by omega)] at this
  exact this
/-- A set of some numbers. -/
def ofL : List Nat → Nat
  | [] => 0
  | k :: K => ofL K ||| 2 ^ k
theorem ofL_test (i : Nat) : ∀ K : List Nat, (ofL K).testBit i = true ↔ i ∈ K
  | [] => by simp [ofL]
  | k :: K => by
    rw [ofL, Nat.testBit_or, Bool.or_eq_true, ofL_test i K, Nat.testBit_two_pow, decide_eq_true_eq, List.mem_cons]
    constructor
    · rintro (h | h)
      · exact .inr h
      · exact .inl h.symm
    · rintro (h | h)
      · exact .inr h.symm
      · exact .inl h
theorem ofL_lt {n : Nat} : ∀ {K : List Nat}, (∀ k ∈ K, k < n) → ofL K < 2 ^ n
  | [], _ => Nat.two_pow_pos n
  | k :: K, h => Nat.or_lt_two_pow (ofL_lt fun i hi => h i (List.mem_cons_of_mem _ hi)) (Nat.pow_lt_pow_right (by decide) (h k (List.mem_cons_self ..)))
theorem sizeF_or : ∀ (j x k : Nat), sizeF j ((x ||| 2 ^ k : Nat) : Int) ≤ sizeF j (x : Int) + 1
  | 0, x, k => by rw [sizeF, sizeF]; omega
  | j + 1, x, k => by
    rw [sizeF, sizeF]
    have e1 : (x : Int) / 2 = ((x / 2 : Nat) : Int) := by omega
    have e2 : ((x ||| 2 ^ k : Nat) : Int) / 2 = (((x ||| 2 ^ k) / 2 : Nat) : Int) := by omega
    rw [e1, e2, Nat.or_div_two]
    cases k with
    | zero =>
      have : x / 2 ||| 2 ^ 0 / 2 = x / 2 := by simp
      rw [this]; omega
    | succ k =>
      have h2 : 2 ^ (k + 1) = 2 * 2 ^ k := by rw [Nat.pow_succ, Nat.mul_comm]
      have h3 : 2 ^ (k + 1) / 2 = 2 ^ k := by omega
      have ih := sizeF_or j (x / 2) k
      have hm := Nat.or_mod_two_eq_one (a := x) (b := 2 ^ (k + 1))
      have h4 : (x ||| 2 ^ (k + 1)) % 2 = x % 2 := by
        have : ¬ 2 ^ (k + 1) % 2 = 1 := by omega
        omega
      rw [h3]
      generalize sizeF j ((x / 2 ||| 2 ^ k : Nat) : Int) = a at *
      generalize sizeF j ((x / 2 : Nat) : Int) = b at *
      omega
theorem sizeF_ofL (j : Nat) : ∀ K : List Nat, sizeF j (ofL K : Int) ≤ K.length
  | [] => by rw [ofL, show ((0 : Nat) : Int) = 0 from rfl, sizeF_zero]; simp
  | k :: K => by
    have := sizeF_or j (ofL K) k
    have := sizeF_ofL j K
    rw [ofL, List.length_cons]; omega
theorem popc_ofL {K : List Nat} (h : ∀ k ∈ K, k < 12) : popc (ofL K : Int) ≤ K.length := by
  have h2 : ofL K < 2 ^ 12 := ofL_lt h
  have := sizeF_ofL 12 K
  rw [sizeF_popc (by omega)] at this
  exact this
/-! Four settings are enough. -/
section
variable {ts : List Tell} {set sLo sHi : Int} {N : Nat}
theorem told_low (ts : List Tell) (set im : Int) (rv : Bool) : ∀ n, (toldTo ts set im rv n).1 = -1099511627776 ∨
    ∃ k, k < n ∧ hasB set k = true ∧ (ts.getD k dfl).2.1 = im ∧ (ts.getD k dfl).1 = rv ∧ (ts.getD k dfl).2.2.1 = (toldTo ts set im rv n).1
  | 0 => .inl rfl
  | n + 1 => by
    have ih := told_low ts set im rv n
    rw [toldTo]
    split
    · rename_i hc
      simp only [Bool.and_eq_true, beq_iff_eq] at hc
      obtain ⟨⟨h1, h2⟩, h3⟩ := hc
      dsimp only
      unfold mxI
      split
      · exact .inr ⟨n, by omega, h1, h2, h3, rfl⟩
      · rcases ih with h | ⟨k, a, b, c, d, e⟩
        · exact .inl h
        · exact .inr ⟨k, by omega, b, c, d, e⟩
    · rcases ih with h | ⟨k, a, b, c, d, e⟩
      · exact .inl h
      · exact .inr ⟨k, by omega, b, c, d, e⟩
theorem told_high (ts : List Tell) (set im : Int) (rv : Bool) : ∀ n, (toldTo ts set im rv n).2 = 1099511627776 ∨
    ∃ k, k < n ∧ hasB set k = true ∧ (ts.getD k dfl).2.1 = im ∧ (ts.getD k dfl).1 = rv ∧ (ts.getD k dfl).2.2.2 = (toldTo ts set im rv n).2
  | 0 => .inl rfl
  | n + 1 => by
    have ih := told_high ts set im rv n
    rw [toldTo]
    split
    · rename_i hc
      simp only [Bool.and_eq_true, beq_iff_eq] at hc
      obtain ⟨⟨h1, h2⟩, h3⟩ := hc
      dsimp only
      unfold mnI
      split
      · exact .inr ⟨n, by omega, h1, h2, h3, rfl⟩
      · rcases ih with h | ⟨k, a, b, c, d, e⟩
        · exact .inl h
        · exact .inr ⟨k, by omega, b, c, d, e⟩
    · rcases ih with h | ⟨k, a, b, c, d, e⟩
      · exact .inl h
      · exact .inr ⟨k, by omega, b, c, d, e⟩
theorem sumsTo_ends : ∀ k o, sumsTo ts set sLo sHi k = some o → (o.1 = sLo ∨ ∃ j : Nat, j < k ∧ o.1 = (toldTo ts set j false ts.length).1 + (toldTo ts set j true ts.length).1) ∧
    (o.2 = sHi ∨ ∃ j : Nat, j < k ∧ o.2 = (toldTo ts set j false ts.length).2 + (toldTo ts set j true ts.length).2)
  | 0, o, h => by rw [sumsTo] at h; injection h with h; subst h; exact ⟨.inl rfl, .inl rfl⟩
  | k + 1, o, h => by
    rw [sumsTo] at h
    cases hk : sumsTo ts set sLo sHi k with
    | none => rw [hk] at h; cases h
    | some p =>
      rw [hk] at h
      dsimp only at h
      obtain ⟨i1, i2⟩ := sumsTo_ends k p hk
      split at h
      · cases h
      · injection h with h
        subst h
        unfold mxI mnI
        dsimp only
        constructor
        · split
          · exact .inr ⟨k, by omega, rfl⟩
          · rcases i1 with h | ⟨j, a, b⟩
            · exact .inl h
            · exact .inr ⟨j, by omega, b⟩
        · split
          · exact .inr ⟨k, by omega, rfl⟩
          · rcases i2 with h | ⟨j, a, b⟩
            · exact .inl h
            · exact .inr ⟨j, by omega, b⟩
theorem sumsTo_nil : ∀ k, sumsTo ts set sLo sHi k = none → ∃ j : Nat, j < k ∧ ∃ rv, (toldTo ts set j rv ts.length).1 > (toldTo ts set j rv ts.length).2
  | 0, h => by rw [sumsTo] at h; cases h
  | k + 1, h => by
    rw [sumsTo] at h
    cases hk : sumsTo ts set sLo sHi k with
    | none =>
      obtain ⟨j, a, b⟩ := sumsTo_nil k hk
      exact ⟨j, by omega, b⟩
    | some p =>
      rw [hk] at h
      dsimp only at h
      split at h
      · rename_i hc
        simp only [Bool.or_eq_true, decide_eq_true_eq] at hc
        rcases hc with hc | hc
        · exact ⟨k, by omega, false, hc⟩
        · exact ⟨k, by omega, true, hc⟩
      · cases h
theorem keeps_at {t : Tell} {x : Nat → Int} (h : Keeps t x) {j : Nat} (hj : t.2.1 = (j : Int)) {rv : Bool} (hr : t.1 = rv) :
    t.2.2.1 ≤ (if rv then x 1 - x (2 + j) else x (2 + j) - x 0) ∧ (if rv then x 1 - x (2 + j) else x (2 + j) - x 0) ≤ t.2.2.2 := by
  unfold Keeps at h
  have e : t.2.1.toNat = j := by omega
  rw [hr, e] at h
  cases rv
  · rw [if_neg (by simp)] at h ⊢; exact h
  · rw [if_pos rfl] at h ⊢; exact h
theorem four (hf : ∀ t ∈ ts, Fair 131072 t) (hN : ∀ t ∈ ts, 0 ≤ t.2.1 ∧ t.2.1 < N) (h0 : 0 ≤ sLo ∧ sLo ≤ sHi ∧ sHi ≤ 131072) (hno : ¬∃ x, TellsB sLo sHi ts set x) :
    ∃ K : List Nat, K.length ≤ 4 ∧ (∀ k ∈ K, k < ts.length) ∧ ¬∃ x : Nat → Int, (sLo ≤ x 1 - x 0 ∧ x 1 - x 0 ≤ sHi) ∧ ∀ k ∈ K, Keeps (ts.getD k dfl) x := by
  have hgt : (sumsE ts set sLo sHi N).1 > (sumsE ts set sLo sHi N).2 := by
    by_cases h : (sumsE ts set sLo sHi N).1 > (sumsE ts set sLo sHi N).2
    · exact h
    · obtain ⟨_, ⟨x, hx, _⟩, _⟩ := sums_yes hf hN (by omega) h
      exact absurd ⟨x, hx⟩ hno
  have rng := fun j rv => told_rng hf set j rv ts.length (Nat.le_refl _)
  unfold sumsE at hgt
  cases hs : sumsTo ts set sLo sHi N with
  | none =>
    obtain ⟨j, _, rv, hj⟩ := sumsTo_nil N hs
    have hr := rng j rv
    rcases told_low ts set j rv ts.length with h | ⟨a, a1, _, a2, a3, a4⟩
    · omega
    · rcases told_high ts set j rv ts.length with h | ⟨b, b1, _, b2, b3, b4⟩
      · omega
      · refine ⟨[a, b], by simp, by simp; omega, ?_⟩
        rintro ⟨x, _, hx⟩
        have ha := keeps_at (hx a (by simp)) a2 a3
        have hb := keeps_at (hx b (by simp)) b2 b3
        omega
  | some o =>
    rw [hs] at hgt
    dsimp only [Option.getD] at hgt
    obtain ⟨hl, hh⟩ := sumsTo_ends N o hs
    have hor := sumsTo_rng hf (by omega) N o hs
    -- the least sum, and the greatest one, by at most two settings each
    have low : ∃ K : List Nat, K.length ≤ 2 ∧ (∀ k ∈ K, k < ts.length) ∧ ∀ x : Nat → Int, (sLo ≤ x 1 - x 0 ∧ x 1 - x 0 ≤ sHi) → (∀ k ∈ K, Keeps (ts.getD k dfl) x) → o.1 ≤ x 1 - x 0 := by
      rcases hl with h | ⟨j, _, h⟩
      · exact ⟨[], by simp, by simp, fun x hx _ => by omega⟩
      · have r1 := rng j false; have r2 := rng j true
        rcases told_low ts set j false ts.length with h' | ⟨a, a1, _, a2, a3, a4⟩
        · omega
        · rcases told_low ts set j true ts.length with h' | ⟨b, b1, _, b2, b3, b4⟩
          · omega
          · refine ⟨[a, b], by simp, by simp; omega, fun x _ hx => ?_⟩
            have ha := keeps_at (hx a (by simp)) a2 a3
            have hb := keeps_at (hx b (by simp)) b2 b3
            rw [if_neg (by simp)] at ha
            rw [if_pos rfl] at hb
            omega
    have high : ∃ K : List Nat, K.length ≤ 2 ∧ (∀ k ∈ K, k < ts.length) ∧ ∀ x : Nat → Int, (sLo ≤ x 1 - x 0 ∧ x 1 - x 0 ≤ sHi) → (∀ k ∈ K, Keeps (ts.getD k dfl) x) → x 1 - x 0 ≤ o.2 := by
      rcases hh with h | ⟨j, _, h⟩
      · exact ⟨[], by simp, by simp, fun x hx _ => by omega⟩
      · have r1 := rng j false; have r2 := rng j true
        rcases told_high ts set j false ts.length with h' | ⟨a, a1, _, a2, a3, a4⟩
        · omega
        · rcases told_high ts set j true ts.length with h' | ⟨b, b1, _, b2, b3, b4⟩
          · omega
          · refine ⟨[a, b], by simp, by simp; omega, fun x _ hx => ?_⟩
            have ha := keeps_at (hx a (by simp)) a2 a3
            have hb := keeps_at (hx b (by simp)) b2 b3
            rw [if_neg (by simp)] at ha
            rw [if_pos rfl] at hb
            omega
    obtain ⟨K1, l1, m1, c1⟩ := low
    obtain ⟨K2, l2, m2, c2⟩ := high
    refine ⟨K1 ++ K2, by rw [List.length_append]; omega, fun k hk => ?_, ?_⟩
    · rcases List.mem_append.1 hk with h | h
      · exact m1 k h
      · exact m2 k h
    · rintro ⟨x, hx, hk⟩
      have := c1 x hx fun k h => hk k (List.mem_append_left _ h)
      have := c2 x hx fun k h => hk k (List.mem_append_right _ h)
      omega
/-- One setting alone can be right. -/
theorem alone_can (hle : ∀ t ∈ ts, t.2.2.1 ≤ t.2.2.2) (h0 : sLo ≤ sHi) {i : Nat} (hset : ∀ k, k < ts.length → hasB set k = true → k = i) : ∃ x, TellsB sLo sHi ts set x := by
  refine ⟨mk sLo fun _ => if (ts.getD i dfl).1 then sLo - (ts.getD i dfl).2.2.1 else (ts.getD i dfl).2.2.1, by rw [mk_sum, mk_zero]; omega, fun k hk hb => ?_⟩
  have := hset k hk hb
  subst this
  have h1 := hle _ (getD_in hk)
  unfold Keeps
  rw [mk_place, mk_zero, mk_sum]
  split
  · omega
  · omega
end
end Go.Proofs.Ytmfbkgdlfackcaa
