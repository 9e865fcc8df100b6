/- ScrewClash: its facts. -/
import Derived.Test.YtmfbkgdlfackcaaCmm
import Derived.Test.YtmfbkgdlfackcaaPam
namespace Go.Proofs.Ytmfbkgdlfackcaa
open Fw Go.RowKit

theorem and_nat {a b : Nat} (ha : a < 4096) (hb : b < 1000000) : bits .and .i64 (a : Int) (b : Int) = ((a &&& b : Nat) : Int) := by
  unfold bits
  dsimp only
  have h : a &&& b ≤ a := Nat.and_le_left
  rw [BitVec.toNat_and, bv_nat (by omega), bv_nat (by omega), i64_of_nat (by omega)]
theorem andNot_nat {a b : Nat} (ha : a < 4096) (hb : b < 1000000) : ∃ y : Nat, bits .andNot .i64 (a : Int) (b : Int) = (y : Int) ∧ y ≤ a ∧ ∀ i, y.testBit i = (a.testBit i && !b.testBit i) := by
  unfold bits
  dsimp only
  have e : (BitVec.ofInt IntKind.i64.bits (a : Int) &&& ~~~ BitVec.ofInt IntKind.i64.bits (b : Int)).toNat = a &&& (2 ^ 64 - (b + 1)) := by
    rw [BitVec.toNat_and, BitVec.toNat_not, bv_nat (by omega), bv_nat (by omega)]
    have h64 : 2 ^ IntKind.i64.bits - 1 - b = 2 ^ 64 - (b + 1) := by show 2 ^ 64 - 1 - b = _; omega
    rw [h64]
  have hle : a &&& (2 ^ 64 - (b + 1)) ≤ a := Nat.and_le_left
  refine ⟨a &&& (2 ^ 64 - (b + 1)), by rw [e, i64_of_nat (by omega)], hle, fun i => ?_⟩
  rw [Nat.testBit_and, Nat.testBit_two_pow_sub_succ (by omega)]
  by_cases hi : i < 64
  · rw [decide_eq_true hi]; simp
  · have : a.testBit i = false := Nat.testBit_lt_two_pow (Nat.lt_of_lt_of_le (show a < 2 ^ 64 by omega) (Nat.pow_le_pow_right (by decide) (by omega)))
    rw [this]; simp
theorem testBit_hi {a n i : Nat} (h : a < 2 ^ n) (hi : n ≤ i) : a.testBit i = false := Nat.testBit_lt_two_pow (Nat.lt_of_lt_of_le h (Nat.pow_le_pow_right (by decide) hi))
section
variable {h : Hd} {xs : List (Int × Int)} {ss : List Sett}
theorem tells_le (hv : validH h xs ss = true) : ∀ t ∈ tellsOf xs h.eLo h.eHi ss, t.2.2.1 ≤ t.2.2.2 := by
  obtain ⟨a, b, c, d, e, f, g⟩ := valid_has hv
  intro t ht
  obtain ⟨s, hs, rfl⟩ := List.mem_map.1 ht
  obtain ⟨g1, g2, g3⟩ := g s hs
  have hk : (s.2.1 / 1000).toNat < xs.length := by omega
  obtain ⟨e1, e2, e3⟩ := evB_at b hk
  unfold tellOf
  dsimp only
  rw [trav_eq (by omega) (by omega) (by omega), trav_eq (by omega) (by omega) (by omega)]
  omega
theorem clash_zero (hv : validH h xs ss = true) (hc : canB h xs ss (allS ss) = true) : clashR h xs ss = 0 := by
  unfold clashR
  rw [truths_can hv, hc, if_pos rfl]
theorem clash_best (hv : validH h xs ss = true) (hc : canB h xs ss (allS ss) = false) : ∃ q : Nat, clashR h xs ss = q ∧ 1 ≤ q ∧ q < 2 ^ ss.length ∧ canB h xs ss q = false ∧
    ∀ y : Nat, y < 2 ^ ss.length → canB h xs ss y = false → popc (q : Int) < popc (y : Int) ∨ (popc (q : Int) = popc (y : Int) ∧ q ≤ y) := by
  obtain ⟨a, b, c, d, e, f, g⟩ := valid_has hv
  obtain ⟨p1, p2, p3⟩ := pow_12 f
  have hz : ∀ y : Nat, canB h xs ss y = false → 1 ≤ y := fun y hy => by
    by_cases h0 : y = 0
    · subst h0
      have := can_empty hv
      rw [show ((0 : Nat) : Int) = 0 from rfl] at hy
      rw [this] at hy; cases hy
    · omega
  rw [← clash_eq hv]
  rcases bestC_spec (canB h xs ss) (2 ^ ss.length - 1) with ⟨h1, h2⟩ | ⟨q, h1, h2, h3, h4, h5⟩
  · exfalso
    have hall : allS ss = ((2 ^ ss.length - 1 : Nat) : Int) := by unfold allS; omega
    rw [hall] at hc
    have := h2 _ (hz _ hc) (Nat.le_refl _)
    rw [hc] at this; cases this
  · exact ⟨q, h1, h2, by omega, h4, fun y hy hb => h5 y (hz y hb) (by omega) hb⟩
theorem drop_best (hv : validH h xs ss = true) : ∃ q : Nat, dropR h xs ss = q ∧ q < 2 ^ ss.length ∧ canB h xs ss (2 ^ ss.length - 1 - (q : Int)) = true ∧
    ∀ y : Nat, y < 2 ^ ss.length → canB h xs ss (2 ^ ss.length - 1 - (y : Int)) = true → popc (q : Int) < popc (y : Int) ∨ (popc (q : Int) = popc (y : Int) ∧ q ≤ y) := by
  obtain ⟨a, b, c, d, e, f, g⟩ := valid_has hv
  rw [← drop_eq hv]
  obtain ⟨q, h1, h2, h3, _, h5⟩ := bestD_spec (canB h xs ss) ss.length f (can_empty hv) (2 ^ ss.length) (Nat.le_refl _)
  exact ⟨q, h1, h2, h3, h5⟩
theorem popc_zero : popc 0 = 0 := by decide +kernel
theorem drop_zero_iff (hv : validH h xs ss = true) : dropR h xs ss = 0 ↔ canB h xs ss (allS ss) = true := by
  obtain ⟨a, b, c, d, e, f, g⟩ := valid_has hv
  obtain ⟨p1, p2, p3⟩ := pow_12 f
  obtain ⟨q, h1, h2, h3, h5⟩ := drop_best hv
  have e0 : (2 : Int) ^ ss.length - 1 - ((0 : Nat) : Int) = allS ss := by unfold allS; simp
  rw [h1]
  constructor
  · intro h0
    have : q = 0 := by omega
    subst this
    rw [e0] at h3; exact h3
  · intro hc
    have := h5 0 (by omega) (by rw [e0]; exact hc)
    have hp := popc_rng f h2
    rw [show ((0 : Nat) : Int) = 0 from rfl, popc_zero] at this
    omega
theorem can_mono (hv : validH h xs ss = true) {x y : Nat} (hs : ∀ k, k < ss.length → y.testBit k = true → x.testBit k = true) (hc : canB h xs ss (x : Int) = true) : canB h xs ss (y : Int) = true := by
  obtain ⟨v, h1, h2⟩ := (canB_iff hv _).1 hc
  refine (canB_iff hv _).2 ⟨v, h1, fun k hk hb => h2 k hk ?_⟩
  rw [len_tells] at hk
  rw [hasB_test] at hb ⊢
  exact hs k hk hb
theorem clash_size (hv : validH h xs ss = true) {q : Nat} (hq : q < 2 ^ ss.length) (hcq : canB h xs ss q = false)
    (hmin : ∀ y : Nat, y < 2 ^ ss.length → canB h xs ss y = false → popc (q : Int) < popc (y : Int) ∨ (popc (q : Int) = popc (y : Int) ∧ q ≤ y)) : 2 ≤ popc (q : Int) ∧ popc (q : Int) ≤ 4 := by
  obtain ⟨a, b, c, d, e, f, g⟩ := valid_has hv
  obtain ⟨p1, p2, p3⟩ := pow_12 f
  have hl := len_tells h xs ss
  have hno : ¬∃ x, TellsB h.sLo h.sHi (tellsOf xs h.eLo h.eHi ss) (q : Int) x := fun hx => by
    rw [(canB_iff hv _).2 hx] at hcq; cases hcq
  constructor
  · -- two of its settings
    have hall : ∀ i : Nat, ∃ k, k < ss.length ∧ q.testBit k = true ∧ k ≠ i := fun i => by
      apply Classical.byContradiction
      intro hn
      refine hno (alone_can (i := i) (tells_le hv) (by omega) (fun k hk hb => ?_))
      apply Classical.byContradiction
      intro hne
      exact hn ⟨k, by omega, by rw [← hasB_test]; exact hb, hne⟩
    obtain ⟨i, hi, hbi, _⟩ := hall 12
    obtain ⟨j, hj, hbj, hne⟩ := hall i
    have hp : 2 ^ i < 4096 := Nat.lt_of_lt_of_le (Nat.pow_lt_pow_right (by decide) (show i < 12 by omega)) (by decide)
    have h1 := popc_lt (x := 2 ^ i) (y := 0) hp (by omega) (fun k _ hk => by simp at hk) (i := i) (by omega) (by rw [Nat.testBit_two_pow]; simp) (by simp)
    have h2 := popc_lt (x := q) (y := 2 ^ i) (by omega) hp (fun k _ hk => by rw [Nat.testBit_two_pow, decide_eq_true_eq] at hk; rw [← hk]; exact hbi) (i := j) (by omega) hbj (by rw [Nat.testBit_two_pow]; simp; omega)
    rw [show ((0 : Nat) : Int) = 0 from rfl, popc_zero] at h1
    omega
  · obtain ⟨K, k1, k2, k3⟩ := four (set := (q : Int)) (fair_of hv) (tells_img hv) (by omega) hno
    have hK : ∀ k ∈ K, k < ss.length := fun k hk => by have := k2 k hk; omega
    have hy : ofL K < 2 ^ ss.length := ofL_lt hK
    have hcy : canB h xs ss (ofL K : Int) = false := by
      cases hc : canB h xs ss (ofL K : Int)
      · rfl
      · obtain ⟨x, x1, x2⟩ := (canB_iff hv _).1 hc
        exact absurd ⟨x, x1, fun k hk => x2 k (k2 k hk) (by rw [hasB_test]; exact (ofL_test k K).2 hk)⟩ k3
    have := popc_ofL (K := K) fun k hk => by have := hK k hk; omega
    rcases hmin _ hy hcy with h | ⟨h, _⟩ <;> omega
theorem clash_less (hv : validH h xs ss = true) {q : Nat} (hq : q < 2 ^ ss.length)
    (hmin : ∀ y : Nat, y < 2 ^ ss.length → canB h xs ss y = false → popc (q : Int) < popc (y : Int) ∨ (popc (q : Int) = popc (y : Int) ∧ q ≤ y)) {i : Nat} (hi : i < ss.length) (hb : hasB (q : Int) i = true) :
    ∃ y : Nat, bits .andNot .i64 (q : Int) (wrap64 (2 ^ i)) = (y : Int) ∧ y < 4096 ∧ canB h xs ss y = true := by
  obtain ⟨a, b, c, d, e, f, g⟩ := valid_has hv
  obtain ⟨p1, p2, p3⟩ := pow_12 f
  have hp : wrap64 (2 ^ i) = ((2 ^ i : Nat) : Int) := (by decide +kernel : ∀ k : Fin 12, wrap64 (2 ^ k.val) = ((2 ^ k.val : Nat) : Int)) ⟨i, by omega⟩
  have hp2 : 2 ^ i < 4096 := Nat.lt_of_lt_of_le (Nat.pow_lt_pow_right (by decide) (show i < 12 by omega)) (by decide)
  obtain ⟨y, y1, y2, y3⟩ := andNot_nat (a := q) (b := 2 ^ i) (by omega) (by omega)
  refine ⟨y, by rw [hp]; exact y1, by omega, ?_⟩
  cases hc : canB h xs ss y
  · exfalso
    rw [hasB_test] at hb
    have := popc_lt (x := q) (y := y) (by omega) (by omega) (fun k _ hk => by rw [y3] at hk; simp at hk; exact hk.1) (i := i) (by omega) hb (by rw [y3, Nat.testBit_two_pow]; simp)
    rcases hmin y (by omega) hc with h | ⟨h, _⟩ <;> omega
  · rfl
theorem clash_drop (hv : validH h xs ss = true) {q d : Nat} (hq : q < 2 ^ ss.length) (hd : d < 2 ^ ss.length) (hcq : canB h xs ss q = false) (hcd : canB h xs ss (2 ^ ss.length - 1 - (d : Int)) = true) : bits .and .i64 (q : Int) (d : Int) ≠ 0 := by
  obtain ⟨a, b, c, d', e, f, g⟩ := valid_has hv
  obtain ⟨p1, p2, p3⟩ := pow_12 f
  rw [and_nat (by omega) (by omega)]
  intro h0
  have h1 : q &&& d = 0 := by omega
  have e1 : (2 : Int) ^ ss.length - 1 - (d : Int) = ((2 ^ ss.length - (d + 1) : Nat) : Int) := by omega
  rw [e1] at hcd
  have := can_mono hv (x := 2 ^ ss.length - (d + 1)) (y := q) (fun k hk hb => by
    rw [Nat.testBit_two_pow_sub_succ hd]
    have h2 : (q &&& d).testBit k = false := by rw [h1]; simp
    rw [Nat.testBit_and, hb] at h2
    rw [decide_eq_true hk]
    cases hdk : d.testBit k
    · rfl
    · rw [hdk] at h2; cases h2) hcd
  rw [this] at hcq; cases hcq
theorem own_rng {y : Int} (hy : 0 ≤ y ∧ y ≤ 65535) {n : Nat} (hn : n ≤ 12) : ∃ o : Nat, bits .and .i64 y (2 ^ n - 1) = (o : Int) ∧ o < 2 ^ n := by
  obtain ⟨p1, p2, p3⟩ := pow_12 hn
  obtain ⟨m, rfl⟩ : ∃ m : Nat, y = (m : Int) := ⟨y.toNat, by omega⟩
  refine ⟨m &&& (2 ^ n - 1), ?_, ?_⟩
  · have e : (2 : Int) ^ n - 1 = ((2 ^ n - 1 : Nat) : Int) := by omega
    rw [e]
    unfold bits
    dsimp only
    have h : m &&& (2 ^ n - 1) ≤ m := Nat.and_le_left
    rw [BitVec.toNat_and, bv_nat (by omega), bv_nat (by omega), i64_of_nat (by omega)]
  · have : m &&& (2 ^ n - 1) ≤ 2 ^ n - 1 := Nat.and_le_right
    omega
end
end Go.Proofs.Ytmfbkgdlfackcaa
