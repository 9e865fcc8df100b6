/- Sets as bits: taking out, sizes. EyeClash: its facts. -/
import Derived.Test.YtcfjakifeihbpaaExf
namespace Go.Proofs.Ytcfjakifeihbpaa
namespace Ey
open Go.RowKit Nb

theorem hasB_test (n k : Nat) : hasB (n : Int) k = n.testBit k := by
  unfold hasB
  rw [Nat.testBit_eq_decide_div_mod_eq]
  have : (n : Int) / 2 ^ k % 2 = ((n / 2 ^ k % 2 : Nat) : Int) := by simp
  rw [this]
  by_cases h : n / 2 ^ k % 2 = 1
  · rw [h]; rfl
  · rw [decide_eq_false h]; simp; omega
theorem test_zero (x : Nat) : x.testBit 0 = true ↔ x % 2 = 1 := by rw [Nat.testBit_zero, decide_eq_true_eq]
theorem sizeF_mono : ∀ (j x y : Nat), (∀ i, i < j → y.testBit i = true → x.testBit i = true) →
    sizeF j (y : Int) ≤ sizeF j (x : Int) ∧ ∀ i, i < j → x.testBit i = true → y.testBit i = false → sizeF j (y : Int) < sizeF j (x : Int)
  | 0, x, y, _ => ⟨by rw [sizeF, sizeF]; omega, fun i hi => by omega⟩
  | j + 1, x, y, h => by
    have ih := sizeF_mono j (x / 2) (y / 2) (fun i hi hb => by
      have := h (i + 1) (by omega) (by rw [Nat.testBit_succ]; exact hb)
      rw [Nat.testBit_succ] at this; exact this)
    have h0 := h 0 (by omega)
    rw [test_zero, test_zero] at h0
    rw [sizeF, sizeF]
    have e1 : (x : Int) / 2 = ((x / 2 : Nat) : Int) := by omega
    have e2 : (y : Int) / 2 = ((y / 2 : Nat) : Int) := by omega
    rw [e1, e2]
    generalize sizeF j ((x / 2 : Nat) : Int) = a at *
    generalize sizeF j ((y / 2 : Nat) : Int) = b at *
    refine ⟨by have := ih.1; omega, fun i hi hx hy => ?_⟩
    cases i with
    | zero =>
      have := ih.1
      rw [test_zero] at hx
      have : ¬ y % 2 = 1 := fun e => by rw [(test_zero y).2 e] at hy; cases hy
      omega
    | succ i =>
      rw [Nat.testBit_succ] at hx hy
      have := ih.2 i (by omega) hx hy
      omega
theorem popc_lt {x y : Nat} (hx : x < 4096) (hy : y < 4096) (h : ∀ i, i < 12 → y.testBit i = true → x.testBit i = true) {i : Nat} (hi : i < 12) (h1 : x.testBit i = true) (h2 : y.testBit i = false) : popc (y : Int) < popc (x : Int) := by
  have := (sizeF_mono 12 x y h).2 i hi h1 h2
  rw [sizeF_popc (by omega), sizeF_popc (by omega)] at this
  exact this
theorem and_nat {a b : Nat} (ha : a < 4096) (hb : b < 1000000) : bits .and .i64 (a : Int) (b : Int) = ((a &&& b : Nat) : Int) := by
  unfold bits
  dsimp only
  have h : a &&& b ≤ a := Nat.and_le_left
  rw [BitVec.toNat_and, bv_nat (by omega), bv_nat (by omega), i64_of_nat (by omega)]
theorem andNot_nat {a b : Nat} (ha : a < 4096) (hb : b < 1000000) : ∃ y : Nat, bits .andNot .i64 (a : Int) (b : Int) = (y : Int) ∧ y ≤ a ∧ ∀ i, y.testBit i = (a.testBit i && !b.testBit i) := by
  unfold bits
  dsimp only
  have e : (BitVec.ofInt IntKind.i64.bits (a : Int) &&& ~~~ BitVec.ofInt IntKind.i64.bits (b : Int)).toNat = a &&& (2 ^ 64 - (b + 1)) := by
    rw [BitVec.toNat_and, BitVec.toNat_not, bv_nat (by omega), bv_nat (by omega)]
    have h64 : 2 ^ IntKind.i64.bits - 1 - b = 2 ^ 64 - (b + 1) := by show 2 ^ 64 - 1 - b = _; omega
    rw [h64]
  have hle : a &&& (2 ^ 64 - (b + 1)) ≤ a := Nat.and_le_left
  refine ⟨a &&& (2 ^ 64 - (b + 1)), by rw [e, i64_of_nat (by omega)], hle, fun i => ?_⟩
  rw [Nat.testBit_and, Nat.testBit_two_pow_sub_succ (by omega)]
  by_cases hi : i < 64
  · rw [decide_eq_true hi]; simp
  · have : a.testBit i = false := Nat.testBit_lt_two_pow (Nat.lt_of_lt_of_le (show a < 2 ^ 64 by omega) (Nat.pow_le_pow_right (by decide) (by omega)))
    rw [this]; simp
theorem own_rng {y : Int} (hy : 0 ≤ y ∧ y ≤ 65535) {n : Nat} (hn : n ≤ 12) : ∃ o : Nat, bits .and .i64 y (2 ^ n - 1) = (o : Int) ∧ o < 2 ^ n := by
  obtain ⟨p1, p2, p3⟩ := pow_12 hn
  obtain ⟨m, rfl⟩ : ∃ m : Nat, y = (m : Int) := ⟨y.toNat, by omega⟩
  refine ⟨m &&& (2 ^ n - 1), ?_, ?_⟩
  · have e : (2 : Int) ^ n - 1 = ((2 ^ n - 1 : Nat) : Int) := by omega
    rw [e]
    unfold bits
    dsimp only
    have h : m &&& (2 ^ n - 1) ≤ m := Nat.and_le_left
    rw [BitVec.toNat_and, bv_nat (by omega), bv_nat (by omega), i64_of_nat (by omega)]
  · have : m &&& (2 ^ n - 1) ≤ 2 ^ n - 1 := Nat.and_le_right
    omega
theorem cf_bd {n al q : Nat} (hn : n ≤ 12) (hP : (2 : Int) ^ n - 1 = (al : Int)) (hq : q < 2 ^ n) : bits .andNot .i64 (al : Int) (q : Int) = (al : Int) - q := by
  have := butS_eq (n := n) (x := q) hn hq
  unfold butS allS at this
  rw [hP] at this; exact this
theorem cf_sh {n al : Nat} (hn : n ≤ 12) (hP : (2 : Int) ^ n - 1 = (al : Int)) : wrap64 (wrap64 (2 ^ n) - 1) = (al : Int) := by
  rw [← hP]
  have h := (by decide +kernel : ∀ k : Fin 13, wrap64 (wrap64 (2 ^ k.val) - 1) = 2 ^ k.val - 1) ⟨n, Nat.lt_succ_of_le hn⟩
  exact h

/-- Whether the looks of a set can be right. -/
def canB (h : Wd) (xs : List (Int × Int)) (ls : List LkV) (x : Int) : Bool := canW h (ls.map (travOf h xs)) ls (eyesN h) x (allS (eyesN h))
theorem butS_all {n : Nat} (hn : n ≤ 12) {al : Nat} (hal : (2 : Int) ^ n - 1 = (al : Int)) {q : Nat} (hq : q < 2 ^ n) : butS n (q : Int) = (al : Int) - q := by rw [butS_eq hn hq, hal]
structure CF (h : Wd) (xs : List (Int × Int)) (ls : List LkV) (y : Int) (W D o al : Nat) (g q1 q2 : Int) : Prop where
  hal : (2 : Int) ^ h.ln - 1 = (al : Int)
  sh : wrap64 (wrap64 (2 ^ h.ln) - 1) = (al : Int)
  w : replyI (clashA h xs ls) = .tuple #[.int .i64 W, .int .i64 0]
  d : replyI (dropA h xs ls) = .tuple #[.int .i64 D, .int .i64 0]
  hab : reply (habitR h xs ls 0) = .tuple #[.agg #[.int .i64 q1, .int .i64 q2], .int .i64 g]
  cs : (W = 0 ∧ D = 0 ∧ g = 0) ∨ (W ≠ 0 ∧ D ≠ 0 ∧ g = 10 ∧ canB h xs ls W = false)
  lt : (W < 2 ^ h.ln ∧ D < 2 ^ h.ln ∧ o < 2 ^ h.ln) ∧ 2 ^ h.ln ≤ 4096 ∧ al < 4096
  cd : canB h xs ls ((al : Int) - D) = true
  bd : bits .andNot .i64 (al : Int) (D : Int) = (al : Int) - D
  bo : bits .andNot .i64 (al : Int) (o : Int) = (al : Int) - o
  own : bits .and .i64 y (al : Int) = (o : Int)
  bit : ∀ i, i < h.ln → setI W i = true → ∃ z : Nat, bits .andNot .i64 (W : Int) (wrap64 (2 ^ i)) = (z : Int) ∧ z < 4096 ∧ canB h xs ls z = true
  mw : W ≠ 0 → canB h xs ls o = false → popc (W : Int) < popc (o : Int) ∨ (popc (W : Int) = popc (o : Int) ∧ W ≤ o)
  md : canB h xs ls ((al : Int) - o) = true → popc (D : Int) < popc (o : Int) ∨ (popc (D : Int) = popc (o : Int) ∧ D ≤ o)
theorem clash_facts {h : Wd} {xs : List (Int × Int)} {ls : List LkV} (hv : validW h xs ls = true) (hn : ls.length = h.ln) {y : Int} (hy : 0 ≤ y ∧ y ≤ 65535) : ∃ W D o al g q1 q2, CF h xs ls y W D o al g q1 q2 := by
  have V := validW_iff hv
  obtain ⟨E, hE⟩ : ∃ E : Nat, h.eyes = (E : Int) := ⟨h.eyes.toNat, by have := V.ey; omega⟩
  have k0 := wok_of hv hn hE
  have hEe : eyesN h = E := by unfold eyesN; rw [hE]; rfl
  have hEn : h.eyes.toNat = E := hEe
  have hE1 : 1 ≤ E := by have := V.ey; omega
  have hl12 : h.ln ≤ 12 := by rw [← hn]; exact k0.l12
  have hp := pow_12 hl12
  obtain ⟨al, hal⟩ : ∃ al : Nat, (2 : Int) ^ h.ln - 1 = (al : Int) := ⟨2 ^ h.ln - 1, by omega⟩
  obtain ⟨o, ho, ho1⟩ := own_rng hy hl12
  rw [hal] at ho
  have hcB : ∀ x, canB h xs ls x = canW h (ls.map (travOf h xs)) ls E x (allS E) := fun x => by unfold canB; rw [hEe]
  have hallS : allS ls.length = (al : Int) := by unfold allS; rw [hn]; exact hal
  have h0 : canB h xs ls ((0 : Nat) : Int) = true := by
    rw [hcB, can_iff k0]
    refine ⟨fun _ => 0, fun e he => ?_, fun k hk hs => ?_⟩
    · have := V.hb
      unfold habS
      split <;> simp <;> omega
    · rw [show ((0 : Nat) : Int) = 0 from rfl, setI_zero (by have := k0.l12; omega)] at hs; cases hs
  have hX : clashA h xs ls = .ok (clashR h xs ls) := by unfold clashA; rw [hv]; rfl
  have hD0 : dropA h xs ls = .ok (dropR h xs ls) := by unfold dropA; rw [hv]; rfl
  have hdb : ∀ q : Nat, q < 2 ^ h.ln → butS ls.length (q : Int) = (al : Int) - q := fun q hq => by rw [hn]; exact butS_all hl12 hal hq
  obtain ⟨D, hD, hD1, hD2, hDm⟩ := first_min (n := ls.length) k0.l12 (b := fun x => canW h (ls.map (travOf h xs)) ls (eyesN h) (butS ls.length x) (allS (eyesN h))) ⟨2 ^ ls.length - 1, by rw [hn]; omega, by
    have e1 : butS ls.length ((2 ^ ls.length - 1 : Nat) : Int) = ((0 : Nat) : Int) := by rw [hdb _ (by rw [hn]; omega), hn]; omega
    show canW _ _ _ _ (butS ls.length ((2 ^ ls.length - 1 : Nat) : Int)) _ = true
    rw [e1]; exact h0⟩
  rw [hn] at hD1
  have hcd : canB h xs ls ((al : Int) - D) = true := by rw [← hdb D hD1]; exact hD2
  have hDm' : ∀ q : Nat, q < 2 ^ h.ln → canB h xs ls ((al : Int) - q) = true → popc (D : Int) < popc (q : Int) ∨ (popc (D : Int) = popc (q : Int) ∧ D ≤ q) := fun q hq hc => hDm q (by rw [hn]; exact hq) (by show canW _ _ _ _ (butS ls.length (q : Int)) _ = true; rw [hdb q hq]; exact hc)
  have hoV : ovW h xs ls 0 = ovB h (ls.map (travOf h xs)) ls E (allS ls.length) (allS E) 0 := by unfold ovW; rw [hEn]
  have hH : habitR h xs ls 0 = askR (ovW h xs ls 0) 1 := by unfold habitR; rw [hv, img_iff.2 ⟨by omega, by omega⟩]; rfl
  have hDr : replyI (dropA h xs ls) = .tuple #[.int .i64 D, .int .i64 0] := by rw [hD0]; unfold dropR; rw [hD]; rfl
  have hp0 := popc_rng hl12 (y := 0) (by omega)
  cases hc : canB h xs ls (al : Int) with
  | true =>
    have hc' : canW h (ls.map (travOf h xs)) ls E (allS ls.length) (allS E) = true := by rw [hallS, ← hcB]; exact hc
    obtain ⟨b, hb⟩ : ∃ b, ovB h (ls.map (travOf h xs)) ls E (allS ls.length) (allS E) 0 = some b := by
      cases ho : ovB h (ls.map (travOf h xs)) ls E (allS ls.length) (allS E) 0 with
      | none => rw [(ov_none k0 (.inl rfl)).1 ho] at hc'; cases hc'
      | some b => exact ⟨b, rfl⟩
    obtain ⟨s, es, _⟩ := (ov_some k0 (.inl rfl) hb).2.1 1 (.inr (.inl ⟨0, by omega, rfl⟩))
    have hDz : D = 0 := by
      have := hDm' 0 (by omega) (by rw [show ((al : Int) - ((0 : Nat) : Int)) = (al : Int) by omega]; exact hc)
      have hr := popc_rng hl12 hD1
      have h4 : popc ((0 : Nat) : Int) = 0 := by decide
      omega
    refine ⟨0, D, o, al, 0, s.1, s.2, hal, cf_sh hl12 hal, ?_, hDr, ?_, .inl ⟨rfl, hDz, rfl⟩, ⟨⟨by omega, hD1, ho1⟩, by omega, by omega⟩, hcd, cf_bd hl12 hal hD1, cf_bd hl12 hal ho1, ho, fun i hi hs => ?_, fun h => absurd rfl h, hDm' o ho1⟩
    · rw [hX]; unfold clashR; rw [hEe, hc']; rfl
    · rw [hH, hoV, hb]; unfold askR; dsimp only; rw [es]; rfl
    · rw [show ((0 : Nat) : Int) = 0 from rfl, setI_zero (by omega)] at hs; cases hs
  | false =>
    have hc' : canW h (ls.map (travOf h xs)) ls E (allS ls.length) (allS E) = false := by rw [hallS, ← hcB]; exact hc
    obtain ⟨W, hW, hW1, hW2, hWm⟩ := first_min (n := ls.length) k0.l12 (b := fun x => !canW h (ls.map (travOf h xs)) ls (eyesN h) x (allS (eyesN h))) ⟨2 ^ ls.length - 1, by rw [hn]; omega, by
      have e1 : ((2 ^ ls.length - 1 : Nat) : Int) = (al : Int) := by rw [hn]; omega
      show (!canB h xs ls ((2 ^ ls.length - 1 : Nat) : Int)) = true
      rw [e1, hc]; rfl⟩
    rw [hn] at hW1
    have hcw : canB h xs ls (W : Int) = false := by
      have : (!canB h xs ls (W : Int)) = true := hW2
      simpa using this
    have hWm' : ∀ q : Nat, q < 2 ^ h.ln → canB h xs ls (q : Int) = false → popc (W : Int) < popc (q : Int) ∨ (popc (W : Int) = popc (q : Int) ∧ W ≤ q) := fun q hq hcq => hWm q (by rw [hn]; exact hq) (by show (!canB h xs ls (q : Int)) = true; rw [hcq]; rfl)
    have hW0 : W ≠ 0 := fun e => by rw [e, h0] at hcw; cases hcw
    have hDz : D ≠ 0 := fun e => by
      rw [e, show ((al : Int) - ((0 : Nat) : Int)) = (al : Int) by omega, hc] at hcd; cases hcd
    refine ⟨W, D, o, al, 10, 0, 0, hal, cf_sh hl12 hal, ?_, hDr, ?_, .inr ⟨hW0, hDz, rfl, hcw⟩, ⟨⟨hW1, hD1, ho1⟩, by omega, by omega⟩, hcd, cf_bd hl12 hal hD1, cf_bd hl12 hal ho1, ho, fun i hi hs => ?_, fun _ => hWm' o ho1, hDm' o ho1⟩
    · rw [hX]; unfold clashR; rw [hEe, hc', if_neg (by simp), ← hEe, hW]; rfl
    · rw [hH, hoV, (ov_none k0 (.inl rfl)).2 hc']; rfl
    · have hpw : wrap64 (2 ^ i) = ((2 ^ i : Nat) : Int) := (by decide +kernel : ∀ k : Fin 12, wrap64 (2 ^ k.val) = ((2 ^ k.val : Nat) : Int)) ⟨i, by omega⟩
      have hp2 : 2 ^ i < 4096 := Nat.lt_of_lt_of_le (Nat.pow_lt_pow_right (by decide) (show i < 12 by omega)) (by decide)
      obtain ⟨z, z1, z2, z3⟩ := andNot_nat (a := W) (b := 2 ^ i) (by omega) (by omega)
      refine ⟨z, by rw [hpw]; exact z1, by omega, ?_⟩
      cases hcz : canB h xs ls (z : Int)
      · exfalso
        rw [setI_has ⟨by omega, by omega⟩ (by omega), hasB_test] at hs
        have := popc_lt (x := W) (y := z) (by omega) (by omega) (fun k _ hk => by rw [z3] at hk; simp at hk; exact hk.1) (i := i) (by omega) hs (by rw [z3, Nat.testBit_two_pow]; simp)
        rcases hWm' z (by omega) hcz with h | ⟨h, _⟩ <;> omega
      · rfl
end Ey
end Go.Proofs.Ytcfjakifeihbpaa
