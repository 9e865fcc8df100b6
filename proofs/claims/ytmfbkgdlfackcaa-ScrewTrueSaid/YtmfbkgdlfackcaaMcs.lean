/- The reference: how many are in a set. Sets as bits. -/
import Derived.Test.YtmfbkgdlfackcaaMtr
import Derived.Test.YtmfbkgdlfackcaaMfs
import Derived.Test.YtmfbkgdlfackcaaRma
import Derived.IntWalk
namespace Go.Proofs.Ytmfbkgdlfackcaa
open Go.RowKit

/-- How many bits are set, of the lowest ones. -/
def sizeF : Nat → Int → Int
  | 0, _ => 0
  | k + 1, s => s % 2 + sizeF k (s / 2)
theorem sizeF_zero : ∀ k, sizeF k 0 = 0
  | 0 => rfl
  | k + 1 => by rw [sizeF]; simp [sizeF_zero k]
set_option maxRecDepth 100000 in
theorem sizeF_popc {s : Int} (h : 0 ≤ s ∧ s < 4096) : sizeF 12 s = popc s := by
  have := (by decide +kernel : ∀ k : Fin 4096, sizeF 12 k.val = popc k.val) ⟨s.toNat, by omega⟩
  have e : ((s.toNat : Nat) : Int) = s := by omega
  rw [← e]; exact this
theorem size_any (s : Int) (hs : 0 ≤ s ∧ s < 4096) (w : World) : Calls Try.prog 41 #[.int .i64 s] w (Ret (.int .i64 (popc s)) w) := by
  rw [← sizeF_popc hs]
  obtain ⟨R, hR0⟩ : ∃ R, R = sizeF 12 s := ⟨_, rfl⟩
  rw [← hR0]
  have hR : Hid (R = 0 + sizeF 12 s) := by show _ = _; omega
  clear hR0
  go_enter Try.func41, Try.ntmps41
  go_wp2_with fail
  go_loopw [0, 3] (fun t o wr => ∃ (j : Nat) (x n : Int), t = .int .i64 x ∧ o = .int .i64 n ∧ 0 ≤ x ∧ x ≤ 4095 ∧ x < 2 ^ j ∧ 0 ≤ n ∧ n ≤ 10000 - j ∧ j ≤ 12 ∧ Hid (R = n + sizeF j x) ∧ Below w.heap.size w wr) (fun t _ _ => (intOf t).toNat)
  case atStart => exact ⟨12, s, 0, rfl, rfl, by omega, by omega, by omega, by omega, by omega, by omega, hR, Below.refl _ _⟩
  case round =>
    obtain ⟨j, x, n, rfl, rfl, hx0, hx1, hxj, hn0, hn1, hj, hE, hB⟩ := hrel
    by_cases hlt : x > 0
    · obtain ⟨i, rfl⟩ : ∃ i, j = i + 1 := by
        cases j with
        | zero => simp at hxj; omega
        | succ i => exact ⟨i, rfl⟩
      have hpi : x / 2 < 2 ^ i := by
        have : (2 : Int) ^ (i + 1) = 2 * 2 ^ i := by rw [Int.pow_succ, Int.mul_comm]
        omega
      have hE2 : Hid (R = n + x % 2 + sizeF i (x / 2)) := by show _ = _; rw [hE.out, sizeF]; omega
      have hP := Lib.hid hpi
      clear hxj hpi hE
      go_wp2
      go_roundw
      case rel => exact ⟨i, x / 2, n + x % 2, by go_num, by go_num, by omega, by omega, hP.out, by omega, by omega, by omega, hE2, hB⟩
      case measure => simp [intOf]; omega
    · obtain rfl : x = 0 := by omega
      clear hxj
      go_wp2
      go_ret
      exact ⟨by rw [hE.out, sizeF_zero]; simp, hB⟩
end Go.Proofs.Ytmfbkgdlfackcaa

/- Sets of settings: what the reference picks is what the package picks. -/
namespace Go.Proofs.Ytmfbkgdlfackcaa
open Fw Go.RowKit

theorem i64_of_nat {m : Nat} (h : m < 1000000) : IntKind.i64.wrap (m : Int) = m := IntWalk.i64_in _ (by omega)
theorem and_pow (n k : Nat) : n &&& 2 ^ k = if n.testBit k then 2 ^ k else 0 := by
  apply Nat.eq_of_testBit_eq
  intro i
  rw [Nat.testBit_and, Nat.testBit_two_pow]
  by_cases h : k = i
  · subst h
    cases hb : n.testBit k
    · simp
    · simp
  · rw [decide_eq_false h, Bool.and_false]
    split
    · rw [Nat.testBit_two_pow, decide_eq_false h]
    · simp
theorem bv_nat {n : Nat} (h : n < 1000000) : (BitVec.ofInt IntKind.i64.bits (n : Int)).toNat = n := by
  rw [BitVec.toNat_ofInt]; show ((n : Int) % ((2 ^ 64 : Nat) : Int)).toNat = n; omega
theorem setI_has {x : Int} (hx : 0 ≤ x ∧ x < 4096) {k : Nat} (hk : k < 12) : setI x k = hasB x k := by
  obtain ⟨n, rfl⟩ : ∃ n : Nat, x = (n : Int) := ⟨x.toNat, by omega⟩
  have hp : wrap64 (2 ^ k) = ((2 ^ k : Nat) : Int) := (by decide +kernel : ∀ k : Fin 12, wrap64 (2 ^ k.val) = ((2 ^ k.val : Nat) : Int)) ⟨k, hk⟩
  have hp2 : 1 ≤ 2 ^ k ∧ 2 ^ k < 4096 := (by decide +kernel : ∀ k : Fin 12, 1 ≤ 2 ^ k.val ∧ 2 ^ k.val < 4096) ⟨k, hk⟩
  have h1 : setI (n : Int) k = (IntKind.i64.wrap (((if n.testBit k then 2 ^ k else 0) : Nat) : Int) != 0) := by
    unfold setI bits
    rw [hp]
    dsimp only
    rw [BitVec.toNat_and, bv_nat (by omega), bv_nat (by omega), and_pow]
  have h2 : hasB (n : Int) k = n.testBit k := by
    unfold hasB
    rw [Nat.testBit_eq_decide_div_mod_eq]
    have : (n : Int) / 2 ^ k % 2 = ((n / 2 ^ k % 2 : Nat) : Int) := by simp
    rw [this]
    by_cases h : n / 2 ^ k % 2 = 1
    · rw [h]; rfl
    · rw [decide_eq_false h]; simp; omega
  rw [h1, h2]
  cases n.testBit k
  · rw [if_neg (by simp), i64_of_nat (by omega)]; rfl
  · rw [if_pos rfl, i64_of_nat (by omega)]
    generalize 2 ^ k = q at *
    simp; omega
theorem butS_eq {n x : Nat} (hn : n ≤ 12) (hx : x < 2 ^ n) : butS n (x : Int) = 2 ^ n - 1 - (x : Int) := by
  have hp : (2 : Int) ^ n - 1 = ((2 ^ n - 1 : Nat) : Int) ∧ 2 ^ n ≤ 4096 := (by decide +kernel : ∀ n : Fin 13, (2 : Int) ^ n.val - 1 = ((2 ^ n.val - 1 : Nat) : Int) ∧ 2 ^ n.val ≤ 4096) ⟨n, by omega⟩
  unfold butS bits
  rw [hp.1]
  dsimp only
  have e : (BitVec.ofInt IntKind.i64.bits ((2 ^ n - 1 : Nat) : Int) &&& ~~~ BitVec.ofInt IntKind.i64.bits (x : Int)).toNat = 2 ^ n - (x + 1) := by
    rw [BitVec.toNat_and, BitVec.toNat_not, bv_nat (by omega), bv_nat (by omega)]
    apply Nat.eq_of_testBit_eq
    intro i
    have h64 : 2 ^ IntKind.i64.bits - 1 - x = 2 ^ 64 - (x + 1) := by show 2 ^ 64 - 1 - x = _; omega
    rw [Nat.testBit_and, Nat.testBit_two_pow_sub_one, h64, Nat.testBit_two_pow_sub_succ (by omega), Nat.testBit_two_pow_sub_succ hx]
    by_cases hi : i < n
    · rw [decide_eq_true hi, decide_eq_true (show i < 64 by omega)]; simp
    · rw [decide_eq_false hi]; simp
  rw [e, i64_of_nat (by omega)]
  omega
theorem tells_B {sLo sHi : Int} {ts : List Tell} (hl : ts.length ≤ 12) {set : Int} (hs : 0 ≤ set ∧ set < 4096) (x : Nat → Int) : Tells sLo sHi ts set ts.length x ↔ TellsB sLo sHi ts set x := by
  constructor
  · rintro ⟨a, b⟩; exact ⟨a, fun k hk hb => b k hk (by rw [setI_has hs (by omega)]; exact hb)⟩
  · rintro ⟨a, b⟩; exact ⟨a, fun k hk hb => b k hk (by rw [← setI_has hs (by omega)]; exact hb)⟩
def canB (h : Hd) (xs : List (Int × Int)) (ss : List Sett) (set : Int) : Bool := decide ((sumsS h xs ss set).1 ≤ (sumsS h xs ss set).2)
section
variable {h : Hd} {xs : List (Int × Int)} {ss : List Sett}
theorem canB_iff (hv : validH h xs ss = true) (set : Int) : canB h xs ss set = true ↔ ∃ x, TellsB h.sLo h.sHi (tellsOf xs h.eLo h.eHi ss) set x := by
  obtain ⟨a, b, c, d, e, f, g⟩ := valid_has hv
  unfold canB
  rw [decide_eq_true_eq]
  constructor
  · intro hs
    have := sums_yes (ts := tellsOf xs h.eLo h.eHi ss) (set := set) (sLo := h.sLo) (sHi := h.sHi) (fair_of hv) (tells_img hv) (by omega) (Int.not_lt.2 hs)
    obtain ⟨x, hx, _⟩ := this.2.1
    exact ⟨x, hx⟩
  · intro hx
    by_cases hs : (sumsS h xs ss set).1 ≤ (sumsS h xs ss set).2
    · exact hs
    · exact absurd hx (sums_no (ts := tellsOf xs h.eLo h.eHi ss) (set := set) (sLo := h.sLo) (sHi := h.sHi) (fair_of hv) (tells_img hv) (by omega) (Int.not_le.1 hs))
theorem bounds_iff (hv : validH h xs ss = true) (set : Int) : (boundsS h.sLo h.sHi (tellsOf xs h.eLo h.eHi ss) set).1 = true ↔ ∃ x, Tells h.sLo h.sHi (tellsOf xs h.eLo h.eHi ss) set (tellsOf xs h.eLo h.eHi ss).length x := by
  obtain ⟨a, b, c, d, e, f, g⟩ := valid_has hv
  constructor
  · intro hb
    obtain ⟨sh, sol, ext, ⟨g0, g1⟩, fk⟩ := bounds_yes (B := 131072) ⟨by omega, by decide⟩ (by omega) (fair_of hv) _ hb
    obtain ⟨x, hx, _⟩ := sh.reach (i := 0) (j := 0) (by omega) (by omega) (by rw [sh.zero 0 (by omega)]; decide)
    exact ⟨x, (sol x).1 hx⟩
  · intro hx
    cases hb : (boundsS h.sLo h.sHi (tellsOf xs h.eLo h.eHi ss) set).1
    · exact absurd hx (bounds_no (B := 131072) ⟨by omega, by decide⟩ (by omega) (fair_of hv) _ hb)
    · rfl
theorem can_same (hv : validH h xs ss = true) {set : Int} (hs : 0 ≤ set ∧ set < 4096) : (boundsS h.sLo h.sHi (tellsOf xs h.eLo h.eHi ss) set).1 = canB h xs ss set := by
  have hl : (tellsOf xs h.eLo h.eHi ss).length ≤ 12 := (tells_ok hv).1
  have h1 : (∃ x, Tells h.sLo h.sHi (tellsOf xs h.eLo h.eHi ss) set (tellsOf xs h.eLo h.eHi ss).length x) ↔ ∃ x, TellsB h.sLo h.sHi (tellsOf xs h.eLo h.eHi ss) set x :=
    ⟨fun ⟨x, hx⟩ => ⟨x, (tells_B hl hs x).1 hx⟩, fun ⟨x, hx⟩ => ⟨x, (tells_B hl hs x).2 hx⟩⟩
  have h2 := (bounds_iff hv set).trans (h1.trans (canB_iff hv set).symm)
  cases hb : (boundsS h.sLo h.sHi (tellsOf xs h.eLo h.eHi ss) set).1
  · cases hc : canB h xs ss set
    · rfl
    · rw [h2.2 hc] at hb; cases hb
  · exact (h2.1 hb).symm
theorem hasB_zero (k : Nat) : hasB 0 k = false := by unfold hasB; simp
theorem can_empty (hv : validH h xs ss = true) : canB h xs ss 0 = true := by
  obtain ⟨a, b, c, d, e, f, g⟩ := valid_has hv
  exact (canB_iff hv 0).2 ⟨mk h.sLo fun _ => 0, ⟨by rw [mk_sum, mk_zero]; omega, fun k _ hb => by rw [hasB_zero] at hb; cases hb⟩⟩
theorem can_sub (hv : validH h xs ss = true) (hc : canB h xs ss (allS ss) = true) (set : Int) : canB h xs ss set = true := by
  obtain ⟨a, b, c, d, e, f, g⟩ := valid_has hv
  obtain ⟨x, hx1, hx2⟩ := (canB_iff hv _).1 hc
  exact (canB_iff hv _).2 ⟨x, hx1, fun k hk _ => hx2 k hk (hasB_all f (by rw [len_tells] at hk; exact hk))⟩
theorem truths_can (hv : validH h xs ss = true) : (truthsS h xs ss).1 = canB h xs ss (allS ss) := by
  have := can_same hv (set := allS ss) (by
    obtain ⟨a, b, c, d, e, f, g⟩ := valid_has hv
    have : ∀ k : Fin 13, (0 : Int) ≤ 2 ^ k.val - 1 ∧ (2 : Int) ^ k.val - 1 < 4096 := by decide
    exact this ⟨ss.length, by omega⟩)
  rw [← this]
  unfold truthsS allS
  rw [len_tells]
end
/-! The least set, of the smallest ones. -/
theorem row_mem {s : Nat} : ∀ {k : Nat} {y : Int}, y ∈ setsRow s k → ∃ j : Nat, y = j ∧ j < k ∧ popc y = s
  | 0, y, h => by rw [setsRow] at h; cases h
  | k + 1, y, h => by
    rw [setsRow] at h
    split at h
    · rename_i hp
      rcases List.mem_append.1 h with h | h
      · obtain ⟨j, a, b, c⟩ := row_mem h; exact ⟨j, a, by omega, c⟩
      · obtain rfl : y = (k : Int) := by simpa using h
        exact ⟨k, rfl, by omega, by simpa using hp⟩
    · obtain ⟨j, a, b, c⟩ := row_mem h; exact ⟨j, a, by omega, c⟩
theorem to_mem {n : Nat} : ∀ {s : Nat} {y : Int}, y ∈ setsTo n s → ∃ j : Nat, y = j ∧ j < 2 ^ n ∧ popc y < s
  | 0, y, h => by rw [setsTo] at h; cases h
  | s + 1, y, h => by
    rw [setsTo] at h
    rcases List.mem_append.1 h with h | h
    · obtain ⟨j, a, b, c⟩ := to_mem h; exact ⟨j, a, b, by omega⟩
    · obtain ⟨j, a, b, c⟩ := row_mem h; exact ⟨j, a, b, by omega⟩
theorem pow_12 {n : Nat} (hn : n ≤ 12) : 1 ≤ 2 ^ n ∧ 2 ^ n ≤ 4096 ∧ (2 : Int) ^ n = ((2 ^ n : Nat) : Int) := (by decide +kernel : ∀ k : Fin 13, 1 ≤ 2 ^ k.val ∧ 2 ^ k.val ≤ 4096 ∧ (2 : Int) ^ k.val = ((2 ^ k.val : Nat) : Int)) ⟨n, by omega⟩
theorem sizeF_rng : ∀ (n k y : Nat), n ≤ k → y < 2 ^ n → (0 ≤ sizeF k (y : Int) ∧ sizeF k (y : Int) ≤ n) ∧ (sizeF k (y : Int) = n → y + 1 = 2 ^ n)
  | 0, k, y, _, hy => by
    obtain rfl : y = 0 := by simpa using hy
    rw [show ((0 : Nat) : Int) = 0 from rfl, sizeF_zero]; simp
  | n + 1, 0, y, h, _ => by omega
  | n + 1, k + 1, y, h, hy => by
    have hp : 2 ^ (n + 1) = 2 * 2 ^ n := by rw [Nat.pow_succ, Nat.mul_comm]
    have ih := sizeF_rng n k (y / 2) (by omega) (by omega)
    rw [sizeF]
    have e : (y : Int) / 2 = ((y / 2 : Nat) : Int) := by omega
    rw [e]
    generalize sizeF k ((y / 2 : Nat) : Int) = z at *
    obtain ⟨⟨a, b⟩, c⟩ := ih
    refine ⟨by omega, fun hz => ?_⟩
    have := c (by omega)
    omega
theorem popc_rng {n y : Nat} (hn : n ≤ 12) (hy : y < 2 ^ n) : (0 ≤ popc (y : Int) ∧ popc (y : Int) ≤ n) ∧ (popc (y : Int) = n → y + 1 = 2 ^ n) := by
  have := sizeF_rng n 12 y hn hy
  rw [sizeF_popc (by have := pow_12 hn; omega)] at this
  exact this
theorem popc_all {n : Nat} (hn : n ≤ 12) : popc (((2 ^ n - 1 : Nat)) : Int) = n := (by decide +kernel : ∀ n : Fin 13, popc (((2 ^ n.val - 1 : Nat)) : Int) = n.val) ⟨n, by omega⟩
theorem firstOf_best {n : Nat} (hn : n ≤ 12) {b : Int → Bool} {x : Nat} (hx : x < 2 ^ n) (hb : b x = true)
    (hmin : ∀ y : Nat, y < 2 ^ n → b y = true → popc (x : Int) < popc (y : Int) ∨ (popc (x : Int) = popc (y : Int) ∧ x ≤ y)) : firstOf n b = x := by
  obtain ⟨⟨p0, p1⟩, _⟩ := popc_rng hn hx
  obtain ⟨s, hs⟩ : ∃ s : Nat, popc (x : Int) = (s : Int) := ⟨(popc (x : Int)).toNat, by omega⟩
  refine firstOf_some (sets_at n s x (by omega) hx (by rw [hs]; simp)) (fun y hy => ?_) hb
  cases hby : b y
  · rfl
  · exfalso
    rcases List.mem_append.1 hy with hy | hy
    · obtain ⟨j, rfl, h1, h2⟩ := to_mem hy
      rcases hmin j h1 hby with h | ⟨h, _⟩ <;> omega
    · obtain ⟨j, rfl, h1, h2⟩ := row_mem hy
      rcases hmin j (by omega) hby with h | ⟨h, h3⟩ <;> omega
/-- The best of the first sets that clash. -/
def bestC (c : Int → Bool) : Nat → Int
  | 0 => 0
  | k + 1 => if ((bestC c k == 0) || decide (popc ((k + 1 : Nat) : Int) < popc (bestC c k))) && !(c ((k + 1 : Nat) : Int)) then ((k + 1 : Nat) : Int) else bestC c k
theorem bestC_spec (c : Int → Bool) : ∀ k : Nat, (bestC c k = 0 ∧ ∀ y : Nat, 1 ≤ y → y ≤ k → c y = true) ∨
    ∃ b : Nat, bestC c k = b ∧ 1 ≤ b ∧ b ≤ k ∧ c b = false ∧ ∀ y : Nat, 1 ≤ y → y ≤ k → c y = false → popc (b : Int) < popc (y : Int) ∨ (popc (b : Int) = popc (y : Int) ∧ b ≤ y)
  | 0 => .inl ⟨rfl, fun y h1 h2 => by omega⟩
  | k + 1 => by
    rw [bestC]
    cases hc : c ((k + 1 : Nat) : Int)
    · rcases bestC_spec c k with ⟨h1, h2⟩ | ⟨b, h1, h2, h3, h4, h5⟩
      · rw [h1, if_pos (by simp)]
        refine .inr ⟨k + 1, rfl, by omega, by omega, hc, fun y a1 a2 a3 => ?_⟩
        by_cases hy : y = k + 1
        · subst hy; exact .inr ⟨rfl, Nat.le_refl _⟩
        · have := h2 y a1 (by omega); rw [this] at a3; cases a3
      · rw [h1]
        by_cases hlt : popc ((k + 1 : Nat) : Int) < popc (b : Int)
        · rw [if_pos (by rw [decide_eq_true hlt]; simp)]
          refine .inr ⟨k + 1, rfl, by omega, by omega, hc, fun y a1 a2 a3 => ?_⟩
          by_cases hy : y = k + 1
          · subst hy; exact .inr ⟨rfl, Nat.le_refl _⟩
          · rcases h5 y a1 (by omega) a3 with h | ⟨h, _⟩ <;> exact .inl (by omega)
        · rw [if_neg (by have hb0 : ((b : Int) == 0) = false := by simp; omega
                         rw [hb0, decide_eq_false hlt]; simp)]
          refine .inr ⟨b, rfl, h2, by omega, h4, fun y a1 a2 a3 => ?_⟩
          by_cases hy : y = k + 1
          · subst hy; by_cases he : popc (b : Int) < popc ((k + 1 : Nat) : Int)
            · exact .inl he
            · exact .inr ⟨by omega, by omega⟩
          · exact h5 y a1 (by omega) a3
    · rw [if_neg (by simp)]
      rcases bestC_spec c k with ⟨h1, h2⟩ | ⟨b, h1, h2, h3, h4, h5⟩
      · refine .inl ⟨h1, fun y a1 a2 => ?_⟩
        by_cases hy : y = k + 1
        · subst hy; exact hc
        · exact h2 y a1 (by omega)
      · refine .inr ⟨b, h1, h2, by omega, h4, fun y a1 a2 a3 => ?_⟩
        by_cases hy : y = k + 1
        · subst hy; rw [hc] at a3; cases a3
        · exact h5 y a1 (by omega) a3
/-- The best of the first sets without which the others can be right. -/
def bestD (c : Int → Bool) (n : Nat) : Nat → Int
  | 0 => 2 ^ n - 1
  | k + 1 => if decide (popc (k : Int) < popc (bestD c n k)) && c (2 ^ n - 1 - (k : Int)) then (k : Int) else bestD c n k
theorem bestD_spec (c : Int → Bool) (n : Nat) (hn : n ≤ 12) (h0 : c 0 = true) : ∀ k : Nat, k ≤ 2 ^ n →
    ∃ b : Nat, bestD c n k = b ∧ b < 2 ^ n ∧ c (2 ^ n - 1 - (b : Int)) = true ∧ (b + 1 = 2 ^ n ∨ b < k) ∧ ∀ y : Nat, y < k → c (2 ^ n - 1 - (y : Int)) = true → popc (b : Int) < popc (y : Int) ∨ (popc (b : Int) = popc (y : Int) ∧ b ≤ y)
  | 0, _ => by
    obtain ⟨p1, p2, p3⟩ := pow_12 hn
    refine ⟨2 ^ n - 1, by rw [bestD]; omega, by omega, ?_, .inl (by omega), fun y hy => by omega⟩
    have : (2 : Int) ^ n - 1 - ((2 ^ n - 1 : Nat) : Int) = 0 := by omega
    rw [this]; exact h0
  | k + 1, hk => by
    obtain ⟨p1, p2, p3⟩ := pow_12 hn
    obtain ⟨b, h1, h2, h3, h4, h5⟩ := bestD_spec c n hn h0 k (by omega)
    rw [bestD, h1]
    by_cases hc : popc (k : Int) < popc (b : Int) ∧ c (2 ^ n - 1 - (k : Int)) = true
    · rw [if_pos (by simp [hc.1, hc.2])]
      refine ⟨k, rfl, by omega, hc.2, .inr (by omega), fun y a1 a2 => ?_⟩
      by_cases hy : y = k
      · subst hy; exact .inr ⟨rfl, Nat.le_refl _⟩
      · rcases h5 y (by omega) a2 with h | ⟨h, _⟩ <;> exact .inl (by omega)
    · rw [if_neg (by simpa using hc)]
      refine ⟨b, rfl, h2, h3, by omega, fun y a1 a2 => ?_⟩
      by_cases hy : y = k
      · subst hy
        have hnl : ¬ popc (y : Int) < popc (b : Int) := fun h => hc ⟨h, a2⟩
        by_cases he : popc (b : Int) < popc (y : Int)
        · exact .inl he
        · refine .inr ⟨by omega, ?_⟩
          rcases h4 with h4 | h4
          · have hb : popc (b : Int) = n := by
              have : b = 2 ^ n - 1 := by omega
              rw [this]; exact popc_all hn
            have := (popc_rng hn (show y < 2 ^ n by omega)).2 (by omega)
            omega
          · omega
      · exact h5 y (by omega) a2
section
variable {h : Hd} {xs : List (Int × Int)} {ss : List Sett}
theorem clash_eq (hv : validH h xs ss = true) : bestC (canB h xs ss) (2 ^ ss.length - 1) = clashR h xs ss := by
  obtain ⟨a, b, c, d, e, f, g⟩ := valid_has hv
  obtain ⟨p1, p2, p3⟩ := pow_12 f
  have hall : allS ss = ((2 ^ ss.length - 1 : Nat) : Int) := by unfold allS; omega
  unfold clashR
  rw [truths_can hv]
  cases hc : canB h xs ss (allS ss)
  · rw [if_neg (by simp)]
    rcases bestC_spec (canB h xs ss) (2 ^ ss.length - 1) with ⟨h1, h2⟩ | ⟨q, h1, h2, h3, h4, h5⟩
    · exfalso
      by_cases h0 : 2 ^ ss.length - 1 = 0
      · rw [hall, h0] at hc
        have := can_empty hv
        rw [show ((0 : Nat) : Int) = 0 from rfl] at hc
        rw [this] at hc; cases hc
      · have := h2 _ (by omega) (Nat.le_refl _)
        rw [← hall, hc] at this; cases this
    · rw [h1]
      refine (firstOf_best f (by omega) ?_ (fun y hy hb => ?_)).symm
      · rw [can_same hv (by omega), h4]; rfl
      · rw [can_same hv (by omega)] at hb
        have hb' : canB h xs ss (y : Int) = false := by simpa using hb
        by_cases hy0 : y = 0
        · subst hy0
          have := can_empty hv
          rw [show ((0 : Nat) : Int) = 0 from rfl] at hb'
          rw [this] at hb'; cases hb'
        · exact h5 y (by omega) (by omega) hb'
  · rw [if_pos rfl]
    rcases bestC_spec (canB h xs ss) (2 ^ ss.length - 1) with ⟨h1, _⟩ | ⟨q, h1, h2, h3, h4, h5⟩
    · exact h1
    · have := can_sub hv hc q
      rw [h4] at this; cases this
theorem drop_eq (hv : validH h xs ss = true) : bestD (canB h xs ss) ss.length (2 ^ ss.length) = dropR h xs ss := by
  obtain ⟨a, b, c, d, e, f, g⟩ := valid_has hv
  obtain ⟨p1, p2, p3⟩ := pow_12 f
  unfold dropR
  obtain ⟨q, h1, h2, h3, h4, h5⟩ := bestD_spec (canB h xs ss) ss.length f (can_empty hv) (2 ^ ss.length) (Nat.le_refl _)
  rw [h1]
  refine (firstOf_best f h2 ?_ (fun y hy hb => ?_)).symm
  · rw [butS_eq f h2, can_same hv (by omega)]; exact h3
  · rw [butS_eq f hy, can_same hv (by omega)] at hb; exact h5 y hy hb
theorem bestC_rng (c : Int → Bool) (k : Nat) : 0 ≤ bestC c k ∧ bestC c k ≤ k := by
  rcases bestC_spec c k with ⟨h1, _⟩ | ⟨q, h1, h2, h3, h4, h5⟩ <;> omega
theorem bestD_rng (c : Int → Bool) {n : Nat} (hn : n ≤ 12) : ∀ k : Nat, k ≤ 2 ^ n → 0 ≤ bestD c n k ∧ bestD c n k < 2 ^ n
  | 0, _ => by obtain ⟨p1, p2, p3⟩ := pow_12 hn; rw [bestD]; omega
  | k + 1, hk => by
    obtain ⟨p1, p2, p3⟩ := pow_12 hn
    have := bestD_rng c hn k (by omega)
    rw [bestD]; split <;> omega
end
end Go.Proofs.Ytmfbkgdlfackcaa
