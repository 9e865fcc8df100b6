/- Plate: PlateMore's walk. -/
import Derived.Test.YtdkegkacpdkjgaaPcl
import Derived.Test.YtdkegkacpdkjgaaPbt
import Derived.Test.YtdkegkacpdkjgaaPrk
import Derived.Test.YtdkegkacpdkjgaaPfw
import Derived.Test.YtdkegkacpdkjgaaPpp
import Derived.Test.YtdkegkacpdkjgaaPas
import Derived.Test.YtdkegkacpdkjgaaTr
import Derived.Test.YtdkegkacpdkjgaaPpa
import Derived.Test.YtdkegkacpdkjgaaPsr
import Derived.Test.YtdkegkacpdkjgaaPrp
import Derived.Deep.CutBlock
namespace Go.Proofs.Ytdkegkacpdkjgaa
open Go.RowKit Go.Maps

/-- What is kept is what some truths have, and bounds what any has. -/
structure KepOf (f : Scl → Int × Int) (xs : List Scl) (k : Int × Int × Bool) : Prop where
  no : k.2.2 = false → k = (0, 0, false)
  lo : k.2.2 = true → ∃ x ∈ xs, (f x).1 ≤ (f x).2 ∧ k.1 = (f x).1
  hi : k.2.2 = true → ∃ x ∈ xs, (f x).1 ≤ (f x).2 ∧ k.2.1 = (f x).2
  all : ∀ x ∈ xs, (f x).1 ≤ (f x).2 → k.2.2 = true ∧ k.1 ≤ (f x).1 ∧ (f x).2 ≤ k.2.1
theorem kepS_of {f : Scl → Int × Int} {xs : List Scl} {k : Int × Int × Bool} (h : KepOf f xs k) (x : Scl) : KepOf f (xs ++ [x]) (kepS k (f x).1 (f x).2) := by
  obtain ⟨a, b, t⟩ := k
  obtain ⟨h1, h2, h3, h4⟩ := h
  have hm : ∀ y, y ∈ xs ++ [x] ↔ y ∈ xs ∨ y = x := fun y => by simp
  unfold kepS
  by_cases hx : (f x).1 ≤ (f x).2
  · rw [if_pos hx]
    cases t
    · rw [if_neg (by simp)]
      have hno : ∀ y ∈ xs, ¬ (f y).1 ≤ (f y).2 := fun y hy hle => by cases (h4 y hy hle).1
      refine ⟨fun h => (by cases h), fun _ => ⟨x, (hm x).2 (.inr rfl), hx, rfl⟩, fun _ => ⟨x, (hm x).2 (.inr rfl), hx, rfl⟩, fun y hy hle => ?_⟩
      rcases (hm y).1 hy with h | rfl
      · exact absurd hle (hno y h)
      · exact ⟨rfl, Int.le_refl _, Int.le_refl _⟩
    · rw [if_pos rfl]
      dsimp only at h2 h3 h4 ⊢
      obtain ⟨y, hy, hyl, rfl⟩ := h2 rfl
      obtain ⟨z, hz, hzl, rfl⟩ := h3 rfl
      refine ⟨fun h => (by cases h), fun _ => ?_, fun _ => ?_, fun u hu hle => ?_⟩
      · rcases Int.le_total (f y).1 (f x).1 with h | h
        · exact ⟨y, (hm y).2 (.inl hy), hyl, by dsimp only; omega⟩
        · exact ⟨x, (hm x).2 (.inr rfl), hx, by dsimp only; omega⟩
      · rcases Int.le_total (f x).2 (f z).2 with h | h
        · exact ⟨z, (hm z).2 (.inl hz), hzl, by dsimp only; omega⟩
        · exact ⟨x, (hm x).2 (.inr rfl), hx, by dsimp only; omega⟩
      · rcases (hm u).1 hu with h | rfl
        · have := (h4 u h hle).2
          exact ⟨rfl, by dsimp only; omega, by dsimp only; omega⟩
        · exact ⟨rfl, by dsimp only; omega, by dsimp only; omega⟩
  · rw [if_neg hx]
    refine ⟨h1, fun h => ?_, fun h => ?_, fun y hy hle => ?_⟩
    · obtain ⟨y, hy, hyl, e⟩ := h2 h; exact ⟨y, (hm y).2 (.inl hy), hyl, e⟩
    · obtain ⟨y, hy, hyl, e⟩ := h3 h; exact ⟨y, (hm y).2 (.inl hy), hyl, e⟩
    · rcases (hm y).1 hy with h | rfl
      · exact h4 y h hle
      · exact absurd hle hx
theorem kepL_of (f : Scl → Int × Int) (xs : List Scl) : KepOf f xs (kepL f xs) := by
  have : ∀ (xs ys : List Scl) (k : Int × Int × Bool), KepOf f ys k → KepOf f (ys ++ xs) (xs.foldl (fun k x => kepS k (f x).1 (f x).2) k) := fun xs => by
    induction xs with
    | nil => intro ys k h; simpa using h
    | cons x xs ih =>
      intro ys k h
      have := ih (ys ++ [x]) _ (kepS_of h x)
      simpa using this
  have h := this xs [] (0, 0, false) ⟨fun _ => rfl, fun h => (by cases h), fun h => (by cases h), fun x hx => (by cases hx)⟩
  rw [List.nil_append] at h
  exact h
/-- What more truths have is no narrower. -/
theorem kep_in {f g : Scl → Int × Int} {xs ys : List Scl} (h : ∀ x ∈ xs, (f x).1 ≤ (f x).2 → ∃ y ∈ ys, (g y).1 ≤ (f x).1 ∧ (f x).2 ≤ (g y).2) (hk : (kepL f xs).2.2 = true) :
    (kepL g ys).2.2 = true ∧ (kepL g ys).1 ≤ (kepL f xs).1 ∧ (kepL f xs).2.1 ≤ (kepL g ys).2.1 := by
  obtain ⟨x, hx, hxl, e1⟩ := (kepL_of f xs).lo hk
  obtain ⟨z, hz, hzl, e2⟩ := (kepL_of f xs).hi hk
  obtain ⟨u, hu, hu1, hu2⟩ := h x hx hxl
  obtain ⟨v, hv, hv1, hv2⟩ := h z hz hzl
  have a := (kepL_of g ys).all u hu (by omega)
  have b := (kepL_of g ys).all v hv (by omega)
  exact ⟨a.1, by omega, by omega⟩
theorem kep_no {f : Scl → Int × Int} {xs : List Scl} (h : ∀ x ∈ xs, ¬ (f x).1 ≤ (f x).2) : kepL f xs = (0, 0, false) := by
  have k := kepL_of f xs
  cases ht : (kepL f xs).2.2
  · exact k.no ht
  · obtain ⟨x, hx, hxl, _⟩ := k.lo ht
    exact absurd hxl (h x hx)
/-- What is farther on by as much is kept so. -/
theorem kep_shift {c : Int} {f g : Scl → Int × Int} {xs ys : List Scl} (h1 : ∀ x ∈ xs, (f x).1 ≤ (f x).2 → ∃ y ∈ ys, (g y).1 = (f x).1 + c ∧ (g y).2 = (f x).2 + c)
    (h2 : ∀ y ∈ ys, (g y).1 ≤ (g y).2 → ∃ x ∈ xs, (g y).1 = (f x).1 + c ∧ (g y).2 = (f x).2 + c) :
    kepL g ys = if (kepL f xs).2.2 then ((kepL f xs).1 + c, (kepL f xs).2.1 + c, true) else (0, 0, false) := by
  have kf := kepL_of f xs
  have kg := kepL_of g ys
  cases ht : (kepL f xs).2.2
  · rw [if_neg (by simp)]
    refine kep_no fun y hy hyl => ?_
    obtain ⟨x, hx, e1, e2⟩ := h2 y hy hyl
    have := (kf.all x hx (by omega)).1
    rw [ht] at this; cases this
  · rw [if_pos rfl]
    obtain ⟨x, hx, hxl, e1⟩ := kf.lo ht
    obtain ⟨z, hz, hzl, e2⟩ := kf.hi ht
    obtain ⟨u, hu, u1, u2⟩ := h1 x hx hxl
    obtain ⟨v, hv, v1, v2⟩ := h1 z hz hzl
    have a := kg.all u hu (by omega)
    have b := kg.all v hv (by omega)
    obtain ⟨p, hp, hpl, q1⟩ := kg.lo a.1
    obtain ⟨q, hq, hql, q2⟩ := kg.hi a.1
    obtain ⟨p', hp', r1, r2⟩ := h2 p hp hpl
    obtain ⟨q', hq', r3, r4⟩ := h2 q hq hql
    have c1 := kf.all p' hp' (by omega)
    have c2 := kf.all q' hq' (by omega)
    have e : ∀ k : Int × Int × Bool, k.1 = (kepL f xs).1 + c → k.2.1 = (kepL f xs).2.1 + c → k.2.2 = true → k = ((kepL f xs).1 + c, (kepL f xs).2.1 + c, true) := fun k h1 h2 h3 => by
      obtain ⟨k1, k2, k3⟩ := k
      dsimp only at h1 h2 h3
      rw [h1, h2, h3]
    exact e _ (by omega) (by omega) a.1
theorem kep_same {f g : Scl → Int × Int} {xs ys : List Scl} (h1 : ∀ x ∈ xs, (f x).1 ≤ (f x).2 → ∃ y ∈ ys, g y = f x) (h2 : ∀ y ∈ ys, (g y).1 ≤ (g y).2 → ∃ x ∈ xs, g y = f x) : kepL g ys = kepL f xs := by
  rw [kep_shift (c := 0) (f := f) (g := g) (xs := xs) (ys := ys) (fun x hx hl => by obtain ⟨y, hy, e⟩ := h1 x hx hl; exact ⟨y, hy, by rw [e]; omega, by rw [e]; omega⟩)
    (fun y hy hl => by obtain ⟨x, hx, e⟩ := h2 y hy hl; exact ⟨x, hx, by rw [e]; omega, by rw [e]; omega⟩)]
  have k := kepL_of f xs
  cases ht : (kepL f xs).2.2
  · rw [if_neg (by simp), k.no ht]
  · rw [if_pos rfl, Int.add_zero, Int.add_zero]
    have e : ∀ k : Int × Int × Bool, k.2.2 = true → (k.1, k.2.1, true) = k := fun k h => by obtain ⟨a, b, c⟩ := k; dsimp only at h; rw [h]
    exact e _ ht

/-- Where the corner can be: what all stars of a set allow. -/
theorem cor_iff {ss : List St} {sc : Int} {R : Nat → Bool} {d : Bool} {c : Int} : ∀ {k : Nat}, ((corS ss sc R d k).1 ≤ c ∧ c ≤ (corS ss sc R d k).2) ↔
    ((-67108864 ≤ c ∧ c ≤ 67108864) ∧ ∀ i, i < k → R i = true → (cbS sc (ss.getD i default) d).1 ≤ c ∧ c ≤ (cbS sc (ss.getD i default) d).2)
  | 0 => by unfold corS; exact ⟨fun h => ⟨h, fun i hi => by omega⟩, fun h => h.1⟩
  | k + 1 => by
    have ih := cor_iff (ss := ss) (sc := sc) (R := R) (d := d) (c := c) (k := k)
    rw [corS]
    split
    · rename_i hR
      dsimp only
      constructor
      · intro h
        have h0 := ih.1 ⟨by omega, by omega⟩
        refine ⟨h0.1, fun i hi hr => ?_⟩
        by_cases he : i = k
        · subst he; omega
        · exact h0.2 i (by omega) hr
      · intro h
        have h0 := ih.2 ⟨h.1, fun i hi => h.2 i (by omega)⟩
        have h1 := h.2 k (by omega) hR
        omega
    · rename_i hR
      rw [ih]
      constructor
      · intro h
        refine ⟨h.1, fun i hi hr => ?_⟩
        by_cases he : i = k
        · subst he; exact absurd hr hR
        · exact h.2 i (by omega) hr
      · exact fun h => ⟨h.1, fun i hi => h.2 i (by omega)⟩
/-- A scale is one of a plate if there is a corner with it. -/
def CornC (ss : List St) (sc : Int) (R : Nat → Bool) (n : Nat) (d : Bool) (c : Int) : Prop :=
  (-67108864 ≤ c ∧ c ≤ 67108864) ∧ ∀ i, i < n → R i = true → (cbS sc (ss.getD i default) d).1 ≤ c ∧ c ≤ (cbS sc (ss.getD i default) d).2
theorem corB_iff {ss : List St} {sc : Int} {R : Nat → Bool} {n : Nat} : corB ss sc R n = true ↔ ∀ d, ∃ c, CornC ss sc R n d c := by
  have h : ∀ d, (corS ss sc R d n).1 ≤ (corS ss sc R d n).2 ↔ ∃ c, CornC ss sc R n d c := fun d =>
    ⟨fun h => ⟨_, cor_iff.1 ⟨Int.le_refl _, h⟩⟩, fun ⟨c, hc⟩ => by have := cor_iff.2 hc; omega⟩
  unfold corB
  rw [Bool.and_eq_true, decide_eq_true_eq, decide_eq_true_eq, h, h]
  exact ⟨fun h d => match d with | false => h.1 | true => h.2, fun h => ⟨h false, h true⟩⟩
theorem trTo_has {ss : List St} {R : Nat → Bool} {n : Nat} {lo sc : Int} (hs : 0 ≤ sc ∧ sc ≤ 1000) (hb : corB ss sc R n = true) (h0 : lo ≤ sc) : ∀ {k : Nat}, sc < lo + k → ∃ x ∈ trTo ss R n lo k, x.sc = sc ∧ ∀ d, (x.lo d, x.hi d) = corS ss sc R d n
  | 0, h => by omega
  | k + 1, h => by
    rw [trTo]
    by_cases he : sc = lo + k
    · subst he
      rw [trOf_yes hs hb]
      exact ⟨_, List.mem_append_right _ (List.mem_singleton.2 rfl), rfl, fun d => by cases d <;> rfl⟩
    · obtain ⟨x, hx, e⟩ := trTo_has hs hb h0 (k := k) (by omega)
      exact ⟨x, List.mem_append_left _ hx, e⟩
theorem trL_iff {p : Pl} {ss : List St} (hlo : 1 ≤ p.lo) (hhi : p.hi ≤ 1000) {set : Int} {sc : Int} : (∃ x ∈ trL p ss set, x.sc = sc) ↔ (p.lo ≤ sc ∧ sc ≤ p.hi) ∧ corB ss sc (setI set) p.n = true := by
  constructor
  · rintro ⟨x, hx, rfl⟩
    obtain ⟨h1, h2, h3, _⟩ := trTo_mem hx
    exact ⟨⟨h1, by omega⟩, h3⟩
  · rintro ⟨⟨h1, h2⟩, h3⟩
    obtain ⟨x, hx, e, _⟩ := trTo_has (lo := p.lo) (k := (p.hi - p.lo + 1).toNat) (by omega) h3 h1 (by omega)
    exact ⟨x, hx, e⟩
theorem trL_of {p : Pl} {ss : List St} {set : Int} {x : Scl} (hx : x ∈ trL p ss set) : (p.lo ≤ x.sc ∧ x.sc ≤ p.hi) ∧ corB ss x.sc (setI set) p.n = true ∧ ∀ d, (x.lo d, x.hi d) = corS ss x.sc (setI set) d p.n := by
  obtain ⟨h1, h2, h3, h4⟩ := trTo_mem hx
  exact ⟨⟨h1, by omega⟩, h3, h4⟩
theorem trL_mk {p : Pl} {ss : List St} (hlo : 1 ≤ p.lo) (hhi : p.hi ≤ 1000) {set : Int} {sc : Int} (h1 : p.lo ≤ sc) (h2 : sc ≤ p.hi) (h3 : corB ss sc (setI set) p.n = true) : ∃ x ∈ trL p ss set, x.sc = sc ∧ ∀ d, (x.lo d, x.hi d) = corS ss sc (setI set) d p.n :=
  trTo_has (lo := p.lo) (k := (p.hi - p.lo + 1).toNat) (by omega) h3 h1 (by omega)
theorem canR_iff {p : Pl} {ss : List St} (hlo : 1 ≤ p.lo) (hhi : p.hi ≤ 1000) {set : Int} : canR p ss set = true ↔ ∃ sc, (p.lo ≤ sc ∧ sc ≤ p.hi) ∧ corB ss sc (setI set) p.n = true := by
  unfold canR
  constructor
  · intro h
    cases hx : trL p ss set with
    | nil => rw [hx] at h; cases h
    | cons x xs => exact ⟨x.sc, (trL_iff hlo hhi).1 ⟨x, by rw [hx]; exact List.mem_cons_self, rfl⟩⟩
  · rintro ⟨sc, h⟩
    obtain ⟨x, hx, _⟩ := (trL_iff hlo hhi).2 h
    cases ht : trL p ss set with
    | nil => rw [ht] at hx; cases hx
    | cons => rfl
theorem tr_nil {p : Pl} {ss : List St} {set : Int} : trL p ss set = [] ↔ canR p ss set = false := by
  unfold canR; cases trL p ss set <;> simp
/-- What is known of a star by bits. -/
theorem bit_nat {n i : Nat} (hn : n < 4096) (hi : i < 12) : setI (n : Int) i = n.testBit i := by
  have hp : wrap64 (2 ^ i) = ((2 ^ i : Nat) : Int) := (by decide +kernel : ∀ k : Fin 12, wrap64 (2 ^ k.val) = ((2 ^ k.val : Nat) : Int)) ⟨i, hi⟩
  have hp2 : 1 ≤ 2 ^ i ∧ 2 ^ i < 4096 := (by decide +kernel : ∀ k : Fin 12, 1 ≤ 2 ^ k.val ∧ 2 ^ k.val < 4096) ⟨i, hi⟩
  have ha : n &&& 2 ^ i = if n.testBit i then 2 ^ i else 0 := by
    apply Nat.eq_of_testBit_eq
    intro j
    rw [Nat.testBit_and, Nat.testBit_two_pow]
    by_cases h : i = j
    · subst h
      cases hb : n.testBit i
      · simp
      · simp
    · rw [decide_eq_false h, Bool.and_false]
      split
      · rw [Nat.testBit_two_pow, decide_eq_false h]
      · simp
  have h1 : setI (n : Int) i = (IntKind.i64.wrap (((if n.testBit i then 2 ^ i else 0) : Nat) : Int) != 0) := by
    unfold setI bits
    rw [hp]
    dsimp only
    rw [BitVec.toNat_and, bv_nat (by omega), bv_nat (by omega), ha]
  rw [h1]
  cases n.testBit i
  · rw [if_neg (by simp), i64_of_nat (by omega)]; rfl
  · rw [if_pos rfl, i64_of_nat (by omega)]
    generalize 2 ^ i = q at *
    simp; omega
theorem known_nat (ss : List St) : ∀ k : Nat, k ≤ 12 → ∃ n : Nat, knownTo ss k = (n : Int) ∧ n < 2 ^ k ∧ ∀ i, n.testBit i = (decide (i < k) && (ss.getD i default).k)
  | 0, _ => ⟨0, rfl, by simp, fun i => by simp⟩
  | k + 1, h => by
    obtain ⟨n, e, h1, h2⟩ := known_nat ss k (by omega)
    have hs := known_rng ss k (by omega)
    have hp : 2 ^ (k + 1) = 2 * 2 ^ k := by rw [Nat.pow_succ, Nat.mul_comm]
    rw [knownTo]
    split
    · rename_i hk
      refine ⟨2 ^ k + n, ?_, by omega, fun i => ?_⟩
      · rw [or_bit12 (by omega) hs.1 hs.2, e]; simp; omega
      · rcases Nat.lt_trichotomy i k with hi | rfl | hi
        · rw [Nat.testBit_two_pow_add_gt hi, h2, decide_eq_true hi, decide_eq_true (show i < k + 1 by omega)]
        · rw [Nat.testBit_two_pow_add_eq, h2, decide_eq_false (by omega), decide_eq_true (by omega), hk]; rfl
        · rw [decide_eq_false (by omega), Bool.false_and]
          exact Nat.testBit_lt_two_pow (Nat.lt_of_lt_of_le (show 2 ^ k + n < 2 ^ (k + 1) by omega) (Nat.pow_le_pow_right (by decide) hi))
    · rename_i hk
      refine ⟨n, e, by omega, fun i => ?_⟩
      rw [h2]
      by_cases he : i = k
      · subst he
        rw [decide_eq_false (by omega), Bool.eq_false_iff.2 hk]; simp
      · rw [decide_eq_decide.2 (show i < k ↔ i < k + 1 by omega)]
theorem known_bit (ss : List St) {k i : Nat} (hk : k ≤ 12) (hi : i < k) : setI (knownTo ss k) i = (ss.getD i default).k := by
  obtain ⟨n, e, h1, h2⟩ := known_nat ss k hk
  have hp : 2 ^ k ≤ 4096 := (by decide +kernel : ∀ k : Fin 13, 2 ^ k.val ≤ 4096) ⟨k, by omega⟩
  rw [e, bit_nat (by omega) (by omega), h2, decide_eq_true hi]; simp
theorem known_none {ss : List St} {k : Nat} (hk : k ≤ 12) : knownTo ss k = 0 ↔ ∀ i, i < k → (ss.getD i default).k = false := by
  obtain ⟨n, e, h1, h2⟩ := known_nat ss k hk
  rw [e]
  constructor
  · intro h i hi
    obtain rfl : n = 0 := by omega
    have := h2 i
    rw [decide_eq_true hi, Nat.zero_testBit] at this
    simpa using this.symm
  · intro h
    have : n = 0 := Nat.eq_of_testBit_eq fun i => by
      rw [h2, Nat.zero_testBit]
      by_cases hi : i < k
      · rw [h i hi]; simp
      · rw [decide_eq_false hi]; rfl
    rw [this]; rfl
theorem known_some {ss : List St} {k : Nat} (hk : k ≤ 12) (h : knownTo ss k ≠ 0) : ∃ i, i < k ∧ (ss.getD i default).k = true := by
  by_cases hx : ∃ i, i < k ∧ (ss.getD i default).k = true
  · exact hx
  · refine absurd ((known_none hk).2 fun i hi => ?_) h
    cases e : (ss.getD i default).k
    · rfl
    · exact absurd ⟨i, hi, e⟩ hx
end Go.Proofs.Ytdkegkacpdkjgaa

namespace Go.Proofs.Ytdkegkacpdkjgaa
open Go.RowKit Go.Maps

def movS (b t : Int) (s : St) : St := if s.k then { s with e0 := s.e0 + b, e1 := s.e1 + b, n0 := s.n0 + t, n1 := s.n1 + t } else s
def dlt (b t : Int) (d : Bool) : Int := if d then t else b
theorem mov_k (b t : Int) (s : St) : (movS b t s).k = s.k := by unfold movS; split <;> rfl
theorem mov_on (b t : Int) (s : St) (d : Bool) : (movS b t s).on d = s.on d := by unfold movS; split <;> rfl
theorem mov_sky {b t : Int} {s : St} (h : s.k = true) (d : Bool) : (movS b t s).sky d = ((s.sky d).1 + dlt b t d, (s.sky d).2 + dlt b t d) := by
  unfold movS; rw [if_pos h]; cases d <;> rfl
theorem mov_bey (b t sc : Int) (s : St) (d : Bool) : beyS sc (movS b t s) d = beyS sc s d := by unfold beyS; rw [mov_on]
theorem mov_cb {b t sc : Int} {s : St} (h : s.k = true) (d : Bool) : (cbS sc (movS b t s) d).1 = (cbS sc s d).1 + dlt b t d ∧ (cbS sc (movS b t s) d).2 = (cbS sc s d).2 + dlt b t d := by
  have hs := mov_sky (b := b) (t := t) h d
  unfold cbS saidS
  rw [mov_bey, mov_k, h, if_pos rfl, if_pos rfl, hs]
  dsimp only
  omega
theorem mov_un {b t : Int} {s : St} (h : s.k = false) : movS b t s = s := by unfold movS; rw [h]; rfl
theorem mov_get (b t : Int) (ss : List St) (i : Nat) : (ss.map (movS b t)).getD i default = movS b t (ss.getD i default) := by
  rw [List.getD_eq_getElem?_getD, List.getD_eq_getElem?_getD, List.getElem?_map]
  cases ss[i]? with
  | none => rfl
  | some s => rfl
theorem known_ext {ss ss' : List St} (h : ∀ i, (ss'.getD i default).k = (ss.getD i default).k) : ∀ n, knownTo ss' n = knownTo ss n
  | 0 => rfl
  | n + 1 => by rw [knownTo, knownTo, known_ext h n, h]
theorem mov_known (b t : Int) (ss : List St) (n : Nat) : knownTo (ss.map (movS b t)) n = knownTo ss n := known_ext (fun i => by rw [mov_get, mov_k]) n
theorem mov_none {b t : Int} {ss : List St} (h : knownTo ss ss.length = 0) (h12 : ss.length ≤ 12) : ss.map (movS b t) = ss := by
  apply List.ext_getElem?
  intro i
  rw [List.getElem?_map]
  cases hi : ss[i]? with
  | none => rfl
  | some s =>
    have hl : i < ss.length := (List.getElem?_eq_some_iff.1 hi).1
    have := (known_none h12).1 h i hl
    rw [List.getD_eq_getElem?_getD, hi] at this
    show some (movS b t s) = some s
    rw [mov_un (show s.k = false from this)]
/-- With a known star the corner is near. -/
theorem near {s : St} {d : Bool} (h : StOk s d) (hk : s.k = true) {sc : Int} (h0 : 0 ≤ sc) (h1 : sc ≤ 1000) : -1081344 ≤ (cbS sc s d).1 ∧ (cbS sc s d).2 ≤ 1048576 ∧ (cbS sc s d).1 ≤ (cbS sc s d).2 := by
  have h2 := bey_rng h h0 h1
  have a := h.e hk; have b := h.f hk; have c := h.g hk
  unfold cbS saidS
  rw [hk, if_pos rfl]
  dsimp only
  omega
theorem corn_near {ss : List St} {sc : Int} {R : Nat → Bool} {n i : Nat} {d : Bool} {c : Int} (h : CornC ss sc R n d c) (hi : i < n) (hR : R i = true) (hok : StOk (ss.getD i default) d) (hk : (ss.getD i default).k = true) (h0 : 0 ≤ sc) (h1 : sc ≤ 1000) : -1081344 ≤ c ∧ c ≤ 1048576 := by
  have := h.2 i hi hR
  have := near hok hk h0 h1
  omega
/-- The same truths, farther on. -/
structure Pair (δ : Bool → Int) (xs ys : List Scl) : Prop where
  fwd : ∀ x ∈ xs, ∃ y ∈ ys, y.sc = x.sc ∧ ∀ d, y.lo d = x.lo d + δ d ∧ y.hi d = x.hi d + δ d
  bwd : ∀ y ∈ ys, ∃ x ∈ xs, y.sc = x.sc ∧ ∀ d, y.lo d = x.lo d + δ d ∧ y.hi d = x.hi d + δ d
theorem corS_shift {ss ss' : List St} {sc : Int} {R R' : Nat → Bool} {n : Nat} {d : Bool} {δ : Int} (h : ∀ c, CornC ss sc R n d c ↔ CornC ss' sc R' n d (c + δ)) :
    ((corS ss sc R d n).1 ≤ (corS ss sc R d n).2 ↔ (corS ss' sc R' d n).1 ≤ (corS ss' sc R' d n).2) ∧ ((corS ss sc R d n).1 ≤ (corS ss sc R d n).2 → (corS ss' sc R' d n).1 = (corS ss sc R d n).1 + δ ∧ (corS ss' sc R' d n).2 = (corS ss sc R d n).2 + δ) := by
  have e : ∀ c, ((corS ss sc R d n).1 ≤ c ∧ c ≤ (corS ss sc R d n).2) ↔ ((corS ss' sc R' d n).1 ≤ c + δ ∧ c + δ ≤ (corS ss' sc R' d n).2) := fun c => by rw [cor_iff, cor_iff]; exact h c
  have a := e (corS ss sc R d n).1
  have b := e (corS ss sc R d n).2
  have c := e ((corS ss' sc R' d n).1 - δ)
  have f := e ((corS ss' sc R' d n).2 - δ)
  omega
theorem corB_ne {ss : List St} {sc : Int} {R : Nat → Bool} {n : Nat} (h : corB ss sc R n = true) (d : Bool) : (corS ss sc R d n).1 ≤ (corS ss sc R d n).2 := by
  unfold corB at h
  simp only [Bool.and_eq_true, decide_eq_true_eq] at h
  cases d
  · exact h.1
  · exact h.2
theorem corB_shift {ss ss' : List St} {sc : Int} {R R' : Nat → Bool} {n : Nat} {δ : Bool → Int} (h : ∀ d c, CornC ss sc R n d c ↔ CornC ss' sc R' n d (c + δ d)) : corB ss sc R n = corB ss' sc R' n := by
  have a := (corS_shift (h false)).1
  have b := (corS_shift (h true)).1
  unfold corB
  rw [decide_eq_decide.2 a, decide_eq_decide.2 b]
theorem can_shift {p p' : Pl} {ss ss' : List St} {set set' : Int} {δ : Bool → Int} (hlo : 1 ≤ p.lo) (hhi : p.hi ≤ 1000) (e1 : p'.lo = p.lo) (e2 : p'.hi = p.hi) (e3 : p'.n = p.n)
    (h : ∀ sc, p.lo ≤ sc → sc ≤ p.hi → ∀ d c, CornC ss sc (setI set) p.n d c ↔ CornC ss' sc (setI set') p.n d (c + δ d)) : canR p' ss' set' = canR p ss set := by
  have hi : canR p' ss' set' = true ↔ canR p ss set = true := by
    rw [canR_iff hlo hhi, canR_iff (by omega) (by omega), e1, e2, e3]
    constructor
    · rintro ⟨sc, h1, h2⟩; exact ⟨sc, h1, by rw [corB_shift (h sc h1.1 h1.2)]; exact h2⟩
    · rintro ⟨sc, h1, h2⟩; exact ⟨sc, h1, by rw [← corB_shift (h sc h1.1 h1.2)]; exact h2⟩
  cases ha : canR p ss set
  · cases hb : canR p' ss' set'
    · rfl
    · rw [hi.1 hb] at ha; cases ha
  · exact hi.2 ha
theorem pair_of {p p' : Pl} {ss ss' : List St} {set set' : Int} {δ : Bool → Int} (hlo : 1 ≤ p.lo) (hhi : p.hi ≤ 1000) (e1 : p'.lo = p.lo) (e2 : p'.hi = p.hi) (e3 : p'.n = p.n)
    (h : ∀ sc, p.lo ≤ sc → sc ≤ p.hi → ∀ d c, CornC ss sc (setI set) p.n d c ↔ CornC ss' sc (setI set') p.n d (c + δ d)) : Pair δ (trL p ss set) (trL p' ss' set') := by
  have hl : ∀ (x : Scl) (q : Int × Int) (d : Bool), (x.lo d, x.hi d) = q → x.lo d = q.1 ∧ x.hi d = q.2 := fun x q d h => by rw [← h]; exact ⟨rfl, rfl⟩
  constructor
  · intro x hx
    obtain ⟨⟨h1, h2⟩, h3, h4⟩ := trL_of hx
    obtain ⟨y, hy, y1, y2⟩ := trL_mk (p := p') (ss := ss') (set := set') (by omega) (by omega) (sc := x.sc) (by omega) (by omega) (by rw [e3, ← corB_shift (h _ h1 h2)]; exact h3)
    refine ⟨y, hy, y1, fun d => ?_⟩
    have a := hl _ _ _ (h4 d)
    have b := hl _ _ _ (y2 d)
    rw [e3] at b
    have c := (corS_shift (h x.sc h1 h2 d)).2 (corB_ne h3 d)
    omega
  · intro y hy
    obtain ⟨⟨h1, h2⟩, h3, h4⟩ := trL_of hy
    rw [e3] at h3 h4
    have h3' := h3
    rw [← corB_shift (h y.sc (by omega) (by omega))] at h3'
    obtain ⟨x, hx, x1, x2⟩ := trL_mk (p := p) (ss := ss) (set := set) hlo hhi (sc := y.sc) (by omega) (by omega) h3'
    refine ⟨x, hx, x1.symm, fun d => ?_⟩
    have a := hl _ _ _ (h4 d)
    have b := hl _ _ _ (x2 d)
    have c := (corS_shift (h y.sc (by omega) (by omega) d)).2 (corB_ne h3' d)
    omega
theorem pair_nil {δ : Bool → Int} {xs ys : List Scl} (h : Pair δ xs ys) : xs = [] ↔ ys = [] := by
  constructor
  · rintro rfl
    cases ys with
    | nil => rfl
    | cons y ys => obtain ⟨x, hx, _⟩ := h.bwd y List.mem_cons_self; cases hx
  · rintro rfl
    cases xs with
    | nil => rfl
    | cons x xs => obtain ⟨x, hx, _⟩ := h.fwd x List.mem_cons_self; cases hx
end Go.Proofs.Ytdkegkacpdkjgaa

namespace Go.Proofs.Ytdkegkacpdkjgaa
open Go.RowKit Go.Maps

theorem test_add {b v : Nat} (hv : v < 2 ^ b) (i : Nat) : (2 ^ b + v).testBit i = (decide (i = b) || v.testBit i) := by
  rcases Nat.lt_trichotomy i b with hi | rfl | hi
  · rw [Nat.testBit_two_pow_add_gt hi, decide_eq_false (by omega), Bool.false_or]
  · rw [Nat.testBit_two_pow_add_eq, Nat.testBit_lt_two_pow hv, decide_eq_true rfl]; rfl
  · have hp : 2 ^ (b + 1) ≤ 2 ^ i := Nat.pow_le_pow_right (by decide) hi
    have hq : 2 ^ (b + 1) = 2 * 2 ^ b := by rw [Nat.pow_succ, Nat.mul_comm]
    rw [Nat.testBit_lt_two_pow (show 2 ^ b + v < 2 ^ i by omega), Nat.testBit_lt_two_pow (show v < 2 ^ i by omega), decide_eq_false (by omega)]; rfl
theorem sizeF_add : ∀ (b k v : Nat), b < k → v < 2 ^ b → sizeF k ((2 ^ b + v : Nat) : Int) = sizeF k (v : Int) + 1
  | b, 0, v, h, _ => by omega
  | 0, k + 1, v, _, hv => by
    obtain rfl : v = 0 := by simpa using hv
    rw [sizeF, sizeF]
    show (1 : Int) % 2 + sizeF k (1 / 2) = (0 : Int) % 2 + sizeF k (0 / 2) + 1
    rw [show (1 : Int) / 2 = 0 from rfl, show (0 : Int) / 2 = 0 from rfl, sizeF_zero]; rfl
  | b + 1, k + 1, v, h, hv => by
    have hp : 2 ^ (b + 1) = 2 * 2 ^ b := by rw [Nat.pow_succ, Nat.mul_comm]
    have ih := sizeF_add b k (v / 2) (by omega) (by omega)
    rw [sizeF, sizeF]
    have e1 : ((2 ^ (b + 1) + v : Nat) : Int) / 2 = ((2 ^ b + v / 2 : Nat) : Int) := by omega
    have e2 : (v : Int) / 2 = ((v / 2 : Nat) : Int) := by omega
    have e3 : ((2 ^ (b + 1) + v : Nat) : Int) % 2 = (v : Int) % 2 := by omega
    rw [e1, e2, e3, ih]; omega
theorem popc_add {b v : Nat} (hb : b < 12) (hv : v < 2 ^ b) : popc ((2 ^ b + v : Nat) : Int) = popc (v : Int) + 1 := by
  have hp : 2 ^ (b + 1) ≤ 4096 := (by decide +kernel : ∀ k : Fin 12, 2 ^ (k.val + 1) ≤ 4096) ⟨b, hb⟩
  have hq : 2 ^ (b + 1) = 2 * 2 ^ b := by rw [Nat.pow_succ, Nat.mul_comm]
  rw [← sizeF_popc (by omega), ← sizeF_popc (by omega), sizeF_add b 12 v hb hv]
theorem popc_zero : popc (0 : Int) = 0 := by decide
theorem popc_le : ∀ (b v : Nat), b ≤ 12 → v < 2 ^ b → 0 ≤ popc (v : Int) ∧ popc (v : Int) ≤ b ∧ (popc (v : Int) = 0 → v = 0)
  | 0, v, _, hv => by
    obtain rfl : v = 0 := by simpa using hv
    exact ⟨by decide, by decide, fun _ => rfl⟩
  | b + 1, v, hb, hv => by
    have hq : 2 ^ (b + 1) = 2 * 2 ^ b := by rw [Nat.pow_succ, Nat.mul_comm]
    by_cases h : v < 2 ^ b
    · have := popc_le b v (by omega) h
      exact ⟨this.1, by omega, this.2.2⟩
    · obtain ⟨u, rfl⟩ : ∃ u, v = 2 ^ b + u := ⟨v - 2 ^ b, by omega⟩
      have := popc_le b u (by omega) (by omega)
      rw [popc_add (by omega) (by omega)]
      exact ⟨by omega, by omega, fun h => by omega⟩
theorem sizeF_mono : ∀ (j x y : Nat), (∀ i, i < j → y.testBit i = true → x.testBit i = true) → sizeF j (y : Int) ≤ sizeF j (x : Int) ∧ ∀ i, i < j → x.testBit i = true → y.testBit i = false → sizeF j (y : Int) < sizeF j (x : Int)
  | 0, x, y, _ => ⟨by rw [sizeF, sizeF]; omega, fun i hi => by omega⟩
  | j + 1, x, y, h => by
    have ih := sizeF_mono j (x / 2) (y / 2) (fun i hi hb => by
      have := h (i + 1) (by omega) (by rw [Nat.testBit_succ]; exact hb)
      rw [Nat.testBit_succ] at this; exact this)
    have h0 := h 0 (by omega)
    have t0 : ∀ x : Nat, x.testBit 0 = true ↔ x % 2 = 1 := fun x => by rw [Nat.testBit_zero, decide_eq_true_eq]
    rw [t0, t0] at h0
    rw [sizeF, sizeF]
    have e1 : (x : Int) / 2 = ((x / 2 : Nat) : Int) := by omega
    have e2 : (y : Int) / 2 = ((y / 2 : Nat) : Int) := by omega
    rw [e1, e2]
    generalize sizeF j ((x / 2 : Nat) : Int) = a at *
    generalize sizeF j ((y / 2 : Nat) : Int) = b at *
    refine ⟨by have := ih.1; omega, fun i hi hx hy => ?_⟩
    cases i with
    | zero =>
      have := ih.1
      rw [t0] at hx
      have : ¬ y % 2 = 1 := fun e => by rw [(t0 y).2 e] at hy; cases hy
      omega
    | succ i =>
      rw [Nat.testBit_succ] at hx hy
      have := ih.2 i (by omega) hx hy
      omega
theorem popc_mono {x y : Nat} (hx : x < 4096) (hy : y < 4096) (h : ∀ i, y.testBit i = true → x.testBit i = true) : popc (y : Int) ≤ popc (x : Int) := by
  have := (sizeF_mono 12 x y (fun i _ => h i)).1
  rwa [sizeF_popc (by omega), sizeF_popc (by omega)] at this
theorem popc_lt {x y : Nat} (hx : x < 4096) (hy : y < 4096) (h : ∀ i, y.testBit i = true → x.testBit i = true) {i : Nat} (hi : i < 12) (h1 : x.testBit i = true) (h2 : y.testBit i = false) : popc (y : Int) < popc (x : Int) := by
  have := (sizeF_mono 12 x y (fun i _ => h i)).2 i hi h1 h2
  rwa [sizeF_popc (by omega), sizeF_popc (by omega)] at this
/-- A set of some of all stars. -/
def Sub (v : Nat) (all : Int) : Prop := ∀ i, v.testBit i = true → setI all i = true
theorem or_above {T b : Nat} (hb : b < 12) (hT : T % 2 ^ (b + 1) = 0) (hT2 : T < 4096) : bits .or .i64 (T : Int) (wrap64 (2 ^ b)) = ((T + 2 ^ b : Nat) : Int) := by
  have hp : wrap64 (2 ^ b) = ((2 ^ b : Nat) : Int) := (by decide +kernel : ∀ k : Fin 12, wrap64 (2 ^ k.val) = ((2 ^ k.val : Nat) : Int)) ⟨b, hb⟩
  have hp2 : 1 ≤ 2 ^ b ∧ 2 ^ b < 4096 := (by decide +kernel : ∀ k : Fin 12, 1 ≤ 2 ^ k.val ∧ 2 ^ k.val < 4096) ⟨b, hb⟩
  unfold bits
  rw [hp]
  dsimp only
  have ho : T ||| 2 ^ b = T + 2 ^ b := by
    have e : T = 2 ^ (b + 1) * (T / 2 ^ (b + 1)) := by have := Nat.div_add_mod T (2 ^ (b + 1)); omega
    have hlt : 2 ^ b < 2 ^ (b + 1) := Nat.pow_lt_pow_right (by decide) (by omega)
    have := Nat.two_pow_add_eq_or_of_lt hlt (T / 2 ^ (b + 1))
    rw [← e] at this
    exact this.symm
  rw [BitVec.toNat_or, bv_nat (by omega), bv_nat (by omega), ho, i64_of_nat (by omega)]
theorem mod_half {T b : Nat} (hT : T % 2 ^ (b + 1) = 0) : T % 2 ^ b = 0 ∧ (T + 2 ^ b) % 2 ^ b = 0 := by
  have h : T % 2 ^ b = 0 := Nat.mod_eq_zero_of_dvd (Nat.dvd_trans (Nat.pow_dvd_pow 2 (by omega)) (Nat.dvd_of_mod_eq_zero hT))
  exact ⟨h, by rw [Nat.add_mod_right]; exact h⟩
theorem try_spec (ask : Int → Bool) (all : Int) : ∀ (b m T : Nat), b ≤ 10 → T % 2 ^ b = 0 → T + 2 ^ b ≤ 1024 →
    (∀ x, tryS ask all b (T : Int) m = some x → ∃ u, u < 2 ^ b ∧ Sub u all ∧ popc (u : Int) = m ∧ x = ((T + u : Nat) : Int) ∧ ask x = true ∧ ∀ v, v < 2 ^ b → Sub v all → popc (v : Int) = m → ask ((T + v : Nat) : Int) = true → u ≤ v) ∧
    (tryS ask all b (T : Int) m = none → ∀ v, v < 2 ^ b → Sub v all → popc (v : Int) = m → ask ((T + v : Nat) : Int) = false)
  | 0, m, T, _, _, _ => by
    have hv0 : ∀ v : Nat, v < 2 ^ 0 → v = 0 := fun v hv => by simpa using hv
    have hs0 : Sub 0 all := fun i h => by rw [Nat.zero_testBit] at h; cases h
    have hp0 : popc ((0 : Nat) : Int) = 0 := popc_zero
    rw [tryS]
    by_cases hm : m = 0
    · subst hm
      rw [if_pos rfl]
      cases ha : ask (T : Int)
      · refine ⟨fun x h => (by cases h), fun _ v hv _ _ => ?_⟩
        rw [hv0 v hv, Nat.add_zero]; exact ha
      · refine ⟨fun x h => ?_, fun h => (by cases h)⟩
        injection h with h
        subst h
        exact ⟨0, by decide, hs0, hp0, by rw [Nat.add_zero], ha, fun v _ _ _ _ => Nat.zero_le _⟩
    · rw [if_neg hm]
      refine ⟨fun x h => (by cases h), fun _ v hv _ hp => ?_⟩
      rw [hv0 v hv, hp0] at hp
      omega
  | b + 1, m, T, hb, hT, hT2 => by
    have hq : 2 ^ (b + 1) = 2 * 2 ^ b := by rw [Nat.pow_succ, Nat.mul_comm]
    have hs0 : Sub 0 all := fun i h => by rw [Nat.zero_testBit] at h; cases h
    have hp0 : popc ((0 : Nat) : Int) = 0 := popc_zero
    obtain ⟨hm1, hm2⟩ := mod_half hT
    have h1 := try_spec ask all b m T (by omega) hm1 (by omega)
    have h2 := try_spec ask all b (m - 1) (T + 2 ^ b) (by omega) hm2 (by omega)
    have hor := or_above (T := T) (b := b) (by omega) hT (by omega)
    rw [tryS]
    by_cases hm : m = 0
    · subst hm
      rw [if_pos rfl]
      have hz : ∀ v : Nat, v < 2 ^ (b + 1) → popc (v : Int) = ((0 : Nat) : Int) → v = 0 := fun v hv hp => (popc_le (b + 1) v (by omega) hv).2.2 hp
      cases ha : ask (T : Int)
      · refine ⟨fun x h => (by cases h), fun _ v hv _ hp => ?_⟩
        rw [hz v hv hp, Nat.add_zero]; exact ha
      · refine ⟨fun x h => ?_, fun h => (by cases h)⟩
        injection h with h
        subst h
        exact ⟨0, Nat.two_pow_pos _, hs0, hp0, by rw [Nat.add_zero], ha, fun v _ _ _ _ => Nat.zero_le _⟩
    rw [if_neg hm]
    by_cases hbm : b + 1 < m
    · rw [if_pos hbm]
      refine ⟨fun x h => (by cases h), fun _ v hv _ hp => ?_⟩
      have := (popc_le (b + 1) v (by omega) hv).2.1
      omega
    rw [if_neg hbm]
    cases h3 : tryS ask all b (T : Int) m with
    | some y =>
      obtain ⟨u, u1, u2, u3, u4, u5, u6⟩ := h1.1 y h3
      refine ⟨fun x h => ?_, fun h => (by cases h)⟩
      injection h with h
      subst h
      refine ⟨u, by omega, u2, u3, u4, u5, fun v hv v2 v3 v4 => ?_⟩
      by_cases hvb : v < 2 ^ b
      · exact u6 v hvb v2 v3 v4
      · omega
    | none =>
      have h1n := h1.2 h3
      dsimp only
      cases hal : setI all b
      · rw [if_neg (by simp)]
        refine ⟨fun x h => (by cases h), fun _ v hv v2 v3 => ?_⟩
        by_cases hvb : v < 2 ^ b
        · exact h1n v hvb v2 v3
        · obtain ⟨u, rfl⟩ : ∃ u, v = 2 ^ b + u := ⟨v - 2 ^ b, by omega⟩
          have := v2 b (by rw [test_add (by omega), decide_eq_true rfl]; rfl)
          rw [hal] at this; cases this
      · rw [if_pos rfl, hor]
        have hsp : ∀ u, u < 2 ^ b → (Sub (2 ^ b + u) all ↔ Sub u all) := fun u hu => by
          constructor
          · intro h i hi; exact h i (by rw [test_add hu, hi, Bool.or_true])
          · intro h i hi
            rw [test_add hu, Bool.or_eq_true, decide_eq_true_eq] at hi
            rcases hi with rfl | hi
            · exact hal
            · exact h i hi
        refine ⟨fun x h => ?_, fun h v hv v2 v3 => ?_⟩
        · obtain ⟨u, u1, u2, u3, u4, u5, u6⟩ := h2.1 x h
          refine ⟨2 ^ b + u, by omega, (hsp u u1).2 u2, by rw [popc_add (by omega) u1, u3]; omega, by rw [u4, Nat.add_assoc], u5, fun v hv v2 v3 v4 => ?_⟩
          by_cases hvb : v < 2 ^ b
          · rw [h1n v hvb v2 v3] at v4; cases v4
          · obtain ⟨z, rfl⟩ : ∃ z, v = 2 ^ b + z := ⟨v - 2 ^ b, by omega⟩
            rw [popc_add (by omega) (by omega)] at v3
            have := u6 z (by omega) ((hsp z (by omega)).1 v2) (by omega) (by rw [Nat.add_assoc]; exact v4)
            omega
        · by_cases hvb : v < 2 ^ b
          · exact h1n v hvb v2 v3
          · obtain ⟨z, rfl⟩ : ∃ z, v = 2 ^ b + z := ⟨v - 2 ^ b, by omega⟩
            rw [popc_add (by omega) (by omega)] at v3
            have := h2.2 h z (by omega) ((hsp z (by omega)).1 v2) (by omega)
            rw [← Nat.add_assoc]; exact this
/-- What the fewest stars that are as asked are. -/
structure Few (ask : Int → Bool) (all : Int) (u : Nat) : Prop where
  lt : u < 1024
  sub : Sub u all
  asks : ask (u : Int) = true
  least : ∀ v, v < 1024 → Sub v all → ask (v : Int) = true → popc (u : Int) < popc (v : Int) ∨ (popc (u : Int) = popc (v : Int) ∧ u ≤ v)
theorem fewTo_spec (ask : Int → Bool) (all : Int) : ∀ n : Nat, (∀ x, fewTo ask all n = some x → ∃ u : Nat, x = (u : Int) ∧ Few ask all u) ∧ (fewTo ask all n = none → ∀ v, v < 1024 → Sub v all → popc (v : Int) < n → ask (v : Int) = false)
  | 0 => ⟨fun x h => (by cases h), fun _ v hv _ hp => by have := (popc_le 10 v (by decide) hv).1; omega⟩
  | n + 1 => by
    have ih := fewTo_spec ask all n
    have ht := try_spec ask all 10 n 0 (by decide) (by decide) (by decide)
    rw [fewTo]
    cases h : fewTo ask all n with
    | some y =>
      refine ⟨fun x hx => ?_, fun hx => (by cases hx)⟩
      injection hx with hx
      subst hx
      exact ih.1 y h
    | none =>
      have hn := ih.2 h
      dsimp only
      refine ⟨fun x hx => ?_, fun hx v hv v2 v3 => ?_⟩
      · obtain ⟨u, u1, u2, u3, u4, u5, u6⟩ := ht.1 x hx
        rw [Nat.zero_add] at u4
        subst u4
        refine ⟨u, rfl, u1, u2, u5, fun v hv v2 v3 => ?_⟩
        rcases Int.lt_trichotomy (popc (u : Int)) (popc (v : Int)) with h1 | h1 | h1
        · exact .inl h1
        · exact .inr ⟨h1, u6 v hv v2 (by omega) (by rw [Nat.zero_add]; exact v3)⟩
        · rw [hn v hv v2 (by omega)] at v3; cases v3
      · by_cases hp : popc (v : Int) < n
        · exact hn v hv v2 hp
        · have := ht.2 hx v hv v2 (by omega)
          rwa [Nat.zero_add] at this
theorem few_is {ask : Int → Bool} {all : Nat} (hall : all < 4096) (h : ∃ v : Nat, v < 1024 ∧ Sub v (all : Int) ∧ ask (v : Int) = true) : ∃ u : Nat, fewS ask (all : Int) = (u : Int) ∧ Few ask (all : Int) u := by
  obtain ⟨v, v1, v2, v3⟩ := h
  have hs := fewTo_spec ask (all : Int) (popc (all : Int) + 1).toNat
  unfold fewS
  cases hf : fewTo ask (all : Int) (popc (all : Int) + 1).toNat with
  | some x =>
    obtain ⟨u, rfl, hu⟩ := hs.1 x hf
    exact ⟨u, rfl, hu⟩
  | none =>
    have hm := popc_mono (x := all) (y := v) hall (by omega) (fun i hi => by
      have h12 : i < 12 := by
        rcases Nat.lt_or_ge i 12 with h | h
        · exact h
        · rw [Nat.testBit_lt_two_pow (Nat.lt_of_lt_of_le v1 (Nat.le_trans (by decide : 1024 ≤ 2 ^ 12) (Nat.pow_le_pow_right (by decide) h)))] at hi; cases hi
      rw [← bit_nat hall h12]; exact v2 i hi)
    have hr := popc_rng (all : Int)
    rw [hs.2 hf v v1 v2 (by omega)] at v3; cases v3
theorem few_not {ask : Int → Bool} {all : Nat} (h : ∀ v : Nat, v < 1024 → Sub v (all : Int) → ask (v : Int) = false) : fewS ask (all : Int) = 0 := by
  have hs := fewTo_spec ask (all : Int) (popc (all : Int) + 1).toNat
  unfold fewS
  cases hf : fewTo ask (all : Int) (popc (all : Int) + 1).toNat with
  | none => rfl
  | some x =>
    obtain ⟨u, rfl, hu⟩ := hs.1 x hf
    exact absurd hu.asks (by rw [h u hu.lt hu.sub]; decide)
/-- Two questions with the same answers. -/
theorem few_same {ask ask' : Int → Bool} {all : Nat} (hall : all < 4096) (h : ∀ v : Nat, v < 1024 → Sub v (all : Int) → ask' (v : Int) = ask (v : Int)) : fewS ask' (all : Int) = fewS ask (all : Int) := by
  by_cases hx : ∃ v : Nat, v < 1024 ∧ Sub v (all : Int) ∧ ask (v : Int) = true
  · obtain ⟨u, e1, hu⟩ := few_is hall hx
    obtain ⟨v, v1, v2, v3⟩ := hx
    obtain ⟨u', e2, hu'⟩ := few_is (ask := ask') hall ⟨v, v1, v2, by rw [h v v1 v2]; exact v3⟩
    have a := hu.least u' hu'.lt hu'.sub (by rw [← h u' hu'.lt hu'.sub]; exact hu'.asks)
    have b := hu'.least u hu.lt hu.sub (by rw [h u hu.lt hu.sub]; exact hu.asks)
    rw [e1, e2]
    omega
  · have hn : ∀ v : Nat, v < 1024 → Sub v (all : Int) → ask (v : Int) = false := fun v v1 v2 => by
      cases e : ask (v : Int)
      · rfl
      · exact absurd ⟨v, v1, v2, e⟩ hx
    rw [few_not hn, few_not fun v v1 v2 => by rw [h v v1 v2]; exact hn v v1 v2]
theorem andNot_nat {a b : Nat} (ha : a < 4096) (hb : b < 1000000) : ∃ y : Nat, bits .andNot .i64 (a : Int) (b : Int) = (y : Int) ∧ y ≤ a ∧ ∀ i, y.testBit i = (a.testBit i && !b.testBit i) := by
  unfold bits
  dsimp only
  have e : (BitVec.ofInt IntKind.i64.bits (a : Int) &&& ~~~ BitVec.ofInt IntKind.i64.bits (b : Int)).toNat = a &&& (2 ^ 64 - (b + 1)) := by
    rw [BitVec.toNat_and, BitVec.toNat_not, bv_nat (by omega), bv_nat (by omega)]
    have h64 : 2 ^ IntKind.i64.bits - 1 - b = 2 ^ 64 - (b + 1) := by show 2 ^ 64 - 1 - b = _; omega
    rw [h64]
  have hle : a &&& (2 ^ 64 - (b + 1)) ≤ a := Nat.and_le_left
  refine ⟨a &&& (2 ^ 64 - (b + 1)), by rw [e, i64_of_nat (by omega)], hle, fun i => ?_⟩
  rw [Nat.testBit_and, Nat.testBit_two_pow_sub_succ (by omega)]
  by_cases hi : i < 64
  · rw [decide_eq_true hi]; simp
  · have : a.testBit i = false := Nat.testBit_lt_two_pow (Nat.lt_of_lt_of_le (show a < 2 ^ 64 by omega) (Nat.pow_le_pow_right (by decide) (by omega)))
    rw [this]; simp
/-- Whether stars can be right is asked of each of them alone. -/
theorem corn_ext {ss : List St} {sc : Int} {R R' : Nat → Bool} {n : Nat} (h : ∀ i, i < n → R i = R' i) (d : Bool) (c : Int) : CornC ss sc R n d c ↔ CornC ss sc R' n d c := by
  unfold CornC
  exact ⟨fun k => ⟨k.1, fun i hi hr => k.2 i hi (by rw [h i hi]; exact hr)⟩, fun k => ⟨k.1, fun i hi hr => k.2 i hi (by rw [← h i hi]; exact hr)⟩⟩
end Go.Proofs.Ytdkegkacpdkjgaa

namespace Go.Proofs.Ytdkegkacpdkjgaa
open Go.RowKit Go.Maps

def shV (δ : Bool → Int) (v : Value) : Value := .agg #[.int .i64 (numB v 0 + δ false), .int .i64 (numB v 1 + δ false), .int .i64 (numB v 2 + δ true), .int .i64 (numB v 3 + δ true)]
def shR (δ : Bool → Int) : Except Int Value → Except Int Value
  | .ok v => .ok (shV δ v)
  | .error c => .error c
theorem along_shift {δ : Bool → Int} {f g : Bool → Scl → Int × Int} {xs ys : List Scl} (h1 : ∀ d, ∀ x ∈ xs, (f d x).1 ≤ (f d x).2 → ∃ y ∈ ys, (g d y).1 = (f d x).1 + δ d ∧ (g d y).2 = (f d x).2 + δ d)
    (h2 : ∀ d, ∀ y ∈ ys, (g d y).1 ≤ (g d y).2 → ∃ x ∈ xs, (g d y).1 = (f d x).1 + δ d ∧ (g d y).2 = (f d x).2 + δ d) :
    alongR (kepL (g false) ys) (kepL (g true) ys) = shR δ (alongR (kepL (f false) xs) (kepL (f true) xs)) := by
  rw [kep_shift (h1 false) (h2 false), kep_shift (h1 true) (h2 true)]
  generalize kepL (f false) xs = k0
  generalize kepL (f true) xs = k1
  obtain ⟨a0, a1, a2⟩ := k0
  obtain ⟨b0, b1, b2⟩ := k1
  unfold alongR shR
  cases a2 <;> cases b2 <;> rfl
theorem along_same {f g : Bool → Scl → Int × Int} {xs ys : List Scl} (h1 : ∀ d, ∀ x ∈ xs, (f d x).1 ≤ (f d x).2 → ∃ y ∈ ys, g d y = f d x)
    (h2 : ∀ d, ∀ y ∈ ys, (g d y).1 ≤ (g d y).2 → ∃ x ∈ xs, g d y = f d x) :
    alongR (kepL (g false) ys) (kepL (g true) ys) = alongR (kepL (f false) xs) (kepL (f true) xs) := by
  rw [kep_same (h1 false) (h2 false), kep_same (h1 true) (h2 true)]
/-- Errors are not zero. -/
def noZ (r : Except Int Value) : Prop := ∀ c, r = .error c → c ≠ 0
theorem noZ_err {c : Int} (h : c ≠ 0) : noZ (.error c) := fun x e => by injection e with e; subst e; exact h
theorem noZ_ok (v : Value) : noZ (.ok v) := fun x e => by cases e
theorem along_noZ (k0 k1 : Int × Int × Bool) : noZ (alongR k0 k1) := by
  unfold alongR; (repeat' split) <;> first | exact noZ_ok _ | exact noZ_err (by decide)
theorem zero_noZ (p : Pl) (ss : List St) : noZ (zeroR p ss) := by unfold zeroR tellK; (repeat' split) <;> first | exact along_noZ _ _ | exact noZ_err (by decide)
theorem star_noZ (p : Pl) (ss : List St) (i : Int) : noZ (starR p ss i) := by unfold starR tellK; (repeat' split) <;> first | exact along_noZ _ _ | exact noZ_err (by decide)
theorem apart_noZ (p : Pl) (ss : List St) (i j : Int) : noZ (apartR p ss i j) := by unfold apartR tellR; (repeat' split) <;> first | exact along_noZ _ _ | exact noZ_err (by decide)
theorem find_noZ (p : Pl) (ss : List St) (i j : Int) : noZ (findR p ss i j) := by unfold findR tellK; (repeat' split) <;> first | exact along_noZ _ _ | exact noZ_err (by decide)
theorem scale_noZ (p : Pl) (ss : List St) : noZ (scaleR p ss) := by unfold scaleR scaleV; (repeat' split) <;> first | exact noZ_ok _ | exact noZ_err (by decide)
/-- Numbers of an answer are bounded. -/
def Bnd (M : Int) (r : Except Int Value) : Prop := ∀ v, r = .ok v → ∀ i, i < 4 → -M ≤ numB v i ∧ numB v i ≤ M
theorem bnd_err (M c : Int) : Bnd M (.error c) := fun v e => by cases e
theorem along_bnd {M : Int} {f : Bool → Scl → Int × Int} {xs : List Scl} (h : ∀ d, ∀ x ∈ xs, -M ≤ (f d x).1 ∧ (f d x).2 ≤ M) : Bnd M (alongR (kepL (f false) xs) (kepL (f true) xs)) := by
  have hk : ∀ d, (kepL (f d) xs).2.2 = true → (-M ≤ (kepL (f d) xs).1 ∧ (kepL (f d) xs).1 ≤ M) ∧ -M ≤ (kepL (f d) xs).2.1 ∧ (kepL (f d) xs).2.1 ≤ M := fun d ht => by
    obtain ⟨x, hx, hl, e1⟩ := (kepL_of (f d) xs).lo ht
    obtain ⟨y, hy, hm, e2⟩ := (kepL_of (f d) xs).hi ht
    have a := h d x hx
    have b := h d y hy
    omega
  intro v hv i hi
  unfold alongR at hv
  split at hv
  · rename_i h0
    split at hv
    · rename_i h1
      injection hv with hv
      subst hv
      have a := hk false h0
      have b := hk true h1
      have : i = 0 ∨ i = 1 ∨ i = 2 ∨ i = 3 := by omega
      rcases this with rfl | rfl | rfl | rfl
      · exact a.1
      · exact a.2
      · exact b.1
      · exact b.2
    · cases hv
  · cases hv
theorem zero_bnd {p : Pl} {ss : List St} (h : plB p ss = true → PlOk p ss) : Bnd 100000000 (zeroR p ss) := by
  unfold zeroR tellK
  split
  · rename_i hv
    repeat' split
    · exact bnd_err _ _
    · exact bnd_err _ _
    · exact along_bnd (f := fun d x => (x.lo d, x.hi d)) (xs := trA p ss) fun d x hx => by have a := (trL_ok (h hv) hx).lo d; have b := (trL_ok (h hv) hx).hi d; exact ⟨a.1, b.2⟩
  · exact bnd_err _ _
theorem star_bnd {p : Pl} {ss : List St} (h : plB p ss = true → PlOk p ss) (i : Int) : Bnd 200000000 (starR p ss i) := by
  unfold starR tellK
  split
  · rename_i hv
    split
    · rename_i hi
      repeat' split
      · exact bnd_err _ _
      · exact bnd_err _ _
      · refine along_bnd (f := fun d x => plS x.sc (x.lo d) (x.hi d) (ss.getD i.toNat default) d) (xs := trA p ss) fun d x hx => ?_
        have k := trL_ok (h hv) hx
        have hn := (h hv).nl
        have := pl_rng ((h hv).st i.toNat (by omega) d) (sc := x.sc) (by have := k.s0; omega) k.s1 (k.lo d) (k.hi d)
        exact ⟨by omega, by omega⟩
    · exact bnd_err _ _
  · exact bnd_err _ _
theorem plOk' {p : Pl} {ss : List St} (hn : ss.length = p.n) (hv : plB p ss = true) : PlOk p ss := by
  unfold plB at hv
  simp only [Bool.and_eq_true, decide_eq_true_eq, List.all_eq_true] at hv
  obtain ⟨⟨⟨⟨h1, h2⟩, h3⟩, h4⟩, h5⟩ := hv
  refine ⟨h1, h2, h3, h4, hn, fun i hi d => stOk (h5 _ ?_) d⟩
  have e : ss.getD i default = ss[i] := by simp [List.getD, hi]
  rw [e]; exact List.getElem_mem hi
/-- An answer that is farther on, in numbers. -/
theorem rep_shift {δ : Bool → Int} {M : Int} {r : Except Int Value} (h : isFour r) (hz : noZ r) (hb : Bnd M r) (hM : 0 ≤ M) : ∃ a b c d e a' b' c' d' : Int, repB r = .tuple #[.agg #[.int .i64 a, .int .i64 b], .agg #[.int .i64 c, .int .i64 d], .int .i64 e] ∧
    repB (shR δ r) = .tuple #[.agg #[.int .i64 a', .int .i64 b'], .agg #[.int .i64 c', .int .i64 d'], .int .i64 e] ∧ (e = 0 → a' = a + δ false ∧ b' = b + δ false ∧ c' = c + δ true ∧ d' = d + δ true) ∧
    ((-M ≤ a ∧ a ≤ M) ∧ (-M ≤ b ∧ b ≤ M) ∧ (-M ≤ c ∧ c ≤ M) ∧ (-M ≤ d ∧ d ≤ M)) := by
  cases r with
  | error c => exact ⟨0, 0, 0, 0, c, 0, 0, 0, 0, rfl, rfl, fun h => absurd h (hz c rfl), by omega⟩
  | ok v =>
    have hb := hb v rfl
    obtain ⟨a, b, c, d, rfl⟩ := h v rfl
    exact ⟨a, b, c, d, 0, a + δ false, b + δ false, c + δ true, d + δ true, rfl, rfl, fun _ => ⟨rfl, rfl, rfl, rfl⟩, hb 0 (by decide), hb 1 (by decide), hb 2 (by decide), hb 3 (by decide)⟩
section
variable {p p' : Pl} {ss : List St} {b t : Int}
/-- A plate whose known places are moved, and it before. -/
structure Mvd (p p' : Pl) (ss : List St) (b t : Int) : Prop where
  lo : p'.lo = p.lo
  hi : p'.hi = p.hi
  n : p'.n = p.n
  nl : ss.length = p.n
  v : plB p ss = true
  v' : plB p' (ss.map (movS b t)) = true
theorem Mvd.ok (h : Mvd p p' ss b t) : PlOk p ss := plOk' h.nl h.v
theorem Mvd.ok' (h : Mvd p p' ss b t) : PlOk p' (ss.map (movS b t)) := plOk' (by rw [List.length_map, h.nl, h.n]) h.v'
theorem Mvd.st (h : Mvd p p' ss b t) {i : Nat} (hi : i < p.n) (d : Bool) : StOk (movS b t (ss.getD i default)) d := by
  rw [← mov_get]; exact h.ok'.st i (by rw [List.length_map, h.nl]; exact hi) d
theorem mvd_corn (h : Mvd p p' ss b t) {set : Int} {i0 : Nat} (hi0 : i0 < p.n) (hk0 : (ss.getD i0 default).k = true) (hR0 : setI set i0 = true) (hsub : ∀ i, i < p.n → setI set i = true → (ss.getD i default).k = true)
    {sc : Int} (h1 : p.lo ≤ sc) (h2 : sc ≤ p.hi) (d : Bool) (c : Int) : CornC ss sc (setI set) p.n d c ↔ CornC (ss.map (movS b t)) sc (setI set) p.n d (c + dlt b t d) := by
  have ok := h.ok
  have hlo := ok.lo
  have hhi := ok.hi
  constructor
  · intro hc
    have hin : ∀ i, i < p.n → setI set i = true → (cbS sc (movS b t (ss.getD i default)) d).1 ≤ c + dlt b t d ∧ c + dlt b t d ≤ (cbS sc (movS b t (ss.getD i default)) d).2 := fun i hi hr => by
      have a := mov_cb (b := b) (t := t) (sc := sc) (hsub i hi hr) d
      have := hc.2 i hi hr
      omega
    have hn := near (h.st hi0 d) (by rw [mov_k]; exact hk0) (sc := sc) (by omega) (by omega)
    have := hin i0 hi0 hR0
    exact ⟨by omega, fun i hi hr => by rw [mov_get]; exact hin i hi hr⟩
  · intro hc
    have hin : ∀ i, i < p.n → setI set i = true → (cbS sc (ss.getD i default) d).1 ≤ c ∧ c ≤ (cbS sc (ss.getD i default) d).2 := fun i hi hr => by
      have a := mov_cb (b := b) (t := t) (sc := sc) (hsub i hi hr) d
      have := hc.2 i hi hr
      rw [mov_get] at this
      omega
    have hn := near (ok.st i0 (by rw [h.nl]; exact hi0) d) hk0 (sc := sc) (by omega) (by omega)
    have := hin i0 hi0 hR0
    exact ⟨by omega, hin⟩
theorem tr_same (e1 : p'.lo = p.lo) (e2 : p'.hi = p.hi) (e3 : p'.n = p.n) (ss : List St) (set : Int) : trL p' ss set = trL p ss set := by unfold trL; rw [e1, e2, e3]
theorem mvd_pair (h : Mvd p p' ss b t) (hk : knownTo ss p.n ≠ 0) : Pair (dlt b t) (trA p ss) (trA p' (ss.map (movS b t))) := by
  have ok := h.ok
  have h12 : p.n ≤ 12 := by have := ok.n10; omega
  obtain ⟨i0, hi0, hk0⟩ := known_some h12 hk
  unfold trA
  rw [mov_known, h.n]
  refine pair_of ok.lo ok.hi h.lo h.hi h.n fun sc h1 h2 d c => ?_
  exact mvd_corn h hi0 hk0 (by rw [known_bit ss h12 hi0]; exact hk0) (fun i hi hr => by rw [known_bit ss h12 hi] at hr; exact hr) h1 h2 d c
/-- Where the corner is, if a star is known. -/
theorem tr_near {p : Pl} {ss : List St} (ok : PlOk p ss) (hk : knownTo ss p.n ≠ 0) {x : Scl} (hx : x ∈ trA p ss) (d : Bool) : -1081344 ≤ x.lo d ∧ x.hi d ≤ 1048576 ∧ x.lo d ≤ x.hi d := by
  have h12 : p.n ≤ 12 := by have := ok.n10; omega
  obtain ⟨i0, hi0, hk0⟩ := known_some h12 hk
  obtain ⟨⟨h1, h2⟩, h3, h4⟩ := trL_of hx
  have hlo := ok.lo
  have hhi := ok.hi
  have hl : x.lo d = (corS ss x.sc (setI (knownTo ss p.n)) d p.n).1 := by rw [← h4 d]
  have hh : x.hi d = (corS ss x.sc (setI (knownTo ss p.n)) d p.n).2 := by rw [← h4 d]
  have hle : x.lo d ≤ x.hi d := by
    unfold corB at h3
    simp only [Bool.and_eq_true, decide_eq_true_eq] at h3
    cases d
    · omega
    · omega
  have a := cor_iff.1 (show _ ∧ x.lo d ≤ _ from ⟨by rw [hl]; exact Int.le_refl _, by rw [← hh]; exact hle⟩)
  have b := cor_iff.1 (show _ ≤ x.hi d ∧ _ from ⟨by rw [← hl]; exact hle, by rw [hh]; exact Int.le_refl _⟩)
  have hR0 : setI (knownTo ss p.n) i0 = true := by rw [known_bit ss h12 hi0]; exact hk0
  have c := corn_near a hi0 hR0 (ok.st i0 (by rw [ok.nl]; exact hi0) d) hk0 (by omega) (by omega)
  have e := corn_near b hi0 hR0 (ok.st i0 (by rw [ok.nl]; exact hi0) d) hk0 (by omega) (by omega)
  omega
theorem mvd_pl (h : Mvd p p' ss b t) (hk : knownTo ss p.n ≠ 0) {x y : Scl} (hx : x ∈ trA p ss) (hy : y ∈ trA p' (ss.map (movS b t))) (e : y.sc = x.sc) (hs : ∀ d, y.lo d = x.lo d + dlt b t d ∧ y.hi d = x.hi d + dlt b t d) {i : Nat} (hi : i < p.n) (d : Bool) :
    (plS y.sc (y.lo d) (y.hi d) (movS b t (ss.getD i default)) d).1 = (plS x.sc (x.lo d) (x.hi d) (ss.getD i default) d).1 + dlt b t d ∧ (plS y.sc (y.lo d) (y.hi d) (movS b t (ss.getD i default)) d).2 = (plS x.sc (x.lo d) (x.hi d) (ss.getD i default) d).2 + dlt b t d := by
  have ok := h.ok
  have n1 := tr_near ok hk hx d
  have n2 := tr_near h.ok' (by rw [h.n, mov_known]; exact hk) hy d
  have k := trL_ok ok hx
  have hb := bey_rng (ok.st i (by rw [ok.nl]; exact hi) d) (sc := x.sc) (by have := k.s0; omega) k.s1
  obtain ⟨s1, s2⟩ := hs d
  unfold plS
  rw [e, mov_bey, s1, s2]
  unfold saidS
  rw [mov_k]
  generalize ss.getD i default = s at *
  generalize beyS x.sc s d = z at *
  cases hsk : s.k
  · simp only [Bool.false_eq_true, if_false]
    omega
  · rw [mov_sky hsk]
    simp only [if_true]
    omega
theorem mvd_scale (h : Mvd p p' ss b t) : scaleR p' (ss.map (movS b t)) = scaleR p ss := by
  unfold scaleR
  rw [h.v, h.v', if_pos rfl, if_pos rfl]
  by_cases hk : knownTo ss p.n = 0
  · have e : ss.map (movS b t) = ss := mov_none (by rw [h.nl]; exact hk) (by have := h.ok.n10; have := h.nl; omega)
    have e2 : trA p' ss = trA p ss := by unfold trA; rw [h.n]; exact tr_same h.lo h.hi h.n ss _
    rw [e, e2]
  · have hp := mvd_pair h hk
    have e : kepL (scaleF false) (trA p' (ss.map (movS b t))) = kepL (scaleF false) (trA p ss) := kep_same
      (fun x hx _ => by obtain ⟨y, hy, e, _⟩ := hp.fwd x hx; exact ⟨y, hy, by unfold scaleF; rw [e]⟩)
      (fun y hy _ => by obtain ⟨x, hx, e, _⟩ := hp.bwd y hy; exact ⟨x, hx, by unfold scaleF; rw [e]⟩)
    rw [e]
    by_cases hn : trA p ss = []
    · rw [if_pos hn, if_pos ((pair_nil hp).1 hn)]
    · rw [if_neg hn, if_neg (fun hn' => hn ((pair_nil hp).2 hn'))]
/-- What is asked of all truths is farther on. -/
theorem mvd_tellK (h : Mvd p p' ss b t) {f g : Bool → Scl → Int × Int} {δ : Bool → Int}
    (hfg : knownTo ss p.n ≠ 0 → ∀ d, ∀ x ∈ trA p ss, ∀ y ∈ trA p' (ss.map (movS b t)), y.sc = x.sc → (∀ d, y.lo d = x.lo d + dlt b t d ∧ y.hi d = x.hi d + dlt b t d) → (g d y).1 = (f d x).1 + δ d ∧ (g d y).2 = (f d x).2 + δ d) :
    tellK p' (ss.map (movS b t)) g = shR δ (tellK p ss f) := by
  unfold tellK
  rw [mov_known, h.n]
  by_cases hk : knownTo ss p.n = 0
  · have e : ss.map (movS b t) = ss := mov_none (by rw [h.nl]; exact hk) (by have := h.ok.n10; have := h.nl; omega)
    have e2 : trA p' ss = trA p ss := by unfold trA; rw [h.n]; exact tr_same h.lo h.hi h.n ss _
    rw [e, e2]
    by_cases hn : trA p ss = []
    · rw [if_pos hn, if_pos hn]; rfl
    · rw [if_neg hn, if_neg hn, if_pos hk, if_pos hk]; rfl
  · have hp := mvd_pair h hk
    by_cases hn : trA p ss = []
    · rw [if_pos hn, if_pos ((pair_nil hp).1 hn)]; rfl
    · rw [if_neg hn, if_neg (fun hn' => hn ((pair_nil hp).2 hn')), if_neg hk, if_neg hk]
      exact along_shift (fun d x hx _ => by obtain ⟨y, hy, e, s⟩ := hp.fwd x hx; exact ⟨y, hy, hfg hk d x hx y hy e s⟩)
        (fun d y hy _ => by obtain ⟨x, hx, e, s⟩ := hp.bwd y hy; exact ⟨x, hx, hfg hk d x hx y hy e s⟩)
theorem shR_zero {r : Except Int Value} (h : isFour r) : shR (fun _ => 0) r = r := by
  cases r with
  | error c => rfl
  | ok v =>
    obtain ⟨a, b, c, d, rfl⟩ := h v rfl
    show Except.ok (Value.agg #[.int .i64 (a + 0), .int .i64 (b + 0), .int .i64 (c + 0), .int .i64 (d + 0)]) = _
    rw [Int.add_zero, Int.add_zero, Int.add_zero, Int.add_zero]
theorem mvd_zero (h : Mvd p p' ss b t) : zeroR p' (ss.map (movS b t)) = shR (dlt b t) (zeroR p ss) := by
  unfold zeroR
  rw [h.v, h.v', if_pos rfl, if_pos rfl]
  exact mvd_tellK h fun _ d x _ y _ _ s => s d
theorem mvd_star (h : Mvd p p' ss b t) (i : Int) : starR p' (ss.map (movS b t)) i = shR (dlt b t) (starR p ss i) := by
  unfold starR
  rw [h.v, h.v', if_pos rfl, if_pos rfl, h.n]
  by_cases hi : 0 ≤ i ∧ i < p.n
  · rw [if_pos hi, if_pos hi]
    refine mvd_tellK h fun hk d x hx y hy e s => ?_
    rw [mov_get]
    exact mvd_pl h hk hx hy e s (by omega) d
  · rw [if_neg hi, if_neg hi]; rfl
theorem mvd_apart (h : Mvd p p' ss b t) (i j : Int) : apartR p' (ss.map (movS b t)) i j = apartR p ss i j := by
  unfold apartR
  rw [h.v, h.v', if_pos rfl, if_pos rfl, h.n]
  by_cases hi : 0 ≤ i ∧ i < p.n
  · rw [if_pos hi, if_pos hi]
    by_cases hj : 0 ≤ j ∧ j < p.n
    · rw [if_pos hj, if_pos hj]
      unfold tellR
      by_cases hk : knownTo ss p.n = 0
      · have e : ss.map (movS b t) = ss := mov_none (by rw [h.nl]; exact hk) (by have := h.ok.n10; have := h.nl; omega)
        have e2 : trA p' ss = trA p ss := by unfold trA; rw [h.n]; exact tr_same h.lo h.hi h.n ss _
        rw [e, e2]
      · have hp := mvd_pair h hk
        have hf : ∀ d, ∀ x ∈ trA p ss, ∀ y ∈ trA p' (ss.map (movS b t)), y.sc = x.sc → (∀ d, y.lo d = x.lo d + dlt b t d ∧ y.hi d = x.hi d + dlt b t d) → apartF (ss.map (movS b t)) i.toNat j.toNat d y = apartF ss i.toNat j.toNat d x := fun d x hx y hy e s => by
          unfold apartF
          split
          · rfl
          · have a := mvd_pl h hk hx hy e s (i := i.toNat) (by omega) d
            have c := mvd_pl h hk hx hy e s (i := j.toNat) (by omega) d
            unfold apS
            rw [mov_get, mov_get, a.1, a.2, c.1, c.2, mov_bey, mov_bey, e]
            refine Prod.ext ?_ ?_ <;> dsimp only <;> omega
        by_cases hn : trA p ss = []
        · rw [if_pos hn, if_pos ((pair_nil hp).1 hn)]
        · rw [if_neg hn, if_neg (fun hn' => hn ((pair_nil hp).2 hn'))]
          exact along_same (fun d x hx _ => by obtain ⟨y, hy, e, s⟩ := hp.fwd x hx; exact ⟨y, hy, hf d x hx y hy e s⟩)
            (fun d y hy _ => by obtain ⟨x, hx, e, s⟩ := hp.bwd y hy; exact ⟨x, hx, hf d x hx y hy e s⟩)
    · rw [if_neg hj, if_neg hj]
  · rw [if_neg hi, if_neg hi]
theorem mvd_find (h : Mvd p p' ss b t) {e n : Int} (h1 : (skyB e e && skyB n n) = true) (h2 : (skyB (e + b) (e + b) && skyB (n + t) (n + t)) = true) : findR p' (ss.map (movS b t)) (e + b) (n + t) = findR p ss e n := by
  have hz : findR p' (ss.map (movS b t)) (e + b) (n + t) = shR (fun _ => 0) (findR p ss e n) := by
    unfold findR
    rw [h.v, h.v', if_pos rfl, if_pos rfl, h1, h2, if_pos rfl, if_pos rfl]
    refine mvd_tellK h fun hk d x hx y hy e s => ?_
    obtain ⟨s1, s2⟩ := s d
    unfold fiS
    rw [e, s1, s2]
    unfold soughtS dlt St.sky St.on
    cases d
    · simp only [Bool.false_eq_true, if_false]
      rw [show ∀ a b c : Int, a + b - (c + b) = a - c from fun a b c => by omega, show ∀ a b c : Int, a + b - (c + b) = a - c from fun a b c => by omega]
      omega
    · simp only [if_true]
      rw [show ∀ a b c : Int, a + b - (c + b) = a - c from fun a b c => by omega, show ∀ a b c : Int, a + b - (c + b) = a - c from fun a b c => by omega]
      omega
  rw [hz, shR_zero (find_four p ss e n)]
theorem sub_lt {v : Nat} {ss : List St} {n : Nat} (hn : n ≤ 12) (h : Sub v (knownTo ss n)) {i : Nat} (hi : v.testBit i = true) (h12 : i < 12) : i < n ∧ (ss.getD i default).k = true := by
  obtain ⟨a, e, h1, h2⟩ := known_nat ss n hn
  have hp : 2 ^ n ≤ 4096 := (by decide +kernel : ∀ k : Fin 13, 2 ^ k.val ≤ 4096) ⟨n, by omega⟩
  have := h i hi
  rw [e, bit_nat (by omega) h12, h2, Bool.and_eq_true, decide_eq_true_eq] at this
  exact this
theorem mvd_can (h : Mvd p p' ss b t) {v : Nat} (hv : v < 1024) (hs : Sub v (knownTo ss p.n)) : canR p' (ss.map (movS b t)) (v : Int) = canR p ss (v : Int) := by
  have ok := h.ok
  have h12 : p.n ≤ 12 := by have := ok.n10; omega
  have hb : ∀ i, i < p.n → setI (v : Int) i = v.testBit i := fun i hi => bit_nat (by omega) (by omega)
  by_cases hx : ∃ i, i < p.n ∧ setI (v : Int) i = true
  · obtain ⟨i0, hi0, hr0⟩ := hx
    have hk : ∀ i, i < p.n → setI (v : Int) i = true → (ss.getD i default).k = true := fun i hi hr => (sub_lt h12 hs (by rw [← hb i hi]; exact hr) (by omega)).2
    exact can_shift ok.lo ok.hi h.lo h.hi h.n fun sc h1 h2 d c => mvd_corn h hi0 (hk i0 hi0 hr0) hr0 hk h1 h2 d c
  · refine can_shift (δ := fun _ => 0) ok.lo ok.hi h.lo h.hi h.n fun sc h1 h2 d c => ?_
    unfold CornC
    rw [Int.add_zero]
    exact ⟨fun k => ⟨k.1, fun i hi hr => absurd ⟨i, hi, hr⟩ hx⟩, fun k => ⟨k.1, fun i hi hr => absurd ⟨i, hi, hr⟩ hx⟩⟩
theorem known_sub {ss : List St} {n a : Nat} (h12 : n ≤ 12) (e : knownTo ss n = (a : Int)) : Sub a (knownTo ss n) ∧ a < 2 ^ n := by
  obtain ⟨a', e', h1, h2⟩ := known_nat ss n h12
  obtain rfl : a' = a := by omega
  have hp : 2 ^ n ≤ 4096 := (by decide +kernel : ∀ k : Fin 13, 2 ^ k.val ≤ 4096) ⟨n, by omega⟩
  refine ⟨fun i hi => ?_, h1⟩
  have hi2 := hi
  rw [h2, Bool.and_eq_true, decide_eq_true_eq] at hi2
  rw [e, bit_nat (by omega) (by omega)]; exact hi
theorem mvd_clash (h : Mvd p p' ss b t) : clashR p' (ss.map (movS b t)) = clashR p ss := by
  have ok := h.ok
  have h12 : p.n ≤ 12 := by have := ok.n10; omega
  obtain ⟨a, e, _, _⟩ := known_nat ss p.n h12
  obtain ⟨hsub, halt⟩ := known_sub h12 e
  have h10 : 2 ^ p.n ≤ 1024 := (by decide +kernel : ∀ k : Fin 11, 2 ^ k.val ≤ 1024) ⟨p.n, by have := ok.n10; omega⟩
  unfold clashR
  rw [h.v, h.v', if_pos rfl, if_pos rfl, mov_known, h.n]
  have hc := fun v hv hs => mvd_can h (v := v) hv hs
  rw [e] at hc hsub ⊢
  rw [hc a (by omega) hsub, few_same (ask := clashF p ss) (ask' := clashF p' (ss.map (movS b t))) (by omega) fun v hv hs => by unfold clashF; rw [hc v hv hs]]
/-- What is found of a place that is moved: the place is none, or the same is found, or the moved place is none. -/
theorem find_facts (h : Mvd p p' ss b t) (e n : Int) {f0 f1 f2 f3 ef : Int} (hf : repB (findR p ss e n) = .tuple #[.agg #[.int .i64 f0, .int .i64 f1], .agg #[.int .i64 f2, .int .i64 f3], .int .i64 ef]) :
    ef = 2 ∨ ((-1048576 ≤ e ∧ e ≤ 1048576) ∧ (-1048576 ≤ n ∧ n ≤ 1048576) ∧ ∃ a b' c d eg, repB (findR p' (ss.map (movS b t)) (e + b) (n + t)) = .tuple #[.agg #[.int .i64 a, .int .i64 b'], .agg #[.int .i64 c, .int .i64 d], .int .i64 eg] ∧ (eg = 2 ∨ (a = f0 ∧ b' = f1 ∧ c = f2 ∧ d = f3 ∧ eg = ef))) := by
  have hz : ∀ {q : Pl} {xs : List St} {e n : Int}, plB q xs = true → (skyB e e && skyB n n) = false → findR q xs e n = .error 2 := fun hv hs => by unfold findR; rw [if_pos hv, hs]; rfl
  cases h1 : (skyB e e && skyB n n)
  · left
    rw [hz h.v h1] at hf
    have hf : Value.tuple #[.agg #[.int .i64 0, .int .i64 0], .agg #[.int .i64 0, .int .i64 0], .int .i64 2] = _ := hf
    simp at hf
    omega
  · right
    have h1' := h1
    unfold skyB at h1'
    simp only [Bool.and_eq_true, decide_eq_true_eq] at h1'
    refine ⟨by omega, by omega, ?_⟩
    cases h2 : (skyB (e + b) (e + b) && skyB (n + t) (n + t))
    · exact ⟨0, 0, 0, 0, 2, by rw [hz h.v' h2]; rfl, .inl rfl⟩
    · exact ⟨f0, f1, f2, f3, ef, by rw [mvd_find h h1 h2]; exact hf, .inr ⟨rfl, rfl, rfl, rfl, rfl⟩⟩
end
end Go.Proofs.Ytdkegkacpdkjgaa

namespace Go.Proofs.Ytdkegkacpdkjgaa
open Go.RowKit Go.Maps

section
variable {p z : Pl} {ss zs : List St}
/-- The second plate knows more than the first one. -/
structure Inc (p z : Pl) (ss zs : List St) : Prop where
  lo : p.lo ≤ z.lo
  hi : z.hi ≤ p.hi
  n : z.n = p.n
  nl : ss.length = p.n
  nl' : zs.length = p.n
  v : plB p ss = true
  v' : plB z zs = true
  on : ∀ i, i < p.n → ∀ d, ((ss.getD i default).on d).1 ≤ ((zs.getD i default).on d).1 ∧ ((zs.getD i default).on d).2 ≤ ((ss.getD i default).on d).2
  k : ∀ i, i < p.n → (ss.getD i default).k = true → (zs.getD i default).k = true
  sky : ∀ i, i < p.n → (ss.getD i default).k = true → ∀ d, ((ss.getD i default).sky d).1 ≤ ((zs.getD i default).sky d).1 ∧ ((zs.getD i default).sky d).2 ≤ ((ss.getD i default).sky d).2
theorem Inc.ok (h : Inc p z ss zs) : PlOk p ss := plOk' h.nl h.v
theorem Inc.ok' (h : Inc p z ss zs) : PlOk z zs := plOk' (by rw [h.nl', h.n]) h.v'
theorem Inc.h12 (h : Inc p z ss zs) : p.n ≤ 12 := by have := h.ok.n10; omega
theorem inc_bey (h : Inc p z ss zs) {i : Nat} (hi : i < p.n) (d : Bool) {sc : Int} (h0 : 0 ≤ sc) : (beyS sc (ss.getD i default) d).1 ≤ (beyS sc (zs.getD i default) d).1 ∧ (beyS sc (zs.getD i default) d).2 ≤ (beyS sc (ss.getD i default) d).2 := by
  obtain ⟨a, b⟩ := h.on i hi d
  have a' := Int.mul_le_mul_of_nonneg_left a h0
  have b' := Int.mul_le_mul_of_nonneg_left b h0
  unfold beyS
  dsimp only
  omega
theorem inc_said (h : Inc p z ss zs) {i : Nat} (hi : i < p.n) (d : Bool) : (saidS (ss.getD i default) d).1 ≤ (saidS (zs.getD i default) d).1 ∧ (saidS (zs.getD i default) d).2 ≤ (saidS (ss.getD i default) d).2 := by
  have a := said_rng (h.ok'.st i (by rw [h.nl']; exact hi) d)
  have hk := h.k i hi
  have hs := h.sky i hi
  generalize ss.getD i default = s at *
  generalize zs.getD i default = s' at *
  cases hsk : s.k
  · have e : saidS s d = (-67108864, 67108864) := by unfold saidS; rw [hsk]; rfl
    rw [e]; exact ⟨a.1, a.2.2⟩
  · have e : saidS s d = s.sky d := by unfold saidS; rw [hsk]; rfl
    have e' : saidS s' d = s'.sky d := by unfold saidS; rw [hk hsk]; rfl
    rw [e, e']; exact hs hsk d
theorem inc_corn (h : Inc p z ss zs) {S S' : Int} (hS : ∀ i, i < p.n → setI S i = true → setI S' i = true) {sc : Int} (h0 : 0 ≤ sc) {d : Bool} {c : Int} (hc : CornC zs sc (setI S') p.n d c) : CornC ss sc (setI S) p.n d c := by
  refine ⟨hc.1, fun i hi hr => ?_⟩
  have a := hc.2 i hi (hS i hi hr)
  have b := inc_bey h hi d h0
  have e := inc_said h hi d
  unfold cbS at *
  dsimp only at *
  omega
theorem inc_known (h : Inc p z ss zs) {i : Nat} (hi : i < p.n) (hr : setI (knownTo ss p.n) i = true) : setI (knownTo zs z.n) i = true := by
  have h12 := h.h12
  rw [h.n]
  rw [known_bit ss h12 hi] at hr
  rw [known_bit zs h12 hi]; exact h.k i hi hr
theorem inc_tr (h : Inc p z ss zs) {y : Scl} (hy : y ∈ trA z zs) : ∃ x ∈ trA p ss, x.sc = y.sc ∧ ∀ d, (x.lo d ≤ y.lo d ∧ y.hi d ≤ x.hi d) ∧ y.lo d ≤ y.hi d := by
  obtain ⟨⟨h1, h2⟩, h3, h4⟩ := trL_of hy
  have ok := h.ok
  have hlo := h.lo
  have hhi := h.hi
  have k0 := ok.lo
  have k1 := ok.hi
  rw [h.n] at h3 h4
  have hin : ∀ d c, CornC zs y.sc (setI (knownTo zs p.n)) p.n d c → CornC ss y.sc (setI (knownTo ss p.n)) p.n d c := fun d c hc => inc_corn h (fun i hi hr => by have := inc_known h hi hr; rwa [h.n] at this) (by omega) hc
  have hB : corB ss y.sc (setI (knownTo ss p.n)) p.n = true := by
    rw [corB_iff] at h3 ⊢
    intro d
    obtain ⟨c, hc⟩ := h3 d
    exact ⟨c, hin d c hc⟩
  obtain ⟨x, hx, x1, x2⟩ := trL_mk (p := p) (ss := ss) (set := knownTo ss p.n) k0 k1 (sc := y.sc) (by omega) (by omega) hB
  refine ⟨x, hx, x1, fun d => ?_⟩
  have a : y.lo d = (corS zs y.sc (setI (knownTo zs p.n)) d p.n).1 ∧ y.hi d = (corS zs y.sc (setI (knownTo zs p.n)) d p.n).2 := by rw [← h4 d]; exact ⟨rfl, rfl⟩
  have b : x.lo d = (corS ss y.sc (setI (knownTo ss p.n)) d p.n).1 ∧ x.hi d = (corS ss y.sc (setI (knownTo ss p.n)) d p.n).2 := by rw [← x2 d]; exact ⟨rfl, rfl⟩
  have hne := corB_ne h3 d
  have c1 := cor_iff.2 (hin d _ (cor_iff.1 ⟨Int.le_refl _, hne⟩))
  have c2 := cor_iff.2 (hin d _ (cor_iff.1 ⟨hne, Int.le_refl _⟩))
  omega
/-- Where the corner is, is within what each star allows. -/
structure TrOk (p : Pl) (ss : List St) (x : Scl) (d : Bool) : Prop where
  s0 : 1 ≤ x.sc
  s1 : x.sc ≤ 1000
  le : x.lo d ≤ x.hi d
  cb : ∀ i, i < p.n → (ss.getD i default).k = true → (cbS x.sc (ss.getD i default) d).1 ≤ x.lo d ∧ x.hi d ≤ (cbS x.sc (ss.getD i default) d).2
  far : (-1081344 ≤ x.lo d ∧ x.hi d ≤ 1048576) ∨ (x.lo d = -67108864 ∧ x.hi d = 67108864 ∧ ∀ i, i < p.n → (ss.getD i default).k = false)
theorem tr_ok {p : Pl} {ss : List St} (ok : PlOk p ss) {x : Scl} (hx : x ∈ trA p ss) (d : Bool) : TrOk p ss x d := by
  have h12 : p.n ≤ 12 := by have := ok.n10; omega
  have k := trL_ok ok hx
  obtain ⟨⟨h1, h2⟩, h3, h4⟩ := trL_of hx
  have a : x.lo d = (corS ss x.sc (setI (knownTo ss p.n)) d p.n).1 ∧ x.hi d = (corS ss x.sc (setI (knownTo ss p.n)) d p.n).2 := by rw [← h4 d]; exact ⟨rfl, rfl⟩
  have hne := corB_ne h3 d
  have c1 := cor_iff.1 (show _ ∧ _ from ⟨Int.le_refl (corS ss x.sc (setI (knownTo ss p.n)) d p.n).1, hne⟩)
  have c2 := cor_iff.1 (show _ ∧ _ from ⟨hne, Int.le_refl (corS ss x.sc (setI (knownTo ss p.n)) d p.n).2⟩)
  rw [← a.1] at c1
  rw [← a.2] at c2
  refine ⟨k.s0, k.s1, by omega, fun i hi hk => ?_, ?_⟩
  · have hr : setI (knownTo ss p.n) i = true := by rw [known_bit ss h12 hi]; exact hk
    exact ⟨(c1.2 i hi hr).1, (c2.2 i hi hr).2⟩
  · by_cases hk : knownTo ss p.n = 0
    · right
      have hn := (known_none h12).1 hk
      have hc : ∀ c, CornC ss x.sc (setI (knownTo ss p.n)) p.n d c ↔ -67108864 ≤ c ∧ c ≤ 67108864 := fun c =>
        ⟨fun h => h.1, fun h => ⟨h, fun i hi hr => by rw [known_bit ss h12 hi, hn i hi] at hr; cases hr⟩⟩
      have e1 := cor_iff.2 ((hc (-67108864)).2 (by omega))
      have e2 := cor_iff.2 ((hc 67108864).2 (by omega))
      exact ⟨by omega, by omega, hn⟩
    · left
      have := tr_near ok hk hx d
      exact ⟨this.1, this.2.1⟩
/-- A star is somewhere. -/
theorem pl_ne {p : Pl} {ss : List St} (ok : PlOk p ss) {x : Scl} (hx : x ∈ trA p ss) {i : Nat} (hi : i < p.n) (d : Bool) : (plS x.sc (x.lo d) (x.hi d) (ss.getD i default) d).1 ≤ (plS x.sc (x.lo d) (x.hi d) (ss.getD i default) d).2 := by
  have t := tr_ok ok hx d
  have hs := ok.st i (by rw [ok.nl]; exact hi) d
  have s0 := t.s0
  have b := bey_rng hs (sc := x.sc) (by omega) t.s1
  have sd := said_rng hs
  have le := t.le
  have cb := t.cb i hi
  have far := t.far
  unfold plS
  dsimp only
  cases hk : (ss.getD i default).k
  · have e : saidS (ss.getD i default) d = (-67108864, 67108864) := by unfold saidS; rw [hk]; rfl
    rw [e]
    dsimp only
    rcases far with f | f <;> omega
  · have := cb hk
    unfold cbS at this
    dsimp only at this
    omega
/-- Two stars are apart by something. -/
theorem ap_ne {p : Pl} {ss : List St} (ok : PlOk p ss) {x : Scl} (hx : x ∈ trA p ss) {i j : Nat} (hi : i < p.n) (hj : j < p.n) (d : Bool) : (apartF ss i j d x).1 ≤ (apartF ss i j d x).2 := by
  unfold apartF
  split
  · exact Int.le_refl _
  have t := tr_ok ok hx d
  have s0 := t.s0
  have bi := bey_rng (ok.st i (by rw [ok.nl]; exact hi) d) (sc := x.sc) (by omega) t.s1
  have bj := bey_rng (ok.st j (by rw [ok.nl]; exact hj) d) (sc := x.sc) (by omega) t.s1
  have si := said_rng (ok.st i (by rw [ok.nl]; exact hi) d)
  have sj := said_rng (ok.st j (by rw [ok.nl]; exact hj) d)
  have pi := pl_ne ok hx hi d
  have pj := pl_ne ok hx hj d
  have le := t.le
  have hci : (saidS (ss.getD i default) d).1 - (beyS x.sc (ss.getD i default) d).2 ≤ x.lo d ∧ x.hi d ≤ (saidS (ss.getD i default) d).2 - (beyS x.sc (ss.getD i default) d).1 ∨ (saidS (ss.getD i default) d = (-67108864, 67108864)) := by
    cases hk : (ss.getD i default).k
    · right; unfold saidS; rw [hk]; rfl
    · left; have := t.cb i hi hk; unfold cbS at this; exact this
  have hcj : (saidS (ss.getD j default) d).1 - (beyS x.sc (ss.getD j default) d).2 ≤ x.lo d ∧ x.hi d ≤ (saidS (ss.getD j default) d).2 - (beyS x.sc (ss.getD j default) d).1 ∨ (saidS (ss.getD j default) d = (-67108864, 67108864)) := by
    cases hk : (ss.getD j default).k
    · right; unfold saidS; rw [hk]; rfl
    · left; have := t.cb j hj hk; unfold cbS at this; exact this
  have far : (-1081344 ≤ x.lo d ∧ x.hi d ≤ 1048576) ∨ (x.lo d = -67108864 ∧ x.hi d = 67108864) := by
    rcases t.far with f | f
    · exact .inl f
    · exact .inr ⟨f.1, f.2.1⟩
  unfold apS plS at *
  dsimp only at *
  generalize beyS x.sc (ss.getD i default) d = B1 at *
  generalize beyS x.sc (ss.getD j default) d = B2 at *
  generalize saidS (ss.getD i default) d = S1 at *
  generalize saidS (ss.getD j default) d = S2 at *
  obtain ⟨b1, b2⟩ := B1
  obtain ⟨b3, b4⟩ := B2
  obtain ⟨s1, s2⟩ := S1
  obtain ⟨s3, s4⟩ := S2
  simp only [Prod.mk.injEq] at *
  generalize x.lo d = l at *
  generalize x.hi d = m at *
  clear t hx
  rcases far with f | f <;> rcases hci with c | c <;> rcases hcj with e | e <;> omega
theorem inc_pl (h : Inc p z ss zs) {x y : Scl} (e : x.sc = y.sc) (h0 : 0 ≤ y.sc) {d : Bool} (hd : x.lo d ≤ y.lo d ∧ y.hi d ≤ x.hi d) {i : Nat} (hi : i < p.n) :
    (plS x.sc (x.lo d) (x.hi d) (ss.getD i default) d).1 ≤ (plS y.sc (y.lo d) (y.hi d) (zs.getD i default) d).1 ∧ (plS y.sc (y.lo d) (y.hi d) (zs.getD i default) d).2 ≤ (plS x.sc (x.lo d) (x.hi d) (ss.getD i default) d).2 := by
  have b := inc_bey h hi d h0
  have s := inc_said h hi d
  unfold plS
  rw [e]
  dsimp only
  omega
theorem inc_ap (h : Inc p z ss zs) {x y : Scl} (e : x.sc = y.sc) (h0 : 0 ≤ y.sc) {d : Bool} (hd : x.lo d ≤ y.lo d ∧ y.hi d ≤ x.hi d) {i j : Nat} (hi : i < p.n) (hj : j < p.n) : (apartF ss i j d x).1 ≤ (apartF zs i j d y).1 ∧ (apartF zs i j d y).2 ≤ (apartF ss i j d x).2 := by
  unfold apartF
  by_cases hij : i = j
  · rw [if_pos hij, if_pos hij]; exact ⟨Int.le_refl _, Int.le_refl _⟩
  · rw [if_neg hij, if_neg hij]
    have a := inc_pl h e h0 hd hi
    have b := inc_pl h e h0 hd hj
    have c := inc_bey h hi d h0
    have f := inc_bey h hj d h0
    unfold apS
    dsimp only
    rw [e] at *
    omega
/-- An answer, and a narrower one. -/
def Narrow (r r' : Except Int Value) : Prop := ∀ v, r = .ok v → ∃ v', r' = .ok v' ∧ (numB v 0 ≤ numB v' 0 ∧ numB v' 1 ≤ numB v 1) ∧ numB v 2 ≤ numB v' 2 ∧ numB v' 3 ≤ numB v 3
theorem narrow_err (c : Int) (r' : Except Int Value) : Narrow (.error c) r' := fun v h => by cases h
theorem along_narrow {f g : Bool → Scl → Int × Int} {xs ys : List Scl} (hne : ys ≠ []) (hg : ∀ d, ∀ y ∈ ys, (g d y).1 ≤ (g d y).2) (h : ∀ d, ∀ y ∈ ys, ∃ x ∈ xs, (f d x).1 ≤ (g d y).1 ∧ (g d y).2 ≤ (f d x).2) :
    Narrow (alongR (kepL (f false) xs) (kepL (f true) xs)) (alongR (kepL (g false) ys) (kepL (g true) ys)) := by
  have ht : ∀ d, (kepL (g d) ys).2.2 = true := fun d => by
    cases ys with
    | nil => exact absurd rfl hne
    | cons y ys => exact ((kepL_of (g d) (y :: ys)).all y List.mem_cons_self (hg d y List.mem_cons_self)).1
  have k := fun d => kep_in (f := g d) (g := f d) (fun y hy _ => h d y hy) (ht d)
  intro v hv
  unfold alongR at hv ⊢
  rw [if_pos (k false).1, if_pos (k true).1] at hv
  rw [if_pos (ht false), if_pos (ht true)]
  injection hv with hv
  subst hv
  exact ⟨_, rfl, ⟨(k false).2.1, (k false).2.2⟩, (k true).2.1, (k true).2.2⟩
theorem inc_nil (h : Inc p z ss zs) (hz : trA z zs ≠ []) : trA p ss ≠ [] := by
  intro he
  cases hx : trA z zs with
  | nil => exact hz hx
  | cons y ys =>
    obtain ⟨x, hx', _⟩ := inc_tr h (y := y) (by rw [hx]; exact List.mem_cons_self)
    rw [he] at hx'; cases hx'
theorem inc_doubt (h : Inc p z ss zs) (hk : knownTo ss p.n ≠ 0) : knownTo zs z.n ≠ 0 := by
  obtain ⟨i, hi, k⟩ := known_some h.h12 hk
  intro hz
  rw [h.n] at hz
  have := (known_none h.h12).1 hz i hi
  rw [h.k i hi k] at this; cases this
/-- What the scale answers: an error, or a span. -/
theorem scale_cases {p : Pl} {ss : List St} (hv : plB p ss = true) : (trA p ss = [] ∧ scaleR p ss = .error 10) ∨ (trA p ss ≠ [] ∧ ∃ a b, scaleR p ss = .ok (.agg #[.int .i64 a, .int .i64 b]) ∧ (kepL (scaleF false) (trA p ss)) = (a, b, true)) := by
  unfold scaleR
  rw [if_pos hv]
  by_cases hn : trA p ss = []
  · rw [if_pos hn]; exact .inl ⟨hn, rfl⟩
  · rw [if_neg hn]
    right
    refine ⟨hn, ?_⟩
    have ht : (kepL (scaleF false) (trA p ss)).2.2 = true := by
      cases hx : trA p ss with
      | nil => exact absurd hx hn
      | cons y ys => exact ((kepL_of (scaleF false) (y :: ys)).all y List.mem_cons_self (Int.le_refl _)).1
    generalize kepL (scaleF false) (trA p ss) = k at *
    obtain ⟨a, b, t⟩ := k
    dsimp only at ht
    subst ht
    exact ⟨a, b, rfl, rfl⟩
theorem inc_scale (h : Inc p z ss zs) {a b a' b' : Int} (h1 : kepL (scaleF false) (trA p ss) = (a, b, true)) (h2 : kepL (scaleF false) (trA z zs) = (a', b', true)) : a ≤ a' ∧ b' ≤ b := by
  have k := kep_in (f := scaleF false) (g := scaleF false) (xs := trA z zs) (ys := trA p ss) (fun y hy _ => by
    obtain ⟨x, hx, e, _⟩ := inc_tr h hy
    exact ⟨x, hx, by unfold scaleF; rw [e]; exact ⟨Int.le_refl _, Int.le_refl _⟩⟩) (by rw [h2])
  rw [h1, h2] at k
  exact k.2
theorem inc_zero (h : Inc p z ss zs) (hz : trA z zs ≠ []) : Narrow (zeroR p ss) (zeroR z zs) := by
  unfold zeroR tellK
  rw [if_pos h.v, if_pos h.v', if_neg hz, if_neg (inc_nil h hz)]
  by_cases hk : knownTo ss p.n = 0
  · rw [if_pos hk]; exact narrow_err _ _
  · rw [if_neg hk, if_neg (inc_doubt h hk)]
    exact along_narrow (f := fun d x => (x.lo d, x.hi d)) (g := fun d x => (x.lo d, x.hi d)) hz (fun d y hy => (tr_ok h.ok' hy d).le) fun d y hy => by
      obtain ⟨x, hx, _, s⟩ := inc_tr h hy
      exact ⟨x, hx, (s d).1⟩
theorem inc_star (h : Inc p z ss zs) (hz : trA z zs ≠ []) (i : Int) : Narrow (starR p ss i) (starR z zs i) := by
  unfold starR tellK
  rw [if_pos h.v, if_pos h.v', if_neg hz, if_neg (inc_nil h hz), h.n]
  by_cases hi : 0 ≤ i ∧ i < p.n
  · rw [if_pos hi, if_pos hi]
    by_cases hk : knownTo ss p.n = 0
    · rw [if_pos hk]; exact narrow_err _ _
    · have hk' := inc_doubt h hk
      rw [h.n] at hk'
      rw [if_neg hk, if_neg hk']
      exact along_narrow (f := fun d x => plS x.sc (x.lo d) (x.hi d) (ss.getD i.toNat default) d) (g := fun d x => plS x.sc (x.lo d) (x.hi d) (zs.getD i.toNat default) d) hz (fun d y hy => pl_ne h.ok' hy (by rw [h.n]; omega) d) fun d y hy => by
        obtain ⟨x, hx, e, s⟩ := inc_tr h hy
        have := (trL_ok h.ok' hy).s0
        exact ⟨x, hx, inc_pl h e (by omega) (s d).1 (by omega)⟩
  · rw [if_neg hi]; exact narrow_err _ _
theorem inc_apart (h : Inc p z ss zs) (hz : trA z zs ≠ []) (i j : Int) : Narrow (apartR p ss i j) (apartR z zs i j) := by
  unfold apartR tellR
  rw [if_pos h.v, if_pos h.v', if_neg hz, if_neg (inc_nil h hz), h.n]
  by_cases hi : 0 ≤ i ∧ i < p.n
  · rw [if_pos hi, if_pos hi]
    by_cases hj : 0 ≤ j ∧ j < p.n
    · rw [if_pos hj, if_pos hj]
      exact along_narrow (f := apartF ss i.toNat j.toNat) (g := apartF zs i.toNat j.toNat) hz (fun d y hy => ap_ne h.ok' hy (by rw [h.n]; omega) (by rw [h.n]; omega) d) fun d y hy => by
        obtain ⟨x, hx, e, s⟩ := inc_tr h hy
        have := (trL_ok h.ok' hy).s0
        exact ⟨x, hx, inc_ap h e (by omega) (s d).1 (by omega) (by omega)⟩
    · rw [if_neg hj]; exact narrow_err _ _
  · rw [if_neg hi]; exact narrow_err _ _
/-- What Drop answers. -/
structure DrF (p : Pl) (ss : List St) (a u : Nat) : Prop where
  known : knownTo ss p.n = (a : Int)
  a10 : a < 2 ^ p.n ∧ a < 1024
  bit : ∀ i, a.testBit i = (decide (i < p.n) && (ss.getD i default).k)
  drop : dropR p ss = .ok (.int .i64 u)
  lt : u < 1024
  sub : ∀ i, u.testBit i = true → a.testBit i = true
  can : ∃ y : Nat, bits .andNot .i64 (a : Int) (u : Int) = (y : Int) ∧ y < 1024 ∧ (∀ i, y.testBit i = (a.testBit i && !u.testBit i)) ∧ canR p ss (y : Int) = true
  least : ∀ v : Nat, v < 1024 → (∀ i, v.testBit i = true → a.testBit i = true) → dropF p ss (v : Int) = true → popc (u : Int) < popc (v : Int) ∨ (popc (u : Int) = popc (v : Int) ∧ u ≤ v)
theorem can_none {p : Pl} {ss : List St} (ok : PlOk p ss) : canR p ss 0 = true := by
  have lo := ok.lo
  have mid := ok.mid
  refine (canR_iff ok.lo ok.hi).2 ⟨p.lo, ⟨Int.le_refl _, mid⟩, corB_iff.2 fun d => ⟨0, by omega, fun i hi hr => ?_⟩⟩
  have n10 := ok.n10
  have := bit_nat (n := 0) (i := i) (by decide) (by omega)
  rw [Nat.zero_testBit] at this
  rw [show ((0 : Nat) : Int) = 0 from rfl] at this
  rw [this] at hr; cases hr
theorem bit_lt {v i : Nat} (hv : v < 1024) (hi : v.testBit i = true) : i < 10 := by
  rcases Nat.lt_or_ge i 10 with h | h
  · exact h
  · rw [Nat.testBit_lt_two_pow (Nat.lt_of_lt_of_le hv (Nat.pow_le_pow_right (n := 2) (by decide) h))] at hi; cases hi
theorem sub_bits {v a : Nat} (hv : v < 1024) (ha : a < 1024) : Sub v (a : Int) ↔ ∀ i, v.testBit i = true → a.testBit i = true :=
  ⟨fun k i hi => by rw [← bit_nat (by omega) (by have := bit_lt hv hi; omega)]; exact k i hi, fun k i hi => by rw [bit_nat (by omega) (by have := bit_lt hv hi; omega)]; exact k i hi⟩
theorem drop_is {p : Pl} {ss : List St} (hn : ss.length = p.n) (hv : plB p ss = true) : ∃ a u, DrF p ss a u := by
  have ok := plOk' hn hv
  have n10 := ok.n10
  obtain ⟨a, e, a1, a2⟩ := known_nat ss p.n (by omega)
  have hp : 2 ^ p.n ≤ 1024 := (by decide +kernel : ∀ k : Fin 11, 2 ^ k.val ≤ 1024) ⟨p.n, by omega⟩
  have hf : dropF p ss (a : Int) = true := by
    unfold dropF
    rw [e]
    obtain ⟨y, g1, g2, g3⟩ := andNot_nat (a := a) (b := a) (by omega) (by omega)
    have : y = 0 := Nat.eq_of_testBit_eq fun i => by rw [g3, Nat.zero_testBit]; cases a.testBit i <;> rfl
    subst this
    rw [g1]; exact can_none ok
  obtain ⟨u, f1, f2⟩ := few_is (ask := dropF p ss) (all := a) (by omega) ⟨a, by omega, (sub_bits (by omega) (by omega)).2 (fun i h => h), hf⟩
  refine ⟨a, u, e, ⟨a1, by omega⟩, a2, by unfold dropR; rw [if_pos hv, e, f1], f2.lt, (sub_bits f2.lt (by omega)).1 f2.sub, ?_, fun v v1 v2 v3 => f2.least v v1 ((sub_bits v1 (by omega)).2 v2) v3⟩
  obtain ⟨y, g1, g2, g3⟩ := andNot_nat (a := a) (b := u) (by omega) (by have := f2.lt; omega)
  refine ⟨y, g1, by omega, g3, ?_⟩
  have := f2.asks
  unfold dropF at this
  rw [e, g1] at this; exact this
theorem inc_can (h : Inc p z ss zs) {v v' : Nat} (hv : v < 1024) (hv' : v' < 1024) (hs : ∀ i, v.testBit i = true → v'.testBit i = true) (hc : canR z zs (v' : Int) = true) : canR p ss (v : Int) = true := by
  have ok := h.ok
  have ok' := h.ok'
  have n10 := ok.n10
  obtain ⟨sc, h1, h2⟩ := (canR_iff ok'.lo ok'.hi).1 hc
  rw [h.n] at h2
  have a := h.lo
  have b := h.hi
  have c := ok.lo
  refine (canR_iff ok.lo ok.hi).2 ⟨sc, by omega, ?_⟩
  rw [corB_iff] at h2 ⊢
  intro d
  obtain ⟨c, hc⟩ := h2 d
  exact ⟨c, inc_corn h (fun i hi hr => by rw [bit_nat (by omega) (by omega)] at hr ⊢; exact hs i hr) (by omega) hc⟩
theorem inc_drop (h : Inc p z ss zs) {a u a' u' : Nat} (hd : DrF p ss a u) (hd' : DrF z zs a' u') : popc (u : Int) ≤ popc (u' : Int) := by
  have hle : u' &&& a ≤ a := Nat.and_le_right
  have ha := hd.a10.2
  have ha' := hd'.a10.2
  obtain ⟨y', g1', g2', g3', g4'⟩ := hd'.can
  obtain ⟨y, g1, g2, g3⟩ := andNot_nat (a := a) (b := u' &&& a) (by omega) (by omega)
  have hcan : canR p ss (y : Int) = true := inc_can h (v' := y') (by omega) g2' (fun i hi => by
    rw [g3, Nat.testBit_and] at hi
    rw [g3']
    have hai : a.testBit i = true := by cases e : a.testBit i; · rw [e] at hi; simp at hi
                                        · rfl
    rw [hai] at hi
    have hk := hai
    rw [hd.bit, Bool.and_eq_true, decide_eq_true_eq] at hk
    have : a'.testBit i = true := by rw [hd'.bit, h.n, decide_eq_true hk.1, h.k i hk.1 hk.2]; rfl
    rw [this]
    simpa using hi) g4'
  have := hd.least (u' &&& a) (by omega) (fun i hi => by rw [Nat.testBit_and, Bool.and_eq_true] at hi; exact hi.2) (by unfold dropF; rw [hd.known, g1]; exact hcan)
  have hm := popc_mono (x := u') (y := u' &&& a) (by have := hd'.lt; omega) (by omega) (fun i hi => by rw [Nat.testBit_and, Bool.and_eq_true] at hi; exact hi.1)
  omega
end
end Go.Proofs.Ytdkegkacpdkjgaa

namespace Go.Proofs.Ytdkegkacpdkjgaa
open Go.RowKit Go.Maps

/-- How wide a star is, by its answer. -/
theorem star_at {p : Pl} {ss : List St} (hv : plB p ss = true) (h0 : trA p ss ≠ []) (h1 : knownTo ss p.n ≠ 0) {k : Nat} (hk : k < p.n) : starR p ss (k : Int) = starV p ss k := by
  unfold starR tellK
  rw [if_pos hv, if_pos ⟨by omega, by omega⟩, if_neg h0, if_neg h1]
  rfl
theorem starV_ok {p : Pl} {ss : List St} (ok : PlOk p ss) (h0 : trA p ss ≠ []) {k : Nat} (hk : k < p.n) : ∃ a b c d : Int, starV p ss k = .ok (.agg #[.int .i64 a, .int .i64 b, .int .i64 c, .int .i64 d]) ∧ a ≤ b ∧ c ≤ d ∧ (-200000000 ≤ a ∧ b ≤ 200000000) ∧ -200000000 ≤ c ∧ d ≤ 200000000 := by
  obtain ⟨y, ys, hx⟩ : ∃ y ys, trA p ss = y :: ys := by
    cases h : trA p ss with
    | nil => exact absurd h h0
    | cons y ys => exact ⟨y, ys, rfl⟩
  have hy : y ∈ trA p ss := by rw [hx]; exact List.mem_cons_self
  have hne := fun d => pl_ne ok hy hk d
  have k0 := (kepL_of (starF ss k false) (trA p ss)).all y hy (hne false)
  have k1 := (kepL_of (starF ss k true) (trA p ss)).all y hy (hne true)
  have hb : Bnd 200000000 (starV p ss k) := along_bnd (f := starF ss k) (xs := trA p ss) fun d x hx => by
    have t := trL_ok ok hx
    have := pl_rng (ok.st k (by rw [ok.nl]; exact hk) d) (sc := x.sc) (by have := t.s0; omega) t.s1 (t.lo d) (t.hi d)
    unfold starF
    exact ⟨by omega, by omega⟩
  have hne0 := hne false
  have hne1 := hne true
  have e : starV p ss k = .ok (.agg #[.int .i64 (kepL (starF ss k false) (trA p ss)).1, .int .i64 (kepL (starF ss k false) (trA p ss)).2.1, .int .i64 (kepL (starF ss k true) (trA p ss)).1, .int .i64 (kepL (starF ss k true) (trA p ss)).2.1]) := by
    unfold starV alongR
    rw [if_pos k0.1, if_pos k1.1]
  have hb' := hb _ e
  have b0 := hb' 0 (by decide)
  have b1 := hb' 1 (by decide)
  have b2 := hb' 2 (by decide)
  have b3 := hb' 3 (by decide)
  refine ⟨_, _, _, _, e, ?_, ?_, ⟨b0.1, b1.2⟩, b2.1, b3.2⟩
  · exact Int.le_trans k0.2.1 (Int.le_trans hne0 k0.2.2)
  · exact Int.le_trans k1.2.1 (Int.le_trans hne1 k1.2.2)
theorem wid_of {a b c d : Int} (h1 : -200000000 ≤ a ∧ b ≤ 200000000) (h2 : -200000000 ≤ c ∧ d ≤ 200000000) (h3 : a ≤ b) (h4 : c ≤ d) : widV (.agg #[.int .i64 a, .int .i64 b, .int .i64 c, .int .i64 d]) = b - a + (d - c) := by
  show IntKind.i64.wrap (wrap64 (b - a) + wrap64 (d - c)) = _
  have e1 : wrap64 (b - a) = b - a := by unfold wrap64; omega
  have e2 : wrap64 (d - c) = d - c := by unfold wrap64; omega
  rw [e1, e2]
  exact IntWalk.i64_in _ (by omega)
/-- The worst of the first ones. -/
theorem poor_to {p : Pl} {ss : List St} (ok : PlOk p ss) (h0 : trA p ss ≠ []) : ∀ {k : Nat}, k ≤ p.n → ∃ s x : Int, poorTo p ss k = .ok (s, x) ∧ 0 ≤ x ∧
    (∀ i, i < k → ∀ v, starV p ss i = .ok v → widV v ≤ x ∧ (widV v = x → s ≤ i)) ∧ ((s = 0 ∧ x = 0) ∨ ∃ j : Nat, s = j ∧ j < k ∧ ∃ v, starV p ss j = .ok v ∧ widV v = x)
  | 0, _ => ⟨0, 0, rfl, by omega, fun i hi => by omega, .inl ⟨rfl, rfl⟩⟩
  | k + 1, hk => by
    obtain ⟨s, x, e, hx, h1, h2⟩ := poor_to ok h0 (k := k) (by omega)
    obtain ⟨a, b, c, d, ev, l1, l2, l3, l4⟩ := starV_ok ok h0 (k := k) (by omega)
    have ew := wid_of l3 l4 l1 l2
    rw [poorTo, e, ev]
    dsimp only
    generalize hw : widV (.agg #[.int .i64 a, .int .i64 b, .int .i64 c, .int .i64 d]) = W at *
    by_cases hlt : x < W
    · rw [if_pos hlt]
      refine ⟨k, W, rfl, by omega, fun i hi v hv => ?_, .inr ⟨k, rfl, by omega, _, ev, hw⟩⟩
      by_cases he : i = k
      · subst he
        rw [ev] at hv
        injection hv with hv
        subst hv
        rw [hw]; exact ⟨Int.le_refl _, fun _ => Int.le_refl _⟩
      · have := (h1 i (by omega) v hv).1
        exact ⟨by omega, fun h => by omega⟩
    · rw [if_neg hlt]
      refine ⟨s, x, rfl, hx, fun i hi v hv => ?_, ?_⟩
      · by_cases he : i = k
        · subst he
          rw [ev] at hv
          injection hv with hv
          subst hv
          rw [hw]
          refine ⟨by omega, fun h => ?_⟩
          rcases h2 with h2 | ⟨j, h2, h3, _⟩
          · omega
          · omega
        · exact h1 i (by omega) v hv
      · rcases h2 with h2 | ⟨j, h2, h3, h4⟩
        · exact .inl h2
        · exact .inr ⟨j, h2, by omega, h4⟩
/-- What Poor answers: an error that each star has, or the worst one. -/
theorem poor_facts {p : Pl} {ss : List St} (hn : ss.length = p.n) (hv : plB p ss = true) : (∃ c, c ≠ 0 ∧ poorR p ss = .error c ∧ ∀ k, k < p.n → starR p ss (k : Int) = .error c) ∨
    ∃ s x : Int, poorR p ss = .ok (.agg #[.int .i64 s, .int .i64 x]) ∧ (0 ≤ s ∧ s < p.n) ∧ ∀ k, k < p.n → ∃ a b c d : Int, starR p ss (k : Int) = .ok (.agg #[.int .i64 a, .int .i64 b, .int .i64 c, .int .i64 d]) ∧ (-200000000 ≤ a ∧ b ≤ 200000000) ∧ (-200000000 ≤ c ∧ d ≤ 200000000) ∧ a ≤ b ∧ c ≤ d ∧
      b - a + (d - c) ≤ x ∧ (b - a + (d - c) = x → s ≤ k) ∧ ((k : Int) = s → b - a + (d - c) = x) := by
  have ok := plOk' hn hv
  have h12 : p.n ≤ 12 := by have := ok.n10; omega
  by_cases h0 : trA p ss = []
  · exact .inl ⟨10, by decide, by unfold poorR; rw [if_pos hv, if_pos h0], fun k hk => by unfold starR tellK; rw [if_pos hv, if_pos ⟨by omega, by omega⟩, if_pos h0]⟩
  by_cases h1 : knownTo ss p.n = 0
  · exact .inl ⟨12, by decide, by unfold poorR; rw [if_pos hv, if_neg h0, if_pos h1], fun k hk => by unfold starR tellK; rw [if_pos hv, if_pos ⟨by omega, by omega⟩, if_neg h0, if_pos h1]⟩
  obtain ⟨i0, hi0, _⟩ := known_some h12 h1
  obtain ⟨s, x, e, hx, h2, h3⟩ := poor_to ok h0 (k := p.n) (Nat.le_refl _)
  right
  have hs : 0 ≤ s ∧ s < p.n ∧ ∀ v, starV p ss s.toNat = .ok v → widV v = x := by
    rcases h3 with ⟨rfl, rfl⟩ | ⟨j, rfl, hj, v, hv1, hv2⟩
    · refine ⟨by omega, by omega, fun v hv => ?_⟩
      obtain ⟨a, b, c, d, ev, l1, l2, l3, l4⟩ := starV_ok ok h0 (k := 0) (by omega)
      have ew := wid_of l3 l4 l1 l2
      have hle := (h2 0 (by omega) v hv).1
      rw [show (0 : Int).toNat = 0 from rfl, ev] at hv
      injection hv with hv
      subst hv
      rw [ew] at hle ⊢
      omega
    · refine ⟨by omega, by omega, fun v' hv' => ?_⟩
      rw [show ((j : Int)).toNat = j by omega, hv1] at hv'
      injection hv' with hv'
      subst hv'
      exact hv2
  refine ⟨s, x, by unfold poorR poorV; rw [if_pos hv, if_neg h0, if_neg h1, e], ⟨hs.1, hs.2.1⟩, fun k hk => ?_⟩
  obtain ⟨a, b, c, d, ev, l1, l2, l3, l4⟩ := starV_ok ok h0 hk
  have ew := wid_of l3 l4 l1 l2
  have hk2 := h2 k hk _ ev
  rw [ew] at hk2
  refine ⟨a, b, c, d, by rw [star_at hv h0 h1 hk, ev], l3, l4, l1, l2, hk2.1, hk2.2, fun hks => ?_⟩
  have := hs.2.2 _ (by rw [← hks, show ((k : Int)).toNat = k by omega]; exact ev)
  rw [ew] at this; exact this
end Go.Proofs.Ytdkegkacpdkjgaa

namespace Go.Proofs.Ytdkegkacpdkjgaa
open Go.RowKit Go.Maps

theorem scaleR_ext {p p' : Pl} (e1 : p'.lo = p.lo) (e2 : p'.hi = p.hi) (e3 : p'.n = p.n) (ss : List St) : scaleR p' ss = scaleR p ss := by
  have h : trA p' ss = trA p ss := by unfold trA; rw [e3]; exact tr_same e1 e2 e3 ss _
  unfold scaleR plB
  rw [e1, e2, e3, h]
/-- Whether a plate of which a star is known so can be right. -/
def cnB (p : Pl) (ss : List St) (n : Nat) (a b c d : Int) : Bool := match scaleR p (ss.set n (knowS (ss.getD n default) a b c d)) with
  | .ok _ => true
  | .error _ => false
section
variable {p : Pl} {ss : List St} {n : Nat}
theorem set_get (s : St) {i : Nat} (hn : n < ss.length) : (ss.set n s).getD i default = if i = n then s else ss.getD i default := by
  by_cases h : i = n
  · subst h
    rw [if_pos rfl]
    simp [List.getD, hn]
  · rw [if_neg h, List.getD_eq_getElem?_getD, List.getElem?_set_ne (by omega), ← List.getD_eq_getElem?_getD]
theorem know_v (hv : plB p ss = true) (hn : n < ss.length) {a b c d : Int} (h1 : skyB a b = true) (h2 : skyB c d = true) : plB p (ss.set n (knowS (ss.getD n default) a b c d)) = true := by
  have h := hv
  unfold plB at h ⊢
  simp only [Bool.and_eq_true, List.all_eq_true] at h ⊢
  refine ⟨h.1, fun s hs => ?_⟩
  rcases List.mem_or_eq_of_mem_set hs with hs | rfl
  · exact h.2 s hs
  · have := h.2 (ss.getD n default) (by rw [show ss.getD n default = ss[n] by simp [List.getD, hn]]; exact List.getElem_mem hn)
    unfold stB at this ⊢
    simp only [Bool.and_eq_true] at this ⊢
    exact ⟨this.1, by unfold knowS; simp [h1, h2]⟩
theorem know_inc (hnl : ss.length = p.n) (hv : plB p ss = true) (hn : n < p.n) {a b c d : Int} (h1 : skyB a b = true) (h2 : skyB c d = true)
    (hs : (ss.getD n default).k = true → ((ss.getD n default).e0 ≤ a ∧ b ≤ (ss.getD n default).e1) ∧ (ss.getD n default).n0 ≤ c ∧ d ≤ (ss.getD n default).n1) : Inc p p ss (ss.set n (knowS (ss.getD n default) a b c d)) where
  lo := Int.le_refl _
  hi := Int.le_refl _
  n := rfl
  nl := hnl
  nl' := by rw [List.length_set]; exact hnl
  v := hv
  v' := know_v hv (by omega) h1 h2
  on := fun i hi dd => by
    rw [set_get _ (by omega)]
    split
    · rename_i he; subst he; cases dd <;> exact ⟨Int.le_refl _, Int.le_refl _⟩
    · exact ⟨Int.le_refl _, Int.le_refl _⟩
  k := fun i hi hk => by
    rw [set_get _ (by omega)]
    split
    · rfl
    · exact hk
  sky := fun i hi hk dd => by
    rw [set_get _ (by omega)]
    split
    · rename_i he; subst he
      obtain ⟨k1, k2⟩ := hs hk
      cases dd
      · exact k1
      · exact k2
    · exact ⟨Int.le_refl _, Int.le_refl _⟩
theorem cn_iff {a b c d : Int} (hv' : plB p (ss.set n (knowS (ss.getD n default) a b c d)) = true) : cnB p ss n a b c d = true ↔ trA p (ss.set n (knowS (ss.getD n default) a b c d)) ≠ [] := by
  unfold cnB
  rcases scale_cases hv' with ⟨h1, h2⟩ | ⟨h1, x, y, h2, _⟩
  · rw [h2, h1]; simp
  · rw [h2]; exact ⟨fun _ => h1, fun _ => rfl⟩
/-- What can be is near what is told. -/
theorem cn_near (hnl : ss.length = p.n) (hv : plB p ss = true) (hn : n < p.n) {a b c d : Int} (h1 : skyB a b = true) (h2 : skyB c d = true)
    (hs : (ss.getD n default).k = true → ((ss.getD n default).e0 ≤ a ∧ b ≤ (ss.getD n default).e1) ∧ (ss.getD n default).n0 ≤ c ∧ d ≤ (ss.getD n default).n1) (hc : cnB p ss n a b c d = true) :
    ∃ x ∈ trA p ss, ∀ dd, (starF ss n dd x).1 ≤ (if dd then d else b) ∧ (if dd then c else a) ≤ (starF ss n dd x).2 := by
  have hi := know_inc hnl hv hn h1 h2 hs
  rw [cn_iff hi.v'] at hc
  obtain ⟨y, ys, hy⟩ : ∃ y ys, trA p (ss.set n (knowS (ss.getD n default) a b c d)) = y :: ys := by
    cases h : trA p (ss.set n (knowS (ss.getD n default) a b c d)) with
    | nil => exact absurd h hc
    | cons y ys => exact ⟨y, ys, rfl⟩
  have hm : y ∈ trA p (ss.set n (knowS (ss.getD n default) a b c d)) := by rw [hy]; exact List.mem_cons_self
  obtain ⟨x, hx, e, s⟩ := inc_tr hi hm
  refine ⟨x, hx, fun dd => ?_⟩
  have hne := pl_ne hi.ok' hm hn dd
  have hpl := inc_pl hi e (by have := (trL_ok hi.ok' hm).s0; omega) (s dd).1 hn
  have hsaid : (if dd then c else a) ≤ (plS y.sc (y.lo dd) (y.hi dd) ((ss.set n (knowS (ss.getD n default) a b c d)).getD n default) dd).1 ∧ (plS y.sc (y.lo dd) (y.hi dd) ((ss.set n (knowS (ss.getD n default) a b c d)).getD n default) dd).2 ≤ (if dd then d else b) := by
    rw [set_get _ (by omega), if_pos rfl]
    unfold plS saidS knowS
    rw [if_pos rfl]
    cases dd
    · exact ⟨Int.le_max_left _ _, Int.min_le_left _ _⟩
    · exact ⟨Int.le_max_left _ _, Int.min_le_left _ _⟩
  unfold starF
  omega
/-- What a truth has can be. -/
theorem cn_has (hnl : ss.length = p.n) (hv : plB p ss = true) (hn : n < p.n) {a b c d : Int} (h1 : skyB a b = true) (h2 : skyB c d = true)
    {x : Scl} (hx : x ∈ trA p ss) (t : Bool → Int) (ht : ∀ dd, (starF ss n dd x).1 ≤ t dd ∧ t dd ≤ (starF ss n dd x).2) (hq : ∀ dd, (if dd then c else a) ≤ t dd ∧ t dd ≤ (if dd then d else b)) : cnB p ss n a b c d = true := by
  have ok := plOk' hnl hv
  have h12 : p.n ≤ 12 := by have := ok.n10; omega
  have hv' := know_v (n := n) hv (by omega) h1 h2
  rw [cn_iff hv', Ne]
  unfold trA
  rw [tr_nil]
  have hc : canR p (ss.set n (knowS (ss.getD n default) a b c d)) (knownTo (ss.set n (knowS (ss.getD n default) a b c d)) p.n) = true := by
    obtain ⟨hr, h3, h4⟩ := trL_of hx
    refine (canR_iff ok.lo ok.hi).2 ⟨x.sc, hr, corB_iff.2 fun dd => ?_⟩
    have k := trL_ok ok hx
    have hb := bey_rng (ok.st n (by omega) dd) (sc := x.sc) (by have := k.s0; omega) k.s1
    have ht' := ht dd
    have hq' := hq dd
    have hxe : x.lo dd = (corS ss x.sc (setI (knownTo ss p.n)) dd p.n).1 ∧ x.hi dd = (corS ss x.sc (setI (knownTo ss p.n)) dd p.n).2 := by rw [← h4 dd]; exact ⟨rfl, rfl⟩
    unfold starF plS at ht'
    dsimp only at ht'
    have hcor := cor_iff.1 (show (corS ss x.sc (setI (knownTo ss p.n)) dd p.n).1 ≤ max (x.lo dd) (t dd - (beyS x.sc (ss.getD n default) dd).2) ∧ max (x.lo dd) (t dd - (beyS x.sc (ss.getD n default) dd).2) ≤ (corS ss x.sc (setI (knownTo ss p.n)) dd p.n).2 by
      have hne := corB_ne h3 dd
      omega)
    refine ⟨_, hcor.1, fun i hi hr => ?_⟩
    rw [known_bit _ h12 hi, set_get _ (by omega)] at hr
    rw [set_get _ (by omega)]
    by_cases he : i = n
    · subst he
      rw [if_pos rfl]
      have e1 : beyS x.sc (knowS (ss.getD i default) a b c d) dd = beyS x.sc (ss.getD i default) dd := by cases dd <;> rfl
      have e2 : saidS (knowS (ss.getD i default) a b c d) dd = if dd then (c, d) else (a, b) := by cases dd <;> rfl
      unfold cbS
      rw [e1, e2]
      cases dd
      · simp only [Bool.false_eq_true, if_false] at *
        omega
      · simp only [if_true] at *
        omega
    · rw [if_neg he] at hr ⊢
      exact hcor.2 i hi (by rw [known_bit ss h12 hi]; exact hr)
  rw [hc]; decide
/-- What Star answers if it tells anything. -/
structure EnF (p : Pl) (ss : List St) (n : Nat) (a0 a1 b0 b1 s0 s1 : Int) : Prop where
  ln : n < p.n
  rng : (-200000000 ≤ a0 ∧ a1 ≤ 200000000) ∧ (-200000000 ≤ b0 ∧ b1 ≤ 200000000) ∧ a0 ≤ a1 ∧ b0 ≤ b1
  scale : scaleR p ss = .ok (.agg #[.int .i64 s0, .int .i64 s1])
  srng : p.lo ≤ s0 ∧ s0 ≤ s1 ∧ s1 ≤ p.hi ∧ 1 ≤ p.lo ∧ p.hi ≤ 1000
  at_s : ∀ k, k = s0 ∨ k = s1 → ∃ x y, scaleR ⟨k, k, p.a, p.n, p.cap⟩ ss = .ok (.agg #[.int .i64 x, .int .i64 y])
  off_s : ∀ k, k < s0 ∨ s1 < k → p.lo ≤ k → k ≤ p.hi → scaleR ⟨k, k, p.a, p.n, p.cap⟩ ss = .error 10
  xs : ∃ x ∈ trA p ss, (starF ss n false x).1 = a0
  xe : ∃ x ∈ trA p ss, (starF ss n false x).2 = a1
  ys : ∃ x ∈ trA p ss, (starF ss n true x).1 = b0
  ye : ∃ x ∈ trA p ss, (starF ss n true x).2 = b1
  all : ∀ x ∈ trA p ss, (a0 ≤ (starF ss n false x).1 ∧ (starF ss n false x).1 ≤ (starF ss n false x).2 ∧ (starF ss n false x).2 ≤ a1) ∧ (b0 ≤ (starF ss n true x).1 ∧ (starF ss n true x).1 ≤ (starF ss n true x).2 ∧ (starF ss n true x).2 ≤ b1)
theorem one_scale (hnl : ss.length = p.n) (hv : plB p ss = true) {k : Int} (h1 : p.lo ≤ k) (h2 : k ≤ p.hi) : (trA ⟨k, k, p.a, p.n, p.cap⟩ ss ≠ [] ↔ ∃ x ∈ trA p ss, x.sc = k) ∧ plB ⟨k, k, p.a, p.n, p.cap⟩ ss = true := by
  have ok := plOk' hnl hv
  have k1 := ok.lo
  have k2 := ok.hi
  constructor
  · unfold trA
    rw [trL_iff ok.lo ok.hi, Ne, tr_nil]
    have := canR_iff (p := ⟨k, k, p.a, p.n, p.cap⟩) (ss := ss) (set := knownTo ss p.n) (show 1 ≤ k by omega) (show k ≤ 1000 by omega)
    constructor
    · intro h
      cases hc : canR ⟨k, k, p.a, p.n, p.cap⟩ ss (knownTo ss p.n)
      · exact absurd hc h
      · obtain ⟨sc, h3, h4⟩ := this.1 hc
        obtain rfl : sc = k := by have := h3.1; have := h3.2; dsimp only at *; omega
        exact ⟨⟨h1, h2⟩, h4⟩
    · rintro ⟨_, h4⟩ hc
      have := this.2 ⟨k, ⟨Int.le_refl _, Int.le_refl _⟩, h4⟩
      rw [hc] at this; cases this
  · have h := hv
    unfold plB at h ⊢
    simp only [Bool.and_eq_true, decide_eq_true_eq] at h ⊢
    exact ⟨⟨⟨⟨by omega, by omega⟩, by omega⟩, h.1.2⟩, h.2⟩
theorem ends_facts (hnl : ss.length = p.n) (hv : plB p ss = true) (i : Int) : (∃ c, c ≠ 0 ∧ starR p ss i = .error c ∧ ((∃ x y, scaleR p ss = .ok (.agg #[.int .i64 x, .int .i64 y])) ∨ scaleR p ss = .error c ∨ c = 2)) ∨
    ∃ (n : Nat) (a0 a1 b0 b1 s0 s1 : Int), i = n ∧ starR p ss i = .ok (.agg #[.int .i64 a0, .int .i64 a1, .int .i64 b0, .int .i64 b1]) ∧ EnF p ss n a0 a1 b0 b1 s0 s1 := by
  have ok := plOk' hnl hv
  by_cases hi : 0 ≤ i ∧ i < p.n
  · obtain ⟨n, rfl⟩ : ∃ n : Nat, i = n := ⟨i.toNat, by omega⟩
    have hn : n < p.n := by omega
    rcases scale_cases hv with ⟨h1, h2⟩ | ⟨h1, s0, s1, h2, h3⟩
    · exact .inl ⟨10, by decide, by unfold starR tellK; rw [if_pos hv, if_pos hi, if_pos h1], .inr (.inl h2)⟩
    by_cases hk : knownTo ss p.n = 0
    · exact .inl ⟨12, by decide, by unfold starR tellK; rw [if_pos hv, if_pos hi, if_neg h1, if_pos hk], .inl ⟨s0, s1, h2⟩⟩
    right
    obtain ⟨y, ys, hx⟩ : ∃ y ys, trA p ss = y :: ys := by
      cases h : trA p ss with
      | nil => exact absurd h h1
      | cons y ys => exact ⟨y, ys, rfl⟩
    have hy : y ∈ trA p ss := by rw [hx]; exact List.mem_cons_self
    have kf := kepL_of (starF ss n false) (trA p ss)
    have kt := kepL_of (starF ss n true) (trA p ss)
    have kc := kepL_of (scaleF false) (trA p ss)
    have t0 := (kf.all y hy (pl_ne ok hy hn false)).1
    have t1 := (kt.all y hy (pl_ne ok hy hn true)).1
    obtain ⟨a, b, c, d, ev, l1, l2, l3, l4⟩ := starV_ok ok h1 hn
    have e : starV p ss n = .ok (.agg #[.int .i64 (kepL (starF ss n false) (trA p ss)).1, .int .i64 (kepL (starF ss n false) (trA p ss)).2.1, .int .i64 (kepL (starF ss n true) (trA p ss)).1, .int .i64 (kepL (starF ss n true) (trA p ss)).2.1]) := by
      unfold starV alongR
      rw [if_pos t0, if_pos t1]
    rw [ev] at e
    simp only [Except.ok.injEq, Value.agg.injEq, Array.mk.injEq, List.cons.injEq, Value.int.injEq, true_and, and_true] at e
    obtain ⟨q1, q2, q3, q4⟩ := e
    rw [h3] at kc
    refine ⟨n, a, b, c, d, s0, s1, rfl, by rw [star_at hv h1 hk hn, ev], hn, ⟨l3, l4, l1, l2⟩, h2, ?_, ?_, ?_, ?_, ?_, ?_, ?_, ?_⟩
    · obtain ⟨u, hu, _, e1⟩ := kc.lo rfl
      obtain ⟨v, hv', _, e2⟩ := kc.hi rfl
      have a1 := (trL_of hu).1
      have a2 := (trL_of hv').1
      have a3 := (kc.all u hu (Int.le_refl _)).2
      unfold scaleF at *
      dsimp only at *
      have := ok.lo; have := ok.hi
      omega
    · intro k hk'
      have hxk : ∃ x ∈ trA p ss, x.sc = k := by
        rcases hk' with rfl | rfl
        · obtain ⟨u, hu, _, e1⟩ := kc.lo rfl; exact ⟨u, hu, e1.symm⟩
        · obtain ⟨u, hu, _, e1⟩ := kc.hi rfl; exact ⟨u, hu, e1.symm⟩
      obtain ⟨u, hu, rfl⟩ := hxk
      obtain ⟨r1, r2⟩ := (trL_of hu).1
      obtain ⟨o1, o2⟩ := one_scale hnl hv r1 r2
      rcases scale_cases o2 with ⟨g1, _⟩ | ⟨_, x, y, g2, _⟩
      · exact absurd g1 (o1.2 ⟨u, hu, rfl⟩)
      · exact ⟨x, y, g2⟩
    · intro k hk' r1 r2
      obtain ⟨o1, o2⟩ := one_scale hnl hv r1 r2
      rcases scale_cases o2 with ⟨_, g2⟩ | ⟨g1, _⟩
      · exact g2
      · obtain ⟨u, hu, rfl⟩ := o1.1 g1
        have := (kc.all u hu (Int.le_refl _)).2
        unfold scaleF at this
        dsimp only at this
        omega
    · obtain ⟨u, hu, _, e1⟩ := kf.lo t0; exact ⟨u, hu, by omega⟩
    · obtain ⟨u, hu, _, e1⟩ := kf.hi t0; exact ⟨u, hu, by omega⟩
    · obtain ⟨u, hu, _, e1⟩ := kt.lo t1; exact ⟨u, hu, by omega⟩
    · obtain ⟨u, hu, _, e1⟩ := kt.hi t1; exact ⟨u, hu, by omega⟩
    · intro x hx'
      have f0 := (kf.all x hx' (pl_ne ok hx' hn false)).2
      have f1 := (kt.all x hx' (pl_ne ok hx' hn true)).2
      have g0 : (starF ss n false x).1 ≤ (starF ss n false x).2 := pl_ne ok hx' hn false
      have g1 : (starF ss n true x).1 ≤ (starF ss n true x).2 := pl_ne ok hx' hn true
      omega
  · exact .inl ⟨2, by decide, by unfold starR; rw [if_pos hv, if_neg hi], .inr (.inr rfl)⟩
theorem sky_of {a b : Int} (h : -1048576 ≤ a ∧ a ≤ b ∧ b ≤ 1048576) : skyB a b = true := by
  unfold skyB; simp only [Bool.and_eq_true, decide_eq_true_eq]; omega
theorem sky_rng {a b : Int} (h : skyB a b = true) : -1048576 ≤ a ∧ a ≤ b ∧ b ≤ 1048576 := by
  unfold skyB at h; simp only [Bool.and_eq_true, decide_eq_true_eq] at h; omega
/-- What can be, and what cannot, at both ends. -/
theorem ends_can (hnl : ss.length = p.n) (hv : plB p ss = true) {a0 a1 b0 b1 s0 s1 : Int} (f : EnF p ss n a0 a1 b0 b1 s0 s1) (g : -1048576 < a0 ∧ a1 < 1048576 ∧ -1048576 < b0 ∧ b1 < 1048576) :
    ∃ E0 E1 N0 N1 : Int, (if (ss.getD n default).k then (E0 = (ss.getD n default).e0 ∧ E1 = (ss.getD n default).e1 ∧ N0 = (ss.getD n default).n0 ∧ N1 = (ss.getD n default).n1) else (E0 = a0 ∧ E1 = a1 ∧ N0 = b0 ∧ N1 = b1)) ∧
      (cnB p ss n a0 a0 N0 N1 = true ∧ cnB p ss n a1 a1 N0 N1 = true ∧ cnB p ss n E0 E1 b0 b0 = true ∧ cnB p ss n E0 E1 b1 b1 = true) ∧
      ((ss.getD n default).k = true → (a0 = E0 ∨ cnB p ss n E0 (a0 - 1) N0 N1 = false) ∧ (a1 = E1 ∨ cnB p ss n (a1 + 1) E1 N0 N1 = false) ∧ (b0 = N0 ∨ cnB p ss n E0 E1 N0 (b0 - 1) = false) ∧ (b1 = N1 ∨ cnB p ss n E0 E1 (b1 + 1) N1 = false)) ∧
      ((ss.getD n default).k = false → cnB p ss n (a0 - 1) (a0 - 1) (-1048576) 1048576 = false ∧ cnB p ss n (a1 + 1) (a1 + 1) (-1048576) 1048576 = false ∧ cnB p ss n (-1048576) 1048576 (b0 - 1) (b0 - 1) = false ∧ cnB p ss n (-1048576) 1048576 (b1 + 1) (b1 + 1) = false) := by
  have ok := plOk' hnl hv
  have hn := f.ln
  obtain ⟨r1, r2, r3, r4⟩ := f.rng
  obtain ⟨xs, hxs, exs⟩ := f.xs
  obtain ⟨xe, hxe, exe⟩ := f.xe
  obtain ⟨ys, hys, eys⟩ := f.ys
  obtain ⟨ye, hye, eye⟩ := f.ye
  have al := f.all
  have axs := al xs hxs
  have axe := al xe hxe
  have ays := al ys hys
  have aye := al ye hye
  -- what a truth has can be, if the other direction is as it is said
  have hin : ∀ {q0 q1 q2 q3 : Int} (x : Scl), x ∈ trA p ss → skyB q0 q1 = true → skyB q2 q3 = true → (∃ t, ((starF ss n false x).1 ≤ t ∧ t ≤ (starF ss n false x).2) ∧ q0 ≤ t ∧ t ≤ q1) → (∃ t, ((starF ss n true x).1 ≤ t ∧ t ≤ (starF ss n true x).2) ∧ q2 ≤ t ∧ t ≤ q3) → cnB p ss n q0 q1 q2 q3 = true := fun {q0 q1 q2 q3} x hx k1 k2 ⟨t0, h0⟩ ⟨t1, h1⟩ =>
    cn_has hnl hv hn k1 k2 hx (fun dd => match dd with | false => t0 | true => t1) (fun dd => match dd with | false => h0.1 | true => h1.1) (fun dd => match dd with | false => h0.2 | true => h1.2)
  have hout : ∀ {q0 q1 q2 q3 : Int}, skyB q0 q1 = true → skyB q2 q3 = true → ((ss.getD n default).k = true → ((ss.getD n default).e0 ≤ q0 ∧ q1 ≤ (ss.getD n default).e1) ∧ (ss.getD n default).n0 ≤ q2 ∧ q3 ≤ (ss.getD n default).n1) → (q1 < a0 ∨ a1 < q0 ∨ q3 < b0 ∨ b1 < q2) → cnB p ss n q0 q1 q2 q3 = false := fun {q0 q1 q2 q3} k1 k2 hs ho => by
    cases hc : cnB p ss n q0 q1 q2 q3
    · rfl
    · obtain ⟨x, hx, h⟩ := cn_near hnl hv hn k1 k2 hs hc
      have a := al x hx
      have h0 := h false
      have h1 := h true
      simp only [Bool.false_eq_true, if_false, if_true] at h0 h1
      omega
  have hst := fun dd => ok.st n (by omega) dd
  cases hk : (ss.getD n default).k
  · refine ⟨a0, a1, b0, b1, by simp, ⟨?_, ?_, ?_, ?_⟩, fun h => (by cases h), fun _ => ⟨?_, ?_, ?_, ?_⟩⟩
    · exact hin xs hxs (sky_of (by omega)) (sky_of (by omega)) ⟨a0, by omega, by omega⟩ ⟨(starF ss n true xs).1, by omega, by omega⟩
    · exact hin xe hxe (sky_of (by omega)) (sky_of (by omega)) ⟨a1, by omega, by omega⟩ ⟨(starF ss n true xe).1, by omega, by omega⟩
    · exact hin ys hys (sky_of (by omega)) (sky_of (by omega)) ⟨(starF ss n false ys).1, by omega, by omega⟩ ⟨b0, by omega, by omega⟩
    · exact hin ye hye (sky_of (by omega)) (sky_of (by omega)) ⟨(starF ss n false ye).1, by omega, by omega⟩ ⟨b1, by omega, by omega⟩
    · exact hout (sky_of (by omega)) (sky_of (by omega)) (fun h => by rw [hk] at h; cases h) (by omega)
    · exact hout (sky_of (by omega)) (sky_of (by omega)) (fun h => by rw [hk] at h; cases h) (by omega)
    · exact hout (sky_of (by omega)) (sky_of (by omega)) (fun h => by rw [hk] at h; cases h) (by omega)
    · exact hout (sky_of (by omega)) (sky_of (by omega)) (fun h => by rw [hk] at h; cases h) (by omega)
  · have e0 := (hst false).e hk
    have e1 := (hst false).f hk
    have e2 := (hst false).g hk
    have n0 := (hst true).e hk
    have n1 := (hst true).f hk
    have n2 := (hst true).g hk
    have hsk : ∀ dd x, ((ss.getD n default).sky dd).1 ≤ (starF ss n dd x).1 ∧ (starF ss n dd x).2 ≤ ((ss.getD n default).sky dd).2 := fun dd x => by
      unfold starF plS saidS
      rw [if_pos hk]
      exact ⟨Int.le_max_left _ _, Int.min_le_left _ _⟩
    have kf := fun x => hsk false x
    have kt := fun x => hsk true x
    have q1 := kf xs; have q2 := kt xs; have q3 := kf xe; have q4 := kt xe; have q5 := kf ys; have q6 := kt ys; have q7 := kf ye; have q8 := kt ye
    simp only [St.sky, Bool.false_eq_true, if_false, if_true] at e0 e1 e2 n0 n1 n2 q1 q2 q3 q4 q5 q6 q7 q8
    generalize (ss.getD n default).e0 = E0 at *
    generalize (ss.getD n default).e1 = E1 at *
    generalize (ss.getD n default).n0 = N0 at *
    generalize (ss.getD n default).n1 = N1 at *
    refine ⟨E0, E1, N0, N1, by simp, ⟨?_, ?_, ?_, ?_⟩, fun _ => ⟨?_, ?_, ?_, ?_⟩, fun h => by cases h⟩
    · exact hin xs hxs (sky_of (by omega)) (sky_of (by omega)) ⟨a0, by omega, by omega⟩ ⟨(starF ss n true xs).1, by omega, by omega⟩
    · exact hin xe hxe (sky_of (by omega)) (sky_of (by omega)) ⟨a1, by omega, by omega⟩ ⟨(starF ss n true xe).1, by omega, by omega⟩
    · exact hin ys hys (sky_of (by omega)) (sky_of (by omega)) ⟨(starF ss n false ys).1, by omega, by omega⟩ ⟨b0, by omega, by omega⟩
    · exact hin ye hye (sky_of (by omega)) (sky_of (by omega)) ⟨(starF ss n false ye).1, by omega, by omega⟩ ⟨b1, by omega, by omega⟩
    · by_cases h : a0 = E0
      · exact .inl h
      · exact .inr (hout (sky_of (by omega)) (sky_of (by omega)) (fun _ => by omega) (by omega))
    · by_cases h : a1 = E1
      · exact .inl h
      · exact .inr (hout (sky_of (by omega)) (sky_of (by omega)) (fun _ => by omega) (by omega))
    · by_cases h : b0 = N0
      · exact .inl h
      · exact .inr (hout (sky_of (by omega)) (sky_of (by omega)) (fun _ => by omega) (by omega))
    · by_cases h : b1 = N1
      · exact .inl h
      · exact .inr (hout (sky_of (by omega)) (sky_of (by omega)) (fun _ => by omega) (by omega))
end
end Go.Proofs.Ytdkegkacpdkjgaa

namespace Go.Proofs.Ytdkegkacpdkjgaa
open Go.RowKit Go.Maps

/-- A star that is narrower. -/
structure Nar (s s' : St) : Prop where
  on : ∀ d, (s.on d).1 ≤ (s'.on d).1 ∧ (s'.on d).2 ≤ (s.on d).2
  k : s.k = true → s'.k = true
  sky : s.k = true → ∀ d, (s.sky d).1 ≤ (s'.sky d).1 ∧ (s'.sky d).2 ≤ (s.sky d).2
theorem nar_refl (s : St) : Nar s s := ⟨fun _ => ⟨Int.le_refl _, Int.le_refl _⟩, fun h => h, fun _ _ => ⟨Int.le_refl _, Int.le_refl _⟩⟩
theorem nar_know {s : St} (h : s.k = false) (a b c d : Int) : Nar s (knowS s a b c d) where
  on d := by cases d <;> exact ⟨Int.le_refl _, Int.le_refl _⟩
  k e := by rw [h] at e; cases e
  sky e := by rw [h] at e; cases e
theorem nar_on {s : St} {a b : Int} (h1 : s.x0 ≤ a) (h2 : b ≤ s.y1) : Nar s { s with x0 := a, y1 := b } where
  on d := by
    cases d
    · exact ⟨h1, Int.le_refl _⟩
    · exact ⟨Int.le_refl _, h2⟩
  k e := e
  sky _ d := by cases d <;> exact ⟨Int.le_refl _, Int.le_refl _⟩
theorem nar_sky {s : St} {a b : Int} (h1 : s.k = true → a ≤ s.e1) (h2 : s.k = true → s.n0 ≤ b) : Nar s { s with e1 := a, n0 := b } where
  on d := by cases d <;> exact ⟨Int.le_refl _, Int.le_refl _⟩
  k e := e
  sky e d := by
    cases d
    · exact ⟨Int.le_refl _, h1 e⟩
    · exact ⟨h2 e, Int.le_refl _⟩
section
variable {p z : Pl} {ss : List St}
theorem inc_set {k : Nat} {s' : St} (hnl : ss.length = p.n) (hv : plB p ss = true) (hk : k < p.n) (h : Nar (ss.getD k default) s') (lo : p.lo ≤ z.lo) (hi : z.hi ≤ p.hi) (n : z.n = p.n) (hz : plB z (ss.set k s') = true) : Inc p z ss (ss.set k s') := by
  have hkl : k < ss.length := by omega
  refine ⟨lo, hi, n, hnl, by rw [List.length_set]; exact hnl, hv, hz, fun i hi d => ?_, fun i hi e => ?_, fun i hi e d => ?_⟩
  all_goals
    rw [set_get s' hkl]
    by_cases hik : i = k
    · subst hik
      rw [if_pos rfl]
      first | exact h.on d | exact h.k e | exact h.sky e d
    · rw [if_neg hik]
      first | exact ⟨Int.le_refl _, Int.le_refl _⟩ | exact e
theorem inc_same (hnl : ss.length = p.n) (hv : plB p ss = true) (lo : p.lo ≤ z.lo) (hi : z.hi ≤ p.hi) (n : z.n = p.n) (hz : plB z ss = true) : Inc p z ss ss :=
  ⟨lo, hi, n, hnl, hnl, hv, hz, fun _ _ _ => ⟨Int.le_refl _, Int.le_refl _⟩, fun _ _ e => e, fun _ _ _ _ => ⟨Int.le_refl _, Int.le_refl _⟩⟩
end
/-- One cell of a star is stored. -/
theorem flat_put {k r : Nat} {v : Value} {s' : St} (hr : r < 9) : ∀ {ss : List St}, k < ss.length → starC s' = (starC (ss.getD k default)).set r v → (ss.flatMap starC).set (k * 9 + r) v = (ss.set k s').flatMap starC := by
  induction k with
  | zero =>
    intro ss hk h
    cases ss with
    | nil => simp at hk
    | cons s ss =>
      simp only [List.flatMap_cons, List.set_cons_zero, Nat.zero_mul, Nat.zero_add]
      rw [List.set_append_left _ _ (by rw [starC_len]; exact hr), h]
      rfl
  | succ k ih =>
    intro ss hk h
    cases ss with
    | nil => simp at hk
    | cons s ss =>
      simp only [List.flatMap_cons, List.set_cons_succ]
      rw [List.set_append_right _ _ (by rw [starC_len]; omega), starC_len, show (k + 1) * 9 + r - 9 = k * 9 + r by omega, ih (by simpa using hk) (by simpa using h)]
/-- What is compared of two plates. -/
structure MoF (s0 s1 e c0 c1 d0 d1 f u0 u1 v0 v1 g m0 m1 n0 n1 h u : Int) (z : Pl) (zs : List St) (a b : Int) : Prop where
  drop : ∃ o : Nat, dropR z zs = .ok (.int .i64 (o : Int)) ∧ o < 1024 ∧ u ≤ popc (o : Int)
  rest : scaleR z zs = .error 10 ∨ ∃ t0 t1 q0 q1 q2 q3 w1 r0 r1 r2 r3 w2 y0 y1 y2 y3 w3 : Int,
    (scaleR z zs = .ok (.agg #[.int .i64 t0, .int .i64 t1]) ∧ e = 0 ∧ s0 ≤ t0 ∧ t1 ≤ s1)
    ∧ (repB (zeroR z zs) = .tuple #[.agg #[.int .i64 q0, .int .i64 q1], .agg #[.int .i64 q2, .int .i64 q3], .int .i64 w1] ∧ (f = 0 → w1 = 0 ∧ (c0 ≤ q0 ∧ q1 ≤ c1) ∧ d0 ≤ q2 ∧ q3 ≤ d1))
    ∧ (repB (starR z zs a) = .tuple #[.agg #[.int .i64 r0, .int .i64 r1], .agg #[.int .i64 r2, .int .i64 r3], .int .i64 w2] ∧ (g = 0 → w2 = 0 ∧ (u0 ≤ r0 ∧ r1 ≤ u1) ∧ v0 ≤ r2 ∧ r3 ≤ v1))
    ∧ (repB (apartR z zs a b) = .tuple #[.agg #[.int .i64 y0, .int .i64 y1], .agg #[.int .i64 y2, .int .i64 y3], .int .i64 w3] ∧ (h = 0 → w3 = 0 ∧ (m0 ≤ y0 ∧ y1 ≤ m1) ∧ n0 ≤ y2 ∧ y3 ≤ n1))
theorem rep_nar {r r' : Except Int Value} (h : isFour r) (h' : isFour r') (hz : noZ r) (hn : Narrow r r') {a b c d e : Int} (hr : repB r = .tuple #[.agg #[.int .i64 a, .int .i64 b], .agg #[.int .i64 c, .int .i64 d], .int .i64 e]) :
    ∃ a' b' c' d' e' : Int, repB r' = .tuple #[.agg #[.int .i64 a', .int .i64 b'], .agg #[.int .i64 c', .int .i64 d'], .int .i64 e'] ∧ (e = 0 → e' = 0 ∧ (a ≤ a' ∧ b' ≤ b) ∧ c ≤ c' ∧ d' ≤ d) := by
  cases r with
  | error x =>
    obtain ⟨a', b', c', d', e', h1⟩ := repB_eq h'
    refine ⟨a', b', c', d', e', h1, fun h0 => ?_⟩
    subst h0
    unfold repB at hr
    simp at hr
    exact absurd hr.2.2 (hz x rfl)
  | ok v =>
    obtain ⟨v', e1, n1, n2, n3⟩ := hn v rfl
    subst e1
    obtain ⟨a', b', c', d', rfl⟩ := h' v' rfl
    obtain ⟨a1, b1, c1, d1, rfl⟩ := h v rfl
    unfold repB at hr
    simp at hr
    obtain ⟨⟨rfl, rfl⟩, ⟨rfl, rfl⟩, rfl⟩ := hr
    exact ⟨a', b', c', d', 0, rfl, fun _ => ⟨rfl, n1, n2, n3⟩⟩
theorem more_facts {p z : Pl} {ss zs : List St} (h : Inc p z ss zs) (a b : Int) {s0 s1 e c0 c1 d0 d1 f u0 u1 v0 v1 g m0 m1 n0 n1 k : Int} {u : Nat}
    (hs : repS (scaleR p ss) = .tuple #[.agg #[.int .i64 s0, .int .i64 s1], .int .i64 e])
    (hz : repB (zeroR p ss) = .tuple #[.agg #[.int .i64 c0, .int .i64 c1], .agg #[.int .i64 d0, .int .i64 d1], .int .i64 f])
    (ht : repB (starR p ss a) = .tuple #[.agg #[.int .i64 u0, .int .i64 u1], .agg #[.int .i64 v0, .int .i64 v1], .int .i64 g])
    (ha : repB (apartR p ss a b) = .tuple #[.agg #[.int .i64 m0, .int .i64 m1], .agg #[.int .i64 n0, .int .i64 n1], .int .i64 k])
    (hd : dropR p ss = .ok (.int .i64 (u : Int))) : MoF s0 s1 e c0 c1 d0 d1 f u0 u1 v0 v1 g m0 m1 n0 n1 k (popc (u : Int)) z zs a b := by
  refine ⟨?_, ?_⟩
  · obtain ⟨a0, o0, k0⟩ := drop_is h.nl h.v
    obtain ⟨a1, o1, k1⟩ := drop_is (by rw [h.nl', h.n]) h.v'
    have e0 := k0.drop
    rw [hd] at e0
    simp at e0
    have e1 : u = o0 := by omega
    subst e1
    exact ⟨o1, k1.drop, k1.lt, inc_drop h k0 k1⟩
  · rcases scale_cases h.v' with ⟨_, e10⟩ | ⟨hne, t0, t1, e1, k1⟩
    · exact .inl e10
    · right
      rcases scale_cases h.v with ⟨hn, _⟩ | ⟨_, x0, x1, e2, k2⟩
      · exact absurd hn (inc_nil h hne)
      · rw [e2] at hs
        unfold repS at hs
        simp at hs
        obtain ⟨⟨rfl, rfl⟩, rfl⟩ := hs
        have hsc := inc_scale h k2 k1
        obtain ⟨q0, q1, q2, q3, w1, g1, g2⟩ := rep_nar (zero_four p ss) (zero_four z zs) (zero_noZ p ss) (inc_zero h hne) hz
        obtain ⟨r0, r1, r2, r3, w2, g3, g4⟩ := rep_nar (star_four p ss a) (star_four z zs a) (star_noZ p ss a) (inc_star h hne a) ht
        obtain ⟨y0, y1, y2, y3, w3, g5, g6⟩ := rep_nar (apart_four p ss a b) (apart_four z zs a b) (apart_noZ p ss a b) (inc_apart h hne a b) ha
        exact ⟨t0, t1, q0, q1, q2, q3, w1, r0, r1, r2, r3, w2, y0, y1, y2, y3, w3, ⟨e1, rfl, hsc⟩, ⟨g1, g2⟩, ⟨g3, g4⟩, g5, g6⟩
end Go.Proofs.Ytdkegkacpdkjgaa

namespace Go.Proofs.Ytdkegkacpdkjgaa
open Go.RowKit

def AsNew (p : Pl) (ss : List St) (w : World) (e : Ending) (w' : World) : Prop :=
  ∃ g cap, e = .returned (.agg #[.int .i64 p.lo, .int .i64 p.hi, .slice (some ⟨g, 0, none⟩) p.n cap]) ∧ PlAt ⟨p.lo, p.hi, some ⟨g, 0, none⟩, p.n, cap⟩ ss w' ∧ w.heap.size ≤ g ∧ Below w.heap.size w w'
theorem BoxP.put {X : World} {B D : Nat} {p : Pl} (h : BoxP X B p) (hn : B ≠ D) (o : Nat) (v : Value) : BoxP (X.setCell ⟨D, o, none⟩ v) B p := by
  have e : ∀ k, (⟨D, o, none⟩ : Addr) ≠ ⟨B, k, none⟩ := fun k he => by injection he with h1; exact hn h1.symm
  exact ⟨by rw [World.cell?_setCell_other _ _ _ _ (e 0)]; exact h.c0, by rw [World.cell?_setCell_other _ _ _ _ (e 1)]; exact h.c1, by rw [World.cell?_setCell_other _ _ _ _ (e 2)]; exact h.c2⟩
theorem PlAt.put2 {X : World} {D b o : Nat} {p : Pl} {ss : List St} (h : PlAt p ss X) (ha : p.a = some ⟨b, o, none⟩) (hn : b ≠ D) (o' : Nat) (v : Value) : PlAt p ss (X.setCell ⟨D, o', none⟩ v) :=
  ⟨h.nl, h.big, h.lk.elim .inl fun ⟨b', q, h1, h2, h3⟩ => by
    rw [ha] at h1; injection h1 with h1; injection h1 with h1 h4; subst h1
    exact .inr ⟨b, q, by rw [ha, h4], by rw [World.size_setCell]; exact h2, fun i hi => (h3 i hi).put hn v⟩⟩
theorem slots_new3 (X : World) (a b c : Value) (T : TypeId) : Slots X.heap.size 3 (X.alloc (.cells #[a, b, c] T)) := by
  intro o ho
  have : o = 0 ∨ o = 1 ∨ o = 2 := by omega
  rcases this with rfl | rfl | rfl <;> simp [go_sem]
theorem PlAt.put3 {X : World} {D b o : Nat} {p : Pl} {ss : List St} (h : PlAt p ss X) (ha : p.a = some ⟨b, o, none⟩) (hn : b ≠ D ∨ ss = []) (o' : Nat) (v : Value) : PlAt p ss (X.setCell ⟨D, o', none⟩ v) :=
  hn.elim (fun hn => h.put2 ha hn o' v) fun hn => ⟨h.nl, h.big, .inl hn⟩
theorem pl_eta {p : Pl} {a : Option Addr} (h : p.a = a) : (⟨p.lo, p.hi, a, p.n, p.cap⟩ : Pl) = p := by subst h; rfl
/-- A plate is stored. -/
theorem set_three {X : World} {B : Nat} (h : Slots B 3 X) (p : Pl) :
    BoxP (((X.setCell ⟨B, 0, none⟩ (.int .i64 p.lo)).setCell ⟨B, 1, none⟩ (.int .i64 p.hi)).setCell ⟨B, 2, none⟩ (.slice p.a p.n p.cap)) B p := by
  obtain ⟨u0, q0, -⟩ := h.get 0 (by omega)
  obtain ⟨u1, q1, -⟩ := h.get 1 (by omega)
  obtain ⟨u2, q2, -⟩ := h.get 2 (by omega)
  exact ⟨by simp [go_sem, q0], by simp [go_sem, q1], by simp [go_sem, q2]⟩
set_option maxRecDepth 100000 in
set_option maxHeartbeats 4000000 in
theorem as_new (p : Pl) (ss : List St) (n : Nat) (a b c d : Int) (w : World) (h : PlAt p ss w) (hn : n < ss.length) (hl : p.n ≤ 30) :
    Calls Try.prog 27 #[p.val, .int .i64 n, .agg #[.int .i64 a, .int .i64 b], .agg #[.int .i64 c, .int .i64 d]] w (AsNew p (ss.set n (knowS (ss.getD n default) a b c d)) w) := by
  have hst0 : StarsIn w p.a ss := h.lk
  have hnl := h.nl
  clear h
  unfold Pl.val
  obtain ⟨W0, hW0⟩ : ∃ X, (((w.alloc (.cells #[.int .i64 p.lo, .int .i64 p.hi, .slice p.a p.n p.cap] 29)).alloc (.cells #[.int .i64 a, .int .i64 b] 23)).alloc (.cells #[.int .i64 c, .int .i64 d] 23)).alloc (.cells #[.int .i64 0, .int .i64 0, .slice none 0 0] 29) = X := ⟨_, rfl⟩
  have hB0 : Below w.heap.size w W0 := by rw [← hW0]; exact BA (BA (BA (newB _ _) _) _) _
  have b0 : W0.cell? ⟨w.heap.size, 0, none⟩ = some (.int .i64 p.lo) := by rw [← hW0]; simp [go_sem]
  have b1 : W0.cell? ⟨w.heap.size, 1, none⟩ = some (.int .i64 p.hi) := by rw [← hW0]; simp [go_sem]
  have b2 : W0.cell? ⟨w.heap.size, 2, none⟩ = some (.slice p.a p.n p.cap) := by rw [← hW0]; simp [go_sem]
  have hsp : Slots w.heap.size 3 W0 := by
    rw [← hW0]
    intro o ho
    have : o = 0 ∨ o = 1 ∨ o = 2 := by omega
    rcases this with rfl | rfl | rfl <;> simp [go_sem]
  have e0 : W0.cell? ⟨w.heap.size + 1, 0, none⟩ = some (.int .i64 a) := by rw [← hW0]; simp [go_sem]
  have e1 : W0.cell? ⟨w.heap.size + 1, 1, none⟩ = some (.int .i64 b) := by rw [← hW0]; simp [go_sem]
  have f0 : W0.cell? ⟨w.heap.size + 1 + 1, 0, none⟩ = some (.int .i64 c) := by rw [← hW0]; simp [go_sem]
  have f1 : W0.cell? ⟨w.heap.size + 1 + 1, 1, none⟩ = some (.int .i64 d) := by rw [← hW0]; simp [go_sem]
  have hs : Slots (w.heap.size + 1 + 1 + 1) 3 W0 := by
    rw [← hW0]
    intro o ho
    have : o = 0 ∨ o = 1 ∨ o = 2 := by omega
    rcases this with rfl | rfl | rfl <;> simp [go_sem]
  have hsz : w.heap.size + 1 + 1 + 1 < W0.heap.size := by rw [← hW0]; simp
  have hst := hst0.below hB0
  obtain ⟨XE, hXE⟩ : ∃ X, W0.alloc (.cells #[] 55) = X := ⟨_, rfl⟩
  have hr0 : XE.ownsRow W0.heap.size 55 9 (.slice (some ⟨W0.heap.size, 0, none⟩) 0 0) 0 [] := by rw [← hXE]; exact World.ownsRow_lit (base := W0.heap.size) (e := 55) (size := 9) W0 #[] 0 (Nat.le_refl _) (by unfold maxLen; omega) (by rfl)
  have hE : Below W0.heap.size W0 XE := by rw [← hXE]; exact newB _ _
  have hst1 := hst.below hE
  have b2' := cellB b2 hE
  go_enter Try.func27, Try.ntmps27
  go_wp2_with (at_builtin; refine wpList_append_stars rfl (.tmp 9) (.tmp 11) rfl W0.heap.size (.slice (some ⟨W0.heap.size, 0, none⟩) 0 0) (by rfl) hr0 p.a p.n p.cap ss (by rfl) hst1 hnl (by omega) hE.size ?_)
  intro v' w' hr hg
  have hB1 : Below W0.heap.size W0 w' := hE.grown hg hE.size (fun k e => by simp [Value.ownBlock] at e; omega)
  clear hg hr0 hst1 hXE hE b2' hst
  obtain ⟨g, cap, rfl⟩ : ∃ g cap, v' = .slice (some ⟨g, 0, none⟩) p.n cap := by
    rcases hr.2 with ⟨h1, h2⟩ | ⟨g, cap, cur, h1, _⟩
    · omega
    · exact ⟨g, cap, h1⟩
  have hgl := hr.lt g rfl
  have b0 := cellB b0 hB1
  have b1 := cellB b1 hB1
  have b2 := cellB b2 hB1
  have e0 := cellB e0 hB1
  have e1 := cellB e1 hB1
  have f0 := cellB f0 hB1
  have f1 := cellB f1 hB1
  have hs := hs.below hB1 hsz
  have hsp := hsp.below hB1 (by omega)
  obtain ⟨_, _, z2⟩ := hsp.get 2 (by omega)
  have hB2 := BT hB0 hB1
  obtain ⟨X1, hX1⟩ : ∃ X, w'.setCell ⟨w.heap.size, 2, none⟩ (.slice (some ⟨g, 0, none⟩) p.n cap) = X := ⟨_, rfl⟩
  have hr := ownsRow_setCell_below hr (a := ⟨w.heap.size, 2, none⟩) (by show w.heap.size < W0.heap.size; omega) (.slice (some ⟨g, 0, none⟩) p.n cap)
  have c0 : X1.cell? ⟨w.heap.size, 0, none⟩ = some (.int .i64 p.lo) := by rw [← hX1]; simp [go_sem, b0]
  have c1 : X1.cell? ⟨w.heap.size, 1, none⟩ = some (.int .i64 p.hi) := by rw [← hX1]; simp [go_sem, b1]
  have c2 : X1.cell? ⟨w.heap.size, 2, none⟩ = some (.slice (some ⟨g, 0, none⟩) p.n cap) := by rw [← hX1]; exact World.cell?_setCell_same _ _ _ b2
  have e0 : X1.cell? ⟨w.heap.size + 1, 0, none⟩ = some (.int .i64 a) := by rw [← hX1]; simp [go_sem, e0]
  have e1 : X1.cell? ⟨w.heap.size + 1, 1, none⟩ = some (.int .i64 b) := by rw [← hX1]; simp [go_sem, e1]
  have f0 : X1.cell? ⟨w.heap.size + 1 + 1, 0, none⟩ = some (.int .i64 c) := by rw [← hX1]; simp [go_sem, f0]
  have f1 : X1.cell? ⟨w.heap.size + 1 + 1, 1, none⟩ = some (.int .i64 d) := by rw [← hX1]; simp [go_sem, f1]
  have hs : Slots (w.heap.size + 1 + 1 + 1) 3 X1 := by rw [← hX1]; exact hs.set _ _
  have hB3 : Below w.heap.size w X1 := by rw [← hX1]; exact BC hB2 w.heap.size 2 (Nat.le_refl _) _
  rw [hX1] at hr
  have hn0 : (0 : Int) ≤ (n : Int) := by omega
  have hki : (n : Int) < (p.n : Int) := by omega
  go_wp2_with fail
  clear hX1 hB1 hB2 b0 b1 b2 hsp z2
  have hI : Hid (∀ Y, Below W0.heap.size X1 Y → Y.cell? ⟨w.heap.size, 2, none⟩ = some (.slice (some ⟨g, 0, none⟩) p.n cap) ∧ Y.cell? ⟨w.heap.size + 1, 0, none⟩ = some (.int .i64 a) ∧ Y.cell? ⟨w.heap.size + 1, 1, none⟩ = some (.int .i64 b) ∧ Y.cell? ⟨w.heap.size + 1 + 1, 0, none⟩ = some (.int .i64 c) ∧ Y.cell? ⟨w.heap.size + 1 + 1, 1, none⟩ = some (.int .i64 d)) := fun Y hY => ⟨(hY.cell (p := ⟨_, _, none⟩) (by show w.heap.size < _; omega)).trans c2, (hY.cell (p := ⟨_, _, none⟩) (by show w.heap.size + 1 < _; omega)).trans e0, (hY.cell (p := ⟨_, _, none⟩) (by show w.heap.size + 1 < _; omega)).trans e1, (hY.cell (p := ⟨_, _, none⟩) (by show w.heap.size + 1 + 1 < _; omega)).trans f0, (hY.cell (p := ⟨_, _, none⟩) (by show w.heap.size + 1 + 1 < _; omega)).trans f1⟩
  have hbD : Below W0.heap.size X1 X1.drew := Below.drew (Below.refl _ X1)
  have hr := hr.drew
  have hxl : (ss.flatMap starC).length = p.n * 9 := by rw [flat_len9, hnl]
  refine wp_region_seq [(0, true), (1, true), (2, true), (3, true), (4, true), (5, true), (6, true), (7, true), (8, true), (9, true), (10, true), (11, true), (12, true), (13, false), (14, true), (15, true), (16, false), (17, true), (18, true), (19, false)] (fun Y => Y.cell? ⟨w.heap.size, 2, none⟩ = some (.slice (some ⟨g, 0, none⟩) p.n cap) ∧ Y.cell? ⟨w.heap.size + 1, 0, none⟩ = some (.int .i64 a) ∧ Y.cell? ⟨w.heap.size + 1, 1, none⟩ = some (.int .i64 b) ∧ Y.cell? ⟨w.heap.size + 1 + 1, 0, none⟩ = some (.int .i64 c) ∧ Y.cell? ⟨w.heap.size + 1 + 1, 1, none⟩ = some (.int .i64 d)) (by kernel_rfl) (by kernel_rfl) (fun _ _ d _ _ h => by cases d <;> exact h) (hI.out _ hbD) ?_
  generalize X1.drew = Y0 at *
  repeat (first | (refine seq_read rfl (by rfl) _ (fun w' hS => by (try dsimp only at hS); go_simp; (try with_reducible rfl)) ?_; (try simp only [Act.put, List.setIfInBounds_toArray, List.set_cons_zero, List.set_cons_succ])) | (refine seq_skip rfl (by rfl) ?_; (try simp only [Act.put, List.setIfInBounds_toArray, List.set_cons_zero, List.set_cons_succ])))
  refine seq_do rfl (by rfl) (fun K hK => ?_)
  obtain ⟨x4, q4⟩ := row_cell hr (n * 9 + 4) (by omega) hxl
  have z4 := hr.frozenAt (n * 9 + 4)
  have hr1 := (hr.stored (n * 9 + 4) (.bool true)).1
  have hb1 := hbD.setCell (p := ⟨g, n * 9 + 4, none⟩) hgl.1 (.bool true)
  go_simp
  refine hK _ _ (hI.out _ hb1) ?_
  clear hK K q4 z4 hr hbD
  generalize Y0.setCell ⟨g, n * 9 + 4, none⟩ (.bool true) = Y1 at *
  (try simp only [Act.put, List.setIfInBounds_toArray, List.set_cons_zero, List.set_cons_succ])
  repeat (first | (refine seq_read rfl (by rfl) _ (fun w' hS => by (try dsimp only at hS); go_simp; (try with_reducible rfl)) ?_; (try simp only [Act.put, List.setIfInBounds_toArray, List.set_cons_zero, List.set_cons_succ])) | (refine seq_skip rfl (by rfl) ?_; (try simp only [Act.put, List.setIfInBounds_toArray, List.set_cons_zero, List.set_cons_succ])))
  refine seq_do rfl (by rfl) (fun K hK => ?_)
  obtain ⟨x5, q5⟩ := row_cell hr1 (n * 9 + 5) (by omega) (by simpa using hxl)
  obtain ⟨x6, q6⟩ := row_cell hr1 (n * 9 + 5 + 1) (by omega) (by simpa using hxl)
  have z5 := hr1.frozenAt (n * 9 + 5)
  have z6 := hr1.frozenAt (n * 9 + 5 + 1)
  have hr2 := ((hr1.stored (n * 9 + 5) (.int .i64 a)).1.stored (n * 9 + 5 + 1) (.int .i64 b)).1
  have hb2 := (hb1.setCell (p := ⟨g, n * 9 + 5, none⟩) hgl.1 (.int .i64 a)).setCell (p := ⟨g, n * 9 + 5 + 1, none⟩) hgl.1 (.int .i64 b)
  go_simp
  refine hK _ _ (hI.out _ hb2) ?_
  clear hK K q5 z5 q6 z6 hr1 hb1
  generalize (Y1.setCell ⟨g, n * 9 + 5, none⟩ (.int .i64 a)).setCell ⟨g, n * 9 + 5 + 1, none⟩ (.int .i64 b) = Y2 at *
  (try simp only [Act.put, List.setIfInBounds_toArray, List.set_cons_zero, List.set_cons_succ])
  repeat (first | (refine seq_read rfl (by rfl) _ (fun w' hS => by (try dsimp only at hS); go_simp; (try with_reducible rfl)) ?_; (try simp only [Act.put, List.setIfInBounds_toArray, List.set_cons_zero, List.set_cons_succ])) | (refine seq_skip rfl (by rfl) ?_; (try simp only [Act.put, List.setIfInBounds_toArray, List.set_cons_zero, List.set_cons_succ])))
  refine seq_last rfl (by rfl) (by kernel_rfl) (fun K hK => ?_)
  obtain ⟨x7, q7⟩ := row_cell hr2 (n * 9 + 7) (by omega) (by simpa using hxl)
  obtain ⟨x8, q8⟩ := row_cell hr2 (n * 9 + 7 + 1) (by omega) (by simpa using hxl)
  have z7 := hr2.frozenAt (n * 9 + 7)
  have z8 := hr2.frozenAt (n * 9 + 7 + 1)
  have hr3 := ((hr2.stored (n * 9 + 7) (.int .i64 c)).1.stored (n * 9 + 7 + 1) (.int .i64 d)).1
  have hb3 := (hb2.setCell (p := ⟨g, n * 9 + 7, none⟩) hgl.1 (.int .i64 c)).setCell (p := ⟨g, n * 9 + 7 + 1, none⟩) hgl.1 (.int .i64 d)
  go_simp
  refine hK _ _ ?_
  clear hK K q7 z7 q8 z8 hr2 hb2
  first | show Exit.inBlock _ _ Exit.normal _ _ | show Exit.then _ _ Exit.normal _ _ | skip
  generalize (Y2.setCell ⟨g, n * 9 + 7, none⟩ (.int .i64 c)).setCell ⟨g, n * 9 + 7 + 1, none⟩ (.int .i64 d) = Y3 at *
  have hgx : W0.heap.size ≤ g := hgl.1
  have k0 := (hb3.cell (p := ⟨w.heap.size, 0, none⟩) (by show w.heap.size < _; omega)).trans c0
  have k1 := (hb3.cell (p := ⟨w.heap.size, 1, none⟩) (by show w.heap.size < _; omega)).trans c1
  have k2 := (hb3.cell (p := ⟨w.heap.size, 2, none⟩) (by show w.heap.size < _; omega)).trans c2
  have hs := hs.below hb3 hsz
  obtain ⟨x0, q0, z0⟩ := hs.get 0 (by omega)
  obtain ⟨x1, q1, z1⟩ := hs.get 1 (by omega)
  obtain ⟨x2, q2, z2⟩ := hs.get 2 (by omega)
  have hgl3 := (hr3.lt g rfl).2
  have hS3 : StarsIn Y3 (some ⟨g, 0, none⟩) (ss.set n (knowS (ss.getD n default) a b c d)) := by
    rw [← hnl] at hr3
    exact know_row hn hgl3 hr3
  have hB4 : Below w.heap.size w Y3 := hB3.trans (hb3.mono (by omega))
  clear hb3 hr3 hI hst0 hs
  have hpl : PlAt ⟨p.lo, p.hi, some ⟨g, 0, none⟩, p.n, cap⟩ (ss.set n (knowS (ss.getD n default) a b c d)) Y3 := ⟨by rw [List.length_set]; exact hnl, by show p.n ≤ 1000000000; omega, hS3⟩
  have hne : g ≠ w.heap.size + 1 + 1 + 1 := by omega
  have hp1 := ((hpl.put rfl hne (o := 0) (.int .i64 p.lo)).put rfl hne (o := 1) (.int .i64 p.hi)).put rfl hne (o := 2) (.slice (some ⟨g, 0, none⟩) p.n cap)
  have hfin := (BC (BC (BC hB4 (w.heap.size + 1 + 1 + 1) 0 (by omega) (.int .i64 p.lo)) (w.heap.size + 1 + 1 + 1) 1 (by omega) (.int .i64 p.hi)) (w.heap.size + 1 + 1 + 1) 2 (by omega) (.slice (some ⟨g, 0, none⟩) p.n cap))
  have hgg := hgl.1
  clear hpl hS3 hB4 hB3 hB0
  go_wp2_with fail
  exact bodyPost_ret (v := .agg #[.int .i64 p.lo, .int .i64 p.hi, .slice (some ⟨g, 0, none⟩) p.n cap]) (by simp [results, Try.results27, go_sem, q0, q1, q2]) rfl ⟨g, cap, rfl, hp1, by omega, hfin⟩
end Go.Proofs.Ytdkegkacpdkjgaa

namespace Go.Proofs.Ytdkegkacpdkjgaa
section
variable {P : Program} {ops : Array Oper} {l : List Oper} {Q : Exit → Act → World → Prop} {md : Region.Mode} {S : World → Prop} {F : List Nat}

/-- It waits for all of them. -/
def finalF5 (md : Region.Mode) (ops : Array Oper) (F : List Nat) (j : Nat) : Bool := F.all fun k => k == j || (depsN md ops 5 (deps md ops j)).contains k
def wpAnyRF5 (P : Program) (md : Region.Mode) (ops : Array Oper) (F : List Nat) (Q : Exit → Act → World → Prop) (S : World → Prop) : Nat → Array Bool → Act → World → Prop
  | 0, listed, a, w => Region.ready md ops listed = [] ∧ Q .normal a w
  | fuel + 1, listed, a, w =>
    (Region.ready md ops listed = [] → Q .normal a w) ∧
    ∀ i ∈ Region.ready md ops listed, wpOp P ops Q i (fun a' w' => (finalF5 md ops F i = false → S w → S w') ∧ wpAnyRF5 P md ops F Q S fuel (listed.setIfInBounds i true) a' w') a w
theorem wpAny_of_RF5 : ∀ (fuel : Nat) (listed : Array Bool) (a : Act) (w : World), wpAnyRF5 P md ops F Q S fuel listed a w → wpAny P md ops Q fuel listed a w
  | 0, _, _, _, h => h
  | fuel + 1, _, _, _, h => ⟨h.1, fun i hi => wpOp_mono (fun a' w' h' => wpAny_of_RF5 fuel _ a' w' h'.2) (h.2 i hi)⟩
theorem not_finalF5 {listed : Array Bool} {i j : Nat} (hc : Closed md ops listed) (hi : i ∈ Region.ready md ops listed) (hj : j ∈ Region.ready md ops listed) (hne : j ≠ i) (hF : i ∈ F) : finalF5 md ops F j = false := by
  obtain ⟨hi0, oi, hoi, _⟩ := mem_ready.1 hi
  cases hf : finalF5 md ops F j
  · rfl
  · exfalso
    unfold finalF5 at hf
    rw [List.all_eq_true] at hf
    have h1 := hf i hF
    simp only [Bool.or_eq_true, beq_iff_eq, List.contains_iff_mem] at h1
    rcases h1 with h1 | h1
    · exact hne h1.symm
    · have h2 := closed_depsN hc 5 _ (deps_ready hj) i h1
      rcases Nat.lt_or_ge i listed.size with h' | h'
      · simp [h'] at hi0 h2; rw [hi0] at h2; cases h2
      · simp [Array.getElem?_eq_none h'] at h2
theorem wpAnyR_firstF5 {i : Nat} {oi : Oper} {v : Value} (hF : i ∈ F) (hi : ops[i]? = some oi) (hsel : ∀ (j : Nat) (o : Oper) cs b, ops[j]? = some o → o.op ≠ .select cs b)
    (hQ : ∀ c a w, Q (.panic c) (a.put oi.dst v) w → Q (.panic c) a w) :
    ∀ (fuel : Nat) (listed : Array Bool) (a : Act) (w : World), Closed md ops listed →
      (∀ j oj, ops[j]? = some oj → j ≠ i → listed.getD j true = false → (∀ e ∈ oj.after, Region.binds md e = true → e.on ≠ i) → oi.apart ops oj = true) →
      i ∈ Region.ready md ops listed → YieldsIf P ops S oi v a → S w →
      wpAnyRF5 P md ops F Q S fuel (listed.setIfInBounds i true) (a.put oi.dst v) w → wpAnyRF5 P md ops F Q S (fuel + 1) listed a w := by
  intro fuel
  induction fuel with
  | zero =>
    intro listed a w _ _ hr hy hS H
    refine ⟨fun h => absurd hr (by rw [h]; simp), fun j hj => ?_⟩
    by_cases hji : j = i
    · subst hji; exact hy.wpOp hi hS ⟨fun _ h => h, H⟩
    · have hj' := ready_mono hj hji
      rw [H.1] at hj'; cases hj'
  | succ fuel ih =>
    intro listed a w hcl hfree hr hy hS H
    refine ⟨fun h => absurd hr (by rw [h]; simp), fun j hj => ?_⟩
    by_cases hji : j = i
    · subst hji; exact hy.wpOp hi hS ⟨fun _ h => h, H⟩
    · have hnf := not_finalF5 hcl hr hj hji hF
      obtain ⟨hjun, oj, hoj, hall⟩ := mem_ready.1 hj
      have hnot : ∀ e ∈ oj.after, Region.binds md e = true → e.on ≠ i := fun e he hb heq => by
        have h2 := hall e he hb
        have h0 := (mem_ready.1 hr).1
        rw [heq] at h2
        rcases Nat.lt_or_ge i listed.size with h' | h'
        · simp [h'] at h0 h2; rw [h0] at h2; cases h2
        · simp [Array.getElem?_eq_none h'] at h2
      have hstep := wpOp_putIf hoj (hfree j oj hoj hji hjun hnot) (fun cs b => hsel i oi cs b hi) (fun cs b => hsel j oj cs b hoj) hQ hy (H.2 j (ready_mono hj hji))
      have hfree2 : ∀ k ok, ops[k]? = some ok → k ≠ i → (listed.setIfInBounds j true).getD k true = false →
          (∀ e ∈ ok.after, Region.binds md e = true → e.on ≠ i) → oi.apart ops ok = true := fun k ok hk hki hun hno => by
        refine hfree k ok hk hki ?_ hno
        by_cases hjk : j = k
        · subst hjk; exact hjun
        · rw [getD_set_ne true hjk] at hun; exact hun
      refine wpOp_mono (fun a' w' h3 => ?_) hstep
      obtain ⟨hy3, hS3, h3⟩ := h3
      rw [Array.setIfInBounds_comm _ _ (Ne.symm hji)] at h3
      exact ⟨hS3, ih (listed.setIfInBounds j true) a' w' (closed_set hcl hj) hfree2 (ready_mono hr (Ne.symm hji)) hy3 (hS3 hnf hS) h3⟩


theorem wpAnyR_firstG5 {i : Nat} {oi : Oper} {v : Value} (hi : ops[i]? = some oi) (hsel : ∀ (j : Nat) (o : Oper) cs b, ops[j]? = some o → o.op ≠ .select cs b)
    (hQ : ∀ c a w, Q (.panic c) (a.put oi.dst v) w → Q (.panic c) a w) :
    ∀ (fuel : Nat) (listed : Array Bool) (a : Act) (w : World), Closed md ops listed →
      (∀ j oj, ops[j]? = some oj → j ≠ i → listed.getD j true = false → (∀ e ∈ oj.after, Region.binds md e = true → e.on ≠ i) → oi.apart ops oj = true) →
      i ∈ Region.ready md ops listed → YieldsIf P ops (fun _ => True) oi v a →
      wpAnyRF5 P md ops F Q S fuel (listed.setIfInBounds i true) (a.put oi.dst v) w → wpAnyRF5 P md ops F Q S (fuel + 1) listed a w := by
  intro fuel
  induction fuel with
  | zero =>
    intro listed a w _ _ hr hy H
    refine ⟨fun h => absurd hr (by rw [h]; simp), fun j hj => ?_⟩
    by_cases hji : j = i
    · subst hji; exact hy.wpOp hi trivial ⟨fun _ h => h, H⟩
    · have hj' := ready_mono hj hji
      rw [H.1] at hj'; cases hj'
  | succ fuel ih =>
    intro listed a w hcl hfree hr hy H
    refine ⟨fun h => absurd hr (by rw [h]; simp), fun j hj => ?_⟩
    by_cases hji : j = i
    · subst hji; exact hy.wpOp hi trivial ⟨fun _ h => h, H⟩
    · obtain ⟨hjun, oj, hoj, hall⟩ := mem_ready.1 hj
      have hnot : ∀ e ∈ oj.after, Region.binds md e = true → e.on ≠ i := fun e he hb heq => by
        have h2 := hall e he hb
        have h0 := (mem_ready.1 hr).1
        rw [heq] at h2
        rcases Nat.lt_or_ge i listed.size with h' | h'
        · simp [h'] at h0 h2; rw [h0] at h2; cases h2
        · simp [Array.getElem?_eq_none h'] at h2
      have hstep := wpOp_putIf hoj (hfree j oj hoj hji hjun hnot) (fun cs b => hsel i oi cs b hi) (fun cs b => hsel j oj cs b hoj) hQ hy (H.2 j (ready_mono hj hji))
      have hfree2 : ∀ k ok, ops[k]? = some ok → k ≠ i → (listed.setIfInBounds j true).getD k true = false →
          (∀ e ∈ ok.after, Region.binds md e = true → e.on ≠ i) → oi.apart ops ok = true := fun k ok hk hki hun hno => by
        refine hfree k ok hk hki ?_ hno
        by_cases hjk : j = k
        · subst hjk; exact hjun
        · rw [getD_set_ne true hjk] at hun; exact hun
      refine wpOp_mono (fun a' w' h3 => ?_) hstep
      obtain ⟨hy3, hS3, h3⟩ := h3
      rw [Array.setIfInBounds_comm _ _ (Ne.symm hji)] at h3
      exact ⟨hS3, ih (listed.setIfInBounds j true) a' w' (closed_set hcl hj) hfree2 (ready_mono hr (Ne.symm hji)) hy3 h3⟩


def lateTr5 (md : Region.Mode) (ops : Array Oper) (F : List Nat) : Tr → Bool
  | .leaf => true
  | .one i t => finalF5 md ops F i && lateTr5 md ops F t
  | .read i t => !F.contains i && lateTr5 md ops F t
  | _ => false
def okTrF5 (md : Region.Mode) (ops : Array Oper) (F : List Nat) : Tr → Array Bool → Bool
  | .leaf, d => (Region.ready md ops d).isEmpty
  | .read i t, d => (Region.ready md ops d).contains i && Region.free md ops d i && okTrF5 md ops F t (d.setIfInBounds i true)
  | .one i t, d => decide (Region.ready md ops d = [i]) && (!finalF5 md ops F i || lateTr5 md ops F t) && okTrF5 md ops F t (d.setIfInBounds i true)
  | .two i t j u, d => decide (Region.ready md ops d = [i, j]) && !finalF5 md ops F i && !finalF5 md ops F j && okTrF5 md ops F t (d.setIfInBounds i true) && okTrF5 md ops F u (d.setIfInBounds j true)
  | .three i t j u k v, d => decide (Region.ready md ops d = [i, j, k]) && !finalF5 md ops F i && !finalF5 md ops F j && !finalF5 md ops F k && okTrF5 md ops F t (d.setIfInBounds i true) && okTrF5 md ops F u (d.setIfInBounds j true) && okTrF5 md ops F v (d.setIfInBounds k true)
def stepTrF5 (P : Program) (md : Region.Mode) (l : List Oper) (F : List Nat) (Q : Exit → Act → World → Prop) (S : World → Prop) (i : Nat) (K : Act → World → Prop) (a : Act) (w : World) : Prop :=
  match l[i]? with
  | none => False
  | some o => (Region.wanted o (yielded l.toArray a.tmps) = false ∧ K (a.put o.dst undef) w) ∨
      (Region.wanted o (yielded l.toArray a.tmps) = true ∧ o.wp P a w (fun a' w' => (finalF5 md l.toArray F i = false → S w') ∧ ((finalF5 md l.toArray F i = false → S w') → K a' w')) Q)
def wpTrF5 (P : Program) (md : Region.Mode) (l : List Oper) (F : List Nat) (Q : Exit → Act → World → Prop) (S : World → Prop) : Tr → Act → World → Prop
  | .leaf, a, w => Q .normal a w
  | .read i t, a, w => match l[i]? with
    | none => False
    | some o => (Region.wanted o (yielded l.toArray a.tmps) = false ∧ wpTrF5 P md l F Q S t (a.put o.dst undef) w) ∨
        (Region.wanted o (yielded l.toArray a.tmps) = true ∧ ∃ v, (∀ w', (F.contains i = true → S w') → (execOp a.eval o).run P w' = .ok (.value v) w') ∧ wpTrF5 P md l F Q S t (a.put o.dst v) w)
  | .one i t, a, w => stepTrF5 P md l F Q S i (wpTrF5 P md l F Q S t) a w
  | .two i t j u, a, w => stepTrF5 P md l F Q S i (wpTrF5 P md l F Q S t) a w ∧ stepTrF5 P md l F Q S j (wpTrF5 P md l F Q S u) a w
  | .three i t j u k v, a, w => stepTrF5 P md l F Q S i (wpTrF5 P md l F Q S t) a w ∧ stepTrF5 P md l F Q S j (wpTrF5 P md l F Q S u) a w ∧ stepTrF5 P md l F Q S k (wpTrF5 P md l F Q S v) a w

theorem step_soundF5 {i fuel : Nat} {K : Act → World → Prop} {listed : Array Bool} {a : Act} {w : World} (hS : finalF5 md l.toArray F i = false → S w) (h : stepTrF5 P md l F Q S i K a w)
    (hK : ∀ a' w', (finalF5 md l.toArray F i = false → S w') → K a' w' → wpAnyRF5 P md l.toArray F Q S fuel (listed.setIfInBounds i true) a' w') :
    wpOp P l.toArray Q i (fun a' w' => (finalF5 md l.toArray F i = false → S w → S w') ∧ wpAnyRF5 P md l.toArray F Q S fuel (listed.setIfInBounds i true) a' w') a w := by
  unfold stepTrF5 at h
  cases ho : l[i]? with
  | none => rw [ho] at h; exact h.elim
  | some o =>
    rw [ho] at h
    have ho' : l.toArray[i]? = some o := by simpa using ho
    unfold Go.wpOp
    rw [ho']
    rcases h with ⟨hw, h⟩ | ⟨hw, h⟩
    · simp only [hw, Bool.false_eq_true, if_false]
      exact ⟨fun h _ => hS h, hK _ _ hS h⟩
    · simp only [hw, if_true]
      exact Or.inl (Oper.wp_mono (fun a' w' h' => ⟨fun h _ => h'.1 h, hK a' w' h'.1 (h'.2 h'.1)⟩) h)

theorem wpTr_soundF5 (hs : Region.noSelect l.toArray = true) (hQ : ∀ c a d v w, Q (.panic c) (Act.put a d v) w → Q (.panic c) a w) :
    ∀ (t : Tr) (fuel : Nat) (listed : Array Bool) (a : Act) (w : World), t.depth ≤ fuel → Closed md l.toArray listed → okTrF5 md l.toArray F t listed = true → (lateTr5 md l.toArray F t = false → S w) → wpTrF5 P md l F Q S t a w → wpAnyRF5 P md l.toArray F Q S fuel listed a w := by
  intro t
  induction t with
  | leaf =>
    intro fuel listed a w _ _ hok _ h
    have hr : Region.ready md l.toArray listed = [] := by simpa [okTrF5] using hok
    cases fuel with
    | zero => exact ⟨hr, h⟩
    | succ fuel => exact ⟨fun _ => h, by rw [hr]; simp⟩
  | read i t ih =>
    intro fuel listed a w hf hcl hok hS0 h
    have hSt : lateTr5 md l.toArray F t = false → S w := fun h => hS0 (by rw [lateTr5, h, Bool.and_false])
    cases fuel with
    | zero => simp [Tr.depth] at hf
    | succ fuel =>
      have hf' : t.depth ≤ fuel := by simp [Tr.depth] at hf; omega
      simp only [okTrF5, Bool.and_eq_true] at hok
      obtain ⟨⟨hc, hfr⟩, hok⟩ := hok
      have hr : i ∈ Region.ready md l.toArray listed := by simpa using hc
      simp only [wpTrF5] at h
      cases ho : l[i]? with
      | none => rw [ho] at h; exact h.elim
      | some o =>
        rw [ho] at h
        have ho' : l.toArray[i]? = some o := by simpa using ho
        cases hFi : F.contains i with
        | true =>
          have hF : i ∈ F := by simpa using hFi
          have hS : S w := hS0 (by rw [lateTr5, hFi]; rfl)
          rcases h with ⟨hw, h⟩ | ⟨hw, v, hv, h⟩
          · exact wpAnyR_firstF5 hF ho' (Region.noSelect_spec hs) (fun c a w => hQ c a _ _ w) fuel listed a w hcl (Region.free_spec ho' hfr) hr (Or.inr ⟨hw, rfl⟩) hS (ih fuel _ _ _ hf' (closed_set hcl hr) hok hSt h)
          · exact wpAnyR_firstF5 hF ho' (Region.noSelect_spec hs) (fun c a w => hQ c a _ _ w) fuel listed a w hcl (Region.free_spec ho' hfr) hr (Or.inl ⟨hw, fun w' hw' => hv w' (fun _ => hw')⟩) hS (ih fuel _ _ _ hf' (closed_set hcl hr) hok hSt h)
        | false =>
          rcases h with ⟨hw, h⟩ | ⟨hw, v, hv, h⟩
          · exact wpAnyR_firstG5 ho' (Region.noSelect_spec hs) (fun c a w => hQ c a _ _ w) fuel listed a w hcl (Region.free_spec ho' hfr) hr (Or.inr ⟨hw, rfl⟩) (ih fuel _ _ _ hf' (closed_set hcl hr) hok hSt h)
          · exact wpAnyR_firstG5 ho' (Region.noSelect_spec hs) (fun c a w => hQ c a _ _ w) fuel listed a w hcl (Region.free_spec ho' hfr) hr (Or.inl ⟨hw, fun w' _ => hv w' (fun h => by rw [hFi] at h; cases h)⟩) (ih fuel _ _ _ hf' (closed_set hcl hr) hok hSt h)
  | one i t ih =>
    intro fuel listed a w hf hcl hok hS0 h
    cases fuel with
    | zero => simp [Tr.depth] at hf
    | succ fuel =>
      have hf' : t.depth ≤ fuel := by simp [Tr.depth] at hf; omega
      simp only [okTrF5, Bool.and_eq_true, decide_eq_true_eq, Bool.or_eq_true, Bool.not_eq_true'] at hok
      obtain ⟨⟨hr, hfin⟩, hok⟩ := hok
      refine ⟨fun h0 => absurd h0 (by rw [hr]; simp), fun j hj => ?_⟩
      rw [hr] at hj
      obtain rfl : j = i := by simpa using hj
      refine step_soundF5 (fun hi => hS0 (by simp [lateTr5, hi])) h (fun a' w' hS' h' => ih fuel _ _ _ hf' (closed_set hcl (by rw [hr]; simp)) hok (fun hl => ?_) h')
      rcases hfin with hfin | hfin
      · exact hS' hfin
      · rw [hfin] at hl; cases hl
  | two i t j u iht ihu =>
    intro fuel listed a w hf hcl hok hS0 h
    have hS := hS0 rfl
    cases fuel with
    | zero => simp [Tr.depth] at hf
    | succ fuel =>
      have hf' : t.depth ≤ fuel ∧ u.depth ≤ fuel := by simp [Tr.depth] at hf; omega
      simp only [okTrF5, Bool.and_eq_true, decide_eq_true_eq, Bool.not_eq_true'] at hok
      obtain ⟨⟨⟨⟨hr, hi⟩, hj⟩, hok1⟩, hok2⟩ := hok
      obtain ⟨h1, h2⟩ := h
      refine ⟨fun h0 => absurd h0 (by rw [hr]; simp), fun k hk => ?_⟩
      rw [hr] at hk
      simp only [List.mem_cons, List.not_mem_nil, or_false] at hk
      rcases hk with rfl | rfl
      · exact step_soundF5 (fun _ => hS) h1 (fun a' w' hS' h' => iht fuel _ _ _ hf'.1 (closed_set hcl (by rw [hr]; simp)) hok1 (fun _ => hS' hi) h')
      · exact step_soundF5 (fun _ => hS) h2 (fun a' w' hS' h' => ihu fuel _ _ _ hf'.2 (closed_set hcl (by rw [hr]; simp)) hok2 (fun _ => hS' hj) h')
  | three i t j u k v iht ihu ihv =>
    intro fuel listed a w hf hcl hok hS0 h
    have hS := hS0 rfl
    cases fuel with
    | zero => simp [Tr.depth] at hf
    | succ fuel =>
      have hf' : t.depth ≤ fuel ∧ u.depth ≤ fuel ∧ v.depth ≤ fuel := by simp [Tr.depth] at hf; omega
      simp only [okTrF5, Bool.and_eq_true, decide_eq_true_eq, Bool.not_eq_true'] at hok
      obtain ⟨⟨⟨⟨⟨⟨hr, hi⟩, hj⟩, hk'⟩, hok1⟩, hok2⟩, hok3⟩ := hok
      obtain ⟨h1, h2, h3⟩ := h
      refine ⟨fun h0 => absurd h0 (by rw [hr]; simp), fun m hm => ?_⟩
      rw [hr] at hm
      simp only [List.mem_cons, List.not_mem_nil, or_false] at hm
      rcases hm with rfl | rfl | rfl
      · exact step_soundF5 (fun _ => hS) h1 (fun a' w' hS' h' => iht fuel _ _ _ hf'.1 (closed_set hcl (by rw [hr]; simp)) hok1 (fun _ => hS' hi) h')
      · exact step_soundF5 (fun _ => hS) h2 (fun a' w' hS' h' => ihu fuel _ _ _ hf'.2.1 (closed_set hcl (by rw [hr]; simp)) hok2 (fun _ => hS' hj) h')
      · exact step_soundF5 (fun _ => hS) h3 (fun a' w' hS' h' => ihv fuel _ _ _ hf'.2.2 (closed_set hcl (by rw [hr]; simp)) hok3 (fun _ => hS' hk') h')


def treeOkF5 (ops : Array Oper) (F : List Nat) (t : Tr) : Bool := Region.noSelect ops && decide (t.depth ≤ ops.size) && okTrF5 .any ops F t (Array.replicate ops.size false)
/-- The beginning: the tree, checked by the kernel; S of the world at hand. -/
theorem wp_region_treeF5 {id : Nat} {a : Act} {w : World} (F : List Nat) (t : Tr) (S : World → Prop) (hm : P.follows .mixedOrders = true) (hok : treeOkF5 l.toArray F t = true)
    (hQ : ∀ c a d v w, Q (.panic c) (Act.put a d v) w → Q (.panic c) a w) (hS : S w.drew) (h : wpTrF5 P .any l F Q S t a w.drew) : (Code.region id l.toArray true).wp P Q a w := by
  unfold treeOkF5 at hok
  simp only [Bool.and_eq_true, decide_eq_true_eq] at hok
  obtain ⟨⟨h1, h2⟩, h3⟩ := hok
  exact wp_region_any hm (wpAny_of_RF5 (S := S) _ _ _ _ (wpTr_soundF5 h1 hQ t _ _ _ _ h2 (closed_none _) h3 (fun _ => hS) h))
theorem trF_skip5 {i : Nat} {t : Tr} {o : Oper} {a : Act} {w : World} (ho : l[i]? = some o) (hw : Region.wanted o (yielded l.toArray a.tmps) = false)
    (h : wpTrF5 P md l F Q S t (a.put o.dst undef) w) : wpTrF5 P md l F Q S (.read i t) a w := by
  simp only [wpTrF5, ho]; exact .inl ⟨hw, h⟩
theorem trF_read5 {i : Nat} {t : Tr} {o : Oper} {a : Act} {w : World} (ho : l[i]? = some o) (hw : Region.wanted o (yielded l.toArray a.tmps) = true) (v : Value)
    (hv : ∀ w', (F.contains i = true → S w') → (execOp a.eval o).run P w' = .ok (.value v) w') (h : wpTrF5 P md l F Q S t (a.put o.dst v) w) : wpTrF5 P md l F Q S (.read i t) a w := by
  simp only [wpTrF5, ho]; exact .inr ⟨hw, v, hv, h⟩
theorem trF_step5 {i : Nat} {T : Act → World → Prop} {o : Oper} {a : Act} {w : World} (ho : l[i]? = some o) (hw : Region.wanted o (yielded l.toArray a.tmps) = true)
    (h : ∀ K : Act → World → Prop, (∀ a w, S w → T a w → K a w) → o.wp P a w K Q) : stepTrF5 P md l F Q S i T a w := by
  simp only [stepTrF5, ho]; exact .inr ⟨hw, by simpa using h _ (fun a w hS h => ⟨fun _ => hS, fun _ => h⟩)⟩
/-- One that waits for all reads that are listed. -/
theorem trF_late5 {i : Nat} {T : Act → World → Prop} {o : Oper} {a : Act} {w : World} (ho : l[i]? = some o) (hw : Region.wanted o (yielded l.toArray a.tmps) = true) (hf : finalF5 md l.toArray F i = true)
    (h : ∀ K : Act → World → Prop, (∀ a w, T a w → K a w) → o.wp P a w K Q) : stepTrF5 P md l F Q S i T a w := by
  simp only [stepTrF5, ho]; exact .inr ⟨hw, by simpa [hf] using h T (fun a w h => h)⟩
end
end Go.Proofs.Ytdkegkacpdkjgaa

namespace Go.Proofs.Ytdkegkacpdkjgaa
open Go.RowKit Go.Maps

/-- Two plates in variables. -/
structure Mv2 (Y : World) (B G : Nat) (p px : Pl) (ss xs : List St) : Prop where
  bp : BoxP Y B p
  bx : BoxP Y G px
  mp : PlAt p ss Y
  mx : PlAt px xs Y
theorem Mv2.grown {Y Y' : World} {B G : Nat} {p px : Pl} {ss xs : List St} (h : Mv2 Y B G p px ss xs) (hb : Below Y.heap.size Y Y') : Mv2 Y' B G p px ss xs :=
  ⟨h.bp.grown hb, h.bx.grown hb, h.mp.below hb (Nat.le_refl _), h.mx.below hb (Nat.le_refl _)⟩
theorem BoxP.under {X X' : World} {B M : Nat} {p : Pl} (k : BoxP X B p) (hb : Below M X X') (hB : B < M) : BoxP X' B p :=
  ⟨(hb.cell (p := ⟨B, 0, none⟩) hB).trans k.c0, (hb.cell (p := ⟨B, 1, none⟩) hB).trans k.c1, (hb.cell (p := ⟨B, 2, none⟩) hB).trans k.c2⟩
theorem Worst.put {X : World} {P B : Nat} {s x : Int} (h : Worst X P s x) (hn : P ≠ B) (o : Nat) (v : Value) : Worst (X.setCell ⟨B, o, none⟩ v) P s x := by
  obtain ⟨c0, c1, f0, f1⟩ := h
  have e : ∀ k, (⟨B, o, none⟩ : Addr) ≠ ⟨P, k, none⟩ := fun k he => by injection he with h1; exact hn h1.symm
  exact ⟨by rw [World.cell?_setCell_other _ _ _ _ (e 0)]; exact c0, by rw [World.cell?_setCell_other _ _ _ _ (e 1)]; exact c1, by simpa using f0, by simpa using f1⟩
/-- Two spans are stored. -/
theorem set_two {X : World} {C D : Nat} {a b c d : Int} (hC : Worst X C a b) (hD : Worst X D c d) (hne : C ≠ D) (a' b' c' d' : Int) {Z : World}
    (hZ : (((X.setCell ⟨C, 0, none⟩ (.int .i64 a')).setCell ⟨C, 1, none⟩ (.int .i64 b')).setCell ⟨D, 0, none⟩ (.int .i64 c')).setCell ⟨D, 1, none⟩ (.int .i64 d') = Z) :
    Worst Z C a' b' ∧ Worst Z D c' d' ∧ (∀ P s x, Worst X P s x → P ≠ C → P ≠ D → Worst Z P s x) ∧ (∀ (M : Nat) (X0 : World), M ≤ C → M ≤ D → Below M X0 X → Below M X0 Z) := by
  subst hZ
  refine ⟨((hC.set a' b').put hne 0 _).put hne 1 _, (((hD.put hne.symm 0 _).put hne.symm 1 _)).set c' d', fun P s x h h1 h2 => (((h.put h1 0 _).put h1 1 _).put h2 0 _).put h2 1 _, fun M X0 h1 h2 h => ?_⟩
  exact (((h.setCell (p := ⟨C, 0, none⟩) h1 _).setCell (p := ⟨C, 1, none⟩) h1 _).setCell (p := ⟨D, 0, none⟩) h2 _).setCell (p := ⟨D, 1, none⟩) h2 _
/-- Where something lies that a walk asks for. -/
theorem Worst.cells {X : World} {P : Nat} {s x : Int} (h : Worst X P s x) : X.cell? ⟨P, 0, none⟩ = some (.int .i64 s) ∧ X.cell? ⟨P, 1, none⟩ = some (.int .i64 x) := ⟨h.c0, h.c1⟩
end Go.Proofs.Ytdkegkacpdkjgaa

namespace Go.Proofs.Ytdkegkacpdkjgaa
open Go.RowKit Go.Maps

/-- Two plates in memory, one of them (at B) made, the other one (at D) a copy. -/
def Cut1 (W : World) (p : Pl) (xs : List St) (a b : Value) (X : World) : Prop :=
  ∃ B D g cap, a = .pointer (some ⟨B, 0, none⟩) ∧ b = .pointer (some ⟨D, 0, none⟩) ∧ B ≠ D ∧ (W.heap.size ≤ B ∧ B < X.heap.size) ∧ (W.heap.size ≤ D ∧ D < X.heap.size) ∧ (g ≠ B ∧ g ≠ D) ∧ Slots B 3 X ∧ Slots D 3 X ∧ BoxP X B ⟨p.lo, p.hi, some ⟨g, 0, none⟩, p.n, cap⟩ ∧ BoxP X D p ∧ PlAt ⟨p.lo, p.hi, some ⟨g, 0, none⟩, p.n, cap⟩ xs X ∧ Below W.heap.size W X
/-- The first one of them is resolved. -/
def Cut2 (W : World) (p : Pl) (ss : List St) (B D : Nat) (X : World) : Prop :=
  ∃ z zs b o, z.a = some ⟨b, o, none⟩ ∧ b ≠ D ∧ BoxP X B z ∧ BoxP X D p ∧ Slots D 3 X ∧ PlAt z zs X ∧ (plB z zs = true → Inc p z ss zs) ∧ Below W.heap.size W X
/-- Both are. -/
def Cut3 (W : World) (p : Pl) (ss : List St) (B D : Nat) (z : Pl) (zs : List St) (X : World) : Prop :=
  ∃ y ys, BoxP X B z ∧ PlAt z zs X ∧ BoxP X D y ∧ PlAt y ys X ∧ (plB y ys = true → Inc p y ss ys) ∧ Below W.heap.size W X
theorem quo_three {wn n : Nat} {q : Int} (h : wn ≤ 255) (hq : (wrap64 ((wn : Int) / (n : Int))).tmod 3 = q) : q = 0 ∨ q = 1 ∨ q = 2 := by
  have e : (wn : Int) / (n : Int) = ((wn / n : Nat) : Int) := (Int.natCast_ediv _ _).symm
  have h2 := Nat.div_le_self wn n
  rw [e] at hq
  clear e
  generalize wn / n = m at h2 hq
  rw [IntWalk.wrap64_in _ (by omega), Int.tmod_eq_emod_of_nonneg (by omega)] at hq
  omega
theorem moreIn_any (a b c d : Int) (w : World) (h1 : c ≤ a) (h2 : b ≤ d) : Calls Try.prog 31 #[.agg #[.int .i64 a, .int .i64 b], .agg #[.int .i64 c, .int .i64 d]] w (Ret (.bool true) w) := by
  go_enter Try.func31, Try.ntmps31
  go_wp2
  go_ret
  exact ⟨rfl, (by (repeat (first | assumption | exact Below.refl _ _ | refine BA ?_ _ | refine BC ?_ _ _ (by first | omega | (simp; done) | (simp; omega)) _ | refine Below.drew ?_ | refine BT ?_ (by assumption))))⟩
theorem add_in {a : Int} (h0 : 0 ≤ a) (h1 : a ≤ 1048576) : IntKind.i64.wrap (a + 1) = a + 1 := IntWalk.i64_in _ (by omega)
theorem sub_in {a : Int} (h0 : -1048576 ≤ a) (h1 : a ≤ 1048576) : IntKind.i64.wrap (a - 1) = a - 1 := IntWalk.i64_in _ (by omega)
/-- What is known behind the switch. -/
def MoH (p : Pl) (ss : List St) (w : World) (B D : Nat) (X : World) : Prop :=
  (p.n ≤ 10 ∧ plB p ss = true) ∧ Below w.heap.size w X ∧ ∃ z1 zs1 z2 zs2, ((BoxP X w.heap.size p ∧ PlAt p ss X) ∧ BoxP X B z1 ∧ PlAt z1 zs1 X) ∧ (BoxP X D z2 ∧ PlAt z2 zs2 X) ∧ (plB z1 zs1 = true → Inc p z1 ss zs1) ∧ (plB z2 zs2 = true → Inc p z2 ss zs2)
set_option maxRecDepth 100000 in
set_option maxHeartbeats 16000000 in
/-- The walk up to the calls: what is left to be shown is its first part. -/
def more_head (p : Pl) (ss : List St) (a b : Int) (wn : Nat) (ea eb na nb : Int) (w : World) :
    { P : Nat → Bool → Int → Nat → Nat → Nat → Nat → Nat → Nat → World → Value → Value → Value → Value → Value → Value → Value → Value → Value → Value → Value → Value → Value → Value → Value → Value → Value → Value → Value → Value → Value → Value → Value → Value → Value → Value → Value → Value → Value → Value → Value → Value → Value → Value → Value → Value → Value → Value → Value → Value → Value → Value → Value → Value → Value → Value → Value → Value → Value → Value → Value → Value → Value → Value → Value → Value → Value → Value → Value → Value → Value → Value → Value → Value → Value → Value → Value → Value → Value → Value → Value → Value → Value → Value → Value → Value → Value → Value → Value → Value → Value → Value → Value → Value → Value → World → Prop // (∀ k kb qi B D pb po g cap X2 u62 u63 u64 u65 u66 u67 u74 u91 u92 u93 u94 u95 u96 u97 u98 u99 u100 u101 u102 u103 u104 u105 u106 u107 u108 u109 u110 u111 u112 u113 u114 u115 u116 u117 u118 u119 u120 u121 u122 u123 u124 u125 u126 u127 u128 u129 u130 u131 u132 u133 u134 u135 u136 u137 u138 u139 u140 u141 u142 u143 u144 u145 u146 u147 u148 u149 u150 u151 u152 u153 u154 u155 u156 u157 u158 u159 u160 u161 u162 u163 u164 u165 u166 u167 u168 X5, MoH p ss w B D X5 → P k kb qi B D pb po g cap X2 u62 u63 u64 u65 u66 u67 u74 u91 u92 u93 u94 u95 u96 u97 u98 u99 u100 u101 u102 u103 u104 u105 u106 u107 u108 u109 u110 u111 u112 u113 u114 u115 u116 u117 u118 u119 u120 u121 u122 u123 u124 u125 u126 u127 u128 u129 u130 u131 u132 u133 u134 u135 u136 u137 u138 u139 u140 u141 u142 u143 u144 u145 u146 u147 u148 u149 u150 u151 u152 u153 u154 u155 u156 u157 u158 u159 u160 u161 u162 u163 u164 u165 u166 u167 u168 X5) →
      ss.length = p.n → StarsIn w p.a ss → (wn : Int) ≤ 255 → Calls Try.prog 7 #[p.val, .int .i64 a, .int .i64 b, .int .u8 (wn : Int), .agg #[.int .i64 ea, .int .i64 eb], .agg #[.int .i64 na, .int .i64 nb]] w (Ret (.bool true) w) } := by
  apply Subtype.mk
  case property =>
    intro H hnl hst hwh
    have hwh0 : (0 : Int) ≤ (wn : Int) := by omega
    unfold Pl.val
    obtain ⟨W0, hW0⟩ : ∃ X, ((w.alloc (.cells #[.int .i64 p.lo, .int .i64 p.hi, .slice p.a p.n p.cap] 29)).alloc (.cells #[.int .i64 ea, .int .i64 eb] 23)).alloc (.cells #[.int .i64 na, .int .i64 nb] 23) = X := ⟨_, rfl⟩
    have hBw : Below w.heap.size w W0 := by rw [← hW0]; exact BA (BA (newB _ _) _) _
    have hQ : BoxP W0 w.heap.size p := by rw [← hW0]; exact ((boxP_new w p _).grown (newB _ _)).grown (newB _ _)
    have hE0 : W0.cell? ⟨w.heap.size + 1, 0, none⟩ = some (.int .i64 ea) := by rw [← hW0]; simp [go_sem]
    have hE1 : W0.cell? ⟨w.heap.size + 1, 1, none⟩ = some (.int .i64 eb) := by rw [← hW0]; simp [go_sem]
    have hN0 : W0.cell? ⟨w.heap.size + 1 + 1, 0, none⟩ = some (.int .i64 na) := by rw [← hW0]; simp [go_sem]
    have hN1 : W0.cell? ⟨w.heap.size + 1 + 1, 1, none⟩ = some (.int .i64 nb) := by rw [← hW0]; simp [go_sem]
    have hS := hst.below hBw
    clear hst
    go_enter Try.func7, Try.ntmps7
    by_cases h30 : 30 < (p.n : Int)
    · obtain ⟨c0, c1, c2⟩ := id hQ
      clear hS hnl
      go_wp2_with fail
      clear hW0
      refine (alive_any _).mono ?_
      rintro e wz ⟨rfl, hz⟩
      have hB := BT hBw hz
      go_wp2_with fail
      go_ret
      exact ⟨rfl, hB⟩
    have hm : PlAt p ss W0 := ⟨hnl, by omega, hS⟩
    have HT : Hid ((BoxP W0 w.heap.size p ∧ PlAt p ss W0) ∧ (W0.cell? ⟨w.heap.size + 1, 0, none⟩ = some (.int .i64 ea) ∧ W0.cell? ⟨w.heap.size + 1, 1, none⟩ = some (.int .i64 eb)) ∧ W0.cell? ⟨w.heap.size + 1 + 1, 0, none⟩ = some (.int .i64 na) ∧ W0.cell? ⟨w.heap.size + 1 + 1, 1, none⟩ = some (.int .i64 nb)) := ⟨⟨hQ, hm⟩, ⟨hE0, hE1⟩, hN0, hN1⟩
    have hB : Below W0.heap.size W0 W0 := Below.refl _ _
    clear hQ hm hS hE0 hE1 hN0 hN1
    have HPL : Hid (∀ Y, Below W0.heap.size W0 Y → Calls Try.prog 25 #[.agg #[.int .i64 p.lo, .int .i64 p.hi, .slice p.a p.n p.cap]] Y (Ret (.bool (plB p ss)) Y)) := fun Y hY => plateR_any p ss Y (HT.out.1.2.below hY (Nat.le_refl _))
    obtain ⟨p0, p1, p2⟩ := HT.out.1.1.grown (hB)
    go_wp2_with fail
    clear hW0
    clear p0 p1 p2
    refine (HPL.out W0 hB).mono ?_
    rintro e Y1 ⟨rfl, hx⟩
    replace hB := BT hB hx
    clear hx
    cases hv : plB p ss
    · go_wp2_with fail
      refine (alive_any _).mono ?_
      rintro e wz ⟨rfl, hz⟩
      have hB := BT hB hz
      go_wp2_with fail
      go_ret
      exact ⟨rfl, hBw.trans (hB.mono hBw.size)⟩
    have hok := plOk HT.out.1.2 hv
    have hn10 := hok.n10
    have HV := Lib.hid hv
    have HOK := Lib.hid hok
    clear HPL hok hv
    obtain ⟨p0, p1, p2⟩ := HT.out.1.1.grown (hB)
    by_cases hn0 : p.n = 0
    · have hz : (p.n : Int) = 0 := by omega
      have hz2 : ((p.n : Int) == 0) = true := by simpa using hz
      have hz3 : (p.n == 0) = true := by simpa using hn0
      clear hn0
      go_wp2_with fail
      refine (alive_any _).mono ?_
      rintro e wz ⟨rfl, hz⟩
      have hB := BT hB hz
      go_wp2_with fail
      go_ret
      exact ⟨rfl, hBw.trans (hB.mono hBw.size)⟩
    have hz1 : ¬ (p.n : Int) = 0 := by omega
    have hz2 : ((p.n : Int) == 0) = false := by simpa using hz1
    have hz3 : (p.n == 0) = false := by simpa using hn0
    have hnp : (0 : Int) < (p.n : Int) := by omega
    obtain ⟨k, hk⟩ : ∃ k : Nat, wn % p.n = k := ⟨_, rfl⟩
    have hkn : k < p.n := by rw [← hk]; exact Nat.mod_lt _ (by omega)
    have hki : (wn : Int) % (p.n : Int) = (k : Int) := by rw [← hk]; exact (Int.natCast_emod _ _).symm
    have hkt : (wn : Int).tmod (p.n : Int) = (k : Int) := by rw [Int.tmod_eq_emod_of_nonneg (by omega)]; exact hki
    obtain ⟨qi, hqi⟩ : ∃ qi : Int, (wrap64 ((wn : Int) / (p.n : Int))).tmod 3 = qi := ⟨_, rfl⟩
    have hq3 := Lib.hid (quo_three (n := p.n) (by omega) hqi)
    have HQ := Lib.hid hqi
    clear hk hqi
    have hwh1 := hwh
    have hk0 : (0 : Int) ≤ (k : Int) := by omega
    have hk1 : (k : Int) < (p.n : Int) := by omega
    have hklt : k < ss.length := by omega
    have hHk := Lib.hid hnl
    clear hn0
    go_upto_region 4 with fail
    clear p0 p1 p2
    have HAS : Hid (∀ Y, Below Y1.heap.size Y1 Y → Calls Try.prog 27 #[.agg #[.int .i64 p.lo, .int .i64 p.hi, .slice p.a p.n p.cap], .int .i64 (k : Int), .agg #[.int .i64 ea, .int .i64 eb], .agg #[.int .i64 na, .int .i64 nb]] Y (AsNew p (ss.set k (knowS (ss.getD k default) ea eb na nb)) Y)) := fun Y hY => as_new p ss k ea eb na nb Y (HT.out.1.2.below (BT hB hY) (Nat.le_refl _)) hklt (by omega)
    have hSS : Hid (∀ Y, Below Y1.heap.size Y1 Y → (Y.cell? ⟨w.heap.size, 0, none⟩ = some (.int .i64 p.lo) ∧ Y.cell? ⟨w.heap.size, 1, none⟩ = some (.int .i64 p.hi) ∧ Y.cell? ⟨w.heap.size, 2, none⟩ = some (.slice p.a p.n p.cap)) ∧ (Y.cell? ⟨w.heap.size + 1, 0, none⟩ = some (.int .i64 ea) ∧ Y.cell? ⟨w.heap.size + 1, 1, none⟩ = some (.int .i64 eb)) ∧ Y.cell? ⟨w.heap.size + 1 + 1, 0, none⟩ = some (.int .i64 na) ∧ Y.cell? ⟨w.heap.size + 1 + 1, 1, none⟩ = some (.int .i64 nb)) := fun Y hY => by
      have hY2 := BT hB hY
      obtain ⟨q0, q1, q2⟩ := HT.out.1.1.grown hY2
      exact ⟨⟨q0, q1, q2⟩, ⟨cellB HT.out.2.1.1 hY2, cellB HT.out.2.1.2 hY2⟩, cellB HT.out.2.2.1 hY2, cellB HT.out.2.2.2 hY2⟩
    have hbD : Below Y1.heap.size Y1 Y1.drew := Below.drew (Below.refl _ _)
    go_cut [14, 15] from 62 to 67 (fun u v X => Cut1 Y1 p (ss.set k (knowS (ss.getD k default) ea eb na nb)) u v X)
    case first =>
      refine wp_region_tree (.read 0 (.read 1 (.read 2 (.read 3 (.read 5 (.three 4 (.two 6 (.one 7 (.one 8 (.one 9 (.leaf)))) 7 (.one 6 (.one 8 (.one 9 (.leaf))))) 6 (.two 4 (.one 7 (.one 8 (.one 9 (.leaf)))) 7 (.one 4 (.one 8 (.one 9 (.leaf))))) 7 (.two 4 (.one 6 (.one 8 (.one 9 (.leaf)))) 6 (.one 4 (.one 8 (.one 9 (.leaf))))))))))) (fun Y => (Y.cell? ⟨w.heap.size, 0, none⟩ = some (.int .i64 p.lo) ∧ Y.cell? ⟨w.heap.size, 1, none⟩ = some (.int .i64 p.hi) ∧ Y.cell? ⟨w.heap.size, 2, none⟩ = some (.slice p.a p.n p.cap)) ∧ (Y.cell? ⟨w.heap.size + 1, 0, none⟩ = some (.int .i64 ea) ∧ Y.cell? ⟨w.heap.size + 1, 1, none⟩ = some (.int .i64 eb)) ∧ Y.cell? ⟨w.heap.size + 1 + 1, 0, none⟩ = some (.int .i64 na) ∧ Y.cell? ⟨w.heap.size + 1 + 1, 1, none⟩ = some (.int .i64 nb)) (by kernel_rfl) (by kernel_rfl) (fun _ _ d _ _ h => by cases d <;> exact h) (hSS.out _ hbD) ?_
      generalize Y1.drew = X0 at *
      repeat (first | (refine tr_read rfl (by rfl) _ (fun w' hS => by (try dsimp only at hS); go_simp; (try with_reducible rfl)) ?_; (try simp only [Act.put, List.setIfInBounds_toArray, List.set_cons_zero, List.set_cons_succ])) | (refine tr_skip rfl (by rfl) ?_; (try simp only [Act.put, List.setIfInBounds_toArray, List.set_cons_zero, List.set_cons_succ])))
      refine ⟨?_, ?_, ?_⟩
      · skip
        refine tr_step rfl (by rfl) (fun K hK => ?_)
        go_simp
        refine (HAS.out X0 hbD).mono ?_
        rintro e X1 ⟨gs, cs, rfl, hpx, hgs, hx⟩
        have hb1 := BT hbD hx
        have hgs2 : gs < X1.heap.size := by
          rcases hpx.lk with h | ⟨b1, o1, h1, h2, h3⟩
          · have h4 := hpx.nl; rw [h] at h4; have h5 : 0 = p.n := h4; omega
          · injection h1 with h1; injection h1 with h1; subst h1; exact h2
        refine hK _ _ (hSS.out _ hb1) ?_
        clear hK K hx hbD
        (try simp only [Act.put, List.setIfInBounds_toArray, List.set_cons_zero, List.set_cons_succ])
        refine ⟨?_, ?_⟩
        · skip
          refine tr_step rfl (by rfl) (fun K hK => ?_)
          have hx := newB X1 (.cells #[.int .i64 0, .int .i64 0, .slice none 0 0] 29)
          have h14 := slots_new3 X1 (.int .i64 0) (.int .i64 0) (.slice none 0 0) 29
          have hb2 := BT hb1 hx
          have hge14 : Y1.heap.size ≤ X1.heap.size := hb1.size
          have hpx := hpx.below hx (Nat.le_refl _)
          go_simp
          refine hK _ _ (hSS.out _ hb2) ?_
          clear hK K hb1 hx
          generalize X1.heap.size = g14 at *
          generalize X1.alloc (.cells #[.int .i64 0, .int .i64 0, .slice none 0 0] 29) = X2 at *
          have hneg14 : gs ≠ g14 := by omega
          (try simp only [Act.put, List.setIfInBounds_toArray, List.set_cons_zero, List.set_cons_succ])
          refine tr_step rfl (by rfl) (fun K hK => ?_)
          have hx := newB X2 (.cells #[.int .i64 0, .int .i64 0, .slice none 0 0] 29)
          have h15 := slots_new3 X2 (.int .i64 0) (.int .i64 0) (.slice none 0 0) 29
          have hb3 := BT hb2 hx
          have hge15 : Y1.heap.size ≤ X2.heap.size := hb2.size
          have hltg14 : g14 < X2.heap.size := World.block_lt_of_cell? _ _ ((h14).get 0 (by omega)).choose_spec.1
          have h14_3 := h14.below hx hltg14
          have hpx := hpx.below hx (Nat.le_refl _)
          go_simp
          refine hK _ _ (hSS.out _ hb3) ?_
          clear hK K hb2 hx
          generalize X2.heap.size = g15 at *
          generalize X2.alloc (.cells #[.int .i64 0, .int .i64 0, .slice none 0 0] 29) = X3 at *
          have hneg15 : gs ≠ g15 := by omega
          (try simp only [Act.put, List.setIfInBounds_toArray, List.set_cons_zero, List.set_cons_succ])
          have hne : g14 ≠ g15 := by omega
          have hl14 : g14 < X3.heap.size := World.block_lt_of_cell? _ _ ((h14_3).get 0 (by omega)).choose_spec.1
          have hl15 : g15 < X3.heap.size := World.block_lt_of_cell? _ _ ((h15).get 0 (by omega)).choose_spec.1
          have hQ1 := set_three h14_3 ⟨p.lo, p.hi, some ⟨gs, 0, none⟩, p.n, cs⟩
          have hpx := ((hpx.put rfl hneg14 (o := 0) (.int .i64 p.lo)).put rfl hneg14 (o := 1) (.int .i64 p.hi)).put rfl hneg14 (o := 2) (.slice (some ⟨gs, 0, none⟩) p.n cs)
          have hb1 := (BC (BC (BC hb3 (g14) 0 (by omega) (.int .i64 p.lo)) (g14) 1 (by omega) (.int .i64 p.hi)) (g14) 2 (by omega) (.slice (some ⟨gs, 0, none⟩) p.n cs))
          have hs14 := ((h14_3.set ⟨g14, 0, none⟩ (.int .i64 p.lo)).set ⟨g14, 1, none⟩ (.int .i64 p.hi)).set ⟨g14, 2, none⟩ (.slice (some ⟨gs, 0, none⟩) p.n cs)
          have hs15 := ((h15.set ⟨g14, 0, none⟩ (.int .i64 p.lo)).set ⟨g14, 1, none⟩ (.int .i64 p.hi)).set ⟨g14, 2, none⟩ (.slice (some ⟨gs, 0, none⟩) p.n cs)
          have hsz : (((X3.setCell ⟨g14, 0, none⟩ (.int .i64 p.lo)).setCell ⟨g14, 1, none⟩ (.int .i64 p.hi)).setCell ⟨g14, 2, none⟩ (.slice (some ⟨gs, 0, none⟩) p.n cs)).heap.size = X3.heap.size := by simp only [World.size_setCell]
          obtain ⟨u0, q0, z0⟩ := h14_3.get 0 (by omega)
          obtain ⟨u1, q1, z1⟩ := h14_3.get 1 (by omega)
          obtain ⟨u2, q2, z2⟩ := h14_3.get 2 (by omega)
          refine tr_step rfl (by rfl) (fun K hK => ?_)
          go_simp
          refine hK _ _ (hSS.out _ hb1) ?_
          clear hK K u0 u1 u2 q0 q1 q2 z0 z1 z2 hb3 h14_3 h15
          generalize ((X3.setCell ⟨g14, 0, none⟩ (.int .i64 p.lo)).setCell ⟨g14, 1, none⟩ (.int .i64 p.hi)).setCell ⟨g14, 2, none⟩ (.slice (some ⟨gs, 0, none⟩) p.n cs) = XA at *
          (try simp only [Act.put, List.setIfInBounds_toArray, List.set_cons_zero, List.set_cons_succ])
          have hQ2 := set_three hs15 p
          have hQ1 := ((hQ1.put hne 0 (.int .i64 p.lo)).put hne 1 (.int .i64 p.hi)).put hne 2 (.slice p.a p.n p.cap)
          have hpx := ((hpx.put rfl hneg15 (o := 0) (.int .i64 p.lo)).put rfl hneg15 (o := 1) (.int .i64 p.hi)).put rfl hneg15 (o := 2) (.slice p.a p.n p.cap)
          have hb2 := (BC (BC (BC hb1 (g15) 0 (by omega) (.int .i64 p.lo)) (g15) 1 (by omega) (.int .i64 p.hi)) (g15) 2 (by omega) (.slice p.a p.n p.cap))
          have hs14n := ((hs14.set ⟨g15, 0, none⟩ (.int .i64 p.lo)).set ⟨g15, 1, none⟩ (.int .i64 p.hi)).set ⟨g15, 2, none⟩ (.slice p.a p.n p.cap)
          have hs15n := ((hs15.set ⟨g15, 0, none⟩ (.int .i64 p.lo)).set ⟨g15, 1, none⟩ (.int .i64 p.hi)).set ⟨g15, 2, none⟩ (.slice p.a p.n p.cap)
          obtain ⟨u0, q0, z0⟩ := hs15.get 0 (by omega)
          obtain ⟨u1, q1, z1⟩ := hs15.get 1 (by omega)
          obtain ⟨u2, q2, z2⟩ := hs15.get 2 (by omega)
          refine tr_step rfl (by rfl) (fun K hK => ?_)
          go_simp
          refine hK _ _ (hSS.out _ hb2) ?_
          clear hK K u0 u1 u2 q0 q1 q2 z0 z1 z2 hs14 hs15 hb1
          have hsz2 : (((XA.setCell ⟨g15, 0, none⟩ (.int .i64 p.lo)).setCell ⟨g15, 1, none⟩ (.int .i64 p.hi)).setCell ⟨g15, 2, none⟩ (.slice p.a p.n p.cap)).heap.size = XA.heap.size := by simp only [World.size_setCell]
          have hl14 : g14 < (((XA.setCell ⟨g15, 0, none⟩ (.int .i64 p.lo)).setCell ⟨g15, 1, none⟩ (.int .i64 p.hi)).setCell ⟨g15, 2, none⟩ (.slice p.a p.n p.cap)).heap.size := by omega
          have hl15 : g15 < (((XA.setCell ⟨g15, 0, none⟩ (.int .i64 p.lo)).setCell ⟨g15, 1, none⟩ (.int .i64 p.hi)).setCell ⟨g15, 2, none⟩ (.slice p.a p.n p.cap)).heap.size := by omega
          clear hsz hsz2
          generalize ((XA.setCell ⟨g15, 0, none⟩ (.int .i64 p.lo)).setCell ⟨g15, 1, none⟩ (.int .i64 p.hi)).setCell ⟨g15, 2, none⟩ (.slice p.a p.n p.cap) = XB at *
          (try simp only [Act.put, List.setIfInBounds_toArray, List.set_cons_zero, List.set_cons_succ])
          first | show Exit.inBlock _ _ Exit.normal _ _ | show Exit.then _ _ Exit.normal _ _ | skip
          go_wp2_with fail
          go_meet
          exact ⟨g14, g15, gs, cs, rfl, rfl, hne, ⟨hge14, hl14⟩, ⟨hge15, hl15⟩, ⟨hneg14, hneg15⟩, hs14n, hs15n, hQ1, hQ2, hpx, hb2⟩
        · skip
          refine tr_step rfl (by rfl) (fun K hK => ?_)
          have hx := newB X1 (.cells #[.int .i64 0, .int .i64 0, .slice none 0 0] 29)
          have h15 := slots_new3 X1 (.int .i64 0) (.int .i64 0) (.slice none 0 0) 29
          have hb4 := BT hb1 hx
          have hge15 : Y1.heap.size ≤ X1.heap.size := hb1.size
          have hpx := hpx.below hx (Nat.le_refl _)
          go_simp
          refine hK _ _ (hSS.out _ hb4) ?_
          clear hK K hb1 hx
          generalize X1.heap.size = g15 at *
          generalize X1.alloc (.cells #[.int .i64 0, .int .i64 0, .slice none 0 0] 29) = X4 at *
          have hneg15 : gs ≠ g15 := by omega
          (try simp only [Act.put, List.setIfInBounds_toArray, List.set_cons_zero, List.set_cons_succ])
          refine tr_step rfl (by rfl) (fun K hK => ?_)
          have hx := newB X4 (.cells #[.int .i64 0, .int .i64 0, .slice none 0 0] 29)
          have h14 := slots_new3 X4 (.int .i64 0) (.int .i64 0) (.slice none 0 0) 29
          have hb5 := BT hb4 hx
          have hge14 : Y1.heap.size ≤ X4.heap.size := hb4.size
          have hltg15 : g15 < X4.heap.size := World.block_lt_of_cell? _ _ ((h15).get 0 (by omega)).choose_spec.1
          have h15_5 := h15.below hx hltg15
          have hpx := hpx.below hx (Nat.le_refl _)
          go_simp
          refine hK _ _ (hSS.out _ hb5) ?_
          clear hK K hb4 hx
          generalize X4.heap.size = g14 at *
          generalize X4.alloc (.cells #[.int .i64 0, .int .i64 0, .slice none 0 0] 29) = X5 at *
          have hneg14 : gs ≠ g14 := by omega
          (try simp only [Act.put, List.setIfInBounds_toArray, List.set_cons_zero, List.set_cons_succ])
          have hne : g14 ≠ g15 := by omega
          have hl14 : g14 < X5.heap.size := World.block_lt_of_cell? _ _ ((h14).get 0 (by omega)).choose_spec.1
          have hl15 : g15 < X5.heap.size := World.block_lt_of_cell? _ _ ((h15_5).get 0 (by omega)).choose_spec.1
          have hQ1 := set_three h14 ⟨p.lo, p.hi, some ⟨gs, 0, none⟩, p.n, cs⟩
          have hpx := ((hpx.put rfl hneg14 (o := 0) (.int .i64 p.lo)).put rfl hneg14 (o := 1) (.int .i64 p.hi)).put rfl hneg14 (o := 2) (.slice (some ⟨gs, 0, none⟩) p.n cs)
          have hb1 := (BC (BC (BC hb5 (g14) 0 (by omega) (.int .i64 p.lo)) (g14) 1 (by omega) (.int .i64 p.hi)) (g14) 2 (by omega) (.slice (some ⟨gs, 0, none⟩) p.n cs))
          have hs14 := ((h14.set ⟨g14, 0, none⟩ (.int .i64 p.lo)).set ⟨g14, 1, none⟩ (.int .i64 p.hi)).set ⟨g14, 2, none⟩ (.slice (some ⟨gs, 0, none⟩) p.n cs)
          have hs15 := ((h15_5.set ⟨g14, 0, none⟩ (.int .i64 p.lo)).set ⟨g14, 1, none⟩ (.int .i64 p.hi)).set ⟨g14, 2, none⟩ (.slice (some ⟨gs, 0, none⟩) p.n cs)
          have hsz : (((X5.setCell ⟨g14, 0, none⟩ (.int .i64 p.lo)).setCell ⟨g14, 1, none⟩ (.int .i64 p.hi)).setCell ⟨g14, 2, none⟩ (.slice (some ⟨gs, 0, none⟩) p.n cs)).heap.size = X5.heap.size := by simp only [World.size_setCell]
          obtain ⟨u0, q0, z0⟩ := h14.get 0 (by omega)
          obtain ⟨u1, q1, z1⟩ := h14.get 1 (by omega)
          obtain ⟨u2, q2, z2⟩ := h14.get 2 (by omega)
          refine tr_step rfl (by rfl) (fun K hK => ?_)
          go_simp
          refine hK _ _ (hSS.out _ hb1) ?_
          clear hK K u0 u1 u2 q0 q1 q2 z0 z1 z2 hb5 h14 h15_5
          generalize ((X5.setCell ⟨g14, 0, none⟩ (.int .i64 p.lo)).setCell ⟨g14, 1, none⟩ (.int .i64 p.hi)).setCell ⟨g14, 2, none⟩ (.slice (some ⟨gs, 0, none⟩) p.n cs) = XA at *
          (try simp only [Act.put, List.setIfInBounds_toArray, List.set_cons_zero, List.set_cons_succ])
          have hQ2 := set_three hs15 p
          have hQ1 := ((hQ1.put hne 0 (.int .i64 p.lo)).put hne 1 (.int .i64 p.hi)).put hne 2 (.slice p.a p.n p.cap)
          have hpx := ((hpx.put rfl hneg15 (o := 0) (.int .i64 p.lo)).put rfl hneg15 (o := 1) (.int .i64 p.hi)).put rfl hneg15 (o := 2) (.slice p.a p.n p.cap)
          have hb2 := (BC (BC (BC hb1 (g15) 0 (by omega) (.int .i64 p.lo)) (g15) 1 (by omega) (.int .i64 p.hi)) (g15) 2 (by omega) (.slice p.a p.n p.cap))
          have hs14n := ((hs14.set ⟨g15, 0, none⟩ (.int .i64 p.lo)).set ⟨g15, 1, none⟩ (.int .i64 p.hi)).set ⟨g15, 2, none⟩ (.slice p.a p.n p.cap)
          have hs15n := ((hs15.set ⟨g15, 0, none⟩ (.int .i64 p.lo)).set ⟨g15, 1, none⟩ (.int .i64 p.hi)).set ⟨g15, 2, none⟩ (.slice p.a p.n p.cap)
          obtain ⟨u0, q0, z0⟩ := hs15.get 0 (by omega)
          obtain ⟨u1, q1, z1⟩ := hs15.get 1 (by omega)
          obtain ⟨u2, q2, z2⟩ := hs15.get 2 (by omega)
          refine tr_step rfl (by rfl) (fun K hK => ?_)
          go_simp
          refine hK _ _ (hSS.out _ hb2) ?_
          clear hK K u0 u1 u2 q0 q1 q2 z0 z1 z2 hs14 hs15 hb1
          have hsz2 : (((XA.setCell ⟨g15, 0, none⟩ (.int .i64 p.lo)).setCell ⟨g15, 1, none⟩ (.int .i64 p.hi)).setCell ⟨g15, 2, none⟩ (.slice p.a p.n p.cap)).heap.size = XA.heap.size := by simp only [World.size_setCell]
          have hl14 : g14 < (((XA.setCell ⟨g15, 0, none⟩ (.int .i64 p.lo)).setCell ⟨g15, 1, none⟩ (.int .i64 p.hi)).setCell ⟨g15, 2, none⟩ (.slice p.a p.n p.cap)).heap.size := by omega
          have hl15 : g15 < (((XA.setCell ⟨g15, 0, none⟩ (.int .i64 p.lo)).setCell ⟨g15, 1, none⟩ (.int .i64 p.hi)).setCell ⟨g15, 2, none⟩ (.slice p.a p.n p.cap)).heap.size := by omega
          clear hsz hsz2
          generalize ((XA.setCell ⟨g15, 0, none⟩ (.int .i64 p.lo)).setCell ⟨g15, 1, none⟩ (.int .i64 p.hi)).setCell ⟨g15, 2, none⟩ (.slice p.a p.n p.cap) = XB at *
          (try simp only [Act.put, List.setIfInBounds_toArray, List.set_cons_zero, List.set_cons_succ])
          first | show Exit.inBlock _ _ Exit.normal _ _ | show Exit.then _ _ Exit.normal _ _ | skip
          go_wp2_with fail
          go_meet
          exact ⟨g14, g15, gs, cs, rfl, rfl, hne, ⟨hge14, hl14⟩, ⟨hge15, hl15⟩, ⟨hneg14, hneg15⟩, hs14n, hs15n, hQ1, hQ2, hpx, hb2⟩
      · skip
        refine tr_step rfl (by rfl) (fun K hK => ?_)
        have hx := newB X0 (.cells #[.int .i64 0, .int .i64 0, .slice none 0 0] 29)
        have h14 := slots_new3 X0 (.int .i64 0) (.int .i64 0) (.slice none 0 0) 29
        have hb6 := BT hbD hx
        have hge14 : Y1.heap.size ≤ X0.heap.size := hbD.size
        go_simp
        refine hK _ _ (hSS.out _ hb6) ?_
        clear hK K hbD hx
        generalize X0.heap.size = g14 at *
        generalize X0.alloc (.cells #[.int .i64 0, .int .i64 0, .slice none 0 0] 29) = X6 at *
        (try simp only [Act.put, List.setIfInBounds_toArray, List.set_cons_zero, List.set_cons_succ])
        refine ⟨?_, ?_⟩
        · skip
          refine tr_step rfl (by rfl) (fun K hK => ?_)
          go_simp
          refine (HAS.out X6 hb6).mono ?_
          rintro e X7 ⟨gs, cs, rfl, hpx, hgs, hx⟩
          have hb7 := BT hb6 hx
          have hgs2 : gs < X7.heap.size := by
            rcases hpx.lk with h | ⟨b1, o1, h1, h2, h3⟩
            · have h4 := hpx.nl; rw [h] at h4; have h5 : 0 = p.n := h4; omega
            · injection h1 with h1; injection h1 with h1; subst h1; exact h2
          have hltg14 : g14 < X6.heap.size := World.block_lt_of_cell? _ _ ((h14).get 0 (by omega)).choose_spec.1
          have h14_7 := h14.below hx hltg14
          have hneg14 : gs ≠ g14 := by omega
          refine hK _ _ (hSS.out _ hb7) ?_
          clear hK K hx hb6
          (try simp only [Act.put, List.setIfInBounds_toArray, List.set_cons_zero, List.set_cons_succ])
          refine tr_step rfl (by rfl) (fun K hK => ?_)
          have hx := newB X7 (.cells #[.int .i64 0, .int .i64 0, .slice none 0 0] 29)
          have h15 := slots_new3 X7 (.int .i64 0) (.int .i64 0) (.slice none 0 0) 29
          have hb8 := BT hb7 hx
          have hge15 : Y1.heap.size ≤ X7.heap.size := hb7.size
          have hltg14 : g14 < X7.heap.size := World.block_lt_of_cell? _ _ ((h14_7).get 0 (by omega)).choose_spec.1
          have h14_7_8 := h14_7.below hx hltg14
          have hpx := hpx.below hx (Nat.le_refl _)
          go_simp
          refine hK _ _ (hSS.out _ hb8) ?_
          clear hK K hb7 hx
          generalize X7.heap.size = g15 at *
          generalize X7.alloc (.cells #[.int .i64 0, .int .i64 0, .slice none 0 0] 29) = X8 at *
          have hneg15 : gs ≠ g15 := by omega
          (try simp only [Act.put, List.setIfInBounds_toArray, List.set_cons_zero, List.set_cons_succ])
          have hne : g14 ≠ g15 := by omega
          have hl14 : g14 < X8.heap.size := World.block_lt_of_cell? _ _ ((h14_7_8).get 0 (by omega)).choose_spec.1
          have hl15 : g15 < X8.heap.size := World.block_lt_of_cell? _ _ ((h15).get 0 (by omega)).choose_spec.1
          have hQ1 := set_three h14_7_8 ⟨p.lo, p.hi, some ⟨gs, 0, none⟩, p.n, cs⟩
          have hpx := ((hpx.put rfl hneg14 (o := 0) (.int .i64 p.lo)).put rfl hneg14 (o := 1) (.int .i64 p.hi)).put rfl hneg14 (o := 2) (.slice (some ⟨gs, 0, none⟩) p.n cs)
          have hb1 := (BC (BC (BC hb8 (g14) 0 (by omega) (.int .i64 p.lo)) (g14) 1 (by omega) (.int .i64 p.hi)) (g14) 2 (by omega) (.slice (some ⟨gs, 0, none⟩) p.n cs))
          have hs14 := ((h14_7_8.set ⟨g14, 0, none⟩ (.int .i64 p.lo)).set ⟨g14, 1, none⟩ (.int .i64 p.hi)).set ⟨g14, 2, none⟩ (.slice (some ⟨gs, 0, none⟩) p.n cs)
          have hs15 := ((h15.set ⟨g14, 0, none⟩ (.int .i64 p.lo)).set ⟨g14, 1, none⟩ (.int .i64 p.hi)).set ⟨g14, 2, none⟩ (.slice (some ⟨gs, 0, none⟩) p.n cs)
          have hsz : (((X8.setCell ⟨g14, 0, none⟩ (.int .i64 p.lo)).setCell ⟨g14, 1, none⟩ (.int .i64 p.hi)).setCell ⟨g14, 2, none⟩ (.slice (some ⟨gs, 0, none⟩) p.n cs)).heap.size = X8.heap.size := by simp only [World.size_setCell]
          obtain ⟨u0, q0, z0⟩ := h14_7_8.get 0 (by omega)
          obtain ⟨u1, q1, z1⟩ := h14_7_8.get 1 (by omega)
          obtain ⟨u2, q2, z2⟩ := h14_7_8.get 2 (by omega)
          refine tr_step rfl (by rfl) (fun K hK => ?_)
          go_simp
          refine hK _ _ (hSS.out _ hb1) ?_
          clear hK K u0 u1 u2 q0 q1 q2 z0 z1 z2 hb8 h14_7_8 h15
          generalize ((X8.setCell ⟨g14, 0, none⟩ (.int .i64 p.lo)).setCell ⟨g14, 1, none⟩ (.int .i64 p.hi)).setCell ⟨g14, 2, none⟩ (.slice (some ⟨gs, 0, none⟩) p.n cs) = XA at *
          (try simp only [Act.put, List.setIfInBounds_toArray, List.set_cons_zero, List.set_cons_succ])
          have hQ2 := set_three hs15 p
          have hQ1 := ((hQ1.put hne 0 (.int .i64 p.lo)).put hne 1 (.int .i64 p.hi)).put hne 2 (.slice p.a p.n p.cap)
          have hpx := ((hpx.put rfl hneg15 (o := 0) (.int .i64 p.lo)).put rfl hneg15 (o := 1) (.int .i64 p.hi)).put rfl hneg15 (o := 2) (.slice p.a p.n p.cap)
          have hb2 := (BC (BC (BC hb1 (g15) 0 (by omega) (.int .i64 p.lo)) (g15) 1 (by omega) (.int .i64 p.hi)) (g15) 2 (by omega) (.slice p.a p.n p.cap))
          have hs14n := ((hs14.set ⟨g15, 0, none⟩ (.int .i64 p.lo)).set ⟨g15, 1, none⟩ (.int .i64 p.hi)).set ⟨g15, 2, none⟩ (.slice p.a p.n p.cap)
          have hs15n := ((hs15.set ⟨g15, 0, none⟩ (.int .i64 p.lo)).set ⟨g15, 1, none⟩ (.int .i64 p.hi)).set ⟨g15, 2, none⟩ (.slice p.a p.n p.cap)
          obtain ⟨u0, q0, z0⟩ := hs15.get 0 (by omega)
          obtain ⟨u1, q1, z1⟩ := hs15.get 1 (by omega)
          obtain ⟨u2, q2, z2⟩ := hs15.get 2 (by omega)
          refine tr_step rfl (by rfl) (fun K hK => ?_)
          go_simp
          refine hK _ _ (hSS.out _ hb2) ?_
          clear hK K u0 u1 u2 q0 q1 q2 z0 z1 z2 hs14 hs15 hb1
          have hsz2 : (((XA.setCell ⟨g15, 0, none⟩ (.int .i64 p.lo)).setCell ⟨g15, 1, none⟩ (.int .i64 p.hi)).setCell ⟨g15, 2, none⟩ (.slice p.a p.n p.cap)).heap.size = XA.heap.size := by simp only [World.size_setCell]
          have hl14 : g14 < (((XA.setCell ⟨g15, 0, none⟩ (.int .i64 p.lo)).setCell ⟨g15, 1, none⟩ (.int .i64 p.hi)).setCell ⟨g15, 2, none⟩ (.slice p.a p.n p.cap)).heap.size := by omega
          have hl15 : g15 < (((XA.setCell ⟨g15, 0, none⟩ (.int .i64 p.lo)).setCell ⟨g15, 1, none⟩ (.int .i64 p.hi)).setCell ⟨g15, 2, none⟩ (.slice p.a p.n p.cap)).heap.size := by omega
          clear hsz hsz2
          generalize ((XA.setCell ⟨g15, 0, none⟩ (.int .i64 p.lo)).setCell ⟨g15, 1, none⟩ (.int .i64 p.hi)).setCell ⟨g15, 2, none⟩ (.slice p.a p.n p.cap) = XB at *
          (try simp only [Act.put, List.setIfInBounds_toArray, List.set_cons_zero, List.set_cons_succ])
          first | show Exit.inBlock _ _ Exit.normal _ _ | show Exit.then _ _ Exit.normal _ _ | skip
          go_wp2_with fail
          go_meet
          exact ⟨g14, g15, gs, cs, rfl, rfl, hne, ⟨hge14, hl14⟩, ⟨hge15, hl15⟩, ⟨hneg14, hneg15⟩, hs14n, hs15n, hQ1, hQ2, hpx, hb2⟩
        · skip
          refine tr_step rfl (by rfl) (fun K hK => ?_)
          have hx := newB X6 (.cells #[.int .i64 0, .int .i64 0, .slice none 0 0] 29)
          have h15 := slots_new3 X6 (.int .i64 0) (.int .i64 0) (.slice none 0 0) 29
          have hb9 := BT hb6 hx
          have hge15 : Y1.heap.size ≤ X6.heap.size := hb6.size
          have hltg14 : g14 < X6.heap.size := World.block_lt_of_cell? _ _ ((h14).get 0 (by omega)).choose_spec.1
          have h14_9 := h14.below hx hltg14
          go_simp
          refine hK _ _ (hSS.out _ hb9) ?_
          clear hK K hb6 hx
          generalize X6.heap.size = g15 at *
          generalize X6.alloc (.cells #[.int .i64 0, .int .i64 0, .slice none 0 0] 29) = X9 at *
          (try simp only [Act.put, List.setIfInBounds_toArray, List.set_cons_zero, List.set_cons_succ])
          refine tr_step rfl (by rfl) (fun K hK => ?_)
          go_simp
          refine (HAS.out X9 hb9).mono ?_
          rintro e X10 ⟨gs, cs, rfl, hpx, hgs, hx⟩
          have hb10 := BT hb9 hx
          have hgs2 : gs < X10.heap.size := by
            rcases hpx.lk with h | ⟨b1, o1, h1, h2, h3⟩
            · have h4 := hpx.nl; rw [h] at h4; have h5 : 0 = p.n := h4; omega
            · injection h1 with h1; injection h1 with h1; subst h1; exact h2
          have hltg14 : g14 < X9.heap.size := World.block_lt_of_cell? _ _ ((h14_9).get 0 (by omega)).choose_spec.1
          have h14_9_10 := h14_9.below hx hltg14
          have hneg14 : gs ≠ g14 := by omega
          have hltg15 : g15 < X9.heap.size := World.block_lt_of_cell? _ _ ((h15).get 0 (by omega)).choose_spec.1
          have h15_10 := h15.below hx hltg15
          have hneg15 : gs ≠ g15 := by omega
          refine hK _ _ (hSS.out _ hb10) ?_
          clear hK K hx hb9
          (try simp only [Act.put, List.setIfInBounds_toArray, List.set_cons_zero, List.set_cons_succ])
          have hne : g14 ≠ g15 := by omega
          have hl14 : g14 < X10.heap.size := World.block_lt_of_cell? _ _ ((h14_9_10).get 0 (by omega)).choose_spec.1
          have hl15 : g15 < X10.heap.size := World.block_lt_of_cell? _ _ ((h15_10).get 0 (by omega)).choose_spec.1
          have hQ1 := set_three h14_9_10 ⟨p.lo, p.hi, some ⟨gs, 0, none⟩, p.n, cs⟩
          have hpx := ((hpx.put rfl hneg14 (o := 0) (.int .i64 p.lo)).put rfl hneg14 (o := 1) (.int .i64 p.hi)).put rfl hneg14 (o := 2) (.slice (some ⟨gs, 0, none⟩) p.n cs)
          have hb1 := (BC (BC (BC hb10 (g14) 0 (by omega) (.int .i64 p.lo)) (g14) 1 (by omega) (.int .i64 p.hi)) (g14) 2 (by omega) (.slice (some ⟨gs, 0, none⟩) p.n cs))
          have hs14 := ((h14_9_10.set ⟨g14, 0, none⟩ (.int .i64 p.lo)).set ⟨g14, 1, none⟩ (.int .i64 p.hi)).set ⟨g14, 2, none⟩ (.slice (some ⟨gs, 0, none⟩) p.n cs)
          have hs15 := ((h15_10.set ⟨g14, 0, none⟩ (.int .i64 p.lo)).set ⟨g14, 1, none⟩ (.int .i64 p.hi)).set ⟨g14, 2, none⟩ (.slice (some ⟨gs, 0, none⟩) p.n cs)
          have hsz : (((X10.setCell ⟨g14, 0, none⟩ (.int .i64 p.lo)).setCell ⟨g14, 1, none⟩ (.int .i64 p.hi)).setCell ⟨g14, 2, none⟩ (.slice (some ⟨gs, 0, none⟩) p.n cs)).heap.size = X10.heap.size := by simp only [World.size_setCell]
          obtain ⟨u0, q0, z0⟩ := h14_9_10.get 0 (by omega)
          obtain ⟨u1, q1, z1⟩ := h14_9_10.get 1 (by omega)
          obtain ⟨u2, q2, z2⟩ := h14_9_10.get 2 (by omega)
          refine tr_step rfl (by rfl) (fun K hK => ?_)
          go_simp
          refine hK _ _ (hSS.out _ hb1) ?_
          clear hK K u0 u1 u2 q0 q1 q2 z0 z1 z2 hb10 h14_9_10 h15_10
          generalize ((X10.setCell ⟨g14, 0, none⟩ (.int .i64 p.lo)).setCell ⟨g14, 1, none⟩ (.int .i64 p.hi)).setCell ⟨g14, 2, none⟩ (.slice (some ⟨gs, 0, none⟩) p.n cs) = XA at *
          (try simp only [Act.put, List.setIfInBounds_toArray, List.set_cons_zero, List.set_cons_succ])
          have hQ2 := set_three hs15 p
          have hQ1 := ((hQ1.put hne 0 (.int .i64 p.lo)).put hne 1 (.int .i64 p.hi)).put hne 2 (.slice p.a p.n p.cap)
          have hpx := ((hpx.put rfl hneg15 (o := 0) (.int .i64 p.lo)).put rfl hneg15 (o := 1) (.int .i64 p.hi)).put rfl hneg15 (o := 2) (.slice p.a p.n p.cap)
          have hb2 := (BC (BC (BC hb1 (g15) 0 (by omega) (.int .i64 p.lo)) (g15) 1 (by omega) (.int .i64 p.hi)) (g15) 2 (by omega) (.slice p.a p.n p.cap))
          have hs14n := ((hs14.set ⟨g15, 0, none⟩ (.int .i64 p.lo)).set ⟨g15, 1, none⟩ (.int .i64 p.hi)).set ⟨g15, 2, none⟩ (.slice p.a p.n p.cap)
          have hs15n := ((hs15.set ⟨g15, 0, none⟩ (.int .i64 p.lo)).set ⟨g15, 1, none⟩ (.int .i64 p.hi)).set ⟨g15, 2, none⟩ (.slice p.a p.n p.cap)
          obtain ⟨u0, q0, z0⟩ := hs15.get 0 (by omega)
          obtain ⟨u1, q1, z1⟩ := hs15.get 1 (by omega)
          obtain ⟨u2, q2, z2⟩ := hs15.get 2 (by omega)
          refine tr_step rfl (by rfl) (fun K hK => ?_)
          go_simp
          refine hK _ _ (hSS.out _ hb2) ?_
          clear hK K u0 u1 u2 q0 q1 q2 z0 z1 z2 hs14 hs15 hb1
          have hsz2 : (((XA.setCell ⟨g15, 0, none⟩ (.int .i64 p.lo)).setCell ⟨g15, 1, none⟩ (.int .i64 p.hi)).setCell ⟨g15, 2, none⟩ (.slice p.a p.n p.cap)).heap.size = XA.heap.size := by simp only [World.size_setCell]
          have hl14 : g14 < (((XA.setCell ⟨g15, 0, none⟩ (.int .i64 p.lo)).setCell ⟨g15, 1, none⟩ (.int .i64 p.hi)).setCell ⟨g15, 2, none⟩ (.slice p.a p.n p.cap)).heap.size := by omega
          have hl15 : g15 < (((XA.setCell ⟨g15, 0, none⟩ (.int .i64 p.lo)).setCell ⟨g15, 1, none⟩ (.int .i64 p.hi)).setCell ⟨g15, 2, none⟩ (.slice p.a p.n p.cap)).heap.size := by omega
          clear hsz hsz2
          generalize ((XA.setCell ⟨g15, 0, none⟩ (.int .i64 p.lo)).setCell ⟨g15, 1, none⟩ (.int .i64 p.hi)).setCell ⟨g15, 2, none⟩ (.slice p.a p.n p.cap) = XB at *
          (try simp only [Act.put, List.setIfInBounds_toArray, List.set_cons_zero, List.set_cons_succ])
          first | show Exit.inBlock _ _ Exit.normal _ _ | show Exit.then _ _ Exit.normal _ _ | skip
          go_wp2_with fail
          go_meet
          exact ⟨g14, g15, gs, cs, rfl, rfl, hne, ⟨hge14, hl14⟩, ⟨hge15, hl15⟩, ⟨hneg14, hneg15⟩, hs14n, hs15n, hQ1, hQ2, hpx, hb2⟩
      · skip
        refine tr_step rfl (by rfl) (fun K hK => ?_)
        have hx := newB X0 (.cells #[.int .i64 0, .int .i64 0, .slice none 0 0] 29)
        have h15 := slots_new3 X0 (.int .i64 0) (.int .i64 0) (.slice none 0 0) 29
        have hb11 := BT hbD hx
        have hge15 : Y1.heap.size ≤ X0.heap.size := hbD.size
        go_simp
        refine hK _ _ (hSS.out _ hb11) ?_
        clear hK K hbD hx
        generalize X0.heap.size = g15 at *
        generalize X0.alloc (.cells #[.int .i64 0, .int .i64 0, .slice none 0 0] 29) = X11 at *
        (try simp only [Act.put, List.setIfInBounds_toArray, List.set_cons_zero, List.set_cons_succ])
        refine ⟨?_, ?_⟩
        · skip
          refine tr_step rfl (by rfl) (fun K hK => ?_)
          go_simp
          refine (HAS.out X11 hb11).mono ?_
          rintro e X12 ⟨gs, cs, rfl, hpx, hgs, hx⟩
          have hb12 := BT hb11 hx
          have hgs2 : gs < X12.heap.size := by
            rcases hpx.lk with h | ⟨b1, o1, h1, h2, h3⟩
            · have h4 := hpx.nl; rw [h] at h4; have h5 : 0 = p.n := h4; omega
            · injection h1 with h1; injection h1 with h1; subst h1; exact h2
          have hltg15 : g15 < X11.heap.size := World.block_lt_of_cell? _ _ ((h15).get 0 (by omega)).choose_spec.1
          have h15_12 := h15.below hx hltg15
          have hneg15 : gs ≠ g15 := by omega
          refine hK _ _ (hSS.out _ hb12) ?_
          clear hK K hx hb11
          (try simp only [Act.put, List.setIfInBounds_toArray, List.set_cons_zero, List.set_cons_succ])
          refine tr_step rfl (by rfl) (fun K hK => ?_)
          have hx := newB X12 (.cells #[.int .i64 0, .int .i64 0, .slice none 0 0] 29)
          have h14 := slots_new3 X12 (.int .i64 0) (.int .i64 0) (.slice none 0 0) 29
          have hb13 := BT hb12 hx
          have hge14 : Y1.heap.size ≤ X12.heap.size := hb12.size
          have hltg15 : g15 < X12.heap.size := World.block_lt_of_cell? _ _ ((h15_12).get 0 (by omega)).choose_spec.1
          have h15_12_13 := h15_12.below hx hltg15
          have hpx := hpx.below hx (Nat.le_refl _)
          go_simp
          refine hK _ _ (hSS.out _ hb13) ?_
          clear hK K hb12 hx
          generalize X12.heap.size = g14 at *
          generalize X12.alloc (.cells #[.int .i64 0, .int .i64 0, .slice none 0 0] 29) = X13 at *
          have hneg14 : gs ≠ g14 := by omega
          (try simp only [Act.put, List.setIfInBounds_toArray, List.set_cons_zero, List.set_cons_succ])
          have hne : g14 ≠ g15 := by omega
          have hl14 : g14 < X13.heap.size := World.block_lt_of_cell? _ _ ((h14).get 0 (by omega)).choose_spec.1
          have hl15 : g15 < X13.heap.size := World.block_lt_of_cell? _ _ ((h15_12_13).get 0 (by omega)).choose_spec.1
          have hQ1 := set_three h14 ⟨p.lo, p.hi, some ⟨gs, 0, none⟩, p.n, cs⟩
          have hpx := ((hpx.put rfl hneg14 (o := 0) (.int .i64 p.lo)).put rfl hneg14 (o := 1) (.int .i64 p.hi)).put rfl hneg14 (o := 2) (.slice (some ⟨gs, 0, none⟩) p.n cs)
          have hb1 := (BC (BC (BC hb13 (g14) 0 (by omega) (.int .i64 p.lo)) (g14) 1 (by omega) (.int .i64 p.hi)) (g14) 2 (by omega) (.slice (some ⟨gs, 0, none⟩) p.n cs))
          have hs14 := ((h14.set ⟨g14, 0, none⟩ (.int .i64 p.lo)).set ⟨g14, 1, none⟩ (.int .i64 p.hi)).set ⟨g14, 2, none⟩ (.slice (some ⟨gs, 0, none⟩) p.n cs)
          have hs15 := ((h15_12_13.set ⟨g14, 0, none⟩ (.int .i64 p.lo)).set ⟨g14, 1, none⟩ (.int .i64 p.hi)).set ⟨g14, 2, none⟩ (.slice (some ⟨gs, 0, none⟩) p.n cs)
          have hsz : (((X13.setCell ⟨g14, 0, none⟩ (.int .i64 p.lo)).setCell ⟨g14, 1, none⟩ (.int .i64 p.hi)).setCell ⟨g14, 2, none⟩ (.slice (some ⟨gs, 0, none⟩) p.n cs)).heap.size = X13.heap.size := by simp only [World.size_setCell]
          obtain ⟨u0, q0, z0⟩ := h14.get 0 (by omega)
          obtain ⟨u1, q1, z1⟩ := h14.get 1 (by omega)
          obtain ⟨u2, q2, z2⟩ := h14.get 2 (by omega)
          refine tr_step rfl (by rfl) (fun K hK => ?_)
          go_simp
          refine hK _ _ (hSS.out _ hb1) ?_
          clear hK K u0 u1 u2 q0 q1 q2 z0 z1 z2 hb13 h14 h15_12_13
          generalize ((X13.setCell ⟨g14, 0, none⟩ (.int .i64 p.lo)).setCell ⟨g14, 1, none⟩ (.int .i64 p.hi)).setCell ⟨g14, 2, none⟩ (.slice (some ⟨gs, 0, none⟩) p.n cs) = XA at *
          (try simp only [Act.put, List.setIfInBounds_toArray, List.set_cons_zero, List.set_cons_succ])
          have hQ2 := set_three hs15 p
          have hQ1 := ((hQ1.put hne 0 (.int .i64 p.lo)).put hne 1 (.int .i64 p.hi)).put hne 2 (.slice p.a p.n p.cap)
          have hpx := ((hpx.put rfl hneg15 (o := 0) (.int .i64 p.lo)).put rfl hneg15 (o := 1) (.int .i64 p.hi)).put rfl hneg15 (o := 2) (.slice p.a p.n p.cap)
          have hb2 := (BC (BC (BC hb1 (g15) 0 (by omega) (.int .i64 p.lo)) (g15) 1 (by omega) (.int .i64 p.hi)) (g15) 2 (by omega) (.slice p.a p.n p.cap))
          have hs14n := ((hs14.set ⟨g15, 0, none⟩ (.int .i64 p.lo)).set ⟨g15, 1, none⟩ (.int .i64 p.hi)).set ⟨g15, 2, none⟩ (.slice p.a p.n p.cap)
          have hs15n := ((hs15.set ⟨g15, 0, none⟩ (.int .i64 p.lo)).set ⟨g15, 1, none⟩ (.int .i64 p.hi)).set ⟨g15, 2, none⟩ (.slice p.a p.n p.cap)
          obtain ⟨u0, q0, z0⟩ := hs15.get 0 (by omega)
          obtain ⟨u1, q1, z1⟩ := hs15.get 1 (by omega)
          obtain ⟨u2, q2, z2⟩ := hs15.get 2 (by omega)
          refine tr_step rfl (by rfl) (fun K hK => ?_)
          go_simp
          refine hK _ _ (hSS.out _ hb2) ?_
          clear hK K u0 u1 u2 q0 q1 q2 z0 z1 z2 hs14 hs15 hb1
          have hsz2 : (((XA.setCell ⟨g15, 0, none⟩ (.int .i64 p.lo)).setCell ⟨g15, 1, none⟩ (.int .i64 p.hi)).setCell ⟨g15, 2, none⟩ (.slice p.a p.n p.cap)).heap.size = XA.heap.size := by simp only [World.size_setCell]
          have hl14 : g14 < (((XA.setCell ⟨g15, 0, none⟩ (.int .i64 p.lo)).setCell ⟨g15, 1, none⟩ (.int .i64 p.hi)).setCell ⟨g15, 2, none⟩ (.slice p.a p.n p.cap)).heap.size := by omega
          have hl15 : g15 < (((XA.setCell ⟨g15, 0, none⟩ (.int .i64 p.lo)).setCell ⟨g15, 1, none⟩ (.int .i64 p.hi)).setCell ⟨g15, 2, none⟩ (.slice p.a p.n p.cap)).heap.size := by omega
          clear hsz hsz2
          generalize ((XA.setCell ⟨g15, 0, none⟩ (.int .i64 p.lo)).setCell ⟨g15, 1, none⟩ (.int .i64 p.hi)).setCell ⟨g15, 2, none⟩ (.slice p.a p.n p.cap) = XB at *
          (try simp only [Act.put, List.setIfInBounds_toArray, List.set_cons_zero, List.set_cons_succ])
          first | show Exit.inBlock _ _ Exit.normal _ _ | show Exit.then _ _ Exit.normal _ _ | skip
          go_wp2_with fail
          go_meet
          exact ⟨g14, g15, gs, cs, rfl, rfl, hne, ⟨hge14, hl14⟩, ⟨hge15, hl15⟩, ⟨hneg14, hneg15⟩, hs14n, hs15n, hQ1, hQ2, hpx, hb2⟩
        · skip
          refine tr_step rfl (by rfl) (fun K hK => ?_)
          have hx := newB X11 (.cells #[.int .i64 0, .int .i64 0, .slice none 0 0] 29)
          have h14 := slots_new3 X11 (.int .i64 0) (.int .i64 0) (.slice none 0 0) 29
          have hb14 := BT hb11 hx
          have hge14 : Y1.heap.size ≤ X11.heap.size := hb11.size
          have hltg15 : g15 < X11.heap.size := World.block_lt_of_cell? _ _ ((h15).get 0 (by omega)).choose_spec.1
          have h15_14 := h15.below hx hltg15
          go_simp
          refine hK _ _ (hSS.out _ hb14) ?_
          clear hK K hb11 hx
          generalize X11.heap.size = g14 at *
          generalize X11.alloc (.cells #[.int .i64 0, .int .i64 0, .slice none 0 0] 29) = X14 at *
          (try simp only [Act.put, List.setIfInBounds_toArray, List.set_cons_zero, List.set_cons_succ])
          refine tr_step rfl (by rfl) (fun K hK => ?_)
          go_simp
          refine (HAS.out X14 hb14).mono ?_
          rintro e X15 ⟨gs, cs, rfl, hpx, hgs, hx⟩
          have hb15 := BT hb14 hx
          have hgs2 : gs < X15.heap.size := by
            rcases hpx.lk with h | ⟨b1, o1, h1, h2, h3⟩
            · have h4 := hpx.nl; rw [h] at h4; have h5 : 0 = p.n := h4; omega
            · injection h1 with h1; injection h1 with h1; subst h1; exact h2
          have hltg15 : g15 < X14.heap.size := World.block_lt_of_cell? _ _ ((h15_14).get 0 (by omega)).choose_spec.1
          have h15_14_15 := h15_14.below hx hltg15
          have hneg15 : gs ≠ g15 := by omega
          have hltg14 : g14 < X14.heap.size := World.block_lt_of_cell? _ _ ((h14).get 0 (by omega)).choose_spec.1
          have h14_15 := h14.below hx hltg14
          have hneg14 : gs ≠ g14 := by omega
          refine hK _ _ (hSS.out _ hb15) ?_
          clear hK K hx hb14
          (try simp only [Act.put, List.setIfInBounds_toArray, List.set_cons_zero, List.set_cons_succ])
          have hne : g14 ≠ g15 := by omega
          have hl14 : g14 < X15.heap.size := World.block_lt_of_cell? _ _ ((h14_15).get 0 (by omega)).choose_spec.1
          have hl15 : g15 < X15.heap.size := World.block_lt_of_cell? _ _ ((h15_14_15).get 0 (by omega)).choose_spec.1
          have hQ1 := set_three h14_15 ⟨p.lo, p.hi, some ⟨gs, 0, none⟩, p.n, cs⟩
          have hpx := ((hpx.put rfl hneg14 (o := 0) (.int .i64 p.lo)).put rfl hneg14 (o := 1) (.int .i64 p.hi)).put rfl hneg14 (o := 2) (.slice (some ⟨gs, 0, none⟩) p.n cs)
          have hb1 := (BC (BC (BC hb15 (g14) 0 (by omega) (.int .i64 p.lo)) (g14) 1 (by omega) (.int .i64 p.hi)) (g14) 2 (by omega) (.slice (some ⟨gs, 0, none⟩) p.n cs))
          have hs14 := ((h14_15.set ⟨g14, 0, none⟩ (.int .i64 p.lo)).set ⟨g14, 1, none⟩ (.int .i64 p.hi)).set ⟨g14, 2, none⟩ (.slice (some ⟨gs, 0, none⟩) p.n cs)
          have hs15 := ((h15_14_15.set ⟨g14, 0, none⟩ (.int .i64 p.lo)).set ⟨g14, 1, none⟩ (.int .i64 p.hi)).set ⟨g14, 2, none⟩ (.slice (some ⟨gs, 0, none⟩) p.n cs)
          have hsz : (((X15.setCell ⟨g14, 0, none⟩ (.int .i64 p.lo)).setCell ⟨g14, 1, none⟩ (.int .i64 p.hi)).setCell ⟨g14, 2, none⟩ (.slice (some ⟨gs, 0, none⟩) p.n cs)).heap.size = X15.heap.size := by simp only [World.size_setCell]
          obtain ⟨u0, q0, z0⟩ := h14_15.get 0 (by omega)
          obtain ⟨u1, q1, z1⟩ := h14_15.get 1 (by omega)
          obtain ⟨u2, q2, z2⟩ := h14_15.get 2 (by omega)
          refine tr_step rfl (by rfl) (fun K hK => ?_)
          go_simp
          refine hK _ _ (hSS.out _ hb1) ?_
          clear hK K u0 u1 u2 q0 q1 q2 z0 z1 z2 hb15 h14_15 h15_14_15
          generalize ((X15.setCell ⟨g14, 0, none⟩ (.int .i64 p.lo)).setCell ⟨g14, 1, none⟩ (.int .i64 p.hi)).setCell ⟨g14, 2, none⟩ (.slice (some ⟨gs, 0, none⟩) p.n cs) = XA at *
          (try simp only [Act.put, List.setIfInBounds_toArray, List.set_cons_zero, List.set_cons_succ])
          have hQ2 := set_three hs15 p
          have hQ1 := ((hQ1.put hne 0 (.int .i64 p.lo)).put hne 1 (.int .i64 p.hi)).put hne 2 (.slice p.a p.n p.cap)
          have hpx := ((hpx.put rfl hneg15 (o := 0) (.int .i64 p.lo)).put rfl hneg15 (o := 1) (.int .i64 p.hi)).put rfl hneg15 (o := 2) (.slice p.a p.n p.cap)
          have hb2 := (BC (BC (BC hb1 (g15) 0 (by omega) (.int .i64 p.lo)) (g15) 1 (by omega) (.int .i64 p.hi)) (g15) 2 (by omega) (.slice p.a p.n p.cap))
          have hs14n := ((hs14.set ⟨g15, 0, none⟩ (.int .i64 p.lo)).set ⟨g15, 1, none⟩ (.int .i64 p.hi)).set ⟨g15, 2, none⟩ (.slice p.a p.n p.cap)
          have hs15n := ((hs15.set ⟨g15, 0, none⟩ (.int .i64 p.lo)).set ⟨g15, 1, none⟩ (.int .i64 p.hi)).set ⟨g15, 2, none⟩ (.slice p.a p.n p.cap)
          obtain ⟨u0, q0, z0⟩ := hs15.get 0 (by omega)
          obtain ⟨u1, q1, z1⟩ := hs15.get 1 (by omega)
          obtain ⟨u2, q2, z2⟩ := hs15.get 2 (by omega)
          refine tr_step rfl (by rfl) (fun K hK => ?_)
          go_simp
          refine hK _ _ (hSS.out _ hb2) ?_
          clear hK K u0 u1 u2 q0 q1 q2 z0 z1 z2 hs14 hs15 hb1
          have hsz2 : (((XA.setCell ⟨g15, 0, none⟩ (.int .i64 p.lo)).setCell ⟨g15, 1, none⟩ (.int .i64 p.hi)).setCell ⟨g15, 2, none⟩ (.slice p.a p.n p.cap)).heap.size = XA.heap.size := by simp only [World.size_setCell]
          have hl14 : g14 < (((XA.setCell ⟨g15, 0, none⟩ (.int .i64 p.lo)).setCell ⟨g15, 1, none⟩ (.int .i64 p.hi)).setCell ⟨g15, 2, none⟩ (.slice p.a p.n p.cap)).heap.size := by omega
          have hl15 : g15 < (((XA.setCell ⟨g15, 0, none⟩ (.int .i64 p.lo)).setCell ⟨g15, 1, none⟩ (.int .i64 p.hi)).setCell ⟨g15, 2, none⟩ (.slice p.a p.n p.cap)).heap.size := by omega
          clear hsz hsz2
          generalize ((XA.setCell ⟨g15, 0, none⟩ (.int .i64 p.lo)).setCell ⟨g15, 1, none⟩ (.int .i64 p.hi)).setCell ⟨g15, 2, none⟩ (.slice p.a p.n p.cap) = XB at *
          (try simp only [Act.put, List.setIfInBounds_toArray, List.set_cons_zero, List.set_cons_succ])
          first | show Exit.inBlock _ _ Exit.normal _ _ | show Exit.then _ _ Exit.normal _ _ | skip
          go_wp2_with fail
          go_meet
          exact ⟨g14, g15, gs, cs, rfl, rfl, hne, ⟨hge14, hl14⟩, ⟨hge15, hl15⟩, ⟨hneg14, hneg15⟩, hs14n, hs15n, hQ1, hQ2, hpx, hb2⟩
    case rest =>
      unfold Cut1 at hcut
      obtain ⟨B, D, gs, cs, rfl, rfl, hne, ⟨hB0, hB1⟩, ⟨hD0, hD1⟩, ⟨hgB, hgD⟩, hsB, hsD, hQB, hQD, hpx, hbc⟩ := hcut
      obtain ⟨X1, rfl⟩ : ∃ X1 : World, X1 = wc := ⟨_, rfl⟩
      have hYs := hB.size
      replace hB := BT hB hbc
      clear hSS hbD HAS hbc
      obtain ⟨pb, po, hpa, hpb, hct⟩ := HT.out.1.2.star hklt
      have hpbD : pb ≠ D := by omega
      have hpbB : pb ≠ B := by omega
      have hW0B : W0.heap.size ≤ B := by omega
      have hW0D : W0.heap.size ≤ D := by omega
      have hct := hct.below hB hpb
      have hk4 := hct.c4
      obtain ⟨kb, hkb⟩ : ∃ kb, (ss.getD k default).k = kb := ⟨_, rfl⟩
      rw [hkb] at hk4
      have HKB := Lib.hid hkb
      obtain ⟨p0, p1, p2⟩ := HT.out.1.1.grown hB
      have HPA := Lib.hid hpa
      rw [hpa] at p2
      clear hpa hct hkb hYs hB0 hD0
      go_upto_if 73 with fail
      go_cut [] from 74 to 74 (fun X => Cut2 W0 p ss B D X)
      case first =>
        cases kb
        · go_wp2_with fail
          go_meet
          exact ⟨⟨p.lo, p.hi, some ⟨gs, 0, none⟩, p.n, cs⟩, _, gs, 0, rfl, hgD, hQB, hQD, hsD, hpx, fun hz => inc_set hHk.out HV.out hkn (nar_know HKB.out ea eb na nb) (Int.le_refl _) (Int.le_refl _) rfl hz, hB⟩
        have hQ1 : BoxP (((X1.setCell ⟨B, 0, none⟩ (.int .i64 p.lo)).setCell ⟨B, 1, none⟩ (.int .i64 p.hi)).setCell ⟨B, 2, none⟩ (.slice (some ⟨pb, po, none⟩) p.n p.cap)) B p := by
          have h := set_three hsB p
          rwa [HPA.out] at h
        have hQ2 := ((hQD.put hne.symm 0 (.int .i64 p.lo)).put hne.symm 1 (.int .i64 p.hi)).put hne.symm 2 (.slice (some ⟨pb, po, none⟩) p.n p.cap)
        have hs2 := ((hsD.set ⟨B, 0, none⟩ (.int .i64 p.lo)).set ⟨B, 1, none⟩ (.int .i64 p.hi)).set ⟨B, 2, none⟩ (.slice (some ⟨pb, po, none⟩) p.n p.cap)
        have hb2 := (BC (BC (BC hB (B) 0 (by omega) (.int .i64 p.lo)) (B) 1 (by omega) (.int .i64 p.hi)) (B) 2 (by omega) (.slice (some ⟨pb, po, none⟩) p.n p.cap))
        have hpl := HT.out.1.2.below hb2 (Nat.le_refl _)
        obtain ⟨u0, q0, f0⟩ := hsB.get 0 (by omega)
        obtain ⟨u1, q1, f1⟩ := hsB.get 1 (by omega)
        obtain ⟨u2, q2, f2⟩ := hsB.get 2 (by omega)
        go_wp2_with fail
        go_meet
        exact ⟨p, ss, pb, po, HPA.out, hpbD, hQ1, hQ2, hs2, hpl, fun hz => inc_same hHk.out HV.out (Int.le_refl _) (Int.le_refl _) rfl hz, hb2⟩
      case rest =>
        unfold Cut2 at hcut
        obtain ⟨z1, zs1, zb, zo, hza, hzD, hQB2, hQD2, hsD2, hz1, hi1, hB2⟩ := hcut
        obtain ⟨X2, rfl⟩ : ∃ X2 : World, X2 = wc := ⟨_, rfl⟩
        clear hsB hsD hQB hQD hpx hB hB1 hgB hgD hpbD hpbB hk4 p0 p1 p2
        have hD1 : D < X2.heap.size := World.block_lt_of_cell? _ _ hQD2.c0
        have hB1 : B < X2.heap.size := World.block_lt_of_cell? _ _ hQB2.c0
        have HZA := Lib.hid hza
        have HI1 := Lib.hid hi1
        clear hza hi1
        obtain ⟨p0, p1, p2⟩ := HT.out.1.1.grown hB2
        obtain ⟨XE, hXE⟩ : ∃ X, X2.alloc (.cells #[] 55) = X := ⟨_, rfl⟩
        have hr0 : XE.ownsRow X2.heap.size 55 9 (.slice (some ⟨X2.heap.size, 0, none⟩) 0 0) 0 [] := by rw [← hXE]; exact World.ownsRow_lit (base := X2.heap.size) (e := 55) (size := 9) X2 #[] 0 (Nat.le_refl _) (by unfold maxLen; omega) (by rfl)
        have hE2 : Below X2.heap.size X2 XE := by rw [← hXE]; exact newB _ _
        have hst1 : StarsIn XE p.a ss := (HT.out.1.2.below (BT hB2 hE2) (Nat.le_refl _)).lk
        have p2' := cellB p2 hE2
        go_wp2_with (at_builtin; refine wpList_append_stars rfl (.tmp 75) (.tmp 77) rfl X2.heap.size (.slice (some ⟨X2.heap.size, 0, none⟩) 0 0) (by rfl) hr0 p.a p.n p.cap ss (by rfl) hst1 hHk.out (by omega) hE2.size ?_)
        intro v' X3 hr hg
        have hBx : Below X2.heap.size X2 X3 := hE2.grown hg hE2.size (fun k e => by simp [Value.ownBlock] at e; omega)
        clear hg hr0 hst1 hXE hE2 p0 p1 p2 p2'
        obtain ⟨g, cap, rfl⟩ : ∃ g cap, v' = .slice (some ⟨g, 0, none⟩) p.n cap := by
          rcases hr.2 with ⟨h1, h2⟩ | ⟨g, cap, cur, h1, _⟩
          · omega
          · exact ⟨g, cap, h1⟩
        have hgl := hr.lt g rfl
        have hsD3 := hsD2.below hBx hD1
        obtain ⟨u2, q2, f2⟩ := hsD3.get 2 (by omega)
        have hQD3 := hQD2.grown hBx
        have hQB3 := (hQB2.grown hBx).put hne 2 (.slice (some ⟨g, 0, none⟩) p.n cap)
        have hz3 := (hz1.below hBx (Nat.le_refl _)).put2 HZA.out hzD 2 (.slice (some ⟨g, 0, none⟩) p.n cap)
        have hB3 := BC (BT hB2 hBx) D 2 hW0D (.slice (some ⟨g, 0, none⟩) p.n cap)
        have hs3 := hsD3.set ⟨D, 2, none⟩ (.slice (some ⟨g, 0, none⟩) p.n cap)
        have hr4 := ownsRow_setCell_below hr (a := ⟨D, 2, none⟩) hD1 (.slice (some ⟨g, 0, none⟩) p.n cap)
        have d0 : (X3.setCell ⟨D, 2, none⟩ (.slice (some ⟨g, 0, none⟩) p.n cap)).cell? ⟨D, 0, none⟩ = some (.int .i64 p.lo) := by simp [go_sem, hQD3.c0]
        have d1 : (X3.setCell ⟨D, 2, none⟩ (.slice (some ⟨g, 0, none⟩) p.n cap)).cell? ⟨D, 1, none⟩ = some (.int .i64 p.hi) := by simp [go_sem, hQD3.c1]
        have d2 : (X3.setCell ⟨D, 2, none⟩ (.slice (some ⟨g, 0, none⟩) p.n cap)).cell? ⟨D, 2, none⟩ = some (.slice (some ⟨g, 0, none⟩) p.n cap) := World.cell?_setCell_same _ _ _ q2
        have hD4 : D < X2.heap.size := hD1
        have hzb : zb < X2.heap.size ∨ zs1 = [] := by
          rcases hz1.lk with h | ⟨b1, o1, h1, h2, _⟩
          · exact .inr h
          · left; rw [HZA.out] at h1; injection h1 with h1; injection h1 with h1; subst h1; exact h2
        obtain ⟨X4, hX4⟩ : ∃ X, X3.setCell ⟨D, 2, none⟩ (.slice (some ⟨g, 0, none⟩) p.n cap) = X := ⟨_, rfl⟩
        rw [hX4] at hQB3 hz3 hB3 hs3 hr4 d0 d1 d2
        clear hQD3 hsD3 hr hQB2 hQD2 hsD2 hz1 hB2
        have p0 := cellB HT.out.1.1.c0 hB3
        have p1 := cellB HT.out.1.1.c1 hB3
        have p2 := cellB HT.out.1.1.c2 hB3
        have hqi := HQ.out
        go_upto_block 0 with fail
        have hqz := hq3.out
        go_cut [] from 91 to 168 (fun X => Cut3 W0 p ss B D z1 zs1 X)
        case first =>
          obtain ⟨s, hs⟩ : ∃ s, ss.getD k default = s := ⟨_, rfl⟩
          have hLn : (ss.flatMap starC).length = p.n * 9 := by rw [flat_len9, hHk.out]
          have hc : ∀ r u, r < 9 → (starC s)[r]? = some u → X4.cell? ⟨g, k * 9 + r, none⟩ = some u := fun r u hr hu => by rw [hr4.cellAt (k * 9 + r) (by omega), flat_get hklt hr, hs]; exact hu
          have x0 : X4.cell? ⟨g, k * 9, none⟩ = some (.int .i64 s.x0) := hc 0 _ (by omega) rfl
          have x1 : X4.cell? ⟨g, k * 9 + 1, none⟩ = some (.int .i64 s.x1) := hc 1 _ (by omega) rfl
          have y0 : X4.cell? ⟨g, k * 9 + 2, none⟩ = some (.int .i64 s.y0) := hc 2 _ (by omega) rfl
          have y1 : X4.cell? ⟨g, k * 9 + 2 + 1, none⟩ = some (.int .i64 s.y1) := hc 3 _ (by omega) rfl
          have e0 : X4.cell? ⟨g, k * 9 + 5, none⟩ = some (.int .i64 s.e0) := hc 5 _ (by omega) rfl
          have e1 : X4.cell? ⟨g, k * 9 + 5 + 1, none⟩ = some (.int .i64 s.e1) := hc 6 _ (by omega) rfl
          have n0 : X4.cell? ⟨g, k * 9 + 7, none⟩ = some (.int .i64 s.n0) := hc 7 _ (by omega) rfl
          have n1 : X4.cell? ⟨g, k * 9 + 7 + 1, none⟩ = some (.int .i64 s.n1) := hc 8 _ (by omega) rfl
          have hx := HOK.out.st k hklt false
          have hy := HOK.out.st k hklt true
          rw [hs] at hx hy
          have hxa : 0 ≤ s.x0 := hx.a
          have hxb : s.x0 ≤ s.x1 := hx.b
          have hxc : s.x1 ≤ 32768 := hx.c
          have hya : 0 ≤ s.y0 := hy.a
          have hyb : s.y0 ≤ s.y1 := hy.b
          have hyc : s.y1 ≤ 32768 := hy.c
          have hek : s.k = true → -1048576 ≤ s.e0 ∧ s.e0 ≤ s.e1 ∧ s.e1 ≤ 1048576 := fun h => ⟨hx.e h, hx.f h, hx.g h⟩
          have hnk : s.k = true → -1048576 ≤ s.n0 ∧ s.n0 ≤ s.n1 ∧ s.n1 ≤ 1048576 := fun h => ⟨hy.e h, hy.f h, hy.g h⟩
          have HEK := Lib.hid hek
          have HNK := Lib.hid hnk
          have HS := Lib.hid hs
          have hgD : g ≠ D := by omega
          clear hc hs hx hy hek hnk
          rcases hqz with rfl | rfl | rfl
          · skip
            go_upto_region 12 with fail
            obtain ⟨E, hEe⟩ : ∃ E, (if IntKind.i64.wrap (s.x0 + 1) < s.x1 then IntKind.i64.wrap (s.x0 + 1) else s.x1) = E := ⟨_, rfl⟩
            obtain ⟨F, hFe⟩ : ∃ F, (if s.y0 < IntKind.i64.wrap (s.y1 - 1) then IntKind.i64.wrap (s.y1 - 1) else s.y0) = F := ⟨_, rfl⟩
            have hSS : Hid (∀ Y, Below X4.heap.size X4 Y → Y.cell? ⟨g, k * 9, none⟩ = some (.int .i64 s.x0) ∧ Y.cell? ⟨g, k * 9 + 1, none⟩ = some (.int .i64 s.x1) ∧ Y.cell? ⟨g, k * 9 + 2, none⟩ = some (.int .i64 s.y0) ∧ Y.cell? ⟨g, k * 9 + 2 + 1, none⟩ = some (.int .i64 s.y1)) := fun Y hY => ⟨cellB x0 hY, cellB x1 hY, cellB y0 hY, cellB y1 hY⟩
            clear x0 x1 y0 y1 e0 e1 n0 n1
            have hbD : Below X4.heap.size X4 X4.drew := Below.drew (Below.refl _ _)
            have hr4 := hr4.drew
            refine wp_region_treeF5 [6, 11, 18, 23] (.read 0 (.read 1 (.read 2 (.read 3 (.read 4 (.read 5 (.read 6 (.read 7 (.read 8 (.read 9 (.read 10 (.read 11 (.read 12 (.read 13 (.read 14 (.read 15 (.read 16 (.read 17 (.read 18 (.read 19 (.read 20 (.read 21 (.read 22 (.read 23 (.read 24 (.read 25 (.read 26 (.read 27 (.read 28 (.one 29 (.read 30 (.read 31 (.read 32 (.one 33 .leaf)))))))))))))))))))))))))))))))))) (fun Y => Y.cell? ⟨g, k * 9, none⟩ = some (.int .i64 s.x0) ∧ Y.cell? ⟨g, k * 9 + 1, none⟩ = some (.int .i64 s.x1) ∧ Y.cell? ⟨g, k * 9 + 2, none⟩ = some (.int .i64 s.y0) ∧ Y.cell? ⟨g, k * 9 + 2 + 1, none⟩ = some (.int .i64 s.y1)) (by kernel_rfl) (by kernel_rfl) (fun _ _ d _ _ h => by cases d <;> exact h) (hSS.out _ hbD) ?_
            have hb4 := Below.drew hB3
            have hQB4 : BoxP X4.drew B z1 := ⟨hQB3.c0, hQB3.c1, hQB3.c2⟩
            have hz4 := hz3.below hbD (Nat.le_refl _)
            have hQD4 : BoxP X4.drew D ⟨p.lo, p.hi, some ⟨g, 0, none⟩, p.n, cap⟩ := ⟨cellB d0 hbD, cellB d1 hbD, cellB d2 hbD⟩
            clear hQB3 hz3 d0 d1 d2 hs3 hX4
            generalize X4.drew = Y0 at *
            repeat (first | (refine trF_read5 rfl (by rfl) _ (fun w' hS => by (try replace hS := hS (by decide)); (try dsimp only at hS); go_simp; (try with_reducible rfl)) ?_; (try simp only [Act.put, List.setIfInBounds_toArray, List.set_cons_zero, List.set_cons_succ])) | (refine trF_skip5 rfl (by rfl) ?_; (try simp only [Act.put, List.setIfInBounds_toArray, List.set_cons_zero, List.set_cons_succ])))

            refine trF_late5 rfl (by rfl) (by kernel_rfl) (fun K hK => ?_)
            obtain ⟨v5, q5⟩ := row_cell hr4 (k * 9) (by omega) hLn
            have f5 := hr4.frozenAt (k * 9)
            have hr5 := (hr4.stored (k * 9) (.int .i64 E)).1
            have hgz : zb ≠ g ∨ zs1 = [] := by rcases hzb with h | h; · exact .inl (by omega)
                                               · exact .inr h
            have hz5 := hz4.put3 HZA.out hgz (k * 9) (.int .i64 E)
            have hb5 := BC hb4 g (k * 9) (by omega) (.int .i64 E)
            have hQB5 := hQB4.put (show B ≠ g by omega) (k * 9) (.int .i64 E)
            have hQD5 := hQD4.put hgD.symm (k * 9) (.int .i64 E)
            have hgs : g < (Y0.setCell ⟨g, k * 9, none⟩ (.int .i64 E)).heap.size := by rw [World.size_setCell]; exact World.block_lt_of_cell? _ _ q5
            go_simp
            refine hK _ _ ?_
            clear hK K q5 v5 f5 hr4 hz4 hb4 hQB4 hQD4
            generalize Y0.setCell ⟨g, k * 9, none⟩ (.int .i64 E) = Y1 at *
            (try simp only [Act.put, List.setIfInBounds_toArray, List.set_cons_zero, List.set_cons_succ])
            repeat (first | (refine trF_read5 rfl (by rfl) _ (fun w' hS => by (try replace hS := hS (by decide)); (try dsimp only at hS); go_simp; (try with_reducible rfl)) ?_; (try simp only [Act.put, List.setIfInBounds_toArray, List.set_cons_zero, List.set_cons_succ])) | (refine trF_skip5 rfl (by rfl) ?_; (try simp only [Act.put, List.setIfInBounds_toArray, List.set_cons_zero, List.set_cons_succ])))
            refine trF_late5 rfl (by rfl) (by kernel_rfl) (fun K hK => ?_)
            obtain ⟨v5, q5⟩ := row_cell hr5 (k * 9 + 2 + 1) (by omega) (by rw [List.length_set]; exact hLn)
            have f5 := hr5.frozenAt (k * 9 + 2 + 1)
            have hr6 := (hr5.stored (k * 9 + 2 + 1) (.int .i64 F)).1
            have hz6 := hz5.put3 HZA.out hgz (k * 9 + 2 + 1) (.int .i64 F)
            have hb6 := BC hb5 g (k * 9 + 2 + 1) (by omega) (.int .i64 F)
            have hQB6 := hQB5.put (show B ≠ g by omega) (k * 9 + 2 + 1) (.int .i64 F)
            have hQD6 := hQD5.put hgD.symm (k * 9 + 2 + 1) (.int .i64 F)
            have hgs6 : g < (Y1.setCell ⟨g, k * 9 + 2 + 1, none⟩ (.int .i64 F)).heap.size := by rw [World.size_setCell]; exact hgs
            go_simp
            refine hK _ _ ?_
            clear hK K q5 v5 f5 hr5 hz5 hb5 hQB5 hQD5 hgs
            generalize Y1.setCell ⟨g, k * 9 + 2 + 1, none⟩ (.int .i64 F) = Y2 at *
            (try simp only [Act.put, List.setIfInBounds_toArray, List.set_cons_zero, List.set_cons_succ])
            first | show Exit.inBlock _ _ Exit.normal _ _ | show Exit.then _ _ Exit.normal _ _ | skip
            go_wp2_with fail
            go_meet
            have hE : s.x0 ≤ E := by rw [← hEe, add_in hxa (by omega)]; split <;> omega
            have hF : F ≤ s.y1 := by rw [← hFe, sub_in (by omega) (by omega)]; split <;> omega
            have hst6 : StarsIn Y2 (some ⟨g, 0, none⟩) (ss.set k { s with x0 := E, y1 := F }) := by
              have a := flat_put (k := k) (r := 0) (v := .int .i64 E) (s' := { s with x0 := E }) (by omega) hklt (by rw [HS.out]; rfl)
              have b := flat_put (k := k) (r := 3) (v := .int .i64 F) (s' := { s with x0 := E, y1 := F }) (ss := ss.set k { s with x0 := E }) (by omega) (by rw [List.length_set]; exact hklt) (by rw [set_get _ hklt, if_pos rfl]; rfl)
              have h1 : ((ss.flatMap starC).set (k * 9) (.int .i64 E)).set (k * 9 + 2 + 1) (.int .i64 F) = (ss.set k { s with x0 := E, y1 := F }).flatMap starC := by
                rw [List.set_set] at b
                exact (congrArg (fun x => x.set (k * 9 + 2 + 1) (Value.int .i64 F)) a).trans b
              rw [h1] at hr6
              have hl2 : (ss.set k { s with x0 := E, y1 := F }).length = p.n := by rw [List.length_set]; exact hHk.out
              rw [← hl2] at hr6
              exact row_stars hgs6 (by simpa only [hl2] using hr6)
            exact ⟨⟨p.lo, p.hi, some ⟨g, 0, none⟩, p.n, cap⟩, _, hQB6, hz6, hQD6, ⟨by rw [List.length_set]; exact hHk.out, by show p.n ≤ 1000000000; omega, hst6⟩, fun hz => inc_set hHk.out HV.out hkn (by rw [HS.out]; exact nar_on hE hF) (Int.le_refl _) (Int.le_refl _) rfl hz, hb6⟩
          · skip
            go_upto_region 14 with fail
            obtain ⟨E, hEe⟩ : ∃ E, (if s.e0 < IntKind.i64.wrap (s.e1 - 1) then IntKind.i64.wrap (s.e1 - 1) else s.e0) = E := ⟨_, rfl⟩
            obtain ⟨F, hFe⟩ : ∃ F, (if IntKind.i64.wrap (s.n0 + 1) < s.n1 then IntKind.i64.wrap (s.n0 + 1) else s.n1) = F := ⟨_, rfl⟩
            have hSS : Hid (∀ Y, Below X4.heap.size X4 Y → Y.cell? ⟨g, k * 9 + 5, none⟩ = some (.int .i64 s.e0) ∧ Y.cell? ⟨g, k * 9 + 5 + 1, none⟩ = some (.int .i64 s.e1) ∧ Y.cell? ⟨g, k * 9 + 7, none⟩ = some (.int .i64 s.n0) ∧ Y.cell? ⟨g, k * 9 + 7 + 1, none⟩ = some (.int .i64 s.n1)) := fun Y hY => ⟨cellB e0 hY, cellB e1 hY, cellB n0 hY, cellB n1 hY⟩
            clear x0 x1 y0 y1 e0 e1 n0 n1
            have hbD : Below X4.heap.size X4 X4.drew := Below.drew (Below.refl _ _)
            have hr4 := hr4.drew
            refine wp_region_treeF5 [6, 11, 18, 23] (.read 0 (.read 1 (.read 2 (.read 3 (.read 4 (.read 5 (.read 6 (.read 7 (.read 8 (.read 9 (.read 10 (.read 11 (.read 12 (.read 13 (.read 14 (.read 15 (.read 16 (.read 17 (.read 18 (.read 19 (.read 20 (.read 21 (.read 22 (.read 23 (.read 24 (.read 25 (.read 26 (.read 27 (.read 28 (.one 29 (.read 30 (.read 31 (.read 32 (.one 33 .leaf)))))))))))))))))))))))))))))))))) (fun Y => Y.cell? ⟨g, k * 9 + 5, none⟩ = some (.int .i64 s.e0) ∧ Y.cell? ⟨g, k * 9 + 5 + 1, none⟩ = some (.int .i64 s.e1) ∧ Y.cell? ⟨g, k * 9 + 7, none⟩ = some (.int .i64 s.n0) ∧ Y.cell? ⟨g, k * 9 + 7 + 1, none⟩ = some (.int .i64 s.n1)) (by kernel_rfl) (by kernel_rfl) (fun _ _ d _ _ h => by cases d <;> exact h) (hSS.out _ hbD) ?_
            have hb4 := Below.drew hB3
            have hQB4 : BoxP X4.drew B z1 := ⟨hQB3.c0, hQB3.c1, hQB3.c2⟩
            have hz4 := hz3.below hbD (Nat.le_refl _)
            have hQD4 : BoxP X4.drew D ⟨p.lo, p.hi, some ⟨g, 0, none⟩, p.n, cap⟩ := ⟨cellB d0 hbD, cellB d1 hbD, cellB d2 hbD⟩
            clear hQB3 hz3 d0 d1 d2 hs3 hX4
            generalize X4.drew = Y0 at *
            repeat (first | (refine trF_read5 rfl (by rfl) _ (fun w' hS => by (try replace hS := hS (by decide)); (try dsimp only at hS); go_simp; (try with_reducible rfl)) ?_; (try simp only [Act.put, List.setIfInBounds_toArray, List.set_cons_zero, List.set_cons_succ])) | (refine trF_skip5 rfl (by rfl) ?_; (try simp only [Act.put, List.setIfInBounds_toArray, List.set_cons_zero, List.set_cons_succ])))

            refine trF_late5 rfl (by rfl) (by kernel_rfl) (fun K hK => ?_)
            obtain ⟨v5, q5⟩ := row_cell hr4 (k * 9 + 5 + 1) (by omega) hLn
            have f5 := hr4.frozenAt (k * 9 + 5 + 1)
            have hr5 := (hr4.stored (k * 9 + 5 + 1) (.int .i64 E)).1
            have hgz : zb ≠ g ∨ zs1 = [] := by rcases hzb with h | h; · exact .inl (by omega)
                                               · exact .inr h
            have hz5 := hz4.put3 HZA.out hgz (k * 9 + 5 + 1) (.int .i64 E)
            have hb5 := BC hb4 g (k * 9 + 5 + 1) (by omega) (.int .i64 E)
            have hQB5 := hQB4.put (show B ≠ g by omega) (k * 9 + 5 + 1) (.int .i64 E)
            have hQD5 := hQD4.put hgD.symm (k * 9 + 5 + 1) (.int .i64 E)
            have hgs : g < (Y0.setCell ⟨g, k * 9 + 5 + 1, none⟩ (.int .i64 E)).heap.size := by rw [World.size_setCell]; exact World.block_lt_of_cell? _ _ q5
            go_simp
            refine hK _ _ ?_
            clear hK K q5 v5 f5 hr4 hz4 hb4 hQB4 hQD4
            generalize Y0.setCell ⟨g, k * 9 + 5 + 1, none⟩ (.int .i64 E) = Y1 at *
            (try simp only [Act.put, List.setIfInBounds_toArray, List.set_cons_zero, List.set_cons_succ])
            repeat (first | (refine trF_read5 rfl (by rfl) _ (fun w' hS => by (try replace hS := hS (by decide)); (try dsimp only at hS); go_simp; (try with_reducible rfl)) ?_; (try simp only [Act.put, List.setIfInBounds_toArray, List.set_cons_zero, List.set_cons_succ])) | (refine trF_skip5 rfl (by rfl) ?_; (try simp only [Act.put, List.setIfInBounds_toArray, List.set_cons_zero, List.set_cons_succ])))
            refine trF_late5 rfl (by rfl) (by kernel_rfl) (fun K hK => ?_)
            obtain ⟨v5, q5⟩ := row_cell hr5 (k * 9 + 7) (by omega) (by rw [List.length_set]; exact hLn)
            have f5 := hr5.frozenAt (k * 9 + 7)
            have hr6 := (hr5.stored (k * 9 + 7) (.int .i64 F)).1
            have hz6 := hz5.put3 HZA.out hgz (k * 9 + 7) (.int .i64 F)
            have hb6 := BC hb5 g (k * 9 + 7) (by omega) (.int .i64 F)
            have hQB6 := hQB5.put (show B ≠ g by omega) (k * 9 + 7) (.int .i64 F)
            have hQD6 := hQD5.put hgD.symm (k * 9 + 7) (.int .i64 F)
            have hgs6 : g < (Y1.setCell ⟨g, k * 9 + 7, none⟩ (.int .i64 F)).heap.size := by rw [World.size_setCell]; exact hgs
            go_simp
            refine hK _ _ ?_
            clear hK K q5 v5 f5 hr5 hz5 hb5 hQB5 hQD5 hgs
            generalize Y1.setCell ⟨g, k * 9 + 7, none⟩ (.int .i64 F) = Y2 at *
            (try simp only [Act.put, List.setIfInBounds_toArray, List.set_cons_zero, List.set_cons_succ])
            first | show Exit.inBlock _ _ Exit.normal _ _ | show Exit.then _ _ Exit.normal _ _ | skip
            go_wp2_with fail
            go_meet
            have hE : s.k = true → E ≤ s.e1 := fun h => by have := HEK.out h; rw [← hEe, IntWalk.i64_in _ (by omega)]; split <;> omega
            have hF : s.k = true → s.n0 ≤ F := fun h => by have := HNK.out h; rw [← hFe, IntWalk.i64_in _ (by omega)]; split <;> omega
            have hst6 : StarsIn Y2 (some ⟨g, 0, none⟩) (ss.set k { s with e1 := E, n0 := F }) := by
              have a := flat_put (k := k) (r := 6) (v := .int .i64 E) (s' := { s with e1 := E }) (by omega) hklt (by rw [HS.out]; rfl)
              have b := flat_put (k := k) (r := 7) (v := .int .i64 F) (s' := { s with e1 := E, n0 := F }) (ss := ss.set k { s with e1 := E }) (by omega) (by rw [List.length_set]; exact hklt) (by rw [set_get _ hklt, if_pos rfl]; rfl)
              have h1 : ((ss.flatMap starC).set (k * 9 + 5 + 1) (.int .i64 E)).set (k * 9 + 7) (.int .i64 F) = (ss.set k { s with e1 := E, n0 := F }).flatMap starC := by
                rw [List.set_set] at b
                exact (congrArg (fun x => x.set (k * 9 + 7) (Value.int .i64 F)) a).trans b
              rw [h1] at hr6
              have hl2 : (ss.set k { s with e1 := E, n0 := F }).length = p.n := by rw [List.length_set]; exact hHk.out
              rw [← hl2] at hr6
              exact row_stars hgs6 (by simpa only [hl2] using hr6)
            exact ⟨⟨p.lo, p.hi, some ⟨g, 0, none⟩, p.n, cap⟩, _, hQB6, hz6, hQD6, ⟨by rw [List.length_set]; exact hHk.out, by show p.n ≤ 1000000000; omega, hst6⟩, fun hz => inc_set hHk.out HV.out hkn (by rw [HS.out]; exact nar_sky hE hF) (Int.le_refl _) (Int.le_refl _) rfl hz, hb6⟩
          · skip
            clear x0 x1 y0 y1 e0 e1 n0 n1
            by_cases hl : p.lo + 3 < p.hi
            · skip
              have hQ6 : BoxP (X4.setCell ⟨D, 0, none⟩ (.int .i64 (p.lo + 3))) D ⟨p.lo + 3, p.hi, some ⟨g, 0, none⟩, p.n, cap⟩ := ⟨World.cell?_setCell_same _ _ _ d0, by simp [go_sem, d1], by simp [go_sem, d2]⟩
              have hQB6 := hQB3.put hne 0 (.int .i64 (p.lo + 3))
              have hz6 := hz3.put2 HZA.out hzD 0 (.int .i64 (p.lo + 3))
              have hb6 := BC hB3 D 0 hW0D (.int .i64 (p.lo + 3))
              have hr6 := ownsRow_setCell_below hr4 (a := ⟨D, 0, none⟩) hD1 (.int .i64 (p.lo + 3))
              have hgs6 := (hr6.lt g rfl).2
              obtain ⟨v0, -, f0⟩ := hs3.get 0 (by omega)
              have f0 := (hs3.get 0 (by omega)).choose_spec.2
              have hlo := HOK.out.lo
              have hmid := HOK.out.mid
              have hhi := HOK.out.hi
              go_wp2_with fail
              go_meet
              have hst6 : StarsIn (X4.setCell ⟨D, 0, none⟩ (.int .i64 (p.lo + 3))) (some ⟨g, 0, none⟩) ss := by
                have hl2 := hHk.out
                rw [← hl2] at hr6
                exact row_stars hgs6 (by simpa only [hl2] using hr6)
              exact ⟨⟨p.lo + 3, p.hi, some ⟨g, 0, none⟩, p.n, cap⟩, ss, hQB6, hz6, hQ6, ⟨hHk.out, by show p.n ≤ 1000000000; omega, hst6⟩, fun hz => inc_same hHk.out HV.out (by show p.lo ≤ p.lo + 3; omega) (Int.le_refl _) rfl hz, hb6⟩
            · skip
              have hQ6 : BoxP (X4.setCell ⟨D, 0, none⟩ (.int .i64 (p.hi))) D ⟨p.hi, p.hi, some ⟨g, 0, none⟩, p.n, cap⟩ := ⟨World.cell?_setCell_same _ _ _ d0, by simp [go_sem, d1], by simp [go_sem, d2]⟩
              have hQB6 := hQB3.put hne 0 (.int .i64 (p.hi))
              have hz6 := hz3.put2 HZA.out hzD 0 (.int .i64 (p.hi))
              have hb6 := BC hB3 D 0 hW0D (.int .i64 (p.hi))
              have hr6 := ownsRow_setCell_below hr4 (a := ⟨D, 0, none⟩) hD1 (.int .i64 (p.hi))
              have hgs6 := (hr6.lt g rfl).2
              obtain ⟨v0, -, f0⟩ := hs3.get 0 (by omega)
              have f0 := (hs3.get 0 (by omega)).choose_spec.2
              have hlo := HOK.out.lo
              have hmid := HOK.out.mid
              have hhi := HOK.out.hi
              go_wp2_with fail
              go_meet
              have hst6 : StarsIn (X4.setCell ⟨D, 0, none⟩ (.int .i64 (p.hi))) (some ⟨g, 0, none⟩) ss := by
                have hl2 := hHk.out
                rw [← hl2] at hr6
                exact row_stars hgs6 (by simpa only [hl2] using hr6)
              exact ⟨⟨p.hi, p.hi, some ⟨g, 0, none⟩, p.n, cap⟩, ss, hQB6, hz6, hQ6, ⟨hHk.out, by show p.n ≤ 1000000000; omega, hst6⟩, fun hz => inc_same hHk.out HV.out (by show p.lo ≤ p.hi; omega) (Int.le_refl _) rfl hz, hb6⟩
        case rest =>
          unfold Cut3 at hcut
          obtain ⟨z2, zs2, hQB, hz1, hQD, hz2, hi2, hB⟩ := hcut
          rename_i Kc hKc
          refine hKc _ _ ?_
          exact H k kb qi B D pb po g cap X2 u62 u63 u64 u65 u66 u67 u74 u91 u92 u93 u94 u95 u96 u97 u98 u99 u100 u101 u102 u103 u104 u105 u106 u107 u108 u109 u110 u111 u112 u113 u114 u115 u116 u117 u118 u119 u120 u121 u122 u123 u124 u125 u126 u127 u128 u129 u130 u131 u132 u133 u134 u135 u136 u137 u138 u139 u140 u141 u142 u143 u144 u145 u146 u147 u148 u149 u150 u151 u152 u153 u154 u155 u156 u157 u158 u159 u160 u161 u162 u163 u164 u165 u166 u167 u168 wc ⟨⟨hn10, HV.out⟩, BT hBw hB, z1, zs1, z2, zs2, ⟨⟨HT.out.1.1.grown hB, HT.out.1.2.below hB (Nat.le_refl _)⟩, hQB, hz1⟩, ⟨hQD, hz2⟩, HI1.out, hi2⟩
set_option maxRecDepth 100000 in
set_option maxHeartbeats 16000000 in
theorem more_rest (p : Pl) (ss : List St) (a b : Int) (wn : Nat) (ea eb na nb : Int) (w : World) (hnl : ss.length = p.n) :
    ∀ k kb qi B D pb po g cap X2 u62 u63 u64 u65 u66 u67 u74 u91 u92 u93 u94 u95 u96 u97 u98 u99 u100 u101 u102 u103 u104 u105 u106 u107 u108 u109 u110 u111 u112 u113 u114 u115 u116 u117 u118 u119 u120 u121 u122 u123 u124 u125 u126 u127 u128 u129 u130 u131 u132 u133 u134 u135 u136 u137 u138 u139 u140 u141 u142 u143 u144 u145 u146 u147 u148 u149 u150 u151 u152 u153 u154 u155 u156 u157 u158 u159 u160 u161 u162 u163 u164 u165 u166 u167 u168 X5, MoH p ss w B D X5 → (more_head p ss a b wn ea eb na nb w).1 k kb qi B D pb po g cap X2 u62 u63 u64 u65 u66 u67 u74 u91 u92 u93 u94 u95 u96 u97 u98 u99 u100 u101 u102 u103 u104 u105 u106 u107 u108 u109 u110 u111 u112 u113 u114 u115 u116 u117 u118 u119 u120 u121 u122 u123 u124 u125 u126 u127 u128 u129 u130 u131 u132 u133 u134 u135 u136 u137 u138 u139 u140 u141 u142 u143 u144 u145 u146 u147 u148 u149 u150 u151 u152 u153 u154 u155 u156 u157 u158 u159 u160 u161 u162 u163 u164 u165 u166 u167 u168 X5 := by
  intro k kb qi B D pb po g cap X2 u62 u63 u64 u65 u66 u67 u74 u91 u92 u93 u94 u95 u96 u97 u98 u99 u100 u101 u102 u103 u104 u105 u106 u107 u108 u109 u110 u111 u112 u113 u114 u115 u116 u117 u118 u119 u120 u121 u122 u123 u124 u125 u126 u127 u128 u129 u130 u131 u132 u133 u134 u135 u136 u137 u138 u139 u140 u141 u142 u143 u144 u145 u146 u147 u148 u149 u150 u151 u152 u153 u154 u155 u156 u157 u158 u159 u160 u161 u162 u163 u164 u165 u166 u167 u168 X5 hH
  dsimp only [more_head]
  obtain ⟨⟨hn10, hv⟩, hBw, z1, zs1, z2, zs2, ⟨⟨hQP, hmP⟩, hQB, hz1⟩, ⟨hQD, hz2⟩, hi1, hi2⟩ := hH
  have HV := Lib.hid hv
  have HI1 := Lib.hid hi1
  clear hv hi1
  have HU : Hid (((BoxP X5 w.heap.size p ∧ PlAt p ss X5) ∧ (BoxP X5 B z1 ∧ PlAt z1 zs1 X5)) ∧ (BoxP X5 D z2 ∧ PlAt z2 zs2 X5)) := ⟨⟨⟨hQP, hmP⟩, hQB, hz1⟩, hQD, hz2⟩
  have HI2 := Lib.hid hi2
  clear hQP hmP
  obtain ⟨a0, u, hdr⟩ := drop_is hnl HV.out
  have hdr := hdr.drop
  obtain ⟨s0, s1, es, hs⟩ := repS_eq (scaleR_two p ss)
  obtain ⟨c0, c1, d0, d1, ez, hz⟩ := repB_eq (zero_four p ss)
  obtain ⟨u0, u1, v0, v1, et, ht⟩ := repB_eq (star_four p ss a)
  obtain ⟨m0, m1, n0, n1, ea2, ha⟩ := repB_eq (apart_four p ss a b)
  have hM1 : Hid (plB z1 zs1 = true → MoF s0 s1 es c0 c1 d0 d1 ez u0 u1 v0 v1 et m0 m1 n0 n1 ea2 (popc (u : Int)) z1 zs1 a b) := fun h => more_facts (HI1.out h) a b hs hz ht ha hdr
  have hM2 : Hid (plB z2 zs2 = true → MoF s0 s1 es c0 c1 d0 d1 ez u0 u1 v0 v1 et m0 m1 n0 n1 ea2 (popc (u : Int)) z2 zs2 a b) := fun h => more_facts (HI2.out h) a b hs hz ht ha hdr
  have hu1 : u < 1024 := by
    obtain ⟨a1, u', k'⟩ := drop_is hnl HV.out
    have e0 := k'.drop
    rw [hdr] at e0
    simp at e0
    have := k'.lt
    omega
  have HSC : Hid (∀ Y, Below X5.heap.size X5 Y → Calls Try.prog 14 #[.agg #[.int .i64 p.lo, .int .i64 p.hi, .slice p.a p.n p.cap]] Y (Ret (.tuple #[.agg #[.int .i64 s0, .int .i64 s1], .int .i64 es]) Y)) := fun Y hY => by
    have h0 := scale_any p ss Y (HU.out.1.1.2.below hY (Nat.le_refl _))
    rw [hs] at h0
    exact h0
  have HZE : Hid (∀ Y, Below X5.heap.size X5 Y → Calls Try.prog 21 #[.agg #[.int .i64 p.lo, .int .i64 p.hi, .slice p.a p.n p.cap]] Y (Ret (.tuple #[.agg #[.int .i64 c0, .int .i64 c1], .agg #[.int .i64 d0, .int .i64 d1], .int .i64 ez]) Y)) := fun Y hY => by
    have h0 := zero_any p ss Y (HU.out.1.1.2.below hY (Nat.le_refl _))
    rw [hz] at h0
    exact h0
  have HSTA : Hid (∀ Y, Below X5.heap.size X5 Y → Calls Try.prog 10 #[.agg #[.int .i64 p.lo, .int .i64 p.hi, .slice p.a p.n p.cap], .int .i64 a] Y (Ret (.tuple #[.agg #[.int .i64 u0, .int .i64 u1], .agg #[.int .i64 v0, .int .i64 v1], .int .i64 et]) Y)) := fun Y hY => by
    have h0 := star_any a p ss Y (HU.out.1.1.2.below hY (Nat.le_refl _))
    rw [ht] at h0
    exact h0
  have HAP : Hid (∀ Y, Below X5.heap.size X5 Y → Calls Try.prog 24 #[.agg #[.int .i64 p.lo, .int .i64 p.hi, .slice p.a p.n p.cap], .int .i64 a, .int .i64 b] Y (Ret (.tuple #[.agg #[.int .i64 m0, .int .i64 m1], .agg #[.int .i64 n0, .int .i64 n1], .int .i64 ea2]) Y)) := fun Y hY => by
    have h0 := apart2_any a b p ss Y (HU.out.1.1.2.below hY (Nat.le_refl _))
    rw [ha] at h0
    exact h0
  have HDR : Hid (∀ Y, Below X5.heap.size X5 Y → Calls Try.prog 13 #[.agg #[.int .i64 p.lo, .int .i64 p.hi, .slice p.a p.n p.cap]] Y (Ret (.tuple #[.int .i64 (u : Int), .int .i64 0]) Y)) := fun Y hY => by
    have h0 := drop_any p ss Y (HU.out.1.1.2.below hY (Nat.le_refl _))
    rw [hdr] at h0
    exact h0
  clear hs hz ht ha hdr hi2 hQB hz1 hQD hz2 hnl
  have hB : Below X5.heap.size X5 X5 := Below.refl _ _
  have hu0 : (0 : Int) ≤ (u : Int) := by omega
  obtain ⟨p0, p1, p2⟩ := HU.out.1.1.1.grown (hB)
  go_wp2_with fail
  clear p0 p1 p2
  refine (HSC.out X5 hB).mono ?_
  rintro e Y1 ⟨rfl, hx⟩
  replace hB := BT hB hx
  clear hx
  have hx : Below Y1.heap.size Y1 (Y1.alloc (.cells #[.int .i64 s0, .int .i64 s1] 23)) := newB _ _
  have xs : Worst (Y1.alloc (.cells #[.int .i64 s0, .int .i64 s1] 23)) Y1.heap.size s0 s1 := worst_new _ _ _ _
  have hge1 : X5.heap.size ≤ Y1.heap.size := hB.size
  replace hB := BT hB hx
  clear hx
  obtain ⟨p0, p1, p2⟩ := HU.out.1.1.1.grown (hB)
  go_wp2_with fail
  generalize Y1.alloc (.cells #[.int .i64 s0, .int .i64 s1] 23) = Z1 at *
  generalize Y1.heap.size = B1 at *
  clear p0 p1 p2
  refine (HZE.out Z1 hB).mono ?_
  rintro e Y2 ⟨rfl, hx⟩
  replace xs := xs.grown hx
  replace hB := BT hB hx
  clear hx
  have hx : Below Y2.heap.size Y2 ((Y2.alloc (.cells #[.int .i64 c0, .int .i64 c1] 23)).alloc (.cells #[.int .i64 d0, .int .i64 d1] 23)) := BA (newB _ _) _
  have xc : Worst ((Y2.alloc (.cells #[.int .i64 c0, .int .i64 c1] 23)).alloc (.cells #[.int .i64 d0, .int .i64 d1] 23)) Y2.heap.size c0 c1 := (worst_new _ _ _ _).grown (newB _ _)
  have xd : Worst ((Y2.alloc (.cells #[.int .i64 c0, .int .i64 c1] 23)).alloc (.cells #[.int .i64 d0, .int .i64 d1] 23)) (Y2.heap.size + 1) d0 d1 := by have := worst_new (Y2.alloc (.cells #[.int .i64 c0, .int .i64 c1] 23)) d0 d1 23; rw [World.size_alloc] at this; exact this
  have hge2 : X5.heap.size ≤ Y2.heap.size := hB.size
  replace xs := xs.grown hx
  replace hB := BT hB hx
  clear hx
  obtain ⟨p0, p1, p2⟩ := HU.out.1.1.1.grown (hB)
  go_wp2_with fail
  generalize (Y2.alloc (.cells #[.int .i64 c0, .int .i64 c1] 23)).alloc (.cells #[.int .i64 d0, .int .i64 d1] 23) = Z2 at *
  generalize Y2.heap.size = B2 at *
  clear p0 p1 p2
  refine (HSTA.out Z2 hB).mono ?_
  rintro e Y3 ⟨rfl, hx⟩
  replace xs := xs.grown hx
  replace xc := xc.grown hx
  replace xd := xd.grown hx
  replace hB := BT hB hx
  clear hx
  have hx : Below Y3.heap.size Y3 ((Y3.alloc (.cells #[.int .i64 u0, .int .i64 u1] 23)).alloc (.cells #[.int .i64 v0, .int .i64 v1] 23)) := BA (newB _ _) _
  have xu : Worst ((Y3.alloc (.cells #[.int .i64 u0, .int .i64 u1] 23)).alloc (.cells #[.int .i64 v0, .int .i64 v1] 23)) Y3.heap.size u0 u1 := (worst_new _ _ _ _).grown (newB _ _)
  have xv : Worst ((Y3.alloc (.cells #[.int .i64 u0, .int .i64 u1] 23)).alloc (.cells #[.int .i64 v0, .int .i64 v1] 23)) (Y3.heap.size + 1) v0 v1 := by have := worst_new (Y3.alloc (.cells #[.int .i64 u0, .int .i64 u1] 23)) v0 v1 23; rw [World.size_alloc] at this; exact this
  have hge3 : X5.heap.size ≤ Y3.heap.size := hB.size
  replace xs := xs.grown hx
  replace xc := xc.grown hx
  replace xd := xd.grown hx
  replace hB := BT hB hx
  clear hx
  obtain ⟨p0, p1, p2⟩ := HU.out.1.1.1.grown (hB)
  go_wp2_with fail
  generalize (Y3.alloc (.cells #[.int .i64 u0, .int .i64 u1] 23)).alloc (.cells #[.int .i64 v0, .int .i64 v1] 23) = Z3 at *
  generalize Y3.heap.size = B3 at *
  clear p0 p1 p2
  refine (HAP.out Z3 hB).mono ?_
  rintro e Y4 ⟨rfl, hx⟩
  replace xs := xs.grown hx
  replace xc := xc.grown hx
  replace xd := xd.grown hx
  replace xu := xu.grown hx
  replace xv := xv.grown hx
  replace hB := BT hB hx
  clear hx
  have hx : Below Y4.heap.size Y4 ((Y4.alloc (.cells #[.int .i64 m0, .int .i64 m1] 23)).alloc (.cells #[.int .i64 n0, .int .i64 n1] 23)) := BA (newB _ _) _
  have xm : Worst ((Y4.alloc (.cells #[.int .i64 m0, .int .i64 m1] 23)).alloc (.cells #[.int .i64 n0, .int .i64 n1] 23)) Y4.heap.size m0 m1 := (worst_new _ _ _ _).grown (newB _ _)
  have xn : Worst ((Y4.alloc (.cells #[.int .i64 m0, .int .i64 m1] 23)).alloc (.cells #[.int .i64 n0, .int .i64 n1] 23)) (Y4.heap.size + 1) n0 n1 := by have := worst_new (Y4.alloc (.cells #[.int .i64 m0, .int .i64 m1] 23)) n0 n1 23; rw [World.size_alloc] at this; exact this
  have hge4 : X5.heap.size ≤ Y4.heap.size := hB.size
  replace xs := xs.grown hx
  replace xc := xc.grown hx
  replace xd := xd.grown hx
  replace xu := xu.grown hx
  replace xv := xv.grown hx
  replace hB := BT hB hx
  clear hx
  obtain ⟨p0, p1, p2⟩ := HU.out.1.1.1.grown (hB)
  go_wp2_with fail
  generalize (Y4.alloc (.cells #[.int .i64 m0, .int .i64 m1] 23)).alloc (.cells #[.int .i64 n0, .int .i64 n1] 23) = Z4 at *
  generalize Y4.heap.size = B4 at *
  clear p0 p1 p2
  refine (HDR.out Z4 hB).mono ?_
  rintro e Y5 ⟨rfl, hx⟩
  replace xs := xs.grown hx
  replace xc := xc.grown hx
  replace xd := xd.grown hx
  replace xu := xu.grown hx
  replace xv := xv.grown hx
  replace xm := xm.grown hx
  replace xn := xn.grown hx
  replace hB := BT hB hx
  clear hx
  obtain ⟨k0, k1, k2⟩ := HU.out.1.2.1.grown hB
  obtain ⟨l0, l1, l2⟩ := HU.out.2.1.grown hB
  go_upto_region 24 with fail
  clear k0 k1 k2 l0 l1 l2
  have hx := newB Y5 (.cells #[.int .i64 z1.lo, .int .i64 z1.hi, .slice z1.a z1.n z1.cap, .int .i64 z2.lo, .int .i64 z2.hi, .slice z2.a z2.n z2.cap] 29)
  have hMm : Hid (Below X5.heap.size X5 Y5) := Lib.hid hB
  have hkv : Hid (∀ k, k < 2 → ∃ z zs, (((Y5.alloc (.cells #[.int .i64 z1.lo, .int .i64 z1.hi, .slice z1.a z1.n z1.cap, .int .i64 z2.lo, .int .i64 z2.hi, .slice z2.a z2.n z2.cap] 29)).cell? ⟨Y5.heap.size, k * 3, none⟩ = some (.int .i64 z.lo) ∧ (Y5.alloc (.cells #[.int .i64 z1.lo, .int .i64 z1.hi, .slice z1.a z1.n z1.cap, .int .i64 z2.lo, .int .i64 z2.hi, .slice z2.a z2.n z2.cap] 29)).cell? ⟨Y5.heap.size, k * 3 + 1, none⟩ = some (.int .i64 z.hi) ∧ (Y5.alloc (.cells #[.int .i64 z1.lo, .int .i64 z1.hi, .slice z1.a z1.n z1.cap, .int .i64 z2.lo, .int .i64 z2.hi, .slice z2.a z2.n z2.cap] 29)).cell? ⟨Y5.heap.size, k * 3 + 2, none⟩ = some (.slice z.a z.n z.cap)) ∧ PlAt z zs (Y5.alloc (.cells #[.int .i64 z1.lo, .int .i64 z1.hi, .slice z1.a z1.n z1.cap, .int .i64 z2.lo, .int .i64 z2.hi, .slice z2.a z2.n z2.cap] 29))) ∧ (plB z zs = true → MoF s0 s1 es c0 c1 d0 d1 ez u0 u1 v0 v1 et m0 m1 n0 n1 ea2 (popc (u : Int)) z zs a b)) := fun k hk => by
    have hb2 := BT hMm.out (newB Y5 (.cells #[.int .i64 z1.lo, .int .i64 z1.hi, .slice z1.a z1.n z1.cap, .int .i64 z2.lo, .int .i64 z2.hi, .slice z2.a z2.n z2.cap] 29))
    have hc : k = 0 ∨ k = 1 := by omega
    rcases hc with rfl | rfl
    · exact ⟨z1, zs1, ⟨⟨by simp [go_sem], by simp [go_sem], by simp [go_sem]⟩, HU.out.1.2.2.below hb2 (Nat.le_refl _)⟩, hM1.out⟩
    · exact ⟨z2, zs2, ⟨⟨by simp [go_sem], by simp [go_sem], by simp [go_sem]⟩, HU.out.2.2.below hb2 (Nat.le_refl _)⟩, hM2.out⟩
  replace xs := xs.grown hx
  replace xc := xc.grown hx
  replace xd := xd.grown hx
  replace xu := xu.grown hx
  replace xv := xv.grown hx
  replace xm := xm.grown hx
  replace xn := xn.grown hx
  replace hB := BT hB hx
  clear hx
  generalize Y5.alloc (.cells #[.int .i64 z1.lo, .int .i64 z1.hi, .slice z1.a z1.n z1.cap, .int .i64 z2.lo, .int .i64 z2.hi, .slice z2.a z2.n z2.cap] 29) = Wl at *
  generalize Y5.heap.size = SB at *
  replace hBw := hBw.trans (hB.mono hBw.size)
  clear hB HSC HZE HSTA HAP HDR hMm hM1 hM2 HU
  have hl_xs := xs.lt
  have hl_xc := xc.lt
  have hl_xd := xd.lt
  have hl_xu := xu.lt
  have hl_xv := xv.lt
  have hl_xm := xm.lt
  have hl_xn := xn.lt
  go_loopw [210] (fun i wz => ∃ j : Nat, j ≤ 2 ∧ i = .int .i64 j ∧ Below Wl.heap.size Wl wz) (fun i _ => 2 - (intOf i).toNat)
  case atStart => exact ⟨0, by omega, rfl, Below.refl _ _⟩
  case round =>
    obtain ⟨j, hj, rfl, hB⟩ := hrel
    have hj0 : (0 : Int) ≤ (j : Int) := by omega
    obtain ⟨wo, rfl⟩ : ∃ wo : World, wo = wr := ⟨_, rfl⟩
    by_cases hlt : j < 2
    · skip
      replace xs := xs.grown hB
      replace xc := xc.grown hB
      replace xd := xd.grown hB
      replace xu := xu.grown hB
      replace xv := xv.grown hB
      replace xm := xm.grown hB
      replace xn := xn.grown hB
      have hji : (j : Int) < 2 := by omega
      obtain ⟨z, zs, ⟨⟨k0, k1, k2⟩, hzm⟩, hMF⟩ := hkv.out j hlt
      have k0 := cellB k0 hB
      have k1 := cellB k1 hB
      have k2 := cellB k2 hB
      have HZM := Lib.hid hzm
      have HMF := Lib.hid hMF
      clear hzm hMF hkv
      have HPZ : Hid (∀ Y, Below Wl.heap.size Wl Y → Calls Try.prog 25 #[.agg #[.int .i64 z.lo, .int .i64 z.hi, .slice z.a z.n z.cap]] Y (Ret (.bool (plB z zs)) Y)) := fun Y hY => by
        have h0 := plateR_any z zs Y (HZM.out.below hY (Nat.le_refl _))
        exact h0
      have hx := newB wo (.cells #[.int .i64 z.lo, .int .i64 z.hi, .slice z.a z.n z.cap] 29)
      have hBz := boxP_new wo z 29
      have hge0 : Wl.heap.size ≤ wo.heap.size := hB.size
      replace xs := xs.grown hx
      replace xc := xc.grown hx
      replace xd := xd.grown hx
      replace xu := xu.grown hx
      replace xv := xv.grown hx
      replace xm := xm.grown hx
      replace xn := xn.grown hx
      replace hB := BT hB hx
      clear hx
      obtain ⟨b0, b1, b2⟩ := id hBz
      go_wp2_with fail
      clear b0 b1 b2 k0 k1 k2
      generalize wo.alloc (.cells #[.int .i64 z.lo, .int .i64 z.hi, .slice z.a z.n z.cap] 29) = V0 at *
      generalize wo.heap.size = ZB at *
      refine (HPZ.out V0 hB).mono ?_
      rintro e V101 ⟨rfl, hx⟩
      replace xs := xs.grown hx
      replace xc := xc.grown hx
      replace xd := xd.grown hx
      replace xu := xu.grown hx
      replace xv := xv.grown hx
      replace xm := xm.grown hx
      replace xn := xn.grown hx
      replace hBz := hBz.grown hx
      replace hB := BT hB hx
      clear hx
      cases hvz : plB z zs
      · skip
        go_wp2_with fail
        go_roundw
        case rel => exact ⟨j + 1, by omega, by go_num, hB⟩
        case measure => simp [intOf]; omega
      have hMF := HMF.out hvz
      obtain ⟨od, hod, hol, hpo⟩ := hMF.drop
      have hmr := Lib.hid hMF.rest
      clear hMF HMF hvz HPZ
      have HDZ : Hid (∀ Y, Below Wl.heap.size Wl Y → Calls Try.prog 13 #[.agg #[.int .i64 z.lo, .int .i64 z.hi, .slice z.a z.n z.cap]] Y (Ret (.tuple #[.int .i64 (od : Int), .int .i64 0]) Y)) := fun Y hY => by
        have h0 := drop_any z zs Y (HZM.out.below hY (Nat.le_refl _))
        rw [hod] at h0
        exact h0
      clear hod
      have ho0 : (0 : Int) ≤ (od : Int) := by omega
      have hpl : ¬ popc (od : Int) < popc (u : Int) := by omega
      obtain ⟨b0, b1, b2⟩ := id hBz
      go_wp2_with fail
      clear b0 b1 b2
      refine (HDZ.out V101 hB).mono ?_
      rintro e V102 ⟨rfl, hx⟩
      replace xs := xs.grown hx
      replace xc := xc.grown hx
      replace xd := xd.grown hx
      replace xu := xu.grown hx
      replace xv := xv.grown hx
      replace xm := xm.grown hx
      replace xn := xn.grown hx
      replace hBz := hBz.grown hx
      replace hB := BT hB hx
      clear hx
      go_wp2_with fail
      refine (sizeR_any (od : Int) (by omega) V102).mono ?_
      rintro e V103 ⟨rfl, hx⟩
      replace xs := xs.grown hx
      replace xc := xc.grown hx
      replace xd := xd.grown hx
      replace xu := xu.grown hx
      replace xv := xv.grown hx
      replace xm := xm.grown hx
      replace xn := xn.grown hx
      replace hBz := hBz.grown hx
      replace hB := BT hB hx
      clear hx
      go_wp2_with fail
      refine (sizeR_any (u : Int) (by omega) V103).mono ?_
      rintro e V104 ⟨rfl, hx⟩
      replace xs := xs.grown hx
      replace xc := xc.grown hx
      replace xd := xd.grown hx
      replace xu := xu.grown hx
      replace xv := xv.grown hx
      replace xm := xm.grown hx
      replace xn := xn.grown hx
      replace hBz := hBz.grown hx
      replace hB := BT hB hx
      clear hx
      rcases hmr.out with hsz | ⟨t0, t1, q0, q1, q2, q3, w1, r0, r1, r2, r3, w2, y0, y1, y2, y3, w3, ⟨hs1, he1, hs2, hs3⟩, ⟨hz1, hz2⟩, ⟨ht1, ht2⟩, ha1, ha2⟩
      · skip
        have hsz2 : repS (scaleR z zs) = .tuple #[.agg #[.int .i64 0, .int .i64 0], .int .i64 10] := by rw [hsz]; rfl
        have HSZ : Hid (∀ Y, Below Wl.heap.size Wl Y → Calls Try.prog 14 #[.agg #[.int .i64 z.lo, .int .i64 z.hi, .slice z.a z.n z.cap]] Y (Ret (.tuple #[.agg #[.int .i64 0, .int .i64 0], .int .i64 10]) Y)) := fun Y hY => by
          have h0 := scale_any z zs Y (HZM.out.below hY (Nat.le_refl _))
          rw [hsz2] at h0
          exact h0
        clear hsz hsz2 hmr
        obtain ⟨b0, b1, b2⟩ := id hBz
        go_wp2_with fail
        clear b0 b1 b2
        refine (HSZ.out V104 hB).mono ?_
        rintro e V105 ⟨rfl, hx⟩
        replace xs := xs.grown hx
        replace xc := xc.grown hx
        replace xd := xd.grown hx
        replace xu := xu.grown hx
        replace xv := xv.grown hx
        replace xm := xm.grown hx
        replace xn := xn.grown hx
        replace hBz := hBz.grown hx
        replace hB := BT hB hx
        clear hx
        have hB2 := BT hB (newB V105 (.cells #[.int .i64 0, .int .i64 0] 23))
        replace hB := hB2
        clear hB2
        go_wp2_with fail
        go_roundw
        case rel => exact ⟨j + 1, by omega, by go_num, hB⟩
        case measure => simp [intOf]; omega
      have hsz2 : repS (scaleR z zs) = .tuple #[.agg #[.int .i64 t0, .int .i64 t1], .int .i64 0] := by rw [hs1]; rfl
      have HSZ : Hid (∀ Y, Below Wl.heap.size Wl Y → Calls Try.prog 14 #[.agg #[.int .i64 z.lo, .int .i64 z.hi, .slice z.a z.n z.cap]] Y (Ret (.tuple #[.agg #[.int .i64 t0, .int .i64 t1], .int .i64 0]) Y)) := fun Y hY => by
        have h0 := scale_any z zs Y (HZM.out.below hY (Nat.le_refl _))
        rw [hsz2] at h0
        exact h0
      have HZZ : Hid (∀ Y, Below Wl.heap.size Wl Y → Calls Try.prog 21 #[.agg #[.int .i64 z.lo, .int .i64 z.hi, .slice z.a z.n z.cap]] Y (Ret (.tuple #[.agg #[.int .i64 q0, .int .i64 q1], .agg #[.int .i64 q2, .int .i64 q3], .int .i64 w1]) Y)) := fun Y hY => by
        have h0 := zero_any z zs Y (HZM.out.below hY (Nat.le_refl _))
        rw [hz1] at h0
        exact h0
      have HTZ : Hid (∀ Y, Below Wl.heap.size Wl Y → Calls Try.prog 10 #[.agg #[.int .i64 z.lo, .int .i64 z.hi, .slice z.a z.n z.cap], .int .i64 a] Y (Ret (.tuple #[.agg #[.int .i64 r0, .int .i64 r1], .agg #[.int .i64 r2, .int .i64 r3], .int .i64 w2]) Y)) := fun Y hY => by
        have h0 := star_any a z zs Y (HZM.out.below hY (Nat.le_refl _))
        rw [ht1] at h0
        exact h0
      have HAZ : Hid (∀ Y, Below Wl.heap.size Wl Y → Calls Try.prog 24 #[.agg #[.int .i64 z.lo, .int .i64 z.hi, .slice z.a z.n z.cap], .int .i64 a, .int .i64 b] Y (Ret (.tuple #[.agg #[.int .i64 y0, .int .i64 y1], .agg #[.int .i64 y2, .int .i64 y3], .int .i64 w3]) Y)) := fun Y hY => by
        have h0 := apart2_any a b z zs Y (HZM.out.below hY (Nat.le_refl _))
        rw [ha1] at h0
        exact h0
      have HZ2 := Lib.hid hz2
      have HT2 := Lib.hid ht2
      have HA2 := Lib.hid ha2
      clear hs1 hsz2 hz1 ht1 ha1 hz2 ht2 ha2 hmr
      subst he1
      obtain ⟨b0, b1, b2⟩ := id hBz
      go_wp2_with fail
      clear b0 b1 b2
      refine (HSZ.out V104 hB).mono ?_
      rintro e V105 ⟨rfl, hx⟩
      replace xs := xs.grown hx
      replace xc := xc.grown hx
      replace xd := xd.grown hx
      replace xu := xu.grown hx
      replace xv := xv.grown hx
      replace xm := xm.grown hx
      replace xn := xn.grown hx
      replace hBz := hBz.grown hx
      replace hB := BT hB hx
      clear hx
      have hx : Below V105.heap.size V105 (V105.alloc (.cells #[.int .i64 t0, .int .i64 t1] 23)) := newB _ _
      have xt : Worst (V105.alloc (.cells #[.int .i64 t0, .int .i64 t1] 23)) V105.heap.size t0 t1 := worst_new _ _ _ _
      have hge105 : Wl.heap.size ≤ V105.heap.size := hB.size
      replace xs := xs.grown hx
      replace xc := xc.grown hx
      replace xd := xd.grown hx
      replace xu := xu.grown hx
      replace xv := xv.grown hx
      replace xm := xm.grown hx
      replace xn := xn.grown hx
      replace hBz := hBz.grown hx
      replace hB := BT hB hx
      clear hx
      obtain ⟨xtc, xtd, -, -⟩ := id xt
      obtain ⟨xsc, xsd, -, -⟩ := id xs
      go_wp2_with fail
      clear xtc xtd xsc xsd
      generalize V105.alloc (.cells #[.int .i64 t0, .int .i64 t1] 23) = Z105 at *
      generalize V105.heap.size = B105 at *
      refine (moreIn_any t0 t1 s0 s1 Z105 hs2 hs3).mono ?_
      rintro e V106 ⟨rfl, hx⟩
      replace xs := xs.grown hx
      replace xc := xc.grown hx
      replace xd := xd.grown hx
      replace xu := xu.grown hx
      replace xv := xv.grown hx
      replace xm := xm.grown hx
      replace xn := xn.grown hx
      replace hBz := hBz.grown hx
      replace xt := xt.grown hx
      replace hB := BT hB hx
      clear hx
      obtain ⟨b0, b1, b2⟩ := id hBz
      go_wp2_with fail
      clear b0 b1 b2
      refine (HZZ.out V106 hB).mono ?_
      rintro e V107 ⟨rfl, hx⟩
      replace xs := xs.grown hx
      replace xc := xc.grown hx
      replace xd := xd.grown hx
      replace xu := xu.grown hx
      replace xv := xv.grown hx
      replace xm := xm.grown hx
      replace xn := xn.grown hx
      replace hBz := hBz.grown hx
      replace xt := xt.grown hx
      replace hB := BT hB hx
      clear hx
      have hlz : ZB < V107.heap.size := World.block_lt_of_cell? _ _ hBz.c0
      have hx : Below V107.heap.size V107 ((V107.alloc (.cells #[.int .i64 q0, .int .i64 q1] 23)).alloc (.cells #[.int .i64 q2, .int .i64 q3] 23)) := BA (newB _ _) _
      have xq : Worst ((V107.alloc (.cells #[.int .i64 q0, .int .i64 q1] 23)).alloc (.cells #[.int .i64 q2, .int .i64 q3] 23)) V107.heap.size q0 q1 := (worst_new _ _ _ _).grown (newB _ _)
      have xr : Worst ((V107.alloc (.cells #[.int .i64 q0, .int .i64 q1] 23)).alloc (.cells #[.int .i64 q2, .int .i64 q3] 23)) (V107.heap.size + 1) q2 q3 := by have := worst_new (V107.alloc (.cells #[.int .i64 q0, .int .i64 q1] 23)) q2 q3 23; rw [World.size_alloc] at this; exact this
      have hge107 : Wl.heap.size ≤ V107.heap.size := hB.size
      replace xs := xs.grown hx
      replace xc := xc.grown hx
      replace xd := xd.grown hx
      replace xu := xu.grown hx
      replace xv := xv.grown hx
      replace xm := xm.grown hx
      replace xn := xn.grown hx
      replace hBz := hBz.grown hx
      replace xt := xt.grown hx
      replace hB := BT hB hx
      clear hx
      go_upto_region 37 with fail
      generalize (V107.alloc (.cells #[.int .i64 q0, .int .i64 q1] 23)).alloc (.cells #[.int .i64 q2, .int .i64 q3] 23) = Z107 at *
      generalize V107.heap.size = B107 at *
      have hbW : Below Z107.heap.size Z107 Z107 := Below.refl _ _
      go_cut [278] from 259 to 278 (fun ac X => ac = .bool false ∧ Below Z107.heap.size Z107 X)
      case first =>
        by_cases hf : ez = 0
        · subst hf
          obtain ⟨rfl, ⟨i1, i2⟩, i3, i4⟩ := HZ2.out rfl
          obtain ⟨xqc, xqd, -, -⟩ := id xq
          obtain ⟨xcc, xcd, -, -⟩ := id xc
          go_wp2_with fail
          clear xqc xqd xcc xcd
          refine (moreIn_any q0 q1 c0 c1 Z107 i1 i2).mono ?_
          rintro e V108 ⟨rfl, hx⟩
          replace hbW := BT hbW hx
          replace xs := xs.grown hx
          replace xc := xc.grown hx
          replace xd := xd.grown hx
          replace xu := xu.grown hx
          replace xv := xv.grown hx
          replace xm := xm.grown hx
          replace xn := xn.grown hx
          replace hBz := hBz.grown hx
          replace xt := xt.grown hx
          replace xq := xq.grown hx
          replace xr := xr.grown hx
          replace hB := BT hB hx
          clear hx
          obtain ⟨xrc, xrd, -, -⟩ := id xr
          obtain ⟨xdc, xdd, -, -⟩ := id xd
          go_wp2_with fail
          clear xrc xrd xdc xdd
          refine (moreIn_any q2 q3 d0 d1 V108 i3 i4).mono ?_
          rintro e V109 ⟨rfl, hx⟩
          replace hbW := BT hbW hx
          replace xs := xs.grown hx
          replace xc := xc.grown hx
          replace xd := xd.grown hx
          replace xu := xu.grown hx
          replace xv := xv.grown hx
          replace xm := xm.grown hx
          replace xn := xn.grown hx
          replace hBz := hBz.grown hx
          replace xt := xt.grown hx
          replace xq := xq.grown hx
          replace xr := xr.grown hx
          replace hB := BT hB hx
          clear hx
          go_wp2_with fail
          go_meet
          exact ⟨rfl, hbW⟩
        have hf2 : (ez == 0) = false := by simpa using hf
        go_wp2_with fail
        go_meet
        exact ⟨rfl, hbW⟩
      case rest =>
        obtain ⟨rfl, hbc⟩ := hcut
        obtain ⟨V108, rfl⟩ : ∃ V108 : World, V108 = wc := ⟨_, rfl⟩
        clear hbW HZ2
        replace xs := xs.grown hbc
        replace xc := xc.grown hbc
        replace xd := xd.grown hbc
        replace xu := xu.grown hbc
        replace xv := xv.grown hbc
        replace xm := xm.grown hbc
        replace xn := xn.grown hbc
        replace hBz := hBz.grown hbc
        replace xt := xt.grown hbc
        replace xq := xq.grown hbc
        replace xr := xr.grown hbc
        replace hB := BT hB hbc
        clear hbc
        clear xc xd xs xt
        obtain ⟨b0, b1, b2⟩ := id hBz
        go_wp2_with fail
        clear b0 b1 b2
        refine (HTZ.out V108 hB).mono ?_
        rintro e V109 ⟨rfl, hx⟩
        replace xu := xu.grown hx
        replace xv := xv.grown hx
        replace xm := xm.grown hx
        replace xn := xn.grown hx
        replace hBz := hBz.grown hx
        replace xq := xq.grown hx
        replace xr := xr.grown hx
        replace hB := BT hB hx
        clear hx
        obtain ⟨Z109, hZ⟩ : ∃ Z, (((V109.setCell ⟨B107, 0, none⟩ (.int .i64 r0)).setCell ⟨B107, 1, none⟩ (.int .i64 r1)).setCell ⟨B107 + 1, 0, none⟩ (.int .i64 r2)).setCell ⟨B107 + 1, 1, none⟩ (.int .i64 r3) = Z := ⟨_, rfl⟩
        obtain ⟨xqn, xrn, hoth, hbel⟩ := set_two xq xr (by omega) r0 r1 r2 r3 hZ
        replace hB := hbel _ _ (by omega) (by omega) hB
        replace xu := hoth _ _ _ xu (by omega) (by omega)
        replace xv := hoth _ _ _ xv (by omega) (by omega)
        replace xm := hoth _ _ _ xm (by omega) (by omega)
        replace xn := hoth _ _ _ xn (by omega) (by omega)
        have hBzn : BoxP Z109 ZB z := by rw [← hZ]; exact (((hBz.put (by omega) 0 _).put (by omega) 1 _).put (by omega) 0 _).put (by omega) 1 _
        replace hBz := hBzn
        clear hBzn
        clear hoth hbel
        obtain ⟨cp0, cp1, cp2, cp3⟩ := id xq
        obtain ⟨dp0, dp1, dp2, dp3⟩ := id xr
        go_upto_region 40 with fail
        clear hZ cp0 cp1 cp2 cp3 dp0 dp1 dp2 dp3
        clear xq
        have xq := xqn
        clear xqn
        clear xr
        have xr := xrn
        clear xrn
        go_upto_region 40 with fail
        have hbW : Below Z109.heap.size Z109 Z109 := Below.refl _ _
        go_cut [305] from 286 to 305 (fun ac X => ac = .bool false ∧ Below Z109.heap.size Z109 X)
        case first =>
          by_cases hf : et = 0
          · subst hf
            obtain ⟨rfl, ⟨i1, i2⟩, i3, i4⟩ := HT2.out rfl
            obtain ⟨xqc, xqd, -, -⟩ := id xq
            obtain ⟨xuc, xud, -, -⟩ := id xu
            go_wp2_with fail
            clear xqc xqd xuc xud
            refine (moreIn_any r0 r1 u0 u1 Z109 i1 i2).mono ?_
            rintro e V110 ⟨rfl, hx⟩
            replace hbW := BT hbW hx
            replace xu := xu.grown hx
            replace xv := xv.grown hx
            replace xm := xm.grown hx
            replace xn := xn.grown hx
            replace hBz := hBz.grown hx
            replace xq := xq.grown hx
            replace xr := xr.grown hx
            replace hB := BT hB hx
            clear hx
            obtain ⟨xrc, xrd, -, -⟩ := id xr
            obtain ⟨xvc, xvd, -, -⟩ := id xv
            go_wp2_with fail
            clear xrc xrd xvc xvd
            refine (moreIn_any r2 r3 v0 v1 V110 i3 i4).mono ?_
            rintro e V111 ⟨rfl, hx⟩
            replace hbW := BT hbW hx
            replace xu := xu.grown hx
            replace xv := xv.grown hx
            replace xm := xm.grown hx
            replace xn := xn.grown hx
            replace hBz := hBz.grown hx
            replace xq := xq.grown hx
            replace xr := xr.grown hx
            replace hB := BT hB hx
            clear hx
            go_wp2_with fail
            go_meet
            exact ⟨rfl, hbW⟩
          have hf2 : (et == 0) = false := by simpa using hf
          go_wp2_with fail
          go_meet
          exact ⟨rfl, hbW⟩
        case rest =>
          obtain ⟨rfl, hbc⟩ := hcut
          obtain ⟨V110, rfl⟩ : ∃ V110 : World, V110 = wc := ⟨_, rfl⟩
          clear hbW HT2
          replace xu := xu.grown hbc
          replace xv := xv.grown hbc
          replace xm := xm.grown hbc
          replace xn := xn.grown hbc
          replace hBz := hBz.grown hbc
          replace xq := xq.grown hbc
          replace xr := xr.grown hbc
          replace hB := BT hB hbc
          clear hbc
          obtain ⟨b0, b1, b2⟩ := id hBz
          go_wp2_with fail
          clear b0 b1 b2
          refine (HAZ.out V110 hB).mono ?_
          rintro e V111 ⟨rfl, hx⟩
          replace xu := xu.grown hx
          replace xv := xv.grown hx
          replace xm := xm.grown hx
          replace xn := xn.grown hx
          replace hBz := hBz.grown hx
          replace xq := xq.grown hx
          replace xr := xr.grown hx
          replace hB := BT hB hx
          clear hx
          obtain ⟨Z111, hZ⟩ : ∃ Z, (((V111.setCell ⟨B107, 0, none⟩ (.int .i64 y0)).setCell ⟨B107, 1, none⟩ (.int .i64 y1)).setCell ⟨B107 + 1, 0, none⟩ (.int .i64 y2)).setCell ⟨B107 + 1, 1, none⟩ (.int .i64 y3) = Z := ⟨_, rfl⟩
          obtain ⟨xqn, xrn, hoth, hbel⟩ := set_two xq xr (by omega) y0 y1 y2 y3 hZ
          replace hB := hbel _ _ (by omega) (by omega) hB
          replace xu := hoth _ _ _ xu (by omega) (by omega)
          replace xv := hoth _ _ _ xv (by omega) (by omega)
          replace xm := hoth _ _ _ xm (by omega) (by omega)
          replace xn := hoth _ _ _ xn (by omega) (by omega)
          have hBzn : BoxP Z111 ZB z := by rw [← hZ]; exact (((hBz.put (by omega) 0 _).put (by omega) 1 _).put (by omega) 0 _).put (by omega) 1 _
          replace hBz := hBzn
          clear hBzn
          clear hoth hbel
          obtain ⟨cp0, cp1, cp2, cp3⟩ := id xq
          obtain ⟨dp0, dp1, dp2, dp3⟩ := id xr
          go_upto_region 43 with fail
          clear hZ cp0 cp1 cp2 cp3 dp0 dp1 dp2 dp3
          clear xq
          have xq := xqn
          clear xqn
          clear xr
          have xr := xrn
          clear xrn
          go_upto_region 43 with fail
          have hbW : Below Z111.heap.size Z111 Z111 := Below.refl _ _
          go_cut [333] from 314 to 333 (fun ac X => ac = .bool false ∧ Below Z111.heap.size Z111 X)
          case first =>
            by_cases hf : ea2 = 0
            · subst hf
              obtain ⟨rfl, ⟨i1, i2⟩, i3, i4⟩ := HA2.out rfl
              obtain ⟨xqc, xqd, -, -⟩ := id xq
              obtain ⟨xmc, xmd, -, -⟩ := id xm
              go_wp2_with fail
              clear xqc xqd xmc xmd
              refine (moreIn_any y0 y1 m0 m1 Z111 i1 i2).mono ?_
              rintro e V112 ⟨rfl, hx⟩
              replace hbW := BT hbW hx
              replace xu := xu.grown hx
              replace xv := xv.grown hx
              replace xm := xm.grown hx
              replace xn := xn.grown hx
              replace hBz := hBz.grown hx
              replace xq := xq.grown hx
              replace xr := xr.grown hx
              replace hB := BT hB hx
              clear hx
              obtain ⟨xrc, xrd, -, -⟩ := id xr
              obtain ⟨xnc, xnd, -, -⟩ := id xn
              go_wp2_with fail
              clear xrc xrd xnc xnd
              refine (moreIn_any y2 y3 n0 n1 V112 i3 i4).mono ?_
              rintro e V113 ⟨rfl, hx⟩
              replace hbW := BT hbW hx
              replace xu := xu.grown hx
              replace xv := xv.grown hx
              replace xm := xm.grown hx
              replace xn := xn.grown hx
              replace hBz := hBz.grown hx
              replace xq := xq.grown hx
              replace xr := xr.grown hx
              replace hB := BT hB hx
              clear hx
              go_wp2_with fail
              go_meet
              exact ⟨rfl, hbW⟩
            have hf2 : (ea2 == 0) = false := by simpa using hf
            go_wp2_with fail
            go_meet
            exact ⟨rfl, hbW⟩
          case rest =>
            obtain ⟨rfl, hbc⟩ := hcut
            obtain ⟨V112, rfl⟩ : ∃ V112 : World, V112 = wc := ⟨_, rfl⟩
            clear hbW HA2
            replace xu := xu.grown hbc
            replace xv := xv.grown hbc
            replace xm := xm.grown hbc
            replace xn := xn.grown hbc
            replace hBz := hBz.grown hbc
            replace xq := xq.grown hbc
            replace xr := xr.grown hbc
            replace hB := BT hB hbc
            clear hbc
            go_wp2_with fail
            go_roundw
            case rel => exact ⟨j + 1, by omega, by go_num, hB⟩
            case measure => simp [intOf]; omega
    · obtain rfl : j = 2 := by omega
      go_wp2_with fail
      refine (alive_any _).mono ?_
      rintro e wz ⟨rfl, hz⟩
      have hB := BT hB hz
      go_wp2_with fail
      go_ret
      exact ⟨rfl, hBw.trans (hB.mono hBw.size)⟩
theorem more_walk (p : Pl) (ss : List St) (a b wh ea eb na nb : Int) (w : World) (hnl : ss.length = p.n) (hst : StarsIn w p.a ss) (hwh : 0 ≤ wh ∧ wh ≤ 255) :
    Calls Try.prog 7 #[p.val, .int .i64 a, .int .i64 b, .int .u8 wh, .agg #[.int .i64 ea, .int .i64 eb], .agg #[.int .i64 na, .int .i64 nb]] w (Ret (.bool true) w) := by
  obtain ⟨wn, rfl⟩ : ∃ wn : Nat, wh = (wn : Int) := ⟨wh.toNat, by omega⟩
  exact (more_head p ss a b wn ea eb na nb w).2 (more_rest p ss a b wn ea eb na nb w hnl) hnl hst hwh.2
end Go.Proofs.Ytdkegkacpdkjgaa
