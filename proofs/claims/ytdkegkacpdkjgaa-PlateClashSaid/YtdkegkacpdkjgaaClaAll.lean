/- 'PlateClash': in whatever memory, for all plates and bits, on every order of evaluation that Go leaves open: the call returns true. No condition. -/
import Derived.Test.YtdkegkacpdkjgaaPcl
import Derived.Test.YtdkegkacpdkjgaaPbt
import Derived.Test.YtdkegkacpdkjgaaPrk
import Derived.Test.YtdkegkacpdkjgaaPfw
import Derived.Test.YtdkegkacpdkjgaaPpp
import Derived.Test.YtdkegkacpdkjgaaPpa
import Derived.Test.YtdkegkacpdkjgaaPsr
import Derived.Test.YtdkegkacpdkjgaaPar
namespace Go.Proofs.Ytdkegkacpdkjgaa
open Go.RowKit Go.Maps

/-- What is kept is what some truths have, and bounds what any has. -/
structure KepOf (f : Scl → Int × Int) (xs : List Scl) (k : Int × Int × Bool) : Prop where
  no : k.2.2 = false → k = (0, 0, false)
  lo : k.2.2 = true → ∃ x ∈ xs, (f x).1 ≤ (f x).2 ∧ k.1 = (f x).1
  hi : k.2.2 = true → ∃ x ∈ xs, (f x).1 ≤ (f x).2 ∧ k.2.1 = (f x).2
  all : ∀ x ∈ xs, (f x).1 ≤ (f x).2 → k.2.2 = true ∧ k.1 ≤ (f x).1 ∧ (f x).2 ≤ k.2.1
theorem kepS_of {f : Scl → Int × Int} {xs : List Scl} {k : Int × Int × Bool} (h : KepOf f xs k) (x : Scl) : KepOf f (xs ++ [x]) (kepS k (f x).1 (f x).2) := by
  obtain ⟨a, b, t⟩ := k
  obtain ⟨h1, h2, h3, h4⟩ := h
  have hm : ∀ y, y ∈ xs ++ [x] ↔ y ∈ xs ∨ y = x := fun y => by simp
  unfold kepS
  by_cases hx : (f x).1 ≤ (f x).2
  · rw [if_pos hx]
    cases t
    · rw [if_neg (by simp)]
      have hno : ∀ y ∈ xs, ¬ (f y).1 ≤ (f y).2 := fun y hy hle => by cases (h4 y hy hle).1
      refine ⟨fun h => (by cases h), fun _ => ⟨x, (hm x).2 (.inr rfl), hx, rfl⟩, fun _ => ⟨x, (hm x).2 (.inr rfl), hx, rfl⟩, fun y hy hle => ?_⟩
      rcases (hm y).1 hy with h | rfl
      · exact absurd hle (hno y h)
      · exact ⟨rfl, Int.le_refl _, Int.le_refl _⟩
    · rw [if_pos rfl]
      dsimp only at h2 h3 h4 ⊢
      obtain ⟨y, hy, hyl, rfl⟩ := h2 rfl
      obtain ⟨z, hz, hzl, rfl⟩ := h3 rfl
      refine ⟨fun h => (by cases h), fun _ => ?_, fun _ => ?_, fun u hu hle => ?_⟩
      · rcases Int.le_total (f y).1 (f x).1 with h | h
        · exact ⟨y, (hm y).2 (.inl hy), hyl, by dsimp only; omega⟩
        · exact ⟨x, (hm x).2 (.inr rfl), hx, by dsimp only; omega⟩
      · rcases Int.le_total (f x).2 (f z).2 with h | h
        · exact ⟨z, (hm z).2 (.inl hz), hzl, by dsimp only; omega⟩
        · exact ⟨x, (hm x).2 (.inr rfl), hx, by dsimp only; omega⟩
      · rcases (hm u).1 hu with h | rfl
        · have := (h4 u h hle).2
          exact ⟨rfl, by dsimp only; omega, by dsimp only; omega⟩
        · exact ⟨rfl, by dsimp only; omega, by dsimp only; omega⟩
  · rw [if_neg hx]
    refine ⟨h1, fun h => ?_, fun h => ?_, fun y hy hle => ?_⟩
    · obtain ⟨y, hy, hyl, e⟩ := h2 h; exact ⟨y, (hm y).2 (.inl hy), hyl, e⟩
    · obtain ⟨y, hy, hyl, e⟩ := h3 h; exact ⟨y, (hm y).2 (.inl hy), hyl, e⟩
    · rcases (hm y).1 hy with h | rfl
      · exact h4 y h hle
      · exact absurd hle hx
theorem kepL_of (f : Scl → Int × Int) (xs : List Scl) : KepOf f xs (kepL f xs) := by
  have : ∀ (xs ys : List Scl) (k : Int × Int × Bool), KepOf f ys k → KepOf f (ys ++ xs) (xs.foldl (fun k x => kepS k (f x).1 (f x).2) k) := fun xs => by
    induction xs with
    | nil => intro ys k h; simpa using h
    | cons x xs ih =>
      intro ys k h
      have := ih (ys ++ [x]) _ (kepS_of h x)
      simpa using this
  have h := this xs [] (0, 0, false) ⟨fun _ => rfl, fun h => (by cases h), fun h => (by cases h), fun x hx => (by cases hx)⟩
  rw [List.nil_append] at h
  exact h
/-- What more truths have is no narrower. -/
theorem kep_in {f g : Scl → Int × Int} {xs ys : List Scl} (h : ∀ x ∈ xs, (f x).1 ≤ (f x).2 → ∃ y ∈ ys, (g y).1 ≤ (f x).1 ∧ (f x).2 ≤ (g y).2) (hk : (kepL f xs).2.2 = true) :
    (kepL g ys).2.2 = true ∧ (kepL g ys).1 ≤ (kepL f xs).1 ∧ (kepL f xs).2.1 ≤ (kepL g ys).2.1 := by
  obtain ⟨x, hx, hxl, e1⟩ := (kepL_of f xs).lo hk
  obtain ⟨z, hz, hzl, e2⟩ := (kepL_of f xs).hi hk
  obtain ⟨u, hu, hu1, hu2⟩ := h x hx hxl
  obtain ⟨v, hv, hv1, hv2⟩ := h z hz hzl
  have a := (kepL_of g ys).all u hu (by omega)
  have b := (kepL_of g ys).all v hv (by omega)
  exact ⟨a.1, by omega, by omega⟩
theorem kep_no {f : Scl → Int × Int} {xs : List Scl} (h : ∀ x ∈ xs, ¬ (f x).1 ≤ (f x).2) : kepL f xs = (0, 0, false) := by
  have k := kepL_of f xs
  cases ht : (kepL f xs).2.2
  · exact k.no ht
  · obtain ⟨x, hx, hxl, _⟩ := k.lo ht
    exact absurd hxl (h x hx)
/-- What is farther on by as much is kept so. -/
theorem kep_shift {c : Int} {f g : Scl → Int × Int} {xs ys : List Scl} (h1 : ∀ x ∈ xs, (f x).1 ≤ (f x).2 → ∃ y ∈ ys, (g y).1 = (f x).1 + c ∧ (g y).2 = (f x).2 + c)
    (h2 : ∀ y ∈ ys, (g y).1 ≤ (g y).2 → ∃ x ∈ xs, (g y).1 = (f x).1 + c ∧ (g y).2 = (f x).2 + c) :
    kepL g ys = if (kepL f xs).2.2 then ((kepL f xs).1 + c, (kepL f xs).2.1 + c, true) else (0, 0, false) := by
  have kf := kepL_of f xs
  have kg := kepL_of g ys
  cases ht : (kepL f xs).2.2
  · rw [if_neg (by simp)]
    refine kep_no fun y hy hyl => ?_
    obtain ⟨x, hx, e1, e2⟩ := h2 y hy hyl
    have := (kf.all x hx (by omega)).1
    rw [ht] at this; cases this
  · rw [if_pos rfl]
    obtain ⟨x, hx, hxl, e1⟩ := kf.lo ht
    obtain ⟨z, hz, hzl, e2⟩ := kf.hi ht
    obtain ⟨u, hu, u1, u2⟩ := h1 x hx hxl
    obtain ⟨v, hv, v1, v2⟩ := h1 z hz hzl
    have a := kg.all u hu (by omega)
    have b := kg.all v hv (by omega)
    obtain ⟨p, hp, hpl, q1⟩ := kg.lo a.1
    obtain ⟨q, hq, hql, q2⟩ := kg.hi a.1
    obtain ⟨p', hp', r1, r2⟩ := h2 p hp hpl
    obtain ⟨q', hq', r3, r4⟩ := h2 q hq hql
    have c1 := kf.all p' hp' (by omega)
    have c2 := kf.all q' hq' (by omega)
    have e : ∀ k : Int × Int × Bool, k.1 = (kepL f xs).1 + c → k.2.1 = (kepL f xs).2.1 + c → k.2.2 = true → k = ((kepL f xs).1 + c, (kepL f xs).2.1 + c, true) := fun k h1 h2 h3 => by
      obtain ⟨k1, k2, k3⟩ := k
      dsimp only at h1 h2 h3
      rw [h1, h2, h3]
    exact e _ (by omega) (by omega) a.1
theorem kep_same {f g : Scl → Int × Int} {xs ys : List Scl} (h1 : ∀ x ∈ xs, (f x).1 ≤ (f x).2 → ∃ y ∈ ys, g y = f x) (h2 : ∀ y ∈ ys, (g y).1 ≤ (g y).2 → ∃ x ∈ xs, g y = f x) : kepL g ys = kepL f xs := by
  rw [kep_shift (c := 0) (f := f) (g := g) (xs := xs) (ys := ys) (fun x hx hl => by obtain ⟨y, hy, e⟩ := h1 x hx hl; exact ⟨y, hy, by rw [e]; omega, by rw [e]; omega⟩)
    (fun y hy hl => by obtain ⟨x, hx, e⟩ := h2 y hy hl; exact ⟨x, hx, by rw [e]; omega, by rw [e]; omega⟩)]
  have k := kepL_of f xs
  cases ht : (kepL f xs).2.2
  · rw [if_neg (by simp), k.no ht]
  · rw [if_pos rfl, Int.add_zero, Int.add_zero]
    have e : ∀ k : Int × Int × Bool, k.2.2 = true → (k.1, k.2.1, true) = k := fun k h => by obtain ⟨a, b, c⟩ := k; dsimp only at h; rw [h]
    exact e _ ht

/-- Where the corner can be: what all stars of a set allow. -/
theorem cor_iff {ss : List St} {sc : Int} {R : Nat → Bool} {d : Bool} {c : Int} : ∀ {k : Nat}, ((corS ss sc R d k).1 ≤ c ∧ c ≤ (corS ss sc R d k).2) ↔
    ((-67108864 ≤ c ∧ c ≤ 67108864) ∧ ∀ i, i < k → R i = true → (cbS sc (ss.getD i default) d).1 ≤ c ∧ c ≤ (cbS sc (ss.getD i default) d).2)
  | 0 => by unfold corS; exact ⟨fun h => ⟨h, fun i hi => by omega⟩, fun h => h.1⟩
  | k + 1 => by
    have ih := cor_iff (ss := ss) (sc := sc) (R := R) (d := d) (c := c) (k := k)
    rw [corS]
    split
    · rename_i hR
      dsimp only
      constructor
      · intro h
        have h0 := ih.1 ⟨by omega, by omega⟩
        refine ⟨h0.1, fun i hi hr => ?_⟩
        by_cases he : i = k
        · subst he; omega
        · exact h0.2 i (by omega) hr
      · intro h
        have h0 := ih.2 ⟨h.1, fun i hi => h.2 i (by omega)⟩
        have h1 := h.2 k (by omega) hR
        omega
    · rename_i hR
      rw [ih]
      constructor
      · intro h
        refine ⟨h.1, fun i hi hr => ?_⟩
        by_cases he : i = k
        · subst he; exact absurd hr hR
        · exact h.2 i (by omega) hr
      · exact fun h => ⟨h.1, fun i hi => h.2 i (by omega)⟩
/-- A scale is one of a plate if there is a corner with it. -/
def CornC (ss : List St) (sc : Int) (R : Nat → Bool) (n : Nat) (d : Bool) (c : Int) : Prop :=
  (-67108864 ≤ c ∧ c ≤ 67108864) ∧ ∀ i, i < n → R i = true → (cbS sc (ss.getD i default) d).1 ≤ c ∧ c ≤ (cbS sc (ss.getD i default) d).2
theorem corB_iff {ss : List St} {sc : Int} {R : Nat → Bool} {n : Nat} : corB ss sc R n = true ↔ ∀ d, ∃ c, CornC ss sc R n d c := by
  have h : ∀ d, (corS ss sc R d n).1 ≤ (corS ss sc R d n).2 ↔ ∃ c, CornC ss sc R n d c := fun d =>
    ⟨fun h => ⟨_, cor_iff.1 ⟨Int.le_refl _, h⟩⟩, fun ⟨c, hc⟩ => by have := cor_iff.2 hc; omega⟩
  unfold corB
  rw [Bool.and_eq_true, decide_eq_true_eq, decide_eq_true_eq, h, h]
  exact ⟨fun h d => match d with | false => h.1 | true => h.2, fun h => ⟨h false, h true⟩⟩
theorem trTo_has {ss : List St} {R : Nat → Bool} {n : Nat} {lo sc : Int} (hs : 0 ≤ sc ∧ sc ≤ 1000) (hb : corB ss sc R n = true) (h0 : lo ≤ sc) : ∀ {k : Nat}, sc < lo + k → ∃ x ∈ trTo ss R n lo k, x.sc = sc ∧ ∀ d, (x.lo d, x.hi d) = corS ss sc R d n
  | 0, h => by omega
  | k + 1, h => by
    rw [trTo]
    by_cases he : sc = lo + k
    · subst he
      rw [trOf_yes hs hb]
      exact ⟨_, List.mem_append_right _ (List.mem_singleton.2 rfl), rfl, fun d => by cases d <;> rfl⟩
    · obtain ⟨x, hx, e⟩ := trTo_has hs hb h0 (k := k) (by omega)
      exact ⟨x, List.mem_append_left _ hx, e⟩
theorem trL_iff {p : Pl} {ss : List St} (hlo : 1 ≤ p.lo) (hhi : p.hi ≤ 1000) {set : Int} {sc : Int} : (∃ x ∈ trL p ss set, x.sc = sc) ↔ (p.lo ≤ sc ∧ sc ≤ p.hi) ∧ corB ss sc (setI set) p.n = true := by
  constructor
  · rintro ⟨x, hx, rfl⟩
    obtain ⟨h1, h2, h3, _⟩ := trTo_mem hx
    exact ⟨⟨h1, by omega⟩, h3⟩
  · rintro ⟨⟨h1, h2⟩, h3⟩
    obtain ⟨x, hx, e, _⟩ := trTo_has (lo := p.lo) (k := (p.hi - p.lo + 1).toNat) (by omega) h3 h1 (by omega)
    exact ⟨x, hx, e⟩
theorem trL_of {p : Pl} {ss : List St} {set : Int} {x : Scl} (hx : x ∈ trL p ss set) : (p.lo ≤ x.sc ∧ x.sc ≤ p.hi) ∧ corB ss x.sc (setI set) p.n = true ∧ ∀ d, (x.lo d, x.hi d) = corS ss x.sc (setI set) d p.n := by
  obtain ⟨h1, h2, h3, h4⟩ := trTo_mem hx
  exact ⟨⟨h1, by omega⟩, h3, h4⟩
theorem trL_mk {p : Pl} {ss : List St} (hlo : 1 ≤ p.lo) (hhi : p.hi ≤ 1000) {set : Int} {sc : Int} (h1 : p.lo ≤ sc) (h2 : sc ≤ p.hi) (h3 : corB ss sc (setI set) p.n = true) : ∃ x ∈ trL p ss set, x.sc = sc ∧ ∀ d, (x.lo d, x.hi d) = corS ss sc (setI set) d p.n :=
  trTo_has (lo := p.lo) (k := (p.hi - p.lo + 1).toNat) (by omega) h3 h1 (by omega)
theorem canR_iff {p : Pl} {ss : List St} (hlo : 1 ≤ p.lo) (hhi : p.hi ≤ 1000) {set : Int} : canR p ss set = true ↔ ∃ sc, (p.lo ≤ sc ∧ sc ≤ p.hi) ∧ corB ss sc (setI set) p.n = true := by
  unfold canR
  constructor
  · intro h
    cases hx : trL p ss set with
    | nil => rw [hx] at h; cases h
    | cons x xs => exact ⟨x.sc, (trL_iff hlo hhi).1 ⟨x, by rw [hx]; exact List.mem_cons_self, rfl⟩⟩
  · rintro ⟨sc, h⟩
    obtain ⟨x, hx, _⟩ := (trL_iff hlo hhi).2 h
    cases ht : trL p ss set with
    | nil => rw [ht] at hx; cases hx
    | cons => rfl
theorem tr_nil {p : Pl} {ss : List St} {set : Int} : trL p ss set = [] ↔ canR p ss set = false := by
  unfold canR; cases trL p ss set <;> simp
/-- What is known of a star by bits. -/
theorem bit_nat {n i : Nat} (hn : n < 4096) (hi : i < 12) : setI (n : Int) i = n.testBit i := by
  have hp : wrap64 (2 ^ i) = ((2 ^ i : Nat) : Int) := (by decide +kernel : ∀ k : Fin 12, wrap64 (2 ^ k.val) = ((2 ^ k.val : Nat) : Int)) ⟨i, hi⟩
  have hp2 : 1 ≤ 2 ^ i ∧ 2 ^ i < 4096 := (by decide +kernel : ∀ k : Fin 12, 1 ≤ 2 ^ k.val ∧ 2 ^ k.val < 4096) ⟨i, hi⟩
  have ha : n &&& 2 ^ i = if n.testBit i then 2 ^ i else 0 := by
    apply Nat.eq_of_testBit_eq
    intro j
    rw [Nat.testBit_and, Nat.testBit_two_pow]
    by_cases h : i = j
    · subst h
      cases hb : n.testBit i
      · simp
      · simp
    · rw [decide_eq_false h, Bool.and_false]
      split
      · rw [Nat.testBit_two_pow, decide_eq_false h]
      · simp
  have h1 : setI (n : Int) i = (IntKind.i64.wrap (((if n.testBit i then 2 ^ i else 0) : Nat) : Int) != 0) := by
    unfold setI bits
    rw [hp]
    dsimp only
    rw [BitVec.toNat_and, bv_nat (by omega), bv_nat (by omega), ha]
  rw [h1]
  cases n.testBit i
  · rw [if_neg (by simp), i64_of_nat (by omega)]; rfl
  · rw [if_pos rfl, i64_of_nat (by omega)]
    generalize 2 ^ i = q at *
    simp; omega
theorem known_nat (ss : List St) : ∀ k : Nat, k ≤ 12 → ∃ n : Nat, knownTo ss k = (n : Int) ∧ n < 2 ^ k ∧ ∀ i, n.testBit i = (decide (i < k) && (ss.getD i default).k)
  | 0, _ => ⟨0, rfl, by simp, fun i => by simp⟩
  | k + 1, h => by
    obtain ⟨n, e, h1, h2⟩ := known_nat ss k (by omega)
    have hs := known_rng ss k (by omega)
    have hp : 2 ^ (k + 1) = 2 * 2 ^ k := by rw [Nat.pow_succ, Nat.mul_comm]
    rw [knownTo]
    split
    · rename_i hk
      refine ⟨2 ^ k + n, ?_, by omega, fun i => ?_⟩
      · rw [or_bit12 (by omega) hs.1 hs.2, e]; simp; omega
      · rcases Nat.lt_trichotomy i k with hi | rfl | hi
        · rw [Nat.testBit_two_pow_add_gt hi, h2, decide_eq_true hi, decide_eq_true (show i < k + 1 by omega)]
        · rw [Nat.testBit_two_pow_add_eq, h2, decide_eq_false (by omega), decide_eq_true (by omega), hk]; rfl
        · rw [decide_eq_false (by omega), Bool.false_and]
          exact Nat.testBit_lt_two_pow (Nat.lt_of_lt_of_le (show 2 ^ k + n < 2 ^ (k + 1) by omega) (Nat.pow_le_pow_right (by decide) hi))
    · rename_i hk
      refine ⟨n, e, by omega, fun i => ?_⟩
      rw [h2]
      by_cases he : i = k
      · subst he
        rw [decide_eq_false (by omega), Bool.eq_false_iff.2 hk]; simp
      · rw [decide_eq_decide.2 (show i < k ↔ i < k + 1 by omega)]
theorem known_bit (ss : List St) {k i : Nat} (hk : k ≤ 12) (hi : i < k) : setI (knownTo ss k) i = (ss.getD i default).k := by
  obtain ⟨n, e, h1, h2⟩ := known_nat ss k hk
  have hp : 2 ^ k ≤ 4096 := (by decide +kernel : ∀ k : Fin 13, 2 ^ k.val ≤ 4096) ⟨k, by omega⟩
  rw [e, bit_nat (by omega) (by omega), h2, decide_eq_true hi]; simp
theorem known_none {ss : List St} {k : Nat} (hk : k ≤ 12) : knownTo ss k = 0 ↔ ∀ i, i < k → (ss.getD i default).k = false := by
  obtain ⟨n, e, h1, h2⟩ := known_nat ss k hk
  rw [e]
  constructor
  · intro h i hi
    obtain rfl : n = 0 := by omega
    have := h2 i
    rw [decide_eq_true hi, Nat.zero_testBit] at this
    simpa using this.symm
  · intro h
    have : n = 0 := Nat.eq_of_testBit_eq fun i => by
      rw [h2, Nat.zero_testBit]
      by_cases hi : i < k
      · rw [h i hi]; simp
      · rw [decide_eq_false hi]; rfl
    rw [this]; rfl
theorem known_some {ss : List St} {k : Nat} (hk : k ≤ 12) (h : knownTo ss k ≠ 0) : ∃ i, i < k ∧ (ss.getD i default).k = true := by
  by_cases hx : ∃ i, i < k ∧ (ss.getD i default).k = true
  · exact hx
  · refine absurd ((known_none hk).2 fun i hi => ?_) h
    cases e : (ss.getD i default).k
    · rfl
    · exact absurd ⟨i, hi, e⟩ hx
end Go.Proofs.Ytdkegkacpdkjgaa

namespace Go.Proofs.Ytdkegkacpdkjgaa
open Go.RowKit Go.Maps

def movS (b t : Int) (s : St) : St := if s.k then { s with e0 := s.e0 + b, e1 := s.e1 + b, n0 := s.n0 + t, n1 := s.n1 + t } else s
def dlt (b t : Int) (d : Bool) : Int := if d then t else b
theorem mov_k (b t : Int) (s : St) : (movS b t s).k = s.k := by unfold movS; split <;> rfl
theorem mov_on (b t : Int) (s : St) (d : Bool) : (movS b t s).on d = s.on d := by unfold movS; split <;> rfl
theorem mov_sky {b t : Int} {s : St} (h : s.k = true) (d : Bool) : (movS b t s).sky d = ((s.sky d).1 + dlt b t d, (s.sky d).2 + dlt b t d) := by
  unfold movS; rw [if_pos h]; cases d <;> rfl
theorem mov_bey (b t sc : Int) (s : St) (d : Bool) : beyS sc (movS b t s) d = beyS sc s d := by unfold beyS; rw [mov_on]
theorem mov_cb {b t sc : Int} {s : St} (h : s.k = true) (d : Bool) : (cbS sc (movS b t s) d).1 = (cbS sc s d).1 + dlt b t d ∧ (cbS sc (movS b t s) d).2 = (cbS sc s d).2 + dlt b t d := by
  have hs := mov_sky (b := b) (t := t) h d
  unfold cbS saidS
  rw [mov_bey, mov_k, h, if_pos rfl, if_pos rfl, hs]
  dsimp only
  omega
theorem mov_un {b t : Int} {s : St} (h : s.k = false) : movS b t s = s := by unfold movS; rw [h]; rfl
theorem mov_get (b t : Int) (ss : List St) (i : Nat) : (ss.map (movS b t)).getD i default = movS b t (ss.getD i default) := by
  rw [List.getD_eq_getElem?_getD, List.getD_eq_getElem?_getD, List.getElem?_map]
  cases ss[i]? with
  | none => rfl
  | some s => rfl
theorem known_ext {ss ss' : List St} (h : ∀ i, (ss'.getD i default).k = (ss.getD i default).k) : ∀ n, knownTo ss' n = knownTo ss n
  | 0 => rfl
  | n + 1 => by rw [knownTo, knownTo, known_ext h n, h]
theorem mov_known (b t : Int) (ss : List St) (n : Nat) : knownTo (ss.map (movS b t)) n = knownTo ss n := known_ext (fun i => by rw [mov_get, mov_k]) n
theorem mov_none {b t : Int} {ss : List St} (h : knownTo ss ss.length = 0) (h12 : ss.length ≤ 12) : ss.map (movS b t) = ss := by
  apply List.ext_getElem?
  intro i
  rw [List.getElem?_map]
  cases hi : ss[i]? with
  | none => rfl
  | some s =>
    have hl : i < ss.length := (List.getElem?_eq_some_iff.1 hi).1
    have := (known_none h12).1 h i hl
    rw [List.getD_eq_getElem?_getD, hi] at this
    show some (movS b t s) = some s
    rw [mov_un (show s.k = false from this)]
/-- With a known star the corner is near. -/
theorem near {s : St} {d : Bool} (h : StOk s d) (hk : s.k = true) {sc : Int} (h0 : 0 ≤ sc) (h1 : sc ≤ 1000) : -1081344 ≤ (cbS sc s d).1 ∧ (cbS sc s d).2 ≤ 1048576 ∧ (cbS sc s d).1 ≤ (cbS sc s d).2 := by
  have h2 := bey_rng h h0 h1
  have a := h.e hk; have b := h.f hk; have c := h.g hk
  unfold cbS saidS
  rw [hk, if_pos rfl]
  dsimp only
  omega
theorem corn_near {ss : List St} {sc : Int} {R : Nat → Bool} {n i : Nat} {d : Bool} {c : Int} (h : CornC ss sc R n d c) (hi : i < n) (hR : R i = true) (hok : StOk (ss.getD i default) d) (hk : (ss.getD i default).k = true) (h0 : 0 ≤ sc) (h1 : sc ≤ 1000) : -1081344 ≤ c ∧ c ≤ 1048576 := by
  have := h.2 i hi hR
  have := near hok hk h0 h1
  omega
/-- The same truths, farther on. -/
structure Pair (δ : Bool → Int) (xs ys : List Scl) : Prop where
  fwd : ∀ x ∈ xs, ∃ y ∈ ys, y.sc = x.sc ∧ ∀ d, y.lo d = x.lo d + δ d ∧ y.hi d = x.hi d + δ d
  bwd : ∀ y ∈ ys, ∃ x ∈ xs, y.sc = x.sc ∧ ∀ d, y.lo d = x.lo d + δ d ∧ y.hi d = x.hi d + δ d
theorem corS_shift {ss ss' : List St} {sc : Int} {R R' : Nat → Bool} {n : Nat} {d : Bool} {δ : Int} (h : ∀ c, CornC ss sc R n d c ↔ CornC ss' sc R' n d (c + δ)) :
    ((corS ss sc R d n).1 ≤ (corS ss sc R d n).2 ↔ (corS ss' sc R' d n).1 ≤ (corS ss' sc R' d n).2) ∧ ((corS ss sc R d n).1 ≤ (corS ss sc R d n).2 → (corS ss' sc R' d n).1 = (corS ss sc R d n).1 + δ ∧ (corS ss' sc R' d n).2 = (corS ss sc R d n).2 + δ) := by
  have e : ∀ c, ((corS ss sc R d n).1 ≤ c ∧ c ≤ (corS ss sc R d n).2) ↔ ((corS ss' sc R' d n).1 ≤ c + δ ∧ c + δ ≤ (corS ss' sc R' d n).2) := fun c => by rw [cor_iff, cor_iff]; exact h c
  have a := e (corS ss sc R d n).1
  have b := e (corS ss sc R d n).2
  have c := e ((corS ss' sc R' d n).1 - δ)
  have f := e ((corS ss' sc R' d n).2 - δ)
  omega
theorem corB_ne {ss : List St} {sc : Int} {R : Nat → Bool} {n : Nat} (h : corB ss sc R n = true) (d : Bool) : (corS ss sc R d n).1 ≤ (corS ss sc R d n).2 := by
  unfold corB at h
  simp only [Bool.and_eq_true, decide_eq_true_eq] at h
  cases d
  · exact h.1
  · exact h.2
theorem corB_shift {ss ss' : List St} {sc : Int} {R R' : Nat → Bool} {n : Nat} {δ : Bool → Int} (h : ∀ d c, CornC ss sc R n d c ↔ CornC ss' sc R' n d (c + δ d)) : corB ss sc R n = corB ss' sc R' n := by
  have a := (corS_shift (h false)).1
  have b := (corS_shift (h true)).1
  unfold corB
  rw [decide_eq_decide.2 a, decide_eq_decide.2 b]
theorem can_shift {p p' : Pl} {ss ss' : List St} {set set' : Int} {δ : Bool → Int} (hlo : 1 ≤ p.lo) (hhi : p.hi ≤ 1000) (e1 : p'.lo = p.lo) (e2 : p'.hi = p.hi) (e3 : p'.n = p.n)
    (h : ∀ sc, p.lo ≤ sc → sc ≤ p.hi → ∀ d c, CornC ss sc (setI set) p.n d c ↔ CornC ss' sc (setI set') p.n d (c + δ d)) : canR p' ss' set' = canR p ss set := by
  have hi : canR p' ss' set' = true ↔ canR p ss set = true := by
    rw [canR_iff hlo hhi, canR_iff (by omega) (by omega), e1, e2, e3]
    constructor
    · rintro ⟨sc, h1, h2⟩; exact ⟨sc, h1, by rw [corB_shift (h sc h1.1 h1.2)]; exact h2⟩
    · rintro ⟨sc, h1, h2⟩; exact ⟨sc, h1, by rw [← corB_shift (h sc h1.1 h1.2)]; exact h2⟩
  cases ha : canR p ss set
  · cases hb : canR p' ss' set'
    · rfl
    · rw [hi.1 hb] at ha; cases ha
  · exact hi.2 ha
theorem pair_of {p p' : Pl} {ss ss' : List St} {set set' : Int} {δ : Bool → Int} (hlo : 1 ≤ p.lo) (hhi : p.hi ≤ 1000) (e1 : p'.lo = p.lo) (e2 : p'.hi = p.hi) (e3 : p'.n = p.n)
    (h : ∀ sc, p.lo ≤ sc → sc ≤ p.hi → ∀ d c, CornC ss sc (setI set) p.n d c ↔ CornC ss' sc (setI set') p.n d (c + δ d)) : Pair δ (trL p ss set) (trL p' ss' set') := by
  have hl : ∀ (x : Scl) (q : Int × Int) (d : Bool), (x.lo d, x.hi d) = q → x.lo d = q.1 ∧ x.hi d = q.2 := fun x q d h => by rw [← h]; exact ⟨rfl, rfl⟩
  constructor
  · intro x hx
    obtain ⟨⟨h1, h2⟩, h3, h4⟩ := trL_of hx
    obtain ⟨y, hy, y1, y2⟩ := trL_mk (p := p') (ss := ss') (set := set') (by omega) (by omega) (sc := x.sc) (by omega) (by omega) (by rw [e3, ← corB_shift (h _ h1 h2)]; exact h3)
    refine ⟨y, hy, y1, fun d => ?_⟩
    have a := hl _ _ _ (h4 d)
    have b := hl _ _ _ (y2 d)
    rw [e3] at b
    have c := (corS_shift (h x.sc h1 h2 d)).2 (corB_ne h3 d)
    omega
  · intro y hy
    obtain ⟨⟨h1, h2⟩, h3, h4⟩ := trL_of hy
    rw [e3] at h3 h4
    have h3' := h3
    rw [← corB_shift (h y.sc (by omega) (by omega))] at h3'
    obtain ⟨x, hx, x1, x2⟩ := trL_mk (p := p) (ss := ss) (set := set) hlo hhi (sc := y.sc) (by omega) (by omega) h3'
    refine ⟨x, hx, x1.symm, fun d => ?_⟩
    have a := hl _ _ _ (h4 d)
    have b := hl _ _ _ (x2 d)
    have c := (corS_shift (h y.sc (by omega) (by omega) d)).2 (corB_ne h3' d)
    omega
theorem pair_nil {δ : Bool → Int} {xs ys : List Scl} (h : Pair δ xs ys) : xs = [] ↔ ys = [] := by
  constructor
  · rintro rfl
    cases ys with
    | nil => rfl
    | cons y ys => obtain ⟨x, hx, _⟩ := h.bwd y List.mem_cons_self; cases hx
  · rintro rfl
    cases xs with
    | nil => rfl
    | cons x xs => obtain ⟨x, hx, _⟩ := h.fwd x List.mem_cons_self; cases hx
end Go.Proofs.Ytdkegkacpdkjgaa

namespace Go.Proofs.Ytdkegkacpdkjgaa
open Go.RowKit Go.Maps

theorem test_add {b v : Nat} (hv : v < 2 ^ b) (i : Nat) : (2 ^ b + v).testBit i = (decide (i = b) || v.testBit i) := by
  rcases Nat.lt_trichotomy i b with hi | rfl | hi
  · rw [Nat.testBit_two_pow_add_gt hi, decide_eq_false (by omega), Bool.false_or]
  · rw [Nat.testBit_two_pow_add_eq, Nat.testBit_lt_two_pow hv, decide_eq_true rfl]; rfl
  · have hp : 2 ^ (b + 1) ≤ 2 ^ i := Nat.pow_le_pow_right (by decide) hi
    have hq : 2 ^ (b + 1) = 2 * 2 ^ b := by rw [Nat.pow_succ, Nat.mul_comm]
    rw [Nat.testBit_lt_two_pow (show 2 ^ b + v < 2 ^ i by omega), Nat.testBit_lt_two_pow (show v < 2 ^ i by omega), decide_eq_false (by omega)]; rfl
theorem sizeF_add : ∀ (b k v : Nat), b < k → v < 2 ^ b → sizeF k ((2 ^ b + v : Nat) : Int) = sizeF k (v : Int) + 1
  | b, 0, v, h, _ => by omega
  | 0, k + 1, v, _, hv => by
    obtain rfl : v = 0 := by simpa using hv
    rw [sizeF, sizeF]
    show (1 : Int) % 2 + sizeF k (1 / 2) = (0 : Int) % 2 + sizeF k (0 / 2) + 1
    rw [show (1 : Int) / 2 = 0 from rfl, show (0 : Int) / 2 = 0 from rfl, sizeF_zero]; rfl
  | b + 1, k + 1, v, h, hv => by
    have hp : 2 ^ (b + 1) = 2 * 2 ^ b := by rw [Nat.pow_succ, Nat.mul_comm]
    have ih := sizeF_add b k (v / 2) (by omega) (by omega)
    rw [sizeF, sizeF]
    have e1 : ((2 ^ (b + 1) + v : Nat) : Int) / 2 = ((2 ^ b + v / 2 : Nat) : Int) := by omega
    have e2 : (v : Int) / 2 = ((v / 2 : Nat) : Int) := by omega
    have e3 : ((2 ^ (b + 1) + v : Nat) : Int) % 2 = (v : Int) % 2 := by omega
    rw [e1, e2, e3, ih]; omega
theorem popc_add {b v : Nat} (hb : b < 12) (hv : v < 2 ^ b) : popc ((2 ^ b + v : Nat) : Int) = popc (v : Int) + 1 := by
  have hp : 2 ^ (b + 1) ≤ 4096 := (by decide +kernel : ∀ k : Fin 12, 2 ^ (k.val + 1) ≤ 4096) ⟨b, hb⟩
  have hq : 2 ^ (b + 1) = 2 * 2 ^ b := by rw [Nat.pow_succ, Nat.mul_comm]
  rw [← sizeF_popc (by omega), ← sizeF_popc (by omega), sizeF_add b 12 v hb hv]
theorem popc_zero : popc (0 : Int) = 0 := by decide
theorem popc_le : ∀ (b v : Nat), b ≤ 12 → v < 2 ^ b → 0 ≤ popc (v : Int) ∧ popc (v : Int) ≤ b ∧ (popc (v : Int) = 0 → v = 0)
  | 0, v, _, hv => by
    obtain rfl : v = 0 := by simpa using hv
    exact ⟨by decide, by decide, fun _ => rfl⟩
  | b + 1, v, hb, hv => by
    have hq : 2 ^ (b + 1) = 2 * 2 ^ b := by rw [Nat.pow_succ, Nat.mul_comm]
    by_cases h : v < 2 ^ b
    · have := popc_le b v (by omega) h
      exact ⟨this.1, by omega, this.2.2⟩
    · obtain ⟨u, rfl⟩ : ∃ u, v = 2 ^ b + u := ⟨v - 2 ^ b, by omega⟩
      have := popc_le b u (by omega) (by omega)
      rw [popc_add (by omega) (by omega)]
      exact ⟨by omega, by omega, fun h => by omega⟩
theorem sizeF_mono : ∀ (j x y : Nat), (∀ i, i < j → y.testBit i = true → x.testBit i = true) → sizeF j (y : Int) ≤ sizeF j (x : Int) ∧ ∀ i, i < j → x.testBit i = true → y.testBit i = false → sizeF j (y : Int) < sizeF j (x : Int)
  | 0, x, y, _ => ⟨by rw [sizeF, sizeF]; omega, fun i hi => by omega⟩
  | j + 1, x, y, h => by
    have ih := sizeF_mono j (x / 2) (y / 2) (fun i hi hb => by
      have := h (i + 1) (by omega) (by rw [Nat.testBit_succ]; exact hb)
      rw [Nat.testBit_succ] at this; exact this)
    have h0 := h 0 (by omega)
    have t0 : ∀ x : Nat, x.testBit 0 = true ↔ x % 2 = 1 := fun x => by rw [Nat.testBit_zero, decide_eq_true_eq]
    rw [t0, t0] at h0
    rw [sizeF, sizeF]
    have e1 : (x : Int) / 2 = ((x / 2 : Nat) : Int) := by omega
    have e2 : (y : Int) / 2 = ((y / 2 : Nat) : Int) := by omega
    rw [e1, e2]
    generalize sizeF j ((x / 2 : Nat) : Int) = a at *
    generalize sizeF j ((y / 2 : Nat) : Int) = b at *
    refine ⟨by have := ih.1; omega, fun i hi hx hy => ?_⟩
    cases i with
    | zero =>
      have := ih.1
      rw [t0] at hx
      have : ¬ y % 2 = 1 := fun e => by rw [(t0 y).2 e] at hy; cases hy
      omega
    | succ i =>
      rw [Nat.testBit_succ] at hx hy
      have := ih.2 i (by omega) hx hy
      omega
theorem popc_mono {x y : Nat} (hx : x < 4096) (hy : y < 4096) (h : ∀ i, y.testBit i = true → x.testBit i = true) : popc (y : Int) ≤ popc (x : Int) := by
  have := (sizeF_mono 12 x y (fun i _ => h i)).1
  rwa [sizeF_popc (by omega), sizeF_popc (by omega)] at this
theorem popc_lt {x y : Nat} (hx : x < 4096) (hy : y < 4096) (h : ∀ i, y.testBit i = true → x.testBit i = true) {i : Nat} (hi : i < 12) (h1 : x.testBit i = true) (h2 : y.testBit i = false) : popc (y : Int) < popc (x : Int) := by
  have := (sizeF_mono 12 x y (fun i _ => h i)).2 i hi h1 h2
  rwa [sizeF_popc (by omega), sizeF_popc (by omega)] at this
/-- A set of some of all stars. -/
def Sub (v : Nat) (all : Int) : Prop := ∀ i, v.testBit i = true → setI all i = true
theorem or_above {T b : Nat} (hb : b < 12) (hT : T % 2 ^ (b + 1) = 0) (hT2 : T < 4096) : bits .or .i64 (T : Int) (wrap64 (2 ^ b)) = ((T + 2 ^ b : Nat) : Int) := by
  have hp : wrap64 (2 ^ b) = ((2 ^ b : Nat) : Int) := (by decide +kernel : ∀ k : Fin 12, wrap64 (2 ^ k.val) = ((2 ^ k.val : Nat) : Int)) ⟨b, hb⟩
  have hp2 : 1 ≤ 2 ^ b ∧ 2 ^ b < 4096 := (by decide +kernel : ∀ k : Fin 12, 1 ≤ 2 ^ k.val ∧ 2 ^ k.val < 4096) ⟨b, hb⟩
  unfold bits
  rw [hp]
  dsimp only
  have ho : T ||| 2 ^ b = T + 2 ^ b := by
    have e : T = 2 ^ (b + 1) * (T / 2 ^ (b + 1)) := by have := Nat.div_add_mod T (2 ^ (b + 1)); omega
    have hlt : 2 ^ b < 2 ^ (b + 1) := Nat.pow_lt_pow_right (by decide) (by omega)
    have := Nat.two_pow_add_eq_or_of_lt hlt (T / 2 ^ (b + 1))
    rw [← e] at this
    exact this.symm
  rw [BitVec.toNat_or, bv_nat (by omega), bv_nat (by omega), ho, i64_of_nat (by omega)]
theorem mod_half {T b : Nat} (hT : T % 2 ^ (b + 1) = 0) : T % 2 ^ b = 0 ∧ (T + 2 ^ b) % 2 ^ b = 0 := by
  have h : T % 2 ^ b = 0 := Nat.mod_eq_zero_of_dvd (Nat.dvd_trans (Nat.pow_dvd_pow 2 (by omega)) (Nat.dvd_of_mod_eq_zero hT))
  exact ⟨h, by rw [Nat.add_mod_right]; exact h⟩
theorem try_spec (ask : Int → Bool) (all : Int) : ∀ (b m T : Nat), b ≤ 10 → T % 2 ^ b = 0 → T + 2 ^ b ≤ 1024 →
    (∀ x, tryS ask all b (T : Int) m = some x → ∃ u, u < 2 ^ b ∧ Sub u all ∧ popc (u : Int) = m ∧ x = ((T + u : Nat) : Int) ∧ ask x = true ∧ ∀ v, v < 2 ^ b → Sub v all → popc (v : Int) = m → ask ((T + v : Nat) : Int) = true → u ≤ v) ∧
    (tryS ask all b (T : Int) m = none → ∀ v, v < 2 ^ b → Sub v all → popc (v : Int) = m → ask ((T + v : Nat) : Int) = false)
  | 0, m, T, _, _, _ => by
    have hv0 : ∀ v : Nat, v < 2 ^ 0 → v = 0 := fun v hv => by simpa using hv
    have hs0 : Sub 0 all := fun i h => by rw [Nat.zero_testBit] at h; cases h
    have hp0 : popc ((0 : Nat) : Int) = 0 := popc_zero
    rw [tryS]
    by_cases hm : m = 0
    · subst hm
      rw [if_pos rfl]
      cases ha : ask (T : Int)
      · refine ⟨fun x h => (by cases h), fun _ v hv _ _ => ?_⟩
        rw [hv0 v hv, Nat.add_zero]; exact ha
      · refine ⟨fun x h => ?_, fun h => (by cases h)⟩
        injection h with h
        subst h
        exact ⟨0, by decide, hs0, hp0, by rw [Nat.add_zero], ha, fun v _ _ _ _ => Nat.zero_le _⟩
    · rw [if_neg hm]
      refine ⟨fun x h => (by cases h), fun _ v hv _ hp => ?_⟩
      rw [hv0 v hv, hp0] at hp
      omega
  | b + 1, m, T, hb, hT, hT2 => by
    have hq : 2 ^ (b + 1) = 2 * 2 ^ b := by rw [Nat.pow_succ, Nat.mul_comm]
    have hs0 : Sub 0 all := fun i h => by rw [Nat.zero_testBit] at h; cases h
    have hp0 : popc ((0 : Nat) : Int) = 0 := popc_zero
    obtain ⟨hm1, hm2⟩ := mod_half hT
    have h1 := try_spec ask all b m T (by omega) hm1 (by omega)
    have h2 := try_spec ask all b (m - 1) (T + 2 ^ b) (by omega) hm2 (by omega)
    have hor := or_above (T := T) (b := b) (by omega) hT (by omega)
    rw [tryS]
    by_cases hm : m = 0
    · subst hm
      rw [if_pos rfl]
      have hz : ∀ v : Nat, v < 2 ^ (b + 1) → popc (v : Int) = ((0 : Nat) : Int) → v = 0 := fun v hv hp => (popc_le (b + 1) v (by omega) hv).2.2 hp
      cases ha : ask (T : Int)
      · refine ⟨fun x h => (by cases h), fun _ v hv _ hp => ?_⟩
        rw [hz v hv hp, Nat.add_zero]; exact ha
      · refine ⟨fun x h => ?_, fun h => (by cases h)⟩
        injection h with h
        subst h
        exact ⟨0, Nat.two_pow_pos _, hs0, hp0, by rw [Nat.add_zero], ha, fun v _ _ _ _ => Nat.zero_le _⟩
    rw [if_neg hm]
    by_cases hbm : b + 1 < m
    · rw [if_pos hbm]
      refine ⟨fun x h => (by cases h), fun _ v hv _ hp => ?_⟩
      have := (popc_le (b + 1) v (by omega) hv).2.1
      omega
    rw [if_neg hbm]
    cases h3 : tryS ask all b (T : Int) m with
    | some y =>
      obtain ⟨u, u1, u2, u3, u4, u5, u6⟩ := h1.1 y h3
      refine ⟨fun x h => ?_, fun h => (by cases h)⟩
      injection h with h
      subst h
      refine ⟨u, by omega, u2, u3, u4, u5, fun v hv v2 v3 v4 => ?_⟩
      by_cases hvb : v < 2 ^ b
      · exact u6 v hvb v2 v3 v4
      · omega
    | none =>
      have h1n := h1.2 h3
      dsimp only
      cases hal : setI all b
      · rw [if_neg (by simp)]
        refine ⟨fun x h => (by cases h), fun _ v hv v2 v3 => ?_⟩
        by_cases hvb : v < 2 ^ b
        · exact h1n v hvb v2 v3
        · obtain ⟨u, rfl⟩ : ∃ u, v = 2 ^ b + u := ⟨v - 2 ^ b, by omega⟩
          have := v2 b (by rw [test_add (by omega), decide_eq_true rfl]; rfl)
          rw [hal] at this; cases this
      · rw [if_pos rfl, hor]
        have hsp : ∀ u, u < 2 ^ b → (Sub (2 ^ b + u) all ↔ Sub u all) := fun u hu => by
          constructor
          · intro h i hi; exact h i (by rw [test_add hu, hi, Bool.or_true])
          · intro h i hi
            rw [test_add hu, Bool.or_eq_true, decide_eq_true_eq] at hi
            rcases hi with rfl | hi
            · exact hal
            · exact h i hi
        refine ⟨fun x h => ?_, fun h v hv v2 v3 => ?_⟩
        · obtain ⟨u, u1, u2, u3, u4, u5, u6⟩ := h2.1 x h
          refine ⟨2 ^ b + u, by omega, (hsp u u1).2 u2, by rw [popc_add (by omega) u1, u3]; omega, by rw [u4, Nat.add_assoc], u5, fun v hv v2 v3 v4 => ?_⟩
          by_cases hvb : v < 2 ^ b
          · rw [h1n v hvb v2 v3] at v4; cases v4
          · obtain ⟨z, rfl⟩ : ∃ z, v = 2 ^ b + z := ⟨v - 2 ^ b, by omega⟩
            rw [popc_add (by omega) (by omega)] at v3
            have := u6 z (by omega) ((hsp z (by omega)).1 v2) (by omega) (by rw [Nat.add_assoc]; exact v4)
            omega
        · by_cases hvb : v < 2 ^ b
          · exact h1n v hvb v2 v3
          · obtain ⟨z, rfl⟩ : ∃ z, v = 2 ^ b + z := ⟨v - 2 ^ b, by omega⟩
            rw [popc_add (by omega) (by omega)] at v3
            have := h2.2 h z (by omega) ((hsp z (by omega)).1 v2) (by omega)
            rw [← Nat.add_assoc]; exact this
/-- What the fewest stars that are as asked are. -/
structure Few (ask : Int → Bool) (all : Int) (u : Nat) : Prop where
  lt : u < 1024
  sub : Sub u all
  asks : ask (u : Int) = true
  least : ∀ v, v < 1024 → Sub v all → ask (v : Int) = true → popc (u : Int) < popc (v : Int) ∨ (popc (u : Int) = popc (v : Int) ∧ u ≤ v)
theorem fewTo_spec (ask : Int → Bool) (all : Int) : ∀ n : Nat, (∀ x, fewTo ask all n = some x → ∃ u : Nat, x = (u : Int) ∧ Few ask all u) ∧ (fewTo ask all n = none → ∀ v, v < 1024 → Sub v all → popc (v : Int) < n → ask (v : Int) = false)
  | 0 => ⟨fun x h => (by cases h), fun _ v hv _ hp => by have := (popc_le 10 v (by decide) hv).1; omega⟩
  | n + 1 => by
    have ih := fewTo_spec ask all n
    have ht := try_spec ask all 10 n 0 (by decide) (by decide) (by decide)
    rw [fewTo]
    cases h : fewTo ask all n with
    | some y =>
      refine ⟨fun x hx => ?_, fun hx => (by cases hx)⟩
      injection hx with hx
      subst hx
      exact ih.1 y h
    | none =>
      have hn := ih.2 h
      dsimp only
      refine ⟨fun x hx => ?_, fun hx v hv v2 v3 => ?_⟩
      · obtain ⟨u, u1, u2, u3, u4, u5, u6⟩ := ht.1 x hx
        rw [Nat.zero_add] at u4
        subst u4
        refine ⟨u, rfl, u1, u2, u5, fun v hv v2 v3 => ?_⟩
        rcases Int.lt_trichotomy (popc (u : Int)) (popc (v : Int)) with h1 | h1 | h1
        · exact .inl h1
        · exact .inr ⟨h1, u6 v hv v2 (by omega) (by rw [Nat.zero_add]; exact v3)⟩
        · rw [hn v hv v2 (by omega)] at v3; cases v3
      · by_cases hp : popc (v : Int) < n
        · exact hn v hv v2 hp
        · have := ht.2 hx v hv v2 (by omega)
          rwa [Nat.zero_add] at this
theorem few_is {ask : Int → Bool} {all : Nat} (hall : all < 4096) (h : ∃ v : Nat, v < 1024 ∧ Sub v (all : Int) ∧ ask (v : Int) = true) : ∃ u : Nat, fewS ask (all : Int) = (u : Int) ∧ Few ask (all : Int) u := by
  obtain ⟨v, v1, v2, v3⟩ := h
  have hs := fewTo_spec ask (all : Int) (popc (all : Int) + 1).toNat
  unfold fewS
  cases hf : fewTo ask (all : Int) (popc (all : Int) + 1).toNat with
  | some x =>
    obtain ⟨u, rfl, hu⟩ := hs.1 x hf
    exact ⟨u, rfl, hu⟩
  | none =>
    have hm := popc_mono (x := all) (y := v) hall (by omega) (fun i hi => by
      have h12 : i < 12 := by
        rcases Nat.lt_or_ge i 12 with h | h
        · exact h
        · rw [Nat.testBit_lt_two_pow (Nat.lt_of_lt_of_le v1 (Nat.le_trans (by decide : 1024 ≤ 2 ^ 12) (Nat.pow_le_pow_right (by decide) h)))] at hi; cases hi
      rw [← bit_nat hall h12]; exact v2 i hi)
    have hr := popc_rng (all : Int)
    rw [hs.2 hf v v1 v2 (by omega)] at v3; cases v3
theorem few_not {ask : Int → Bool} {all : Nat} (h : ∀ v : Nat, v < 1024 → Sub v (all : Int) → ask (v : Int) = false) : fewS ask (all : Int) = 0 := by
  have hs := fewTo_spec ask (all : Int) (popc (all : Int) + 1).toNat
  unfold fewS
  cases hf : fewTo ask (all : Int) (popc (all : Int) + 1).toNat with
  | none => rfl
  | some x =>
    obtain ⟨u, rfl, hu⟩ := hs.1 x hf
    exact absurd hu.asks (by rw [h u hu.lt hu.sub]; decide)
/-- Two questions with the same answers. -/
theorem few_same {ask ask' : Int → Bool} {all : Nat} (hall : all < 4096) (h : ∀ v : Nat, v < 1024 → Sub v (all : Int) → ask' (v : Int) = ask (v : Int)) : fewS ask' (all : Int) = fewS ask (all : Int) := by
  by_cases hx : ∃ v : Nat, v < 1024 ∧ Sub v (all : Int) ∧ ask (v : Int) = true
  · obtain ⟨u, e1, hu⟩ := few_is hall hx
    obtain ⟨v, v1, v2, v3⟩ := hx
    obtain ⟨u', e2, hu'⟩ := few_is (ask := ask') hall ⟨v, v1, v2, by rw [h v v1 v2]; exact v3⟩
    have a := hu.least u' hu'.lt hu'.sub (by rw [← h u' hu'.lt hu'.sub]; exact hu'.asks)
    have b := hu'.least u hu.lt hu.sub (by rw [h u hu.lt hu.sub]; exact hu.asks)
    rw [e1, e2]
    omega
  · have hn : ∀ v : Nat, v < 1024 → Sub v (all : Int) → ask (v : Int) = false := fun v v1 v2 => by
      cases e : ask (v : Int)
      · rfl
      · exact absurd ⟨v, v1, v2, e⟩ hx
    rw [few_not hn, few_not fun v v1 v2 => by rw [h v v1 v2]; exact hn v v1 v2]
theorem andNot_nat {a b : Nat} (ha : a < 4096) (hb : b < 1000000) : ∃ y : Nat, bits .andNot .i64 (a : Int) (b : Int) = (y : Int) ∧ y ≤ a ∧ ∀ i, y.testBit i = (a.testBit i && !b.testBit i) := by
  unfold bits
  dsimp only
  have e : (BitVec.ofInt IntKind.i64.bits (a : Int) &&& ~~~ BitVec.ofInt IntKind.i64.bits (b : Int)).toNat = a &&& (2 ^ 64 - (b + 1)) := by
    rw [BitVec.toNat_and, BitVec.toNat_not, bv_nat (by omega), bv_nat (by omega)]
    have h64 : 2 ^ IntKind.i64.bits - 1 - b = 2 ^ 64 - (b + 1) := by show 2 ^ 64 - 1 - b = _; omega
    rw [h64]
  have hle : a &&& (2 ^ 64 - (b + 1)) ≤ a := Nat.and_le_left
  refine ⟨a &&& (2 ^ 64 - (b + 1)), by rw [e, i64_of_nat (by omega)], hle, fun i => ?_⟩
  rw [Nat.testBit_and, Nat.testBit_two_pow_sub_succ (by omega)]
  by_cases hi : i < 64
  · rw [decide_eq_true hi]; simp
  · have : a.testBit i = false := Nat.testBit_lt_two_pow (Nat.lt_of_lt_of_le (show a < 2 ^ 64 by omega) (Nat.pow_le_pow_right (by decide) (by omega)))
    rw [this]; simp
/-- Whether stars can be right is asked of each of them alone. -/
theorem corn_ext {ss : List St} {sc : Int} {R R' : Nat → Bool} {n : Nat} (h : ∀ i, i < n → R i = R' i) (d : Bool) (c : Int) : CornC ss sc R n d c ↔ CornC ss sc R' n d c := by
  unfold CornC
  exact ⟨fun k => ⟨k.1, fun i hi hr => k.2 i hi (by rw [h i hi]; exact hr)⟩, fun k => ⟨k.1, fun i hi hr => k.2 i hi (by rw [← h i hi]; exact hr)⟩⟩
end Go.Proofs.Ytdkegkacpdkjgaa

namespace Go.Proofs.Ytdkegkacpdkjgaa
open Go.RowKit Go.Maps

def shV (δ : Bool → Int) (v : Value) : Value := .agg #[.int .i64 (numB v 0 + δ false), .int .i64 (numB v 1 + δ false), .int .i64 (numB v 2 + δ true), .int .i64 (numB v 3 + δ true)]
def shR (δ : Bool → Int) : Except Int Value → Except Int Value
  | .ok v => .ok (shV δ v)
  | .error c => .error c
theorem along_shift {δ : Bool → Int} {f g : Bool → Scl → Int × Int} {xs ys : List Scl} (h1 : ∀ d, ∀ x ∈ xs, (f d x).1 ≤ (f d x).2 → ∃ y ∈ ys, (g d y).1 = (f d x).1 + δ d ∧ (g d y).2 = (f d x).2 + δ d)
    (h2 : ∀ d, ∀ y ∈ ys, (g d y).1 ≤ (g d y).2 → ∃ x ∈ xs, (g d y).1 = (f d x).1 + δ d ∧ (g d y).2 = (f d x).2 + δ d) :
    alongR (kepL (g false) ys) (kepL (g true) ys) = shR δ (alongR (kepL (f false) xs) (kepL (f true) xs)) := by
  rw [kep_shift (h1 false) (h2 false), kep_shift (h1 true) (h2 true)]
  generalize kepL (f false) xs = k0
  generalize kepL (f true) xs = k1
  obtain ⟨a0, a1, a2⟩ := k0
  obtain ⟨b0, b1, b2⟩ := k1
  unfold alongR shR
  cases a2 <;> cases b2 <;> rfl
theorem along_same {f g : Bool → Scl → Int × Int} {xs ys : List Scl} (h1 : ∀ d, ∀ x ∈ xs, (f d x).1 ≤ (f d x).2 → ∃ y ∈ ys, g d y = f d x)
    (h2 : ∀ d, ∀ y ∈ ys, (g d y).1 ≤ (g d y).2 → ∃ x ∈ xs, g d y = f d x) :
    alongR (kepL (g false) ys) (kepL (g true) ys) = alongR (kepL (f false) xs) (kepL (f true) xs) := by
  rw [kep_same (h1 false) (h2 false), kep_same (h1 true) (h2 true)]
/-- Errors are not zero. -/
def noZ (r : Except Int Value) : Prop := ∀ c, r = .error c → c ≠ 0
theorem noZ_err {c : Int} (h : c ≠ 0) : noZ (.error c) := fun x e => by injection e with e; subst e; exact h
theorem noZ_ok (v : Value) : noZ (.ok v) := fun x e => by cases e
theorem along_noZ (k0 k1 : Int × Int × Bool) : noZ (alongR k0 k1) := by
  unfold alongR; (repeat' split) <;> first | exact noZ_ok _ | exact noZ_err (by decide)
theorem zero_noZ (p : Pl) (ss : List St) : noZ (zeroR p ss) := by unfold zeroR tellK; (repeat' split) <;> first | exact along_noZ _ _ | exact noZ_err (by decide)
theorem star_noZ (p : Pl) (ss : List St) (i : Int) : noZ (starR p ss i) := by unfold starR tellK; (repeat' split) <;> first | exact along_noZ _ _ | exact noZ_err (by decide)
theorem apart_noZ (p : Pl) (ss : List St) (i j : Int) : noZ (apartR p ss i j) := by unfold apartR tellR; (repeat' split) <;> first | exact along_noZ _ _ | exact noZ_err (by decide)
theorem find_noZ (p : Pl) (ss : List St) (i j : Int) : noZ (findR p ss i j) := by unfold findR tellK; (repeat' split) <;> first | exact along_noZ _ _ | exact noZ_err (by decide)
theorem scale_noZ (p : Pl) (ss : List St) : noZ (scaleR p ss) := by unfold scaleR scaleV; (repeat' split) <;> first | exact noZ_ok _ | exact noZ_err (by decide)
/-- Numbers of an answer are bounded. -/
def Bnd (M : Int) (r : Except Int Value) : Prop := ∀ v, r = .ok v → ∀ i, i < 4 → -M ≤ numB v i ∧ numB v i ≤ M
theorem bnd_err (M c : Int) : Bnd M (.error c) := fun v e => by cases e
theorem along_bnd {M : Int} {f : Bool → Scl → Int × Int} {xs : List Scl} (h : ∀ d, ∀ x ∈ xs, -M ≤ (f d x).1 ∧ (f d x).2 ≤ M) : Bnd M (alongR (kepL (f false) xs) (kepL (f true) xs)) := by
  have hk : ∀ d, (kepL (f d) xs).2.2 = true → (-M ≤ (kepL (f d) xs).1 ∧ (kepL (f d) xs).1 ≤ M) ∧ -M ≤ (kepL (f d) xs).2.1 ∧ (kepL (f d) xs).2.1 ≤ M := fun d ht => by
    obtain ⟨x, hx, hl, e1⟩ := (kepL_of (f d) xs).lo ht
    obtain ⟨y, hy, hm, e2⟩ := (kepL_of (f d) xs).hi ht
    have a := h d x hx
    have b := h d y hy
    omega
  intro v hv i hi
  unfold alongR at hv
  split at hv
  · rename_i h0
    split at hv
    · rename_i h1
      injection hv with hv
      subst hv
      have a := hk false h0
      have b := hk true h1
      have : i = 0 ∨ i = 1 ∨ i = 2 ∨ i = 3 := by omega
      rcases this with rfl | rfl | rfl | rfl
      · exact a.1
      · exact a.2
      · exact b.1
      · exact b.2
    · cases hv
  · cases hv
theorem zero_bnd {p : Pl} {ss : List St} (h : plB p ss = true → PlOk p ss) : Bnd 100000000 (zeroR p ss) := by
  unfold zeroR tellK
  split
  · rename_i hv
    repeat' split
    · exact bnd_err _ _
    · exact bnd_err _ _
    · exact along_bnd (f := fun d x => (x.lo d, x.hi d)) (xs := trA p ss) fun d x hx => by have a := (trL_ok (h hv) hx).lo d; have b := (trL_ok (h hv) hx).hi d; exact ⟨a.1, b.2⟩
  · exact bnd_err _ _
theorem star_bnd {p : Pl} {ss : List St} (h : plB p ss = true → PlOk p ss) (i : Int) : Bnd 200000000 (starR p ss i) := by
  unfold starR tellK
  split
  · rename_i hv
    split
    · rename_i hi
      repeat' split
      · exact bnd_err _ _
      · exact bnd_err _ _
      · refine along_bnd (f := fun d x => plS x.sc (x.lo d) (x.hi d) (ss.getD i.toNat default) d) (xs := trA p ss) fun d x hx => ?_
        have k := trL_ok (h hv) hx
        have hn := (h hv).nl
        have := pl_rng ((h hv).st i.toNat (by omega) d) (sc := x.sc) (by have := k.s0; omega) k.s1 (k.lo d) (k.hi d)
        exact ⟨by omega, by omega⟩
    · exact bnd_err _ _
  · exact bnd_err _ _
theorem plOk' {p : Pl} {ss : List St} (hn : ss.length = p.n) (hv : plB p ss = true) : PlOk p ss := by
  unfold plB at hv
  simp only [Bool.and_eq_true, decide_eq_true_eq, List.all_eq_true] at hv
  obtain ⟨⟨⟨⟨h1, h2⟩, h3⟩, h4⟩, h5⟩ := hv
  refine ⟨h1, h2, h3, h4, hn, fun i hi d => stOk (h5 _ ?_) d⟩
  have e : ss.getD i default = ss[i] := by simp [List.getD, hi]
  rw [e]; exact List.getElem_mem hi
/-- An answer that is farther on, in numbers. -/
theorem rep_shift {δ : Bool → Int} {M : Int} {r : Except Int Value} (h : isFour r) (hz : noZ r) (hb : Bnd M r) (hM : 0 ≤ M) : ∃ a b c d e a' b' c' d' : Int, repB r = .tuple #[.agg #[.int .i64 a, .int .i64 b], .agg #[.int .i64 c, .int .i64 d], .int .i64 e] ∧
    repB (shR δ r) = .tuple #[.agg #[.int .i64 a', .int .i64 b'], .agg #[.int .i64 c', .int .i64 d'], .int .i64 e] ∧ (e = 0 → a' = a + δ false ∧ b' = b + δ false ∧ c' = c + δ true ∧ d' = d + δ true) ∧
    ((-M ≤ a ∧ a ≤ M) ∧ (-M ≤ b ∧ b ≤ M) ∧ (-M ≤ c ∧ c ≤ M) ∧ (-M ≤ d ∧ d ≤ M)) := by
  cases r with
  | error c => exact ⟨0, 0, 0, 0, c, 0, 0, 0, 0, rfl, rfl, fun h => absurd h (hz c rfl), by omega⟩
  | ok v =>
    have hb := hb v rfl
    obtain ⟨a, b, c, d, rfl⟩ := h v rfl
    exact ⟨a, b, c, d, 0, a + δ false, b + δ false, c + δ true, d + δ true, rfl, rfl, fun _ => ⟨rfl, rfl, rfl, rfl⟩, hb 0 (by decide), hb 1 (by decide), hb 2 (by decide), hb 3 (by decide)⟩
section
variable {p p' : Pl} {ss : List St} {b t : Int}
/-- A plate whose known places are moved, and it before. -/
structure Mvd (p p' : Pl) (ss : List St) (b t : Int) : Prop where
  lo : p'.lo = p.lo
  hi : p'.hi = p.hi
  n : p'.n = p.n
  nl : ss.length = p.n
  v : plB p ss = true
  v' : plB p' (ss.map (movS b t)) = true
theorem Mvd.ok (h : Mvd p p' ss b t) : PlOk p ss := plOk' h.nl h.v
theorem Mvd.ok' (h : Mvd p p' ss b t) : PlOk p' (ss.map (movS b t)) := plOk' (by rw [List.length_map, h.nl, h.n]) h.v'
theorem Mvd.st (h : Mvd p p' ss b t) {i : Nat} (hi : i < p.n) (d : Bool) : StOk (movS b t (ss.getD i default)) d := by
  rw [← mov_get]; exact h.ok'.st i (by rw [List.length_map, h.nl]; exact hi) d
theorem mvd_corn (h : Mvd p p' ss b t) {set : Int} {i0 : Nat} (hi0 : i0 < p.n) (hk0 : (ss.getD i0 default).k = true) (hR0 : setI set i0 = true) (hsub : ∀ i, i < p.n → setI set i = true → (ss.getD i default).k = true)
    {sc : Int} (h1 : p.lo ≤ sc) (h2 : sc ≤ p.hi) (d : Bool) (c : Int) : CornC ss sc (setI set) p.n d c ↔ CornC (ss.map (movS b t)) sc (setI set) p.n d (c + dlt b t d) := by
  have ok := h.ok
  have hlo := ok.lo
  have hhi := ok.hi
  constructor
  · intro hc
    have hin : ∀ i, i < p.n → setI set i = true → (cbS sc (movS b t (ss.getD i default)) d).1 ≤ c + dlt b t d ∧ c + dlt b t d ≤ (cbS sc (movS b t (ss.getD i default)) d).2 := fun i hi hr => by
      have a := mov_cb (b := b) (t := t) (sc := sc) (hsub i hi hr) d
      have := hc.2 i hi hr
      omega
    have hn := near (h.st hi0 d) (by rw [mov_k]; exact hk0) (sc := sc) (by omega) (by omega)
    have := hin i0 hi0 hR0
    exact ⟨by omega, fun i hi hr => by rw [mov_get]; exact hin i hi hr⟩
  · intro hc
    have hin : ∀ i, i < p.n → setI set i = true → (cbS sc (ss.getD i default) d).1 ≤ c ∧ c ≤ (cbS sc (ss.getD i default) d).2 := fun i hi hr => by
      have a := mov_cb (b := b) (t := t) (sc := sc) (hsub i hi hr) d
      have := hc.2 i hi hr
      rw [mov_get] at this
      omega
    have hn := near (ok.st i0 (by rw [h.nl]; exact hi0) d) hk0 (sc := sc) (by omega) (by omega)
    have := hin i0 hi0 hR0
    exact ⟨by omega, hin⟩
theorem tr_same (e1 : p'.lo = p.lo) (e2 : p'.hi = p.hi) (e3 : p'.n = p.n) (ss : List St) (set : Int) : trL p' ss set = trL p ss set := by unfold trL; rw [e1, e2, e3]
theorem mvd_pair (h : Mvd p p' ss b t) (hk : knownTo ss p.n ≠ 0) : Pair (dlt b t) (trA p ss) (trA p' (ss.map (movS b t))) := by
  have ok := h.ok
  have h12 : p.n ≤ 12 := by have := ok.n10; omega
  obtain ⟨i0, hi0, hk0⟩ := known_some h12 hk
  unfold trA
  rw [mov_known, h.n]
  refine pair_of ok.lo ok.hi h.lo h.hi h.n fun sc h1 h2 d c => ?_
  exact mvd_corn h hi0 hk0 (by rw [known_bit ss h12 hi0]; exact hk0) (fun i hi hr => by rw [known_bit ss h12 hi] at hr; exact hr) h1 h2 d c
/-- Where the corner is, if a star is known. -/
theorem tr_near {p : Pl} {ss : List St} (ok : PlOk p ss) (hk : knownTo ss p.n ≠ 0) {x : Scl} (hx : x ∈ trA p ss) (d : Bool) : -1081344 ≤ x.lo d ∧ x.hi d ≤ 1048576 ∧ x.lo d ≤ x.hi d := by
  have h12 : p.n ≤ 12 := by have := ok.n10; omega
  obtain ⟨i0, hi0, hk0⟩ := known_some h12 hk
  obtain ⟨⟨h1, h2⟩, h3, h4⟩ := trL_of hx
  have hlo := ok.lo
  have hhi := ok.hi
  have hl : x.lo d = (corS ss x.sc (setI (knownTo ss p.n)) d p.n).1 := by rw [← h4 d]
  have hh : x.hi d = (corS ss x.sc (setI (knownTo ss p.n)) d p.n).2 := by rw [← h4 d]
  have hle : x.lo d ≤ x.hi d := by
    unfold corB at h3
    simp only [Bool.and_eq_true, decide_eq_true_eq] at h3
    cases d
    · omega
    · omega
  have a := cor_iff.1 (show _ ∧ x.lo d ≤ _ from ⟨by rw [hl]; exact Int.le_refl _, by rw [← hh]; exact hle⟩)
  have b := cor_iff.1 (show _ ≤ x.hi d ∧ _ from ⟨by rw [← hl]; exact hle, by rw [hh]; exact Int.le_refl _⟩)
  have hR0 : setI (knownTo ss p.n) i0 = true := by rw [known_bit ss h12 hi0]; exact hk0
  have c := corn_near a hi0 hR0 (ok.st i0 (by rw [ok.nl]; exact hi0) d) hk0 (by omega) (by omega)
  have e := corn_near b hi0 hR0 (ok.st i0 (by rw [ok.nl]; exact hi0) d) hk0 (by omega) (by omega)
  omega
theorem mvd_pl (h : Mvd p p' ss b t) (hk : knownTo ss p.n ≠ 0) {x y : Scl} (hx : x ∈ trA p ss) (hy : y ∈ trA p' (ss.map (movS b t))) (e : y.sc = x.sc) (hs : ∀ d, y.lo d = x.lo d + dlt b t d ∧ y.hi d = x.hi d + dlt b t d) {i : Nat} (hi : i < p.n) (d : Bool) :
    (plS y.sc (y.lo d) (y.hi d) (movS b t (ss.getD i default)) d).1 = (plS x.sc (x.lo d) (x.hi d) (ss.getD i default) d).1 + dlt b t d ∧ (plS y.sc (y.lo d) (y.hi d) (movS b t (ss.getD i default)) d).2 = (plS x.sc (x.lo d) (x.hi d) (ss.getD i default) d).2 + dlt b t d := by
  have ok := h.ok
  have n1 := tr_near ok hk hx d
  have n2 := tr_near h.ok' (by rw [h.n, mov_known]; exact hk) hy d
  have k := trL_ok ok hx
  have hb := bey_rng (ok.st i (by rw [ok.nl]; exact hi) d) (sc := x.sc) (by have := k.s0; omega) k.s1
  obtain ⟨s1, s2⟩ := hs d
  unfold plS
  rw [e, mov_bey, s1, s2]
  unfold saidS
  rw [mov_k]
  generalize ss.getD i default = s at *
  generalize beyS x.sc s d = z at *
  cases hsk : s.k
  · simp only [Bool.false_eq_true, if_false]
    omega
  · rw [mov_sky hsk]
    simp only [if_true]
    omega
theorem mvd_scale (h : Mvd p p' ss b t) : scaleR p' (ss.map (movS b t)) = scaleR p ss := by
  unfold scaleR
  rw [h.v, h.v', if_pos rfl, if_pos rfl]
  by_cases hk : knownTo ss p.n = 0
  · have e : ss.map (movS b t) = ss := mov_none (by rw [h.nl]; exact hk) (by have := h.ok.n10; have := h.nl; omega)
    have e2 : trA p' ss = trA p ss := by unfold trA; rw [h.n]; exact tr_same h.lo h.hi h.n ss _
    rw [e, e2]
  · have hp := mvd_pair h hk
    have e : kepL (scaleF false) (trA p' (ss.map (movS b t))) = kepL (scaleF false) (trA p ss) := kep_same
      (fun x hx _ => by obtain ⟨y, hy, e, _⟩ := hp.fwd x hx; exact ⟨y, hy, by unfold scaleF; rw [e]⟩)
      (fun y hy _ => by obtain ⟨x, hx, e, _⟩ := hp.bwd y hy; exact ⟨x, hx, by unfold scaleF; rw [e]⟩)
    rw [e]
    by_cases hn : trA p ss = []
    · rw [if_pos hn, if_pos ((pair_nil hp).1 hn)]
    · rw [if_neg hn, if_neg (fun hn' => hn ((pair_nil hp).2 hn'))]
/-- What is asked of all truths is farther on. -/
theorem mvd_tellK (h : Mvd p p' ss b t) {f g : Bool → Scl → Int × Int} {δ : Bool → Int}
    (hfg : knownTo ss p.n ≠ 0 → ∀ d, ∀ x ∈ trA p ss, ∀ y ∈ trA p' (ss.map (movS b t)), y.sc = x.sc → (∀ d, y.lo d = x.lo d + dlt b t d ∧ y.hi d = x.hi d + dlt b t d) → (g d y).1 = (f d x).1 + δ d ∧ (g d y).2 = (f d x).2 + δ d) :
    tellK p' (ss.map (movS b t)) g = shR δ (tellK p ss f) := by
  unfold tellK
  rw [mov_known, h.n]
  by_cases hk : knownTo ss p.n = 0
  · have e : ss.map (movS b t) = ss := mov_none (by rw [h.nl]; exact hk) (by have := h.ok.n10; have := h.nl; omega)
    have e2 : trA p' ss = trA p ss := by unfold trA; rw [h.n]; exact tr_same h.lo h.hi h.n ss _
    rw [e, e2]
    by_cases hn : trA p ss = []
    · rw [if_pos hn, if_pos hn]; rfl
    · rw [if_neg hn, if_neg hn, if_pos hk, if_pos hk]; rfl
  · have hp := mvd_pair h hk
    by_cases hn : trA p ss = []
    · rw [if_pos hn, if_pos ((pair_nil hp).1 hn)]; rfl
    · rw [if_neg hn, if_neg (fun hn' => hn ((pair_nil hp).2 hn')), if_neg hk, if_neg hk]
      exact along_shift (fun d x hx _ => by obtain ⟨y, hy, e, s⟩ := hp.fwd x hx; exact ⟨y, hy, hfg hk d x hx y hy e s⟩)
        (fun d y hy _ => by obtain ⟨x, hx, e, s⟩ := hp.bwd y hy; exact ⟨x, hx, hfg hk d x hx y hy e s⟩)
theorem shR_zero {r : Except Int Value} (h : isFour r) : shR (fun _ => 0) r = r := by
  cases r with
  | error c => rfl
  | ok v =>
    obtain ⟨a, b, c, d, rfl⟩ := h v rfl
    show Except.ok (Value.agg #[.int .i64 (a + 0), .int .i64 (b + 0), .int .i64 (c + 0), .int .i64 (d + 0)]) = _
    rw [Int.add_zero, Int.add_zero, Int.add_zero, Int.add_zero]
theorem mvd_zero (h : Mvd p p' ss b t) : zeroR p' (ss.map (movS b t)) = shR (dlt b t) (zeroR p ss) := by
  unfold zeroR
  rw [h.v, h.v', if_pos rfl, if_pos rfl]
  exact mvd_tellK h fun _ d x _ y _ _ s => s d
theorem mvd_star (h : Mvd p p' ss b t) (i : Int) : starR p' (ss.map (movS b t)) i = shR (dlt b t) (starR p ss i) := by
  unfold starR
  rw [h.v, h.v', if_pos rfl, if_pos rfl, h.n]
  by_cases hi : 0 ≤ i ∧ i < p.n
  · rw [if_pos hi, if_pos hi]
    refine mvd_tellK h fun hk d x hx y hy e s => ?_
    rw [mov_get]
    exact mvd_pl h hk hx hy e s (by omega) d
  · rw [if_neg hi, if_neg hi]; rfl
theorem mvd_apart (h : Mvd p p' ss b t) (i j : Int) : apartR p' (ss.map (movS b t)) i j = apartR p ss i j := by
  unfold apartR
  rw [h.v, h.v', if_pos rfl, if_pos rfl, h.n]
  by_cases hi : 0 ≤ i ∧ i < p.n
  · rw [if_pos hi, if_pos hi]
    by_cases hj : 0 ≤ j ∧ j < p.n
    · rw [if_pos hj, if_pos hj]
      unfold tellR
      by_cases hk : knownTo ss p.n = 0
      · have e : ss.map (movS b t) = ss := mov_none (by rw [h.nl]; exact hk) (by have := h.ok.n10; have := h.nl; omega)
        have e2 : trA p' ss = trA p ss := by unfold trA; rw [h.n]; exact tr_same h.lo h.hi h.n ss _
        rw [e, e2]
      · have hp := mvd_pair h hk
        have hf : ∀ d, ∀ x ∈ trA p ss, ∀ y ∈ trA p' (ss.map (movS b t)), y.sc = x.sc → (∀ d, y.lo d = x.lo d + dlt b t d ∧ y.hi d = x.hi d + dlt b t d) → apartF (ss.map (movS b t)) i.toNat j.toNat d y = apartF ss i.toNat j.toNat d x := fun d x hx y hy e s => by
          unfold apartF
          split
          · rfl
          · have a := mvd_pl h hk hx hy e s (i := i.toNat) (by omega) d
            have c := mvd_pl h hk hx hy e s (i := j.toNat) (by omega) d
            unfold apS
            rw [mov_get, mov_get, a.1, a.2, c.1, c.2, mov_bey, mov_bey, e]
            refine Prod.ext ?_ ?_ <;> dsimp only <;> omega
        by_cases hn : trA p ss = []
        · rw [if_pos hn, if_pos ((pair_nil hp).1 hn)]
        · rw [if_neg hn, if_neg (fun hn' => hn ((pair_nil hp).2 hn'))]
          exact along_same (fun d x hx _ => by obtain ⟨y, hy, e, s⟩ := hp.fwd x hx; exact ⟨y, hy, hf d x hx y hy e s⟩)
            (fun d y hy _ => by obtain ⟨x, hx, e, s⟩ := hp.bwd y hy; exact ⟨x, hx, hf d x hx y hy e s⟩)
    · rw [if_neg hj, if_neg hj]
  · rw [if_neg hi, if_neg hi]
theorem mvd_find (h : Mvd p p' ss b t) {e n : Int} (h1 : (skyB e e && skyB n n) = true) (h2 : (skyB (e + b) (e + b) && skyB (n + t) (n + t)) = true) : findR p' (ss.map (movS b t)) (e + b) (n + t) = findR p ss e n := by
  have hz : findR p' (ss.map (movS b t)) (e + b) (n + t) = shR (fun _ => 0) (findR p ss e n) := by
    unfold findR
    rw [h.v, h.v', if_pos rfl, if_pos rfl, h1, h2, if_pos rfl, if_pos rfl]
    refine mvd_tellK h fun hk d x hx y hy e s => ?_
    obtain ⟨s1, s2⟩ := s d
    unfold fiS
    rw [e, s1, s2]
    unfold soughtS dlt St.sky St.on
    cases d
    · simp only [Bool.false_eq_true, if_false]
      rw [show ∀ a b c : Int, a + b - (c + b) = a - c from fun a b c => by omega, show ∀ a b c : Int, a + b - (c + b) = a - c from fun a b c => by omega]
      omega
    · simp only [if_true]
      rw [show ∀ a b c : Int, a + b - (c + b) = a - c from fun a b c => by omega, show ∀ a b c : Int, a + b - (c + b) = a - c from fun a b c => by omega]
      omega
  rw [hz, shR_zero (find_four p ss e n)]
theorem sub_lt {v : Nat} {ss : List St} {n : Nat} (hn : n ≤ 12) (h : Sub v (knownTo ss n)) {i : Nat} (hi : v.testBit i = true) (h12 : i < 12) : i < n ∧ (ss.getD i default).k = true := by
  obtain ⟨a, e, h1, h2⟩ := known_nat ss n hn
  have hp : 2 ^ n ≤ 4096 := (by decide +kernel : ∀ k : Fin 13, 2 ^ k.val ≤ 4096) ⟨n, by omega⟩
  have := h i hi
  rw [e, bit_nat (by omega) h12, h2, Bool.and_eq_true, decide_eq_true_eq] at this
  exact this
theorem mvd_can (h : Mvd p p' ss b t) {v : Nat} (hv : v < 1024) (hs : Sub v (knownTo ss p.n)) : canR p' (ss.map (movS b t)) (v : Int) = canR p ss (v : Int) := by
  have ok := h.ok
  have h12 : p.n ≤ 12 := by have := ok.n10; omega
  have hb : ∀ i, i < p.n → setI (v : Int) i = v.testBit i := fun i hi => bit_nat (by omega) (by omega)
  by_cases hx : ∃ i, i < p.n ∧ setI (v : Int) i = true
  · obtain ⟨i0, hi0, hr0⟩ := hx
    have hk : ∀ i, i < p.n → setI (v : Int) i = true → (ss.getD i default).k = true := fun i hi hr => (sub_lt h12 hs (by rw [← hb i hi]; exact hr) (by omega)).2
    exact can_shift ok.lo ok.hi h.lo h.hi h.n fun sc h1 h2 d c => mvd_corn h hi0 (hk i0 hi0 hr0) hr0 hk h1 h2 d c
  · refine can_shift (δ := fun _ => 0) ok.lo ok.hi h.lo h.hi h.n fun sc h1 h2 d c => ?_
    unfold CornC
    rw [Int.add_zero]
    exact ⟨fun k => ⟨k.1, fun i hi hr => absurd ⟨i, hi, hr⟩ hx⟩, fun k => ⟨k.1, fun i hi hr => absurd ⟨i, hi, hr⟩ hx⟩⟩
theorem known_sub {ss : List St} {n a : Nat} (h12 : n ≤ 12) (e : knownTo ss n = (a : Int)) : Sub a (knownTo ss n) ∧ a < 2 ^ n := by
  obtain ⟨a', e', h1, h2⟩ := known_nat ss n h12
  obtain rfl : a' = a := by omega
  have hp : 2 ^ n ≤ 4096 := (by decide +kernel : ∀ k : Fin 13, 2 ^ k.val ≤ 4096) ⟨n, by omega⟩
  refine ⟨fun i hi => ?_, h1⟩
  have hi2 := hi
  rw [h2, Bool.and_eq_true, decide_eq_true_eq] at hi2
  rw [e, bit_nat (by omega) (by omega)]; exact hi
theorem mvd_clash (h : Mvd p p' ss b t) : clashR p' (ss.map (movS b t)) = clashR p ss := by
  have ok := h.ok
  have h12 : p.n ≤ 12 := by have := ok.n10; omega
  obtain ⟨a, e, _, _⟩ := known_nat ss p.n h12
  obtain ⟨hsub, halt⟩ := known_sub h12 e
  have h10 : 2 ^ p.n ≤ 1024 := (by decide +kernel : ∀ k : Fin 11, 2 ^ k.val ≤ 1024) ⟨p.n, by have := ok.n10; omega⟩
  unfold clashR
  rw [h.v, h.v', if_pos rfl, if_pos rfl, mov_known, h.n]
  have hc := fun v hv hs => mvd_can h (v := v) hv hs
  rw [e] at hc hsub ⊢
  rw [hc a (by omega) hsub, few_same (ask := clashF p ss) (ask' := clashF p' (ss.map (movS b t))) (by omega) fun v hv hs => by unfold clashF; rw [hc v hv hs]]
/-- What is found of a place that is moved: the place is none, or the same is found, or the moved place is none. -/
theorem find_facts (h : Mvd p p' ss b t) (e n : Int) {f0 f1 f2 f3 ef : Int} (hf : repB (findR p ss e n) = .tuple #[.agg #[.int .i64 f0, .int .i64 f1], .agg #[.int .i64 f2, .int .i64 f3], .int .i64 ef]) :
    ef = 2 ∨ ((-1048576 ≤ e ∧ e ≤ 1048576) ∧ (-1048576 ≤ n ∧ n ≤ 1048576) ∧ ∃ a b' c d eg, repB (findR p' (ss.map (movS b t)) (e + b) (n + t)) = .tuple #[.agg #[.int .i64 a, .int .i64 b'], .agg #[.int .i64 c, .int .i64 d], .int .i64 eg] ∧ (eg = 2 ∨ (a = f0 ∧ b' = f1 ∧ c = f2 ∧ d = f3 ∧ eg = ef))) := by
  have hz : ∀ {q : Pl} {xs : List St} {e n : Int}, plB q xs = true → (skyB e e && skyB n n) = false → findR q xs e n = .error 2 := fun hv hs => by unfold findR; rw [if_pos hv, hs]; rfl
  cases h1 : (skyB e e && skyB n n)
  · left
    rw [hz h.v h1] at hf
    have hf : Value.tuple #[.agg #[.int .i64 0, .int .i64 0], .agg #[.int .i64 0, .int .i64 0], .int .i64 2] = _ := hf
    simp at hf
    omega
  · right
    have h1' := h1
    unfold skyB at h1'
    simp only [Bool.and_eq_true, decide_eq_true_eq] at h1'
    refine ⟨by omega, by omega, ?_⟩
    cases h2 : (skyB (e + b) (e + b) && skyB (n + t) (n + t))
    · exact ⟨0, 0, 0, 0, 2, by rw [hz h.v' h2]; rfl, .inl rfl⟩
    · exact ⟨f0, f1, f2, f3, ef, by rw [mvd_find h h1 h2]; exact hf, .inr ⟨rfl, rfl, rfl, rfl, rfl⟩⟩
end
end Go.Proofs.Ytdkegkacpdkjgaa

namespace Go.Proofs.Ytdkegkacpdkjgaa
open Go.RowKit Go.Maps

section
variable {p z : Pl} {ss zs : List St}
/-- The second plate knows more than the first one. -/
structure Inc (p z : Pl) (ss zs : List St) : Prop where
  lo : p.lo ≤ z.lo
  hi : z.hi ≤ p.hi
  n : z.n = p.n
  nl : ss.length = p.n
  nl' : zs.length = p.n
  v : plB p ss = true
  v' : plB z zs = true
  on : ∀ i, i < p.n → ∀ d, ((ss.getD i default).on d).1 ≤ ((zs.getD i default).on d).1 ∧ ((zs.getD i default).on d).2 ≤ ((ss.getD i default).on d).2
  k : ∀ i, i < p.n → (ss.getD i default).k = true → (zs.getD i default).k = true
  sky : ∀ i, i < p.n → (ss.getD i default).k = true → ∀ d, ((ss.getD i default).sky d).1 ≤ ((zs.getD i default).sky d).1 ∧ ((zs.getD i default).sky d).2 ≤ ((ss.getD i default).sky d).2
theorem Inc.ok (h : Inc p z ss zs) : PlOk p ss := plOk' h.nl h.v
theorem Inc.ok' (h : Inc p z ss zs) : PlOk z zs := plOk' (by rw [h.nl', h.n]) h.v'
theorem Inc.h12 (h : Inc p z ss zs) : p.n ≤ 12 := by have := h.ok.n10; omega
theorem inc_bey (h : Inc p z ss zs) {i : Nat} (hi : i < p.n) (d : Bool) {sc : Int} (h0 : 0 ≤ sc) : (beyS sc (ss.getD i default) d).1 ≤ (beyS sc (zs.getD i default) d).1 ∧ (beyS sc (zs.getD i default) d).2 ≤ (beyS sc (ss.getD i default) d).2 := by
  obtain ⟨a, b⟩ := h.on i hi d
  have a' := Int.mul_le_mul_of_nonneg_left a h0
  have b' := Int.mul_le_mul_of_nonneg_left b h0
  unfold beyS
  dsimp only
  omega
theorem inc_said (h : Inc p z ss zs) {i : Nat} (hi : i < p.n) (d : Bool) : (saidS (ss.getD i default) d).1 ≤ (saidS (zs.getD i default) d).1 ∧ (saidS (zs.getD i default) d).2 ≤ (saidS (ss.getD i default) d).2 := by
  have a := said_rng (h.ok'.st i (by rw [h.nl']; exact hi) d)
  have hk := h.k i hi
  have hs := h.sky i hi
  generalize ss.getD i default = s at *
  generalize zs.getD i default = s' at *
  cases hsk : s.k
  · have e : saidS s d = (-67108864, 67108864) := by unfold saidS; rw [hsk]; rfl
    rw [e]; exact ⟨a.1, a.2.2⟩
  · have e : saidS s d = s.sky d := by unfold saidS; rw [hsk]; rfl
    have e' : saidS s' d = s'.sky d := by unfold saidS; rw [hk hsk]; rfl
    rw [e, e']; exact hs hsk d
theorem inc_corn (h : Inc p z ss zs) {S S' : Int} (hS : ∀ i, i < p.n → setI S i = true → setI S' i = true) {sc : Int} (h0 : 0 ≤ sc) {d : Bool} {c : Int} (hc : CornC zs sc (setI S') p.n d c) : CornC ss sc (setI S) p.n d c := by
  refine ⟨hc.1, fun i hi hr => ?_⟩
  have a := hc.2 i hi (hS i hi hr)
  have b := inc_bey h hi d h0
  have e := inc_said h hi d
  unfold cbS at *
  dsimp only at *
  omega
theorem inc_known (h : Inc p z ss zs) {i : Nat} (hi : i < p.n) (hr : setI (knownTo ss p.n) i = true) : setI (knownTo zs z.n) i = true := by
  have h12 := h.h12
  rw [h.n]
  rw [known_bit ss h12 hi] at hr
  rw [known_bit zs h12 hi]; exact h.k i hi hr
theorem inc_tr (h : Inc p z ss zs) {y : Scl} (hy : y ∈ trA z zs) : ∃ x ∈ trA p ss, x.sc = y.sc ∧ ∀ d, (x.lo d ≤ y.lo d ∧ y.hi d ≤ x.hi d) ∧ y.lo d ≤ y.hi d := by
  obtain ⟨⟨h1, h2⟩, h3, h4⟩ := trL_of hy
  have ok := h.ok
  have hlo := h.lo
  have hhi := h.hi
  have k0 := ok.lo
  have k1 := ok.hi
  rw [h.n] at h3 h4
  have hin : ∀ d c, CornC zs y.sc (setI (knownTo zs p.n)) p.n d c → CornC ss y.sc (setI (knownTo ss p.n)) p.n d c := fun d c hc => inc_corn h (fun i hi hr => by have := inc_known h hi hr; rwa [h.n] at this) (by omega) hc
  have hB : corB ss y.sc (setI (knownTo ss p.n)) p.n = true := by
    rw [corB_iff] at h3 ⊢
    intro d
    obtain ⟨c, hc⟩ := h3 d
    exact ⟨c, hin d c hc⟩
  obtain ⟨x, hx, x1, x2⟩ := trL_mk (p := p) (ss := ss) (set := knownTo ss p.n) k0 k1 (sc := y.sc) (by omega) (by omega) hB
  refine ⟨x, hx, x1, fun d => ?_⟩
  have a : y.lo d = (corS zs y.sc (setI (knownTo zs p.n)) d p.n).1 ∧ y.hi d = (corS zs y.sc (setI (knownTo zs p.n)) d p.n).2 := by rw [← h4 d]; exact ⟨rfl, rfl⟩
  have b : x.lo d = (corS ss y.sc (setI (knownTo ss p.n)) d p.n).1 ∧ x.hi d = (corS ss y.sc (setI (knownTo ss p.n)) d p.n).2 := by rw [← x2 d]; exact ⟨rfl, rfl⟩
  have hne := corB_ne h3 d
  have c1 := cor_iff.2 (hin d _ (cor_iff.1 ⟨Int.le_refl _, hne⟩))
  have c2 := cor_iff.2 (hin d _ (cor_iff.1 ⟨hne, Int.le_refl _⟩))
  omega
/-- Where the corner is, is within what each star allows. -/
structure TrOk (p : Pl) (ss : List St) (x : Scl) (d : Bool) : Prop where
  s0 : 1 ≤ x.sc
  s1 : x.sc ≤ 1000
  le : x.lo d ≤ x.hi d
  cb : ∀ i, i < p.n → (ss.getD i default).k = true → (cbS x.sc (ss.getD i default) d).1 ≤ x.lo d ∧ x.hi d ≤ (cbS x.sc (ss.getD i default) d).2
  far : (-1081344 ≤ x.lo d ∧ x.hi d ≤ 1048576) ∨ (x.lo d = -67108864 ∧ x.hi d = 67108864 ∧ ∀ i, i < p.n → (ss.getD i default).k = false)
theorem tr_ok {p : Pl} {ss : List St} (ok : PlOk p ss) {x : Scl} (hx : x ∈ trA p ss) (d : Bool) : TrOk p ss x d := by
  have h12 : p.n ≤ 12 := by have := ok.n10; omega
  have k := trL_ok ok hx
  obtain ⟨⟨h1, h2⟩, h3, h4⟩ := trL_of hx
  have a : x.lo d = (corS ss x.sc (setI (knownTo ss p.n)) d p.n).1 ∧ x.hi d = (corS ss x.sc (setI (knownTo ss p.n)) d p.n).2 := by rw [← h4 d]; exact ⟨rfl, rfl⟩
  have hne := corB_ne h3 d
  have c1 := cor_iff.1 (show _ ∧ _ from ⟨Int.le_refl (corS ss x.sc (setI (knownTo ss p.n)) d p.n).1, hne⟩)
  have c2 := cor_iff.1 (show _ ∧ _ from ⟨hne, Int.le_refl (corS ss x.sc (setI (knownTo ss p.n)) d p.n).2⟩)
  rw [← a.1] at c1
  rw [← a.2] at c2
  refine ⟨k.s0, k.s1, by omega, fun i hi hk => ?_, ?_⟩
  · have hr : setI (knownTo ss p.n) i = true := by rw [known_bit ss h12 hi]; exact hk
    exact ⟨(c1.2 i hi hr).1, (c2.2 i hi hr).2⟩
  · by_cases hk : knownTo ss p.n = 0
    · right
      have hn := (known_none h12).1 hk
      have hc : ∀ c, CornC ss x.sc (setI (knownTo ss p.n)) p.n d c ↔ -67108864 ≤ c ∧ c ≤ 67108864 := fun c =>
        ⟨fun h => h.1, fun h => ⟨h, fun i hi hr => by rw [known_bit ss h12 hi, hn i hi] at hr; cases hr⟩⟩
      have e1 := cor_iff.2 ((hc (-67108864)).2 (by omega))
      have e2 := cor_iff.2 ((hc 67108864).2 (by omega))
      exact ⟨by omega, by omega, hn⟩
    · left
      have := tr_near ok hk hx d
      exact ⟨this.1, this.2.1⟩
/-- A star is somewhere. -/
theorem pl_ne {p : Pl} {ss : List St} (ok : PlOk p ss) {x : Scl} (hx : x ∈ trA p ss) {i : Nat} (hi : i < p.n) (d : Bool) : (plS x.sc (x.lo d) (x.hi d) (ss.getD i default) d).1 ≤ (plS x.sc (x.lo d) (x.hi d) (ss.getD i default) d).2 := by
  have t := tr_ok ok hx d
  have hs := ok.st i (by rw [ok.nl]; exact hi) d
  have s0 := t.s0
  have b := bey_rng hs (sc := x.sc) (by omega) t.s1
  have sd := said_rng hs
  have le := t.le
  have cb := t.cb i hi
  have far := t.far
  unfold plS
  dsimp only
  cases hk : (ss.getD i default).k
  · have e : saidS (ss.getD i default) d = (-67108864, 67108864) := by unfold saidS; rw [hk]; rfl
    rw [e]
    dsimp only
    rcases far with f | f <;> omega
  · have := cb hk
    unfold cbS at this
    dsimp only at this
    omega
/-- Two stars are apart by something. -/
theorem ap_ne {p : Pl} {ss : List St} (ok : PlOk p ss) {x : Scl} (hx : x ∈ trA p ss) {i j : Nat} (hi : i < p.n) (hj : j < p.n) (d : Bool) : (apartF ss i j d x).1 ≤ (apartF ss i j d x).2 := by
  unfold apartF
  split
  · exact Int.le_refl _
  have t := tr_ok ok hx d
  have s0 := t.s0
  have bi := bey_rng (ok.st i (by rw [ok.nl]; exact hi) d) (sc := x.sc) (by omega) t.s1
  have bj := bey_rng (ok.st j (by rw [ok.nl]; exact hj) d) (sc := x.sc) (by omega) t.s1
  have si := said_rng (ok.st i (by rw [ok.nl]; exact hi) d)
  have sj := said_rng (ok.st j (by rw [ok.nl]; exact hj) d)
  have pi := pl_ne ok hx hi d
  have pj := pl_ne ok hx hj d
  have le := t.le
  have hci : (saidS (ss.getD i default) d).1 - (beyS x.sc (ss.getD i default) d).2 ≤ x.lo d ∧ x.hi d ≤ (saidS (ss.getD i default) d).2 - (beyS x.sc (ss.getD i default) d).1 ∨ (saidS (ss.getD i default) d = (-67108864, 67108864)) := by
    cases hk : (ss.getD i default).k
    · right; unfold saidS; rw [hk]; rfl
    · left; have := t.cb i hi hk; unfold cbS at this; exact this
  have hcj : (saidS (ss.getD j default) d).1 - (beyS x.sc (ss.getD j default) d).2 ≤ x.lo d ∧ x.hi d ≤ (saidS (ss.getD j default) d).2 - (beyS x.sc (ss.getD j default) d).1 ∨ (saidS (ss.getD j default) d = (-67108864, 67108864)) := by
    cases hk : (ss.getD j default).k
    · right; unfold saidS; rw [hk]; rfl
    · left; have := t.cb j hj hk; unfold cbS at this; exact this
  have far : (-1081344 ≤ x.lo d ∧ x.hi d ≤ 1048576) ∨ (x.lo d = -67108864 ∧ x.hi d = 67108864) := by
    rcases t.far with f | f
    · exact .inl f
    · exact .inr ⟨f.1, f.2.1⟩
  unfold apS plS at *
  dsimp only at *
  generalize beyS x.sc (ss.getD i default) d = B1 at *
  generalize beyS x.sc (ss.getD j default) d = B2 at *
  generalize saidS (ss.getD i default) d = S1 at *
  generalize saidS (ss.getD j default) d = S2 at *
  obtain ⟨b1, b2⟩ := B1
  obtain ⟨b3, b4⟩ := B2
  obtain ⟨s1, s2⟩ := S1
  obtain ⟨s3, s4⟩ := S2
  simp only [Prod.mk.injEq] at *
  generalize x.lo d = l at *
  generalize x.hi d = m at *
  clear t hx
  rcases far with f | f <;> rcases hci with c | c <;> rcases hcj with e | e <;> omega
theorem inc_pl (h : Inc p z ss zs) {x y : Scl} (e : x.sc = y.sc) (h0 : 0 ≤ y.sc) {d : Bool} (hd : x.lo d ≤ y.lo d ∧ y.hi d ≤ x.hi d) {i : Nat} (hi : i < p.n) :
    (plS x.sc (x.lo d) (x.hi d) (ss.getD i default) d).1 ≤ (plS y.sc (y.lo d) (y.hi d) (zs.getD i default) d).1 ∧ (plS y.sc (y.lo d) (y.hi d) (zs.getD i default) d).2 ≤ (plS x.sc (x.lo d) (x.hi d) (ss.getD i default) d).2 := by
  have b := inc_bey h hi d h0
  have s := inc_said h hi d
  unfold plS
  rw [e]
  dsimp only
  omega
theorem inc_ap (h : Inc p z ss zs) {x y : Scl} (e : x.sc = y.sc) (h0 : 0 ≤ y.sc) {d : Bool} (hd : x.lo d ≤ y.lo d ∧ y.hi d ≤ x.hi d) {i j : Nat} (hi : i < p.n) (hj : j < p.n) : (apartF ss i j d x).1 ≤ (apartF zs i j d y).1 ∧ (apartF zs i j d y).2 ≤ (apartF ss i j d x).2 := by
  unfold apartF
  by_cases hij : i = j
  · rw [if_pos hij, if_pos hij]; exact ⟨Int.le_refl _, Int.le_refl _⟩
  · rw [if_neg hij, if_neg hij]
    have a := inc_pl h e h0 hd hi
    have b := inc_pl h e h0 hd hj
    have c := inc_bey h hi d h0
    have f := inc_bey h hj d h0
    unfold apS
    dsimp only
    rw [e] at *
    omega
/-- An answer, and a narrower one. -/
def Narrow (r r' : Except Int Value) : Prop := ∀ v, r = .ok v → ∃ v', r' = .ok v' ∧ (numB v 0 ≤ numB v' 0 ∧ numB v' 1 ≤ numB v 1) ∧ numB v 2 ≤ numB v' 2 ∧ numB v' 3 ≤ numB v 3
theorem narrow_err (c : Int) (r' : Except Int Value) : Narrow (.error c) r' := fun v h => by cases h
theorem along_narrow {f g : Bool → Scl → Int × Int} {xs ys : List Scl} (hne : ys ≠ []) (hg : ∀ d, ∀ y ∈ ys, (g d y).1 ≤ (g d y).2) (h : ∀ d, ∀ y ∈ ys, ∃ x ∈ xs, (f d x).1 ≤ (g d y).1 ∧ (g d y).2 ≤ (f d x).2) :
    Narrow (alongR (kepL (f false) xs) (kepL (f true) xs)) (alongR (kepL (g false) ys) (kepL (g true) ys)) := by
  have ht : ∀ d, (kepL (g d) ys).2.2 = true := fun d => by
    cases ys with
    | nil => exact absurd rfl hne
    | cons y ys => exact ((kepL_of (g d) (y :: ys)).all y List.mem_cons_self (hg d y List.mem_cons_self)).1
  have k := fun d => kep_in (f := g d) (g := f d) (fun y hy _ => h d y hy) (ht d)
  intro v hv
  unfold alongR at hv ⊢
  rw [if_pos (k false).1, if_pos (k true).1] at hv
  rw [if_pos (ht false), if_pos (ht true)]
  injection hv with hv
  subst hv
  exact ⟨_, rfl, ⟨(k false).2.1, (k false).2.2⟩, (k true).2.1, (k true).2.2⟩
theorem inc_nil (h : Inc p z ss zs) (hz : trA z zs ≠ []) : trA p ss ≠ [] := by
  intro he
  cases hx : trA z zs with
  | nil => exact hz hx
  | cons y ys =>
    obtain ⟨x, hx', _⟩ := inc_tr h (y := y) (by rw [hx]; exact List.mem_cons_self)
    rw [he] at hx'; cases hx'
theorem inc_doubt (h : Inc p z ss zs) (hk : knownTo ss p.n ≠ 0) : knownTo zs z.n ≠ 0 := by
  obtain ⟨i, hi, k⟩ := known_some h.h12 hk
  intro hz
  rw [h.n] at hz
  have := (known_none h.h12).1 hz i hi
  rw [h.k i hi k] at this; cases this
/-- What the scale answers: an error, or a span. -/
theorem scale_cases {p : Pl} {ss : List St} (hv : plB p ss = true) : (trA p ss = [] ∧ scaleR p ss = .error 10) ∨ (trA p ss ≠ [] ∧ ∃ a b, scaleR p ss = .ok (.agg #[.int .i64 a, .int .i64 b]) ∧ (kepL (scaleF false) (trA p ss)) = (a, b, true)) := by
  unfold scaleR
  rw [if_pos hv]
  by_cases hn : trA p ss = []
  · rw [if_pos hn]; exact .inl ⟨hn, rfl⟩
  · rw [if_neg hn]
    right
    refine ⟨hn, ?_⟩
    have ht : (kepL (scaleF false) (trA p ss)).2.2 = true := by
      cases hx : trA p ss with
      | nil => exact absurd hx hn
      | cons y ys => exact ((kepL_of (scaleF false) (y :: ys)).all y List.mem_cons_self (Int.le_refl _)).1
    generalize kepL (scaleF false) (trA p ss) = k at *
    obtain ⟨a, b, t⟩ := k
    dsimp only at ht
    subst ht
    exact ⟨a, b, rfl, rfl⟩
theorem inc_scale (h : Inc p z ss zs) {a b a' b' : Int} (h1 : kepL (scaleF false) (trA p ss) = (a, b, true)) (h2 : kepL (scaleF false) (trA z zs) = (a', b', true)) : a ≤ a' ∧ b' ≤ b := by
  have k := kep_in (f := scaleF false) (g := scaleF false) (xs := trA z zs) (ys := trA p ss) (fun y hy _ => by
    obtain ⟨x, hx, e, _⟩ := inc_tr h hy
    exact ⟨x, hx, by unfold scaleF; rw [e]; exact ⟨Int.le_refl _, Int.le_refl _⟩⟩) (by rw [h2])
  rw [h1, h2] at k
  exact k.2
theorem inc_zero (h : Inc p z ss zs) (hz : trA z zs ≠ []) : Narrow (zeroR p ss) (zeroR z zs) := by
  unfold zeroR tellK
  rw [if_pos h.v, if_pos h.v', if_neg hz, if_neg (inc_nil h hz)]
  by_cases hk : knownTo ss p.n = 0
  · rw [if_pos hk]; exact narrow_err _ _
  · rw [if_neg hk, if_neg (inc_doubt h hk)]
    exact along_narrow (f := fun d x => (x.lo d, x.hi d)) (g := fun d x => (x.lo d, x.hi d)) hz (fun d y hy => (tr_ok h.ok' hy d).le) fun d y hy => by
      obtain ⟨x, hx, _, s⟩ := inc_tr h hy
      exact ⟨x, hx, (s d).1⟩
theorem inc_star (h : Inc p z ss zs) (hz : trA z zs ≠ []) (i : Int) : Narrow (starR p ss i) (starR z zs i) := by
  unfold starR tellK
  rw [if_pos h.v, if_pos h.v', if_neg hz, if_neg (inc_nil h hz), h.n]
  by_cases hi : 0 ≤ i ∧ i < p.n
  · rw [if_pos hi, if_pos hi]
    by_cases hk : knownTo ss p.n = 0
    · rw [if_pos hk]; exact narrow_err _ _
    · have hk' := inc_doubt h hk
      rw [h.n] at hk'
      rw [if_neg hk, if_neg hk']
      exact along_narrow (f := fun d x => plS x.sc (x.lo d) (x.hi d) (ss.getD i.toNat default) d) (g := fun d x => plS x.sc (x.lo d) (x.hi d) (zs.getD i.toNat default) d) hz (fun d y hy => pl_ne h.ok' hy (by rw [h.n]; omega) d) fun d y hy => by
        obtain ⟨x, hx, e, s⟩ := inc_tr h hy
        have := (trL_ok h.ok' hy).s0
        exact ⟨x, hx, inc_pl h e (by omega) (s d).1 (by omega)⟩
  · rw [if_neg hi]; exact narrow_err _ _
theorem inc_apart (h : Inc p z ss zs) (hz : trA z zs ≠ []) (i j : Int) : Narrow (apartR p ss i j) (apartR z zs i j) := by
  unfold apartR tellR
  rw [if_pos h.v, if_pos h.v', if_neg hz, if_neg (inc_nil h hz), h.n]
  by_cases hi : 0 ≤ i ∧ i < p.n
  · rw [if_pos hi, if_pos hi]
    by_cases hj : 0 ≤ j ∧ j < p.n
    · rw [if_pos hj, if_pos hj]
      exact along_narrow (f := apartF ss i.toNat j.toNat) (g := apartF zs i.toNat j.toNat) hz (fun d y hy => ap_ne h.ok' hy (by rw [h.n]; omega) (by rw [h.n]; omega) d) fun d y hy => by
        obtain ⟨x, hx, e, s⟩ := inc_tr h hy
        have := (trL_ok h.ok' hy).s0
        exact ⟨x, hx, inc_ap h e (by omega) (s d).1 (by omega) (by omega)⟩
    · rw [if_neg hj]; exact narrow_err _ _
  · rw [if_neg hi]; exact narrow_err _ _
/-- What Drop answers. -/
structure DrF (p : Pl) (ss : List St) (a u : Nat) : Prop where
  known : knownTo ss p.n = (a : Int)
  a10 : a < 2 ^ p.n ∧ a < 1024
  bit : ∀ i, a.testBit i = (decide (i < p.n) && (ss.getD i default).k)
  drop : dropR p ss = .ok (.int .i64 u)
  lt : u < 1024
  sub : ∀ i, u.testBit i = true → a.testBit i = true
  can : ∃ y : Nat, bits .andNot .i64 (a : Int) (u : Int) = (y : Int) ∧ y < 1024 ∧ (∀ i, y.testBit i = (a.testBit i && !u.testBit i)) ∧ canR p ss (y : Int) = true
  least : ∀ v : Nat, v < 1024 → (∀ i, v.testBit i = true → a.testBit i = true) → dropF p ss (v : Int) = true → popc (u : Int) < popc (v : Int) ∨ (popc (u : Int) = popc (v : Int) ∧ u ≤ v)
theorem can_none {p : Pl} {ss : List St} (ok : PlOk p ss) : canR p ss 0 = true := by
  have lo := ok.lo
  have mid := ok.mid
  refine (canR_iff ok.lo ok.hi).2 ⟨p.lo, ⟨Int.le_refl _, mid⟩, corB_iff.2 fun d => ⟨0, by omega, fun i hi hr => ?_⟩⟩
  have n10 := ok.n10
  have := bit_nat (n := 0) (i := i) (by decide) (by omega)
  rw [Nat.zero_testBit] at this
  rw [show ((0 : Nat) : Int) = 0 from rfl] at this
  rw [this] at hr; cases hr
theorem bit_lt {v i : Nat} (hv : v < 1024) (hi : v.testBit i = true) : i < 10 := by
  rcases Nat.lt_or_ge i 10 with h | h
  · exact h
  · rw [Nat.testBit_lt_two_pow (Nat.lt_of_lt_of_le hv (Nat.pow_le_pow_right (n := 2) (by decide) h))] at hi; cases hi
theorem sub_bits {v a : Nat} (hv : v < 1024) (ha : a < 1024) : Sub v (a : Int) ↔ ∀ i, v.testBit i = true → a.testBit i = true :=
  ⟨fun k i hi => by rw [← bit_nat (by omega) (by have := bit_lt hv hi; omega)]; exact k i hi, fun k i hi => by rw [bit_nat (by omega) (by have := bit_lt hv hi; omega)]; exact k i hi⟩
theorem drop_is {p : Pl} {ss : List St} (hn : ss.length = p.n) (hv : plB p ss = true) : ∃ a u, DrF p ss a u := by
  have ok := plOk' hn hv
  have n10 := ok.n10
  obtain ⟨a, e, a1, a2⟩ := known_nat ss p.n (by omega)
  have hp : 2 ^ p.n ≤ 1024 := (by decide +kernel : ∀ k : Fin 11, 2 ^ k.val ≤ 1024) ⟨p.n, by omega⟩
  have hf : dropF p ss (a : Int) = true := by
    unfold dropF
    rw [e]
    obtain ⟨y, g1, g2, g3⟩ := andNot_nat (a := a) (b := a) (by omega) (by omega)
    have : y = 0 := Nat.eq_of_testBit_eq fun i => by rw [g3, Nat.zero_testBit]; cases a.testBit i <;> rfl
    subst this
    rw [g1]; exact can_none ok
  obtain ⟨u, f1, f2⟩ := few_is (ask := dropF p ss) (all := a) (by omega) ⟨a, by omega, (sub_bits (by omega) (by omega)).2 (fun i h => h), hf⟩
  refine ⟨a, u, e, ⟨a1, by omega⟩, a2, by unfold dropR; rw [if_pos hv, e, f1], f2.lt, (sub_bits f2.lt (by omega)).1 f2.sub, ?_, fun v v1 v2 v3 => f2.least v v1 ((sub_bits v1 (by omega)).2 v2) v3⟩
  obtain ⟨y, g1, g2, g3⟩ := andNot_nat (a := a) (b := u) (by omega) (by have := f2.lt; omega)
  refine ⟨y, g1, by omega, g3, ?_⟩
  have := f2.asks
  unfold dropF at this
  rw [e, g1] at this; exact this
theorem inc_can (h : Inc p z ss zs) {v v' : Nat} (hv : v < 1024) (hv' : v' < 1024) (hs : ∀ i, v.testBit i = true → v'.testBit i = true) (hc : canR z zs (v' : Int) = true) : canR p ss (v : Int) = true := by
  have ok := h.ok
  have ok' := h.ok'
  have n10 := ok.n10
  obtain ⟨sc, h1, h2⟩ := (canR_iff ok'.lo ok'.hi).1 hc
  rw [h.n] at h2
  have a := h.lo
  have b := h.hi
  have c := ok.lo
  refine (canR_iff ok.lo ok.hi).2 ⟨sc, by omega, ?_⟩
  rw [corB_iff] at h2 ⊢
  intro d
  obtain ⟨c, hc⟩ := h2 d
  exact ⟨c, inc_corn h (fun i hi hr => by rw [bit_nat (by omega) (by omega)] at hr ⊢; exact hs i hr) (by omega) hc⟩
theorem inc_drop (h : Inc p z ss zs) {a u a' u' : Nat} (hd : DrF p ss a u) (hd' : DrF z zs a' u') : popc (u : Int) ≤ popc (u' : Int) := by
  have hle : u' &&& a ≤ a := Nat.and_le_right
  have ha := hd.a10.2
  have ha' := hd'.a10.2
  obtain ⟨y', g1', g2', g3', g4'⟩ := hd'.can
  obtain ⟨y, g1, g2, g3⟩ := andNot_nat (a := a) (b := u' &&& a) (by omega) (by omega)
  have hcan : canR p ss (y : Int) = true := inc_can h (v' := y') (by omega) g2' (fun i hi => by
    rw [g3, Nat.testBit_and] at hi
    rw [g3']
    have hai : a.testBit i = true := by cases e : a.testBit i; · rw [e] at hi; simp at hi
                                        · rfl
    rw [hai] at hi
    have hk := hai
    rw [hd.bit, Bool.and_eq_true, decide_eq_true_eq] at hk
    have : a'.testBit i = true := by rw [hd'.bit, h.n, decide_eq_true hk.1, h.k i hk.1 hk.2]; rfl
    rw [this]
    simpa using hi) g4'
  have := hd.least (u' &&& a) (by omega) (fun i hi => by rw [Nat.testBit_and, Bool.and_eq_true] at hi; exact hi.2) (by unfold dropF; rw [hd.known, g1]; exact hcan)
  have hm := popc_mono (x := u') (y := u' &&& a) (by have := hd'.lt; omega) (by omega) (fun i hi => by rw [Nat.testBit_and, Bool.and_eq_true] at hi; exact hi.1)
  omega
end
end Go.Proofs.Ytdkegkacpdkjgaa

namespace Go.Proofs.Ytdkegkacpdkjgaa
open Go.RowKit Go.Maps

theorem partTo_get (ss : List St) (set : Int) : ∀ k i, i < ss.length → (partTo ss set k).getD i default = if i < k then { ss.getD i default with k := bitP set i } else ss.getD i default
  | 0, i, _ => by rw [partTo, if_neg (by omega)]
  | k + 1, i, hi => by
    have ih := partTo_get ss set k i hi
    have hl := partTo_len ss set k
    rw [partTo]
    by_cases he : i = k
    · subst he
      rw [if_neg (by omega)] at ih
      rw [if_pos (by omega), ih]
      simp [List.getD, hl, hi]
    · have : ((partTo ss set k).set k { (partTo ss set k).getD k default with k := bitP set k }).getD i default = (partTo ss set k).getD i default := by
        rw [List.getD_eq_getElem?_getD, List.getElem?_set_ne (by omega), ← List.getD_eq_getElem?_getD]
      rw [this, ih]
      by_cases h : i < k
      · rw [if_pos h, if_pos (by omega)]
      · rw [if_neg h, if_neg (by omega)]
theorem and_one {x : Nat} (h : x < 4096) : bits .and .i64 (x : Int) 1 = ((x % 2 : Nat) : Int) := by
  unfold bits
  dsimp only
  have h1 : (BitVec.ofInt IntKind.i64.bits (1 : Int)).toNat = 1 := bv_nat (n := 1) (by omega)
  rw [BitVec.toNat_and, bv_nat (by omega), h1, Nat.and_one_is_mod, i64_of_nat (by omega)]
theorem bitP_nat {v : Nat} (hv : v < 4096) (i : Nat) : bitP (v : Int) i = v.testBit i := by
  have hle : v / 2 ^ i ≤ v := Nat.div_le_self _ _
  have e : (v : Int) / 2 ^ i = ((v / 2 ^ i : Nat) : Int) := by simp
  unfold bitP
  rw [e, and_one (by omega), Nat.testBit_eq_decide_div_mod_eq]
  by_cases h : v / 2 ^ i % 2 = 1
  · rw [h, decide_eq_true rfl]; rfl
  · rw [decide_eq_false h]; simp; omega
theorem and_nat {a b : Nat} (ha : a < 1000000) (hb : b < 1000000) : bits .and .i64 (a : Int) (b : Int) = ((a &&& b : Nat) : Int) := by
  unfold bits
  dsimp only
  have h : a &&& b ≤ a := Nat.and_le_left
  rw [BitVec.toNat_and, bv_nat (by omega), bv_nat (by omega), i64_of_nat (by omega)]
section
variable {p p' : Pl} {ss : List St}
/-- Of a plate, with the stars of a set alone known, the scale is told if these can be right. -/
theorem part_scale (hnl : ss.length = p.n) (hv : plB p ss = true) (e1 : p'.lo = p.lo) (e2 : p'.hi = p.hi) (e3 : p'.n = p.n) {v a : Nat} (hv1 : v < 1024) (ha : knownTo ss p.n = (a : Int)) (hs : ∀ i, v.testBit i = true → a.testBit i = true) :
    (canR p ss (v : Int) = true ∧ ∃ x y, scaleR p' (partTo ss (v : Int) p.n) = .ok (.agg #[.int .i64 x, .int .i64 y])) ∨ (canR p ss (v : Int) = false ∧ scaleR p' (partTo ss (v : Int) p.n) = .error 10) := by
  have ok := plOk' hnl hv
  have n10 := ok.n10
  obtain ⟨a', f, f1, f2⟩ := known_nat ss p.n (by omega)
  obtain rfl : a = a' := by omega
  have hl : (partTo ss (v : Int) p.n).length = ss.length := partTo_len _ _ _
  have hget : ∀ i, i < p.n → (partTo ss (v : Int) p.n).getD i default = { ss.getD i default with k := v.testBit i } := fun i hi => by
    rw [partTo_get ss (v : Int) p.n i (by omega), if_pos hi, bitP_nat (by omega)]
  have hk : ∀ i, i < p.n → v.testBit i = true → (ss.getD i default).k = true := fun i hi h => by
    have := hs i h
    rw [f2, Bool.and_eq_true] at this
    exact this.2
  have hsame : ∀ i, i < p.n → v.testBit i = true → (partTo ss (v : Int) p.n).getD i default = ss.getD i default := fun i hi h => by
    rw [hget i hi, h]
    have := hk i hi h
    generalize ss.getD i default = s at *
    cases s; simp at this; rw [this]
  have hst : ∀ i, i < p.n → stB (ss.getD i default) = true := fun i hi => by
    have h := hv
    unfold plB at h
    simp only [Bool.and_eq_true, List.all_eq_true] at h
    have e : ss.getD i default = ss[i]'(by omega) := by simp [List.getD, show i < ss.length by omega]
    rw [e]; exact h.2 _ (List.getElem_mem _)
  have hvp : plB p' (partTo ss (v : Int) p.n) = true := by
    have h := hv
    unfold plB at h ⊢
    rw [e1, e2, e3]
    simp only [Bool.and_eq_true, List.all_eq_true] at h ⊢
    refine ⟨h.1, fun s hsm => ?_⟩
    obtain ⟨i, hi, e⟩ := List.getElem_of_mem hsm
    have hi' : i < p.n := by omega
    have e' : (partTo ss (v : Int) p.n).getD i default = s := by simp [List.getD, hi, e]
    rw [← e']
    by_cases hb : v.testBit i = true
    · rw [hsame i hi' hb]; exact hst i hi'
    · rw [hget i hi', Bool.eq_false_iff.2 hb]
      have := hst i hi'
      unfold stB at this ⊢
      simp only [Bool.and_eq_true] at this ⊢
      exact ⟨this.1, by simp⟩
  obtain ⟨v', g, g1, g2⟩ := known_nat (partTo ss (v : Int) p.n) p.n (by omega)
  have hp : 2 ^ p.n ≤ 1024 := (by decide +kernel : ∀ k : Fin 11, 2 ^ k.val ≤ 1024) ⟨p.n, by omega⟩
  have hbit : ∀ i, i < p.n → v'.testBit i = v.testBit i := fun i hi => by rw [g2, decide_eq_true hi, hget i hi]; simp
  have hpair : Pair (fun _ => 0) (trL p ss (v : Int)) (trA p' (partTo ss (v : Int) p.n)) := by
    unfold trA
    rw [e3, g]
    refine pair_of ok.lo ok.hi e1 e2 e3 fun sc h1 h2 d c => ?_
    unfold CornC
    rw [Int.add_zero]
    constructor
    · refine fun k => ⟨k.1, fun i hi hr => ?_⟩
      rw [bit_nat (by omega) (by omega), hbit i hi] at hr
      rw [hsame i hi hr]
      exact k.2 i hi (by rw [bit_nat (by omega) (by omega)]; exact hr)
    · refine fun k => ⟨k.1, fun i hi hr => ?_⟩
      rw [bit_nat (by omega) (by omega)] at hr
      have := k.2 i hi (by rw [bit_nat (by omega) (by omega), hbit i hi]; exact hr)
      rwa [hsame i hi hr] at this
  have hn := pair_nil hpair
  rcases scale_cases hvp with ⟨h1, h2⟩ | ⟨h1, x, y, h2, _⟩
  · exact .inr ⟨by rw [← tr_nil]; exact hn.2 h1, h2⟩
  · refine .inl ⟨?_, x, y, h2⟩
    cases hc : canR p ss (v : Int)
    · exact absurd (hn.1 (tr_nil.2 hc)) h1
    · rfl
/-- Some of the stars that can be right can. -/
theorem can_sub (hnl : ss.length = p.n) (hv : plB p ss = true) {v v' : Nat} (h1 : v < 1024) (h2 : v' < 1024) (hs : ∀ i, v.testBit i = true → v'.testBit i = true) (hc : canR p ss (v' : Int) = true) : canR p ss (v : Int) = true :=
  inc_can (p := p) (z := p) (ss := ss) (zs := ss) ⟨Int.le_refl _, Int.le_refl _, rfl, hnl, hnl, hv, hv, fun _ _ _ => ⟨Int.le_refl _, Int.le_refl _⟩, fun _ _ h => h, fun _ _ _ _ => ⟨Int.le_refl _, Int.le_refl _⟩⟩ h1 h2 hs hc
structure ClF (p : Pl) (ss : List St) (b : Int) (C D a o : Nat) : Prop where
  clash : clashR p ss = .ok (.int .i64 C)
  drop : dropR p ss = .ok (.int .i64 D)
  known : knownTo ss p.n = (a : Int)
  lt : C < 1024 ∧ D < 1024 ∧ a < 1024 ∧ o < 1024
  csub : ∀ i, C.testBit i = true → a.testBit i = true
  c0 : bits .andNot .i64 (C : Int) (a : Int) = 0
  d0 : bits .andNot .i64 (D : Int) (a : Int) = 0
  sc : (C = 0 ∧ D = 0 ∧ ∃ x y, scaleR p ss = .ok (.agg #[.int .i64 x, .int .i64 y])) ∨ (C ≠ 0 ∧ D ≠ 0 ∧ scaleR p ss = .error 10 ∧ bits .and .i64 (C : Int) (D : Int) ≠ 0 ∧ canR p ss (C : Int) = false)
  one : ∀ i, i < p.n → bitP (C : Int) i = true → ∃ y : Nat, bits .andNot .i64 (C : Int) (wrap64 (2 ^ i)) = (y : Int) ∧ y < 1024 ∧ (∀ j, y.testBit j = true → a.testBit j = true) ∧ canR p ss (y : Int) = true
  ad : ∃ y : Nat, bits .andNot .i64 (a : Int) (D : Int) = (y : Int) ∧ y < 1024 ∧ (∀ j, y.testBit j = true → a.testBit j = true) ∧ canR p ss (y : Int) = true
  own : bits .and .i64 b (a : Int) = (o : Int)
  osub : ∀ i, o.testBit i = true → a.testBit i = true
  ao : ∃ y : Nat, bits .andNot .i64 (a : Int) (o : Int) = (y : Int) ∧ y < 1024 ∧ (∀ j, y.testBit j = true → a.testBit j = true) ∧ (canR p ss (y : Int) = true → popc (D : Int) < popc (o : Int) ∨ (popc (D : Int) = popc (o : Int) ∧ D ≤ o))
  oo : canR p ss (o : Int) = false → C ≠ 0 ∧ (popc (C : Int) < popc (o : Int) ∨ (popc (C : Int) = popc (o : Int) ∧ C ≤ o))
theorem andNot_sub {C a : Nat} (hC : C < 1024) (ha : a < 1024) (h : ∀ i, C.testBit i = true → a.testBit i = true) : bits .andNot .i64 (C : Int) (a : Int) = 0 := by
  obtain ⟨y, e, _, h2⟩ := andNot_nat (a := C) (b := a) (by omega) (by omega)
  have : y = 0 := Nat.eq_of_testBit_eq fun i => by
    rw [h2, Nat.zero_testBit]
    cases hc : C.testBit i
    · rfl
    · rw [h i hc]; rfl
  rw [e, this]; rfl
theorem clash_facts (hnl : ss.length = p.n) (hv : plB p ss = true) {b : Int} (hb : 0 ≤ b ∧ b ≤ 65535) : ∃ C D a o, ClF p ss b C D a o := by
  have ok := plOk' hnl hv
  have n10 := ok.n10
  obtain ⟨a, D, hd⟩ := drop_is hnl hv
  have ha := hd.a10.2
  have hDl := hd.lt
  obtain ⟨bn, rfl⟩ : ∃ bn : Nat, b = (bn : Int) := ⟨b.toNat, by omega⟩
  have hole : bn &&& a ≤ a := Nat.and_le_right
  have hos : ∀ i, (bn &&& a).testBit i = true → a.testBit i = true := fun i hi => by rw [Nat.testBit_and, Bool.and_eq_true] at hi; exact hi.2
  obtain ⟨yd, d1, d2, d3, d4⟩ := hd.can
  obtain ⟨yo, o1, o2, o3⟩ := andNot_nat (a := a) (b := bn &&& a) (by omega) (by omega)
  have had : ∃ y : Nat, bits .andNot .i64 (a : Int) (D : Int) = (y : Int) ∧ y < 1024 ∧ (∀ j, y.testBit j = true → a.testBit j = true) ∧ canR p ss (y : Int) = true :=
    ⟨yd, d1, d2, fun j hj => by rw [d3, Bool.and_eq_true] at hj; exact hj.1, d4⟩
  have hao : ∃ y : Nat, bits .andNot .i64 (a : Int) ((bn &&& a : Nat) : Int) = (y : Int) ∧ y < 1024 ∧ (∀ j, y.testBit j = true → a.testBit j = true) ∧ (canR p ss (y : Int) = true → popc (D : Int) < popc ((bn &&& a : Nat) : Int) ∨ (popc (D : Int) = popc ((bn &&& a : Nat) : Int) ∧ D ≤ bn &&& a)) :=
    ⟨yo, o1, by omega, fun j hj => by rw [o3, Bool.and_eq_true] at hj; exact hj.1, fun hc => hd.least (bn &&& a) (by omega) hos (by unfold dropF; rw [hd.known, o1]; exact hc)⟩
  have hown : bits .and .i64 (bn : Int) (a : Int) = ((bn &&& a : Nat) : Int) := and_nat (by omega) (by omega)
  have hd0 := andNot_sub hDl ha hd.sub
  cases hca : canR p ss (a : Int) with
  | true =>
    have hD0 : D = 0 := by
      have h := hd.least 0 (by decide) (fun i h => (by rw [Nat.zero_testBit] at h; cases h)) (by
        unfold dropF
        rw [hd.known]
        obtain ⟨y, g1, g2, g3⟩ := andNot_nat (a := a) (b := 0) (by omega) (by decide)
        have : y = a := Nat.eq_of_testBit_eq fun i => by rw [g3, Nat.zero_testBit]; simp
        rw [g1, this]; exact hca)
      have hp := popc_le 10 D (by decide) (by omega)
      rw [show popc ((0 : Nat) : Int) = 0 from popc_zero] at h
      omega
    subst hD0
    have hsc : ∃ x y, scaleR p ss = .ok (.agg #[.int .i64 x, .int .i64 y]) := by
      rcases scale_cases hv with ⟨h1, _⟩ | ⟨_, x, y, h2, _⟩
      · unfold trA at h1
        rw [hd.known, tr_nil, hca] at h1; cases h1
      · exact ⟨x, y, h2⟩
    refine ⟨0, 0, a, bn &&& a, by unfold clashR; rw [if_pos hv, hd.known, hca]; rfl, hd.drop, hd.known, ⟨by decide, by decide, ha, by omega⟩, fun i h => (by rw [Nat.zero_testBit] at h; cases h), andNot_sub (by decide) ha (fun i h => (by rw [Nat.zero_testBit] at h; cases h)), hd0, .inl ⟨rfl, rfl, hsc⟩, fun i hi h => ?_, had, hown, hos, hao, fun hc => ?_⟩
    · rw [bitP_nat (by decide), Nat.zero_testBit] at h; cases h
    · rw [can_sub hnl hv (by omega) (by omega) hos hca] at hc; cases hc
  | false =>
    obtain ⟨C, c1, c2⟩ := few_is (ask := clashF p ss) (all := a) (by omega) ⟨a, ha, (sub_bits ha ha).2 (fun i h => h), by unfold clashF; rw [hca]; rfl⟩
    have hCl := c2.lt
    have hCs := (sub_bits hCl ha).1 c2.sub
    have hCc : canR p ss (C : Int) = false := by have := c2.asks; unfold clashF at this; simpa using this
    have hC0 : C ≠ 0 := fun h => by
      subst h
      rw [show ((0 : Nat) : Int) = 0 from rfl, can_none ok] at hCc; cases hCc
    have hcd : ∃ i, C.testBit i = true ∧ D.testBit i = true := by
      by_cases hx : ∃ i, C.testBit i = true ∧ D.testBit i = true
      · exact hx
      · have := can_sub hnl hv hCl d2 (fun i hi => by
          rw [d3, hCs i hi]
          cases hDi : D.testBit i
          · rfl
          · exact absurd ⟨i, hi, hDi⟩ hx) d4
        rw [hCc] at this; cases this
    obtain ⟨i0, hi1, hi2⟩ := hcd
    have hD0 : D ≠ 0 := fun h => by subst h; rw [Nat.zero_testBit] at hi2; cases hi2
    have hsc : scaleR p ss = .error 10 := by
      rcases scale_cases hv with ⟨_, h2⟩ | ⟨h1, _⟩
      · exact h2
      · unfold trA at h1
        rw [hd.known, Ne, tr_nil, hca] at h1; exact absurd rfl h1
    refine ⟨C, D, a, bn &&& a, by unfold clashR; rw [if_pos hv, hd.known, hca, c1]; rfl, hd.drop, hd.known, ⟨hCl, hDl, ha, by omega⟩, hCs, andNot_sub hCl ha hCs, hd0, .inr ⟨hC0, hD0, hsc, ?_, hCc⟩, fun i hi h => ?_, had, hown, hos, hao, fun hc => ?_⟩
    · rw [and_nat (by omega) (by omega)]
      intro h
      have hz : C &&& D = 0 := by omega
      have hb := Nat.testBit_and C D i0
      rw [hz, Nat.zero_testBit, hi1, hi2] at hb
      cases hb
    · rw [bitP_nat (by omega)] at h
      have hpw : wrap64 (2 ^ i) = ((2 ^ i : Nat) : Int) := (by decide +kernel : ∀ k : Fin 12, wrap64 (2 ^ k.val) = ((2 ^ k.val : Nat) : Int)) ⟨i, by omega⟩
      have hp2 : 2 ^ i < 4096 := (by decide +kernel : ∀ k : Fin 12, 2 ^ k.val < 4096) ⟨i, by omega⟩
      obtain ⟨y, g1, g2, g3⟩ := andNot_nat (a := C) (b := 2 ^ i) (by omega) (by omega)
      have hyC : ∀ j, y.testBit j = true → C.testBit j = true := fun j hj => by rw [g3, Bool.and_eq_true] at hj; exact hj.1
      refine ⟨y, by rw [hpw, g1], by omega, fun j hj => hCs j (hyC j hj), ?_⟩
      cases hy : canR p ss (y : Int)
      · have hl := c2.least y (by omega) ((sub_bits (by omega) ha).2 (fun j hj => hCs j (hyC j hj))) (by unfold clashF; rw [hy]; rfl)
        have hlt := popc_lt (x := C) (y := y) (by omega) (by omega) hyC (i := i) (by omega) h (by rw [g3, Nat.testBit_two_pow, decide_eq_true rfl]; simp)
        omega
      · rfl
    · exact ⟨hC0, c2.least _ (by omega) ((sub_bits (by omega) ha).2 hos) (by unfold clashF; rw [hc]; rfl)⟩
end
end Go.Proofs.Ytdkegkacpdkjgaa

namespace Go.Proofs.Ytdkegkacpdkjgaa
open Go.RowKit Go.Maps

/-- Two plates in variables. -/
structure Mv2 (Y : World) (B G : Nat) (p px : Pl) (ss xs : List St) : Prop where
  bp : BoxP Y B p
  bx : BoxP Y G px
  mp : PlAt p ss Y
  mx : PlAt px xs Y
theorem Mv2.grown {Y Y' : World} {B G : Nat} {p px : Pl} {ss xs : List St} (h : Mv2 Y B G p px ss xs) (hb : Below Y.heap.size Y Y') : Mv2 Y' B G p px ss xs :=
  ⟨h.bp.grown hb, h.bx.grown hb, h.mp.below hb (Nat.le_refl _), h.mx.below hb (Nat.le_refl _)⟩
theorem BoxP.under {X X' : World} {B M : Nat} {p : Pl} (k : BoxP X B p) (hb : Below M X X') (hB : B < M) : BoxP X' B p :=
  ⟨(hb.cell (p := ⟨B, 0, none⟩) hB).trans k.c0, (hb.cell (p := ⟨B, 1, none⟩) hB).trans k.c1, (hb.cell (p := ⟨B, 2, none⟩) hB).trans k.c2⟩
theorem Worst.put {X : World} {P B : Nat} {s x : Int} (h : Worst X P s x) (hn : P ≠ B) (o : Nat) (v : Value) : Worst (X.setCell ⟨B, o, none⟩ v) P s x := by
  obtain ⟨c0, c1, f0, f1⟩ := h
  have e : ∀ k, (⟨B, o, none⟩ : Addr) ≠ ⟨P, k, none⟩ := fun k he => by injection he with h1; exact hn h1.symm
  exact ⟨by rw [World.cell?_setCell_other _ _ _ _ (e 0)]; exact c0, by rw [World.cell?_setCell_other _ _ _ _ (e 1)]; exact c1, by simpa using f0, by simpa using f1⟩
/-- Two spans are stored. -/
theorem set_two {X : World} {C D : Nat} {a b c d : Int} (hC : Worst X C a b) (hD : Worst X D c d) (hne : C ≠ D) (a' b' c' d' : Int) {Z : World}
    (hZ : (((X.setCell ⟨C, 0, none⟩ (.int .i64 a')).setCell ⟨C, 1, none⟩ (.int .i64 b')).setCell ⟨D, 0, none⟩ (.int .i64 c')).setCell ⟨D, 1, none⟩ (.int .i64 d') = Z) :
    Worst Z C a' b' ∧ Worst Z D c' d' ∧ (∀ P s x, Worst X P s x → P ≠ C → P ≠ D → Worst Z P s x) ∧ (∀ (M : Nat) (X0 : World), M ≤ C → M ≤ D → Below M X0 X → Below M X0 Z) := by
  subst hZ
  refine ⟨((hC.set a' b').put hne 0 _).put hne 1 _, (((hD.put hne.symm 0 _).put hne.symm 1 _)).set c' d', fun P s x h h1 h2 => (((h.put h1 0 _).put h1 1 _).put h2 0 _).put h2 1 _, fun M X0 h1 h2 h => ?_⟩
  exact (((h.setCell (p := ⟨C, 0, none⟩) h1 _).setCell (p := ⟨C, 1, none⟩) h1 _).setCell (p := ⟨D, 0, none⟩) h2 _).setCell (p := ⟨D, 1, none⟩) h2 _
/-- Where something lies that a walk asks for. -/
theorem Worst.cells {X : World} {P : Nat} {s x : Int} (h : Worst X P s x) : X.cell? ⟨P, 0, none⟩ = some (.int .i64 s) ∧ X.cell? ⟨P, 1, none⟩ = some (.int .i64 x) := ⟨h.c0, h.c1⟩
end Go.Proofs.Ytdkegkacpdkjgaa

namespace Go.Proofs.Ytdkegkacpdkjgaa
open Go.RowKit Go.Maps

theorem repS_ok (a b : Int) : repS (.ok (.agg #[.int .i64 a, .int .i64 b])) = .tuple #[.agg #[.int .i64 a, .int .i64 b], .int .i64 0] := rfl
theorem repS_err (c : Int) : repS (.error c) = .tuple #[.agg #[.int .i64 0, .int .i64 0], .int .i64 c] := rfl
set_option maxRecDepth 100000 in
set_option maxHeartbeats 4000000 in
theorem clashCan_any (B : Nat) (p : Pl) (ss : List St) (v a : Nat) (Y : World) (hb : BoxP Y B p) (hm : PlAt p ss Y) (hv : plB p ss = true) (hv1 : v < 1024) (ha : knownTo ss p.n = (a : Int)) (hs : ∀ i, v.testBit i = true → a.testBit i = true) :
    Calls Try.prog 28 #[.int .i64 (v : Int), .pointer (some ⟨B, 0, none⟩)] Y (Ret (.bool (canR p ss (v : Int))) Y) := by
  have hok := plOk hm hv
  have hn10 := hok.n10
  have hPT := Lib.hid (part_any p ss (v : Int) Y hm (by omega))
  have hPS := Lib.hid (fun p' e1 e2 e3 => part_scale (p := p) (p' := p') (ss := ss) hm.nl hv e1 e2 e3 hv1 ha hs)
  unfold Pl.val at hPT
  generalize (v : Int) = vi at *
  clear hs ha hv1
  obtain ⟨b0, b1, b2⟩ := hb
  go_enter Try.func28, Try.ntmps28
  go_wp2_with fail
  clear b0 b1 b2
  refine hPT.out.mono ?_
  rintro e Y1 ⟨sa, cap, rfl, hp1, hB⟩
  have hsc := scale_any ⟨p.lo, p.hi, sa, p.n, cap⟩ (partTo ss vi p.n) Y1 hp1
  have hps := hPS.out ⟨p.lo, p.hi, sa, p.n, cap⟩ rfl rfl rfl
  clear hPT hPS hp1
  go_wp2_with fail
  rcases hps with ⟨hc, x, y, he⟩ | ⟨hc, he⟩
  · rw [he, repS_ok] at hsc
    refine hsc.mono ?_
    rintro e Y2 ⟨rfl, hx⟩
    have hB := BT hB hx
    clear hsc hx
    go_wp2_with fail
    go_ret
    exact ⟨by rw [hc]; rfl, (by (repeat (first | assumption | exact Below.refl _ _ | refine BA ?_ _ | refine BC ?_ _ _ (by first | omega | (simp; done) | (simp; omega)) _ | refine Below.drew ?_ | refine BT ?_ (by assumption))))⟩
  · rw [he, repS_err] at hsc
    refine hsc.mono ?_
    rintro e Y2 ⟨rfl, hx⟩
    have hB := BT hB hx
    clear hsc hx
    go_wp2_with fail
    go_ret
    exact ⟨by rw [hc]; rfl, (by (repeat (first | assumption | exact Below.refl _ _ | refine BA ?_ _ | refine BC ?_ _ _ (by first | omega | (simp; done) | (simp; omega)) _ | refine Below.drew ?_ | refine BT ?_ (by assumption))))⟩
set_option maxRecDepth 100000 in
set_option maxHeartbeats 16000000 in
theorem clash_walk (p : Pl) (ss : List St) (bt : Int) (w : World) (hnl : ss.length = p.n) (hst : StarsIn w p.a ss) (hbt : 0 ≤ bt ∧ bt ≤ 65535) :
    Calls Try.prog 6 #[p.val, .int .u16 bt] w (Ret (.bool true) w) := by
  unfold Pl.val
  obtain ⟨W0, hW0⟩ : ∃ X, w.alloc (.cells #[.int .i64 p.lo, .int .i64 p.hi, .slice p.a p.n p.cap] 29) = X := ⟨_, rfl⟩
  have hBw : Below w.heap.size w W0 := by rw [← hW0]; exact newB _ _
  have hQ : BoxP W0 w.heap.size p := by rw [← hW0]; exact boxP_new w p _
  have hS := hst.below hBw
  clear hst
  go_enter Try.func6, Try.ntmps6
  by_cases h30 : 30 < (p.n : Int)
  · obtain ⟨c0, c1, c2⟩ := id hQ
    clear hS hnl
    go_wp2_with fail
    clear hW0
    refine (alive_any _).mono ?_
    rintro e wz ⟨rfl, hz⟩
    have hB := BT hBw hz
    go_wp2
    go_ret
    exact ⟨rfl, hB⟩
  have hm : PlAt p ss W0 := ⟨hnl, by omega, hS⟩
  have HT : Hid (BoxP W0 w.heap.size p ∧ PlAt p ss W0) := ⟨hQ, hm⟩
  have hB : Below W0.heap.size W0 W0 := Below.refl _ _
  clear hQ hm hS
  have HPL : Hid (∀ Y, Below W0.heap.size W0 Y → Calls Try.prog 25 #[.agg #[.int .i64 p.lo, .int .i64 p.hi, .slice p.a p.n p.cap]] Y (Ret (.bool (plB p ss)) Y)) := fun Y hY => by
    have h0 := plateR_any p ss Y (HT.out.2.below hY (Nat.le_refl _))
    exact h0
  cases hv : plB p ss
  · skip
    have hc : clashR p ss = .error 1 := by unfold clashR; rw [hv]; rfl
    have hd : dropR p ss = .error 1 := by unfold dropR; rw [hv]; rfl
    have hs : scaleR p ss = .error 1 := by unfold scaleR; rw [hv]; rfl
    rw [hv] at HPL
    have HC : Hid (∀ Y, Below W0.heap.size W0 Y → Calls Try.prog 12 #[.agg #[.int .i64 p.lo, .int .i64 p.hi, .slice p.a p.n p.cap]] Y (Ret (.tuple #[.int .i64 0, .int .i64 1]) Y)) := fun Y hY => by
      have h0 := clash_any p ss Y (HT.out.2.below hY (Nat.le_refl _))
      rw [hc] at h0
      exact h0
    have HD : Hid (∀ Y, Below W0.heap.size W0 Y → Calls Try.prog 13 #[.agg #[.int .i64 p.lo, .int .i64 p.hi, .slice p.a p.n p.cap]] Y (Ret (.tuple #[.int .i64 0, .int .i64 1]) Y)) := fun Y hY => by
      have h0 := drop_any p ss Y (HT.out.2.below hY (Nat.le_refl _))
      rw [hd] at h0
      exact h0
    have HS : Hid (∀ Y, Below W0.heap.size W0 Y → Calls Try.prog 14 #[.agg #[.int .i64 p.lo, .int .i64 p.hi, .slice p.a p.n p.cap]] Y (Ret (.tuple #[.agg #[.int .i64 0, .int .i64 0], .int .i64 1]) Y)) := fun Y hY => by
      have h0 := scale_any p ss Y (HT.out.2.below hY (Nat.le_refl _))
      rw [hs] at h0
      exact h0
    clear hc hd hs
    obtain ⟨p0, p1, p2⟩ := HT.out.1.grown hB
    go_wp2_with fail
    clear hW0
    clear p0 p1 p2
    refine (HC.out W0 hB).mono ?_
    rintro e Y1 ⟨rfl, hx⟩
    replace hB := BT hB hx
    clear hx
    obtain ⟨p0, p1, p2⟩ := HT.out.1.grown hB
    go_wp2_with fail
    clear p0 p1 p2
    refine (HD.out Y1 hB).mono ?_
    rintro e Y2 ⟨rfl, hx⟩
    replace hB := BT hB hx
    clear hx
    obtain ⟨p0, p1, p2⟩ := HT.out.1.grown hB
    go_wp2_with fail
    clear p0 p1 p2
    refine (HS.out Y2 hB).mono ?_
    rintro e Y3 ⟨rfl, hx⟩
    replace hB := BT hB hx
    clear hx
    have hG := newB Y3 (.cells #[.int .i64 0, .int .i64 0] 23)
    obtain ⟨p0, p1, p2⟩ := HT.out.1.grown (BT hB hG)
    have hB1 := BT hB hG
    clear hB
    have hB := hB1
    clear hB1

    go_wp2_with fail
    generalize Y3.alloc (.cells #[.int .i64 0, .int .i64 0] 23) = Q0 at *
    clear hG
    clear p0 p1 p2
    refine (HPL.out Q0 hB).mono ?_
    rintro e Y4 ⟨rfl, hx⟩
    replace hB := BT hB hx
    clear hx
    go_wp2_with fail
    refine (alive_any _).mono ?_
    rintro e wz ⟨rfl, hz⟩
    have hB := BT hB hz
    go_wp2_with fail
    go_ret
    exact ⟨rfl, hBw.trans (hB.mono hBw.size)⟩
  have hok := plOk HT.out.2 hv
  have hn10 := hok.n10
  obtain ⟨C, D, a, o, hF⟩ := clash_facts hnl hv hbt
  rw [hv] at HPL
  have HCAN : Hid (∀ (v : Nat) Y, v < 1024 → (∀ i, v.testBit i = true → a.testBit i = true) → Below W0.heap.size W0 Y → Calls Try.prog 28 #[.int .i64 (v : Int), .pointer (some ⟨w.heap.size, 0, none⟩)] Y (Ret (.bool (canR p ss (v : Int))) Y)) := fun v Y h1 h2 hY => clashCan_any w.heap.size p ss v a Y (HT.out.1.grown hY) (HT.out.2.below hY (Nat.le_refl _)) hv h1 hF.known h2
  have hHV := Lib.hid hv
  clear hv hok
  have HC : Hid (∀ Y, Below W0.heap.size W0 Y → Calls Try.prog 12 #[.agg #[.int .i64 p.lo, .int .i64 p.hi, .slice p.a p.n p.cap]] Y (Ret (.tuple #[.int .i64 (C : Int), .int .i64 0]) Y)) := fun Y hY => by
    have h0 := clash_any p ss Y (HT.out.2.below hY (Nat.le_refl _))
    rw [hF.clash] at h0
    exact h0
  have HD : Hid (∀ Y, Below W0.heap.size W0 Y → Calls Try.prog 13 #[.agg #[.int .i64 p.lo, .int .i64 p.hi, .slice p.a p.n p.cap]] Y (Ret (.tuple #[.int .i64 (D : Int), .int .i64 0]) Y)) := fun Y hY => by
    have h0 := drop_any p ss Y (HT.out.2.below hY (Nat.le_refl _))
    rw [hF.drop] at h0
    exact h0
  have HK : Hid (∀ Y, Below W0.heap.size W0 Y → Calls Try.prog 22 #[.agg #[.int .i64 p.lo, .int .i64 p.hi, .slice p.a p.n p.cap]] Y (Ret (.int .i64 (a : Int)) Y)) := fun Y hY => by
    have h0 := knownR_any p ss Y (HT.out.2.below hY (Nat.le_refl _)) (by omega)
    rw [hF.known] at h0
    exact h0
  have HSZ : Hid (∀ (v : Nat) Y, v < 1024 → Calls Try.prog 30 #[.int .i64 (v : Int)] Y (Ret (.int .i64 (popc (v : Int))) Y)) := fun v Y h => sizeR_any _ (by omega) Y
  obtain ⟨⟨lC, lD, la, lo⟩, hCs, c0, d0, hsc, hone, had, hown, hos, hao, hoo⟩ : (C < 1024 ∧ D < 1024 ∧ a < 1024 ∧ o < 1024) ∧ (∀ i, C.testBit i = true → a.testBit i = true) ∧ _ ∧ _ ∧ _ ∧ _ ∧ _ ∧ _ ∧ _ ∧ _ ∧ _ := ⟨hF.lt, hF.csub, hF.c0, hF.d0, hF.sc, hF.one, hF.ad, hF.own, hF.osub, hF.ao, hF.oo⟩
  have Hone := Lib.hid hone
  have Had := Lib.hid had
  have Hao := Lib.hid hao
  have Hoo := Lib.hid hoo
  have Hown := Lib.hid hown
  clear hone had hao hoo hown hF
  have C0 : (0 : Int) ≤ (C : Int) := by omega
  have D0 : (0 : Int) ≤ (D : Int) := by omega
  obtain ⟨p0, p1, p2⟩ := HT.out.1.grown hB
  go_wp2_with fail
  clear hW0
  clear p0 p1 p2
  refine (HC.out W0 hB).mono ?_
  rintro e Y1 ⟨rfl, hx⟩
  replace hB := BT hB hx
  clear hx
  obtain ⟨p0, p1, p2⟩ := HT.out.1.grown hB
  go_wp2_with fail
  clear p0 p1 p2
  refine (HD.out Y1 hB).mono ?_
  rintro e Y2 ⟨rfl, hx⟩
  replace hB := BT hB hx
  clear hx
  obtain ⟨p0, p1, p2⟩ := HT.out.1.grown hB
  go_wp2_with fail
  rcases hsc with ⟨hC, hD, s0, s1, hse⟩ | ⟨hC, hD, hse, hcd, hcn⟩
  · skip
    have HS : Hid (∀ Y, Below W0.heap.size W0 Y → Calls Try.prog 14 #[.agg #[.int .i64 p.lo, .int .i64 p.hi, .slice p.a p.n p.cap]] Y (Ret (.tuple #[.agg #[.int .i64 s0, .int .i64 s1], .int .i64 0]) Y)) := fun Y hY => by
      have h0 := scale_any p ss Y (HT.out.2.below hY (Nat.le_refl _))
      rw [hse] at h0
      exact h0
    clear hse
    clear p0 p1 p2
    refine (HS.out Y2 hB).mono ?_
    rintro e Y3 ⟨rfl, hx⟩
    replace hB := BT hB hx
    clear hx
    have hG := newB Y3 (.cells #[.int .i64 s0, .int .i64 s1] 23)
    obtain ⟨p0, p1, p2⟩ := HT.out.1.grown (BT hB hG)
    have hB1 := BT hB hG
    clear hB
    have hB := hB1
    clear hB1

    go_wp2_with fail
    generalize Y3.alloc (.cells #[.int .i64 s0, .int .i64 s1] 23) = Q0 at *
    clear hG
    clear p0 p1 p2
    refine (HPL.out Q0 hB).mono ?_
    rintro e Y4 ⟨rfl, hx⟩
    replace hB := BT hB hx
    clear hx
    obtain ⟨p0, p1, p2⟩ := HT.out.1.grown hB
    go_wp2_with fail
    clear p0 p1 p2
    refine (HK.out Y4 hB).mono ?_
    rintro e Y5 ⟨rfl, hx⟩
    replace hB := BT hB hx
    clear hx
    obtain rfl : C = 0 := hC
    obtain rfl : D = 0 := hD
    obtain ⟨p0, p1, p2⟩ := HT.out.1.grown hB
    go_wp2_with fail
    clear p0 p1 p2
    go_loopw [125] (fun i wz => ∃ k : Nat, k ≤ p.n ∧ i = .int .i64 k ∧ Below W0.heap.size W0 wz) (fun i _ => p.n - (intOf i).toNat)
    case atStart => exact ⟨0, by omega, rfl, hB⟩
    case round =>
      clear hB
      obtain ⟨k, hk, rfl, hB⟩ := hrel
      have hk0 : (0 : Int) ≤ (k : Int) := by omega
      have hk10 : (k : Int) ≤ 10 := by omega
      by_cases hlt : k < p.n
      · have hki : (k : Int) < (p.n : Int) := by omega
        have hz1 : ¬ bits .and .i64 0 1 = 1 := by decide
        have hz2 : (bits .and .i64 0 1 == 1) = false := by decide
        go_wp2_with fail
        go_roundw
        case rel => exact ⟨k + 1, by omega, by go_num, hB⟩
        case measure => simp [intOf]; omega
      · obtain rfl : k = p.n := by omega
        have Ho := Hown.out
        obtain ⟨yd, d1, d2, d3, d4⟩ := Had.out
        obtain ⟨yo, o1, o2, o3, o4⟩ := Hao.out
        have hyo := Hoo.out
        clear Hone Had Hao Hoo Hown
        have o0 : (0 : Int) ≤ (o : Int) := by omega
        go_wp2_with fail
        (try rw [Ho])
        refine (HSZ.out o wr (by omega)).mono ?_
        rintro e Y6 ⟨rfl, hx⟩
        replace hB := BT hB hx
        clear hx
        have hs0 := popc_rng (o : Int)
        go_wp2_with fail
        (try rw [Ho])
        refine (HSZ.out 0 Y6 (by omega)).mono ?_
        rintro e Y7 ⟨rfl, hx⟩
        replace hB := BT hB hx
        clear hx
        go_wp2_with fail
        (try rw [Ho])
        refine (HSZ.out 0 Y7 (by omega)).mono ?_
        rintro e Y8 ⟨rfl, hx⟩
        replace hB := BT hB hx
        clear hx
        go_wp2_with fail
        have d1 : bits .andNot .i64 (a : Int) 0 = (yd : Int) := d1
        (try rw [d1])
        refine (HCAN.out yd Y8 d2 d3 hB).mono ?_
        rintro e Y9 ⟨rfl, hx⟩
        replace hB := BT hB hx
        clear hx
        rw [d4]
        go_wp2_with fail
        (try rw [o1])
        refine (HCAN.out yo Y9 o2 o3 hB).mono ?_
        rintro e Y10 ⟨rfl, hx⟩
        replace hB := BT hB hx
        clear hx
        clear d1 d2 d3 d4 o1 o2 o3
        cases hcy : canR p ss (yo : Int)
        · clear o4
          go_wp2_with fail
          refine (HCAN.out o Y10 lo hos hB).mono ?_
          rintro e Y11 ⟨rfl, hx⟩
          replace hB := BT hB hx
          clear hx
          cases hco : canR p ss (o : Int)
          · exact absurd rfl (hyo hco).1
          go_wp2_with fail
          refine (alive_any _).mono ?_
          rintro e wz ⟨rfl, hz⟩
          have hB := BT hB hz
          go_wp2_with fail
          go_ret
          exact ⟨rfl, hBw.trans (hB.mono hBw.size)⟩
        rcases o4 hcy with hle | ⟨hle, hle2⟩
        · have hn1 : ¬ popc (o : Int) < popc (0 : Nat) := by omega
          have hn2 : ¬ popc (o : Int) = popc (0 : Nat) := by omega
          have hn1 : ¬ popc (o : Int) < popc 0 := hn1
          have hn2 : ¬ popc (o : Int) = popc 0 := hn2
          clear hle o4
          go_wp2_with fail
          refine (HCAN.out o Y10 lo hos hB).mono ?_
          rintro e Y11 ⟨rfl, hx⟩
          replace hB := BT hB hx
          clear hx
          cases hco : canR p ss (o : Int)
          · exact absurd rfl (hyo hco).1
          go_wp2_with fail
          refine (alive_any _).mono ?_
          rintro e wz ⟨rfl, hz⟩
          have hB := BT hB hz
          go_wp2_with fail
          go_ret
          exact ⟨rfl, hBw.trans (hB.mono hBw.size)⟩
        have hn2 : popc (o : Int) = popc (0 : Nat) := hle.symm
        have hn2 : popc (o : Int) = popc 0 := hn2
        have hn3 : ¬ (o : Int) < 0 := by omega
        clear hle o4
        go_wp2_with fail
        refine (HCAN.out o Y10 lo hos hB).mono ?_
        rintro e Y11 ⟨rfl, hx⟩
        replace hB := BT hB hx
        clear hx
        cases hco : canR p ss (o : Int)
        · exact absurd rfl (hyo hco).1
        go_wp2_with fail
        refine (alive_any _).mono ?_
        rintro e wz ⟨rfl, hz⟩
        have hB := BT hB hz
        go_wp2_with fail
        go_ret
        exact ⟨rfl, hBw.trans (hB.mono hBw.size)⟩
  · skip
    have HS : Hid (∀ Y, Below W0.heap.size W0 Y → Calls Try.prog 14 #[.agg #[.int .i64 p.lo, .int .i64 p.hi, .slice p.a p.n p.cap]] Y (Ret (.tuple #[.agg #[.int .i64 0, .int .i64 0], .int .i64 10]) Y)) := fun Y hY => by
      have h0 := scale_any p ss Y (HT.out.2.below hY (Nat.le_refl _))
      rw [hse] at h0
      exact h0
    clear hse
    clear p0 p1 p2
    refine (HS.out Y2 hB).mono ?_
    rintro e Y3 ⟨rfl, hx⟩
    replace hB := BT hB hx
    clear hx
    have hG := newB Y3 (.cells #[.int .i64 0, .int .i64 0] 23)
    obtain ⟨p0, p1, p2⟩ := HT.out.1.grown (BT hB hG)
    have hB1 := BT hB hG
    clear hB
    have hB := hB1
    clear hB1

    go_wp2_with fail
    generalize Y3.alloc (.cells #[.int .i64 0, .int .i64 0] 23) = Q0 at *
    clear hG
    clear p0 p1 p2
    refine (HPL.out Q0 hB).mono ?_
    rintro e Y4 ⟨rfl, hx⟩
    replace hB := BT hB hx
    clear hx
    obtain ⟨p0, p1, p2⟩ := HT.out.1.grown hB
    go_wp2_with fail
    clear p0 p1 p2
    refine (HK.out Y4 hB).mono ?_
    rintro e Y5 ⟨rfl, hx⟩
    replace hB := BT hB hx
    clear hx
    have hC1 : ¬ (C : Int) = 0 := by omega
    have hD1 : ¬ (D : Int) = 0 := by omega
    have hC2 : ((C : Int) == 0) = false := by simpa using hC1
    have hD2 : ((D : Int) == 0) = false := by simpa using hD1
    have hC3 : ((C : Int) != 0) = true := by simpa using hC1
    have hcd2 : (bits .and .i64 (C : Int) (D : Int) == 0) = false := by simpa using hcd
    obtain ⟨p0, p1, p2⟩ := HT.out.1.grown hB
    go_wp2_with fail
    clear p0 p1 p2
    go_loopw [125] (fun i wz => ∃ k : Nat, k ≤ p.n ∧ i = .int .i64 k ∧ Below W0.heap.size W0 wz) (fun i _ => p.n - (intOf i).toNat)
    case atStart => exact ⟨0, by omega, rfl, hB⟩
    case round =>
      clear hB
      obtain ⟨k, hk, rfl, hB⟩ := hrel
      have hk0 : (0 : Int) ≤ (k : Int) := by omega
      have hk10 : (k : Int) ≤ 10 := by omega
      by_cases hlt : k < p.n
      · have hki : (k : Int) < (p.n : Int) := by omega
        cases hbp : bitP (C : Int) k
        · unfold bitP at hbp
          have hbp2 : ¬ bits .and .i64 ((C : Int) / 2 ^ k) 1 = 1 := by simpa using hbp
          go_wp2_with fail
          go_roundw
          case rel => exact ⟨k + 1, by omega, by go_num, hB⟩
          case measure => simp [intOf]; omega
        · obtain ⟨y, y1, y2, y3, y4⟩ := Hone.out k (by omega) hbp
          unfold bitP at hbp
          have hbp2 : bits .and .i64 ((C : Int) / 2 ^ k) 1 = 1 := by simpa using hbp
          go_wp2_with fail
          (try rw [y1])
          refine (HCAN.out y wr y2 y3 hB).mono ?_
          rintro e V ⟨rfl, hx⟩
          have hB := BT hB hx
          rw [y4]
          clear hx y1 y4
          go_wp2_with fail
          go_roundw
          case rel => exact ⟨k + 1, by omega, by go_num, hB⟩
          case measure => simp [intOf]; omega
      · obtain rfl : k = p.n := by omega
        have Ho := Hown.out
        obtain ⟨yd, d1, d2, d3, d4⟩ := Had.out
        obtain ⟨yo, o1, o2, o3, o4⟩ := Hao.out
        have hyo := Hoo.out
        clear Hone Had Hao Hoo Hown
        have o0 : (0 : Int) ≤ (o : Int) := by omega
        go_wp2_with fail
        (try rw [Ho])
        refine (HSZ.out o wr (by omega)).mono ?_
        rintro e Y6 ⟨rfl, hx⟩
        replace hB := BT hB hx
        clear hx
        have hs0 := popc_rng (o : Int)
        go_wp2_with fail
        (try rw [Ho])
        refine (HSZ.out D Y6 (by omega)).mono ?_
        rintro e Y7 ⟨rfl, hx⟩
        replace hB := BT hB hx
        clear hx
        go_wp2_with fail
        (try rw [Ho])
        refine (HSZ.out C Y7 (by omega)).mono ?_
        rintro e Y8 ⟨rfl, hx⟩
        replace hB := BT hB hx
        clear hx
        go_wp2_with fail
        refine (HCAN.out C Y8 lC hCs hB).mono ?_
        rintro e Y9 ⟨rfl, hx⟩
        replace hB := BT hB hx
        clear hx
        rw [hcn]
        go_wp2_with fail
        (try rw [d1])
        refine (HCAN.out yd Y9 d2 d3 hB).mono ?_
        rintro e Y10 ⟨rfl, hx⟩
        replace hB := BT hB hx
        clear hx
        rw [d4]
        go_wp2_with fail
        (try rw [o1])
        refine (HCAN.out yo Y10 o2 o3 hB).mono ?_
        rintro e Y11 ⟨rfl, hx⟩
        replace hB := BT hB hx
        clear hx
        clear d1 d2 d3 d4 o1 o2 o3
        cases hcy : canR p ss (yo : Int)
        · clear o4
          go_wp2_with fail
          refine (HCAN.out o Y11 lo hos hB).mono ?_
          rintro e Y12 ⟨rfl, hx⟩
          replace hB := BT hB hx
          clear hx
          cases hco : canR p ss (o : Int)
          · obtain ⟨-, hle⟩ := hyo hco
            rcases hle with hle | ⟨hle, hle2⟩
            · have hq1 : popc (C : Int) < popc (o : Int) := hle
              try have hq5 : popc (C : Int) < popc (D : Int) := by omega
              go_wp2_with fail
              refine (alive_any _).mono ?_
              rintro e wz ⟨rfl, hz⟩
              have hB := BT hB hz
              go_wp2_with fail
              go_ret
              exact ⟨rfl, hBw.trans (hB.mono hBw.size)⟩
            have hq1 : popc (o : Int) = popc (C : Int) := hle.symm
            have hq2 : (C : Int) ≤ (o : Int) := by omega
            try rw [hq1]
            try (rw [show popc (D : Int) = popc (C : Int) by omega])
            clear hle hs0
            go_wp2_with fail
            refine (alive_any _).mono ?_
            rintro e wz ⟨rfl, hz⟩
            have hB := BT hB hz
            go_wp2_with fail
            go_ret
            exact ⟨rfl, hBw.trans (hB.mono hBw.size)⟩
          go_wp2_with fail
          refine (alive_any _).mono ?_
          rintro e wz ⟨rfl, hz⟩
          have hB := BT hB hz
          go_wp2_with fail
          go_ret
          exact ⟨rfl, hBw.trans (hB.mono hBw.size)⟩
        rcases o4 hcy with hle | ⟨hle, hle2⟩
        · have hn1 : ¬ popc (o : Int) < popc (D : Nat) := by omega
          have hn2 : ¬ popc (o : Int) = popc (D : Nat) := by omega
          clear hle o4
          go_wp2_with fail
          refine (HCAN.out o Y11 lo hos hB).mono ?_
          rintro e Y12 ⟨rfl, hx⟩
          replace hB := BT hB hx
          clear hx
          cases hco : canR p ss (o : Int)
          · obtain ⟨-, hle⟩ := hyo hco
            rcases hle with hle | ⟨hle, hle2⟩
            · have hq1 : popc (C : Int) < popc (o : Int) := hle
              try have hq5 : popc (C : Int) < popc (D : Int) := by omega
              go_wp2_with fail
              refine (alive_any _).mono ?_
              rintro e wz ⟨rfl, hz⟩
              have hB := BT hB hz
              go_wp2_with fail
              go_ret
              exact ⟨rfl, hBw.trans (hB.mono hBw.size)⟩
            have hq1 : popc (o : Int) = popc (C : Int) := hle.symm
            have hq2 : (C : Int) ≤ (o : Int) := by omega
            try rw [hq1]
            try (rw [show popc (D : Int) = popc (C : Int) by omega])
            clear hle hs0
            go_wp2_with fail
            refine (alive_any _).mono ?_
            rintro e wz ⟨rfl, hz⟩
            have hB := BT hB hz
            go_wp2_with fail
            go_ret
            exact ⟨rfl, hBw.trans (hB.mono hBw.size)⟩
          go_wp2_with fail
          refine (alive_any _).mono ?_
          rintro e wz ⟨rfl, hz⟩
          have hB := BT hB hz
          go_wp2_with fail
          go_ret
          exact ⟨rfl, hBw.trans (hB.mono hBw.size)⟩
        have hn2 : popc (o : Int) = popc (D : Nat) := hle.symm
        have hn3 : ¬ (o : Int) < (D : Int) := by omega
        clear hle o4
        go_wp2_with fail
        refine (HCAN.out o Y11 lo hos hB).mono ?_
        rintro e Y12 ⟨rfl, hx⟩
        replace hB := BT hB hx
        clear hx
        cases hco : canR p ss (o : Int)
        · obtain ⟨-, hle⟩ := hyo hco
          rcases hle with hle | ⟨hle, hle2⟩
          · have hq1 : popc (C : Int) < popc (o : Int) := hle
            try have hq5 : popc (C : Int) < popc (D : Int) := by omega
            go_wp2_with fail
            refine (alive_any _).mono ?_
            rintro e wz ⟨rfl, hz⟩
            have hB := BT hB hz
            go_wp2_with fail
            go_ret
            exact ⟨rfl, hBw.trans (hB.mono hBw.size)⟩
          have hq1 : popc (o : Int) = popc (C : Int) := hle.symm
          have hq2 : (C : Int) ≤ (o : Int) := by omega
          try rw [hq1]
          try (rw [show popc (D : Int) = popc (C : Int) by omega])
          clear hle hs0
          go_wp2_with fail
          refine (alive_any _).mono ?_
          rintro e wz ⟨rfl, hz⟩
          have hB := BT hB hz
          go_wp2_with fail
          go_ret
          exact ⟨rfl, hBw.trans (hB.mono hBw.size)⟩
        go_wp2_with fail
        refine (alive_any _).mono ?_
        rintro e wz ⟨rfl, hz⟩
        have hB := BT hB hz
        go_wp2_with fail
        go_ret
        exact ⟨rfl, hBw.trans (hB.mono hBw.size)⟩
end Go.Proofs.Ytdkegkacpdkjgaa

namespace Go.Proofs.Ytdkegkacpdkjgaa.PlateClashRow
open Go.ChangeShapes Go.WideShapes Go.ChangeAt Go.RowKit

theorem own : ownKnob Try.prog.godebug = none := by kernel_rfl

set_option maxRecDepth 100000 in
theorem lifted (os : Os) (started : os.Started) (H : Type) (enc : TypeId × Value → H) :
    ReturnsInHanded {} Try.checked os 6 .any (Rows.plateClashSpec.pre6 enc Try.prog Try.f6 Rows.plateClashRow.domain false) (Rows.plateClashSpec.post enc Try.prog Try.f6 false true false false) := by
  refine returnsInHanded_of_change (C := Try.checked) own started (by kernel_rfl) Try.func6
    (ChangeSpec.witness6 (enc := enc) (C := Try.checked) false ⟨#[], #[.agg #[.int .i64 0, .int .i64 0, .slice none 0 0], .int .u16 0], []⟩ 8 (by kernel_rfl) (by kernel_rfl) (by kernel_rfl) (by kernel_rfl)) ?_
  intro W base args ds gs before hval0 hW hcnd _
  have hval : ∀ (j : Nat) t v, Try.f6.params[j]? = some t → args[j]? = some v → Value.okWide Try.prog W .any base t v := hval0
  have hW' := hW
  obtain ⟨p, q, hA0, hV, rfl, hfz, hnd⟩ := hW
  have hA : DataW.TrodAll enc Try.prog W 0 (fun _ => true) true Try.f6.params.toList args.toList ds p := hA0
  rw [Try.params6] at hA hval
  obtain ⟨v0, vs0, d0, ds0, p0, q0, hargs, rfl, rfl, h0, r0⟩ := trodAll_cons hA
  obtain ⟨v1, vs1, d1, ds1, p1, q1, rfl, rfl, rfl, h1, r1⟩ := trodAll_cons r0
  obtain ⟨rfl, rfl, rfl⟩ := trodAll_nil r1
  obtain rfl : args = #[v0, v1] := Array.toList_inj.1 (by simpa using hargs)
  obtain ⟨pl, ss, rfl, hnl, hst⟩ := open_plate (hval 0 29 v0 rfl rfl) h0
  obtain ⟨y1, rfl, rfl, rfl, w1⟩ := open_int Try.underlying57 (hval 1 57 v1 rfl rfl) h1
  obtain ⟨rfl, rfl⟩ := trodVars_none hV
  have hy1 : 0 ≤ y1 ∧ y1 ≤ 65535 := by
    have e1 : IntKind.u16.min = 0 := by decide
    have e2 : IntKind.u16.max = 65535 := by decide
    simp only [Lit.wf, e1, e2, Bool.and_eq_true, decide_eq_true_eq] at w1
    exact w1
  refine (clash_walk pl ss y1 W hnl hst hy1).mono fun e W' ⟨he, hb⟩ => ?_
  subst he
  refine ⟨_, rfl, law_last rfl (by decide +kernel) (fun _ _ _ => trodAll_cons_mk (shut_bool Try.underlying4 _) trodAll_mk0) (ok_one (by kernel_rfl) rfl (okWide_bool_mk Try.underlying4 _)) hW' rfl rfl rfl hb⟩

theorem over : Rows.plateClashRow.holds Try.pinned (OpenSpec.ofChange Rows.plateClashSpec) :=
  OpenClaim.holds_of_wide 6 Try.f6 rfl rfl rfl rfl rfl rfl rfl ⟨rfl, rfl, rfl, rfl, rfl⟩ rfl rfl rfl rfl rfl (by kernel_rfl) Try.func6 (by kernel_rfl)
    (of_decide_eq_true (by kernel_rfl)) (by unfold Func.isWrapper; first | (rw [if_pos (by decide +kernel)]; kernel_rfl) | (rw [if_neg (by decide +kernel)]; exact ⟨rfl, rfl⟩))
    (fun os started H enc _ => lifted os started H enc)

theorem plateClash_holds : Rows.PlateClashSaid := over
#print axioms plateClash_holds
end Go.Proofs.Ytdkegkacpdkjgaa.PlateClashRow
