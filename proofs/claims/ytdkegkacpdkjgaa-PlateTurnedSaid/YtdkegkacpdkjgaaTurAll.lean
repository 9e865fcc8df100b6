/- 'PlateTurned': in whatever memory, for all plates and numbers, on every order of evaluation that Go leaves open: the call returns true. No condition. -/
import Derived.Test.YtdkegkacpdkjgaaPcl
import Derived.Test.YtdkegkacpdkjgaaPbt
import Derived.Test.YtdkegkacpdkjgaaPrk
import Derived.Test.YtdkegkacpdkjgaaPfw
import Derived.Test.YtdkegkacpdkjgaaPpp
import Derived.Test.YtdkegkacpdkjgaaPpa
import Derived.Test.YtdkegkacpdkjgaaPsr
import Derived.Test.YtdkegkacpdkjgaaPar
namespace Go.Proofs.Ytdkegkacpdkjgaa
open Go.RowKit Go.Maps

/-- What is kept is what some truths have, and bounds what any has. -/
structure KepOf (f : Scl → Int × Int) (xs : List Scl) (k : Int × Int × Bool) : Prop where
  no : k.2.2 = false → k = (0, 0, false)
  lo : k.2.2 = true → ∃ x ∈ xs, (f x).1 ≤ (f x).2 ∧ k.1 = (f x).1
  hi : k.2.2 = true → ∃ x ∈ xs, (f x).1 ≤ (f x).2 ∧ k.2.1 = (f x).2
  all : ∀ x ∈ xs, (f x).1 ≤ (f x).2 → k.2.2 = true ∧ k.1 ≤ (f x).1 ∧ (f x).2 ≤ k.2.1
theorem kepS_of {f : Scl → Int × Int} {xs : List Scl} {k : Int × Int × Bool} (h : KepOf f xs k) (x : Scl) : KepOf f (xs ++ [x]) (kepS k (f x).1 (f x).2) := by
  obtain ⟨a, b, t⟩ := k
  obtain ⟨h1, h2, h3, h4⟩ := h
  have hm : ∀ y, y ∈ xs ++ [x] ↔ y ∈ xs ∨ y = x := fun y => by simp
  unfold kepS
  by_cases hx : (f x).1 ≤ (f x).2
  · rw [if_pos hx]
    cases t
    · rw [if_neg (by simp)]
      have hno : ∀ y ∈ xs, ¬ (f y).1 ≤ (f y).2 := fun y hy hle => by cases (h4 y hy hle).1
      refine ⟨fun h => (by cases h), fun _ => ⟨x, (hm x).2 (.inr rfl), hx, rfl⟩, fun _ => ⟨x, (hm x).2 (.inr rfl), hx, rfl⟩, fun y hy hle => ?_⟩
      rcases (hm y).1 hy with h | rfl
      · exact absurd hle (hno y h)
      · exact ⟨rfl, Int.le_refl _, Int.le_refl _⟩
    · rw [if_pos rfl]
      dsimp only at h2 h3 h4 ⊢
      obtain ⟨y, hy, hyl, rfl⟩ := h2 rfl
      obtain ⟨z, hz, hzl, rfl⟩ := h3 rfl
      refine ⟨fun h => (by cases h), fun _ => ?_, fun _ => ?_, fun u hu hle => ?_⟩
      · rcases Int.le_total (f y).1 (f x).1 with h | h
        · exact ⟨y, (hm y).2 (.inl hy), hyl, by dsimp only; omega⟩
        · exact ⟨x, (hm x).2 (.inr rfl), hx, by dsimp only; omega⟩
      · rcases Int.le_total (f x).2 (f z).2 with h | h
        · exact ⟨z, (hm z).2 (.inl hz), hzl, by dsimp only; omega⟩
        · exact ⟨x, (hm x).2 (.inr rfl), hx, by dsimp only; omega⟩
      · rcases (hm u).1 hu with h | rfl
        · have := (h4 u h hle).2
          exact ⟨rfl, by dsimp only; omega, by dsimp only; omega⟩
        · exact ⟨rfl, by dsimp only; omega, by dsimp only; omega⟩
  · rw [if_neg hx]
    refine ⟨h1, fun h => ?_, fun h => ?_, fun y hy hle => ?_⟩
    · obtain ⟨y, hy, hyl, e⟩ := h2 h; exact ⟨y, (hm y).2 (.inl hy), hyl, e⟩
    · obtain ⟨y, hy, hyl, e⟩ := h3 h; exact ⟨y, (hm y).2 (.inl hy), hyl, e⟩
    · rcases (hm y).1 hy with h | rfl
      · exact h4 y h hle
      · exact absurd hle hx
theorem kepL_of (f : Scl → Int × Int) (xs : List Scl) : KepOf f xs (kepL f xs) := by
  have : ∀ (xs ys : List Scl) (k : Int × Int × Bool), KepOf f ys k → KepOf f (ys ++ xs) (xs.foldl (fun k x => kepS k (f x).1 (f x).2) k) := fun xs => by
    induction xs with
    | nil => intro ys k h; simpa using h
    | cons x xs ih =>
      intro ys k h
      have := ih (ys ++ [x]) _ (kepS_of h x)
      simpa using this
  have h := this xs [] (0, 0, false) ⟨fun _ => rfl, fun h => (by cases h), fun h => (by cases h), fun x hx => (by cases hx)⟩
  rw [List.nil_append] at h
  exact h
/-- What more truths have is no narrower. -/
theorem kep_in {f g : Scl → Int × Int} {xs ys : List Scl} (h : ∀ x ∈ xs, (f x).1 ≤ (f x).2 → ∃ y ∈ ys, (g y).1 ≤ (f x).1 ∧ (f x).2 ≤ (g y).2) (hk : (kepL f xs).2.2 = true) :
    (kepL g ys).2.2 = true ∧ (kepL g ys).1 ≤ (kepL f xs).1 ∧ (kepL f xs).2.1 ≤ (kepL g ys).2.1 := by
  obtain ⟨x, hx, hxl, e1⟩ := (kepL_of f xs).lo hk
  obtain ⟨z, hz, hzl, e2⟩ := (kepL_of f xs).hi hk
  obtain ⟨u, hu, hu1, hu2⟩ := h x hx hxl
  obtain ⟨v, hv, hv1, hv2⟩ := h z hz hzl
  have a := (kepL_of g ys).all u hu (by omega)
  have b := (kepL_of g ys).all v hv (by omega)
  exact ⟨a.1, by omega, by omega⟩
theorem kep_no {f : Scl → Int × Int} {xs : List Scl} (h : ∀ x ∈ xs, ¬ (f x).1 ≤ (f x).2) : kepL f xs = (0, 0, false) := by
  have k := kepL_of f xs
  cases ht : (kepL f xs).2.2
  · exact k.no ht
  · obtain ⟨x, hx, hxl, _⟩ := k.lo ht
    exact absurd hxl (h x hx)
/-- What is farther on by as much is kept so. -/
theorem kep_shift {c : Int} {f g : Scl → Int × Int} {xs ys : List Scl} (h1 : ∀ x ∈ xs, (f x).1 ≤ (f x).2 → ∃ y ∈ ys, (g y).1 = (f x).1 + c ∧ (g y).2 = (f x).2 + c)
    (h2 : ∀ y ∈ ys, (g y).1 ≤ (g y).2 → ∃ x ∈ xs, (g y).1 = (f x).1 + c ∧ (g y).2 = (f x).2 + c) :
    kepL g ys = if (kepL f xs).2.2 then ((kepL f xs).1 + c, (kepL f xs).2.1 + c, true) else (0, 0, false) := by
  have kf := kepL_of f xs
  have kg := kepL_of g ys
  cases ht : (kepL f xs).2.2
  · rw [if_neg (by simp)]
    refine kep_no fun y hy hyl => ?_
    obtain ⟨x, hx, e1, e2⟩ := h2 y hy hyl
    have := (kf.all x hx (by omega)).1
    rw [ht] at this; cases this
  · rw [if_pos rfl]
    obtain ⟨x, hx, hxl, e1⟩ := kf.lo ht
    obtain ⟨z, hz, hzl, e2⟩ := kf.hi ht
    obtain ⟨u, hu, u1, u2⟩ := h1 x hx hxl
    obtain ⟨v, hv, v1, v2⟩ := h1 z hz hzl
    have a := kg.all u hu (by omega)
    have b := kg.all v hv (by omega)
    obtain ⟨p, hp, hpl, q1⟩ := kg.lo a.1
    obtain ⟨q, hq, hql, q2⟩ := kg.hi a.1
    obtain ⟨p', hp', r1, r2⟩ := h2 p hp hpl
    obtain ⟨q', hq', r3, r4⟩ := h2 q hq hql
    have c1 := kf.all p' hp' (by omega)
    have c2 := kf.all q' hq' (by omega)
    have e : ∀ k : Int × Int × Bool, k.1 = (kepL f xs).1 + c → k.2.1 = (kepL f xs).2.1 + c → k.2.2 = true → k = ((kepL f xs).1 + c, (kepL f xs).2.1 + c, true) := fun k h1 h2 h3 => by
      obtain ⟨k1, k2, k3⟩ := k
      dsimp only at h1 h2 h3
      rw [h1, h2, h3]
    exact e _ (by omega) (by omega) a.1
theorem kep_same {f g : Scl → Int × Int} {xs ys : List Scl} (h1 : ∀ x ∈ xs, (f x).1 ≤ (f x).2 → ∃ y ∈ ys, g y = f x) (h2 : ∀ y ∈ ys, (g y).1 ≤ (g y).2 → ∃ x ∈ xs, g y = f x) : kepL g ys = kepL f xs := by
  rw [kep_shift (c := 0) (f := f) (g := g) (xs := xs) (ys := ys) (fun x hx hl => by obtain ⟨y, hy, e⟩ := h1 x hx hl; exact ⟨y, hy, by rw [e]; omega, by rw [e]; omega⟩)
    (fun y hy hl => by obtain ⟨x, hx, e⟩ := h2 y hy hl; exact ⟨x, hx, by rw [e]; omega, by rw [e]; omega⟩)]
  have k := kepL_of f xs
  cases ht : (kepL f xs).2.2
  · rw [if_neg (by simp), k.no ht]
  · rw [if_pos rfl, Int.add_zero, Int.add_zero]
    have e : ∀ k : Int × Int × Bool, k.2.2 = true → (k.1, k.2.1, true) = k := fun k h => by obtain ⟨a, b, c⟩ := k; dsimp only at h; rw [h]
    exact e _ ht

/-- Where the corner can be: what all stars of a set allow. -/
theorem cor_iff {ss : List St} {sc : Int} {R : Nat → Bool} {d : Bool} {c : Int} : ∀ {k : Nat}, ((corS ss sc R d k).1 ≤ c ∧ c ≤ (corS ss sc R d k).2) ↔
    ((-67108864 ≤ c ∧ c ≤ 67108864) ∧ ∀ i, i < k → R i = true → (cbS sc (ss.getD i default) d).1 ≤ c ∧ c ≤ (cbS sc (ss.getD i default) d).2)
  | 0 => by unfold corS; exact ⟨fun h => ⟨h, fun i hi => by omega⟩, fun h => h.1⟩
  | k + 1 => by
    have ih := cor_iff (ss := ss) (sc := sc) (R := R) (d := d) (c := c) (k := k)
    rw [corS]
    split
    · rename_i hR
      dsimp only
      constructor
      · intro h
        have h0 := ih.1 ⟨by omega, by omega⟩
        refine ⟨h0.1, fun i hi hr => ?_⟩
        by_cases he : i = k
        · subst he; omega
        · exact h0.2 i (by omega) hr
      · intro h
        have h0 := ih.2 ⟨h.1, fun i hi => h.2 i (by omega)⟩
        have h1 := h.2 k (by omega) hR
        omega
    · rename_i hR
      rw [ih]
      constructor
      · intro h
        refine ⟨h.1, fun i hi hr => ?_⟩
        by_cases he : i = k
        · subst he; exact absurd hr hR
        · exact h.2 i (by omega) hr
      · exact fun h => ⟨h.1, fun i hi => h.2 i (by omega)⟩
/-- A scale is one of a plate if there is a corner with it. -/
def CornC (ss : List St) (sc : Int) (R : Nat → Bool) (n : Nat) (d : Bool) (c : Int) : Prop :=
  (-67108864 ≤ c ∧ c ≤ 67108864) ∧ ∀ i, i < n → R i = true → (cbS sc (ss.getD i default) d).1 ≤ c ∧ c ≤ (cbS sc (ss.getD i default) d).2
theorem corB_iff {ss : List St} {sc : Int} {R : Nat → Bool} {n : Nat} : corB ss sc R n = true ↔ ∀ d, ∃ c, CornC ss sc R n d c := by
  have h : ∀ d, (corS ss sc R d n).1 ≤ (corS ss sc R d n).2 ↔ ∃ c, CornC ss sc R n d c := fun d =>
    ⟨fun h => ⟨_, cor_iff.1 ⟨Int.le_refl _, h⟩⟩, fun ⟨c, hc⟩ => by have := cor_iff.2 hc; omega⟩
  unfold corB
  rw [Bool.and_eq_true, decide_eq_true_eq, decide_eq_true_eq, h, h]
  exact ⟨fun h d => match d with | false => h.1 | true => h.2, fun h => ⟨h false, h true⟩⟩
theorem trTo_has {ss : List St} {R : Nat → Bool} {n : Nat} {lo sc : Int} (hs : 0 ≤ sc ∧ sc ≤ 1000) (hb : corB ss sc R n = true) (h0 : lo ≤ sc) : ∀ {k : Nat}, sc < lo + k → ∃ x ∈ trTo ss R n lo k, x.sc = sc ∧ ∀ d, (x.lo d, x.hi d) = corS ss sc R d n
  | 0, h => by omega
  | k + 1, h => by
    rw [trTo]
    by_cases he : sc = lo + k
    · subst he
      rw [trOf_yes hs hb]
      exact ⟨_, List.mem_append_right _ (List.mem_singleton.2 rfl), rfl, fun d => by cases d <;> rfl⟩
    · obtain ⟨x, hx, e⟩ := trTo_has hs hb h0 (k := k) (by omega)
      exact ⟨x, List.mem_append_left _ hx, e⟩
theorem trL_iff {p : Pl} {ss : List St} (hlo : 1 ≤ p.lo) (hhi : p.hi ≤ 1000) {set : Int} {sc : Int} : (∃ x ∈ trL p ss set, x.sc = sc) ↔ (p.lo ≤ sc ∧ sc ≤ p.hi) ∧ corB ss sc (setI set) p.n = true := by
  constructor
  · rintro ⟨x, hx, rfl⟩
    obtain ⟨h1, h2, h3, _⟩ := trTo_mem hx
    exact ⟨⟨h1, by omega⟩, h3⟩
  · rintro ⟨⟨h1, h2⟩, h3⟩
    obtain ⟨x, hx, e, _⟩ := trTo_has (lo := p.lo) (k := (p.hi - p.lo + 1).toNat) (by omega) h3 h1 (by omega)
    exact ⟨x, hx, e⟩
theorem trL_of {p : Pl} {ss : List St} {set : Int} {x : Scl} (hx : x ∈ trL p ss set) : (p.lo ≤ x.sc ∧ x.sc ≤ p.hi) ∧ corB ss x.sc (setI set) p.n = true ∧ ∀ d, (x.lo d, x.hi d) = corS ss x.sc (setI set) d p.n := by
  obtain ⟨h1, h2, h3, h4⟩ := trTo_mem hx
  exact ⟨⟨h1, by omega⟩, h3, h4⟩
theorem trL_mk {p : Pl} {ss : List St} (hlo : 1 ≤ p.lo) (hhi : p.hi ≤ 1000) {set : Int} {sc : Int} (h1 : p.lo ≤ sc) (h2 : sc ≤ p.hi) (h3 : corB ss sc (setI set) p.n = true) : ∃ x ∈ trL p ss set, x.sc = sc ∧ ∀ d, (x.lo d, x.hi d) = corS ss sc (setI set) d p.n :=
  trTo_has (lo := p.lo) (k := (p.hi - p.lo + 1).toNat) (by omega) h3 h1 (by omega)
theorem canR_iff {p : Pl} {ss : List St} (hlo : 1 ≤ p.lo) (hhi : p.hi ≤ 1000) {set : Int} : canR p ss set = true ↔ ∃ sc, (p.lo ≤ sc ∧ sc ≤ p.hi) ∧ corB ss sc (setI set) p.n = true := by
  unfold canR
  constructor
  · intro h
    cases hx : trL p ss set with
    | nil => rw [hx] at h; cases h
    | cons x xs => exact ⟨x.sc, (trL_iff hlo hhi).1 ⟨x, by rw [hx]; exact List.mem_cons_self, rfl⟩⟩
  · rintro ⟨sc, h⟩
    obtain ⟨x, hx, _⟩ := (trL_iff hlo hhi).2 h
    cases ht : trL p ss set with
    | nil => rw [ht] at hx; cases hx
    | cons => rfl
theorem tr_nil {p : Pl} {ss : List St} {set : Int} : trL p ss set = [] ↔ canR p ss set = false := by
  unfold canR; cases trL p ss set <;> simp
/-- What is known of a star by bits. -/
theorem bit_nat {n i : Nat} (hn : n < 4096) (hi : i < 12) : setI (n : Int) i = n.testBit i := by
  have hp : wrap64 (2 ^ i) = ((2 ^ i : Nat) : Int) := (by decide +kernel : ∀ k : Fin 12, wrap64 (2 ^ k.val) = ((2 ^ k.val : Nat) : Int)) ⟨i, hi⟩
  have hp2 : 1 ≤ 2 ^ i ∧ 2 ^ i < 4096 := (by decide +kernel : ∀ k : Fin 12, 1 ≤ 2 ^ k.val ∧ 2 ^ k.val < 4096) ⟨i, hi⟩
  have ha : n &&& 2 ^ i = if n.testBit i then 2 ^ i else 0 := by
    apply Nat.eq_of_testBit_eq
    intro j
    rw [Nat.testBit_and, Nat.testBit_two_pow]
    by_cases h : i = j
    · subst h
      cases hb : n.testBit i
      · simp
      · simp
    · rw [decide_eq_false h, Bool.and_false]
      split
      · rw [Nat.testBit_two_pow, decide_eq_false h]
      · simp
  have h1 : setI (n : Int) i = (IntKind.i64.wrap (((if n.testBit i then 2 ^ i else 0) : Nat) : Int) != 0) := by
    unfold setI bits
    rw [hp]
    dsimp only
    rw [BitVec.toNat_and, bv_nat (by omega), bv_nat (by omega), ha]
  rw [h1]
  cases n.testBit i
  · rw [if_neg (by simp), i64_of_nat (by omega)]; rfl
  · rw [if_pos rfl, i64_of_nat (by omega)]
    generalize 2 ^ i = q at *
    simp; omega
theorem known_nat (ss : List St) : ∀ k : Nat, k ≤ 12 → ∃ n : Nat, knownTo ss k = (n : Int) ∧ n < 2 ^ k ∧ ∀ i, n.testBit i = (decide (i < k) && (ss.getD i default).k)
  | 0, _ => ⟨0, rfl, by simp, fun i => by simp⟩
  | k + 1, h => by
    obtain ⟨n, e, h1, h2⟩ := known_nat ss k (by omega)
    have hs := known_rng ss k (by omega)
    have hp : 2 ^ (k + 1) = 2 * 2 ^ k := by rw [Nat.pow_succ, Nat.mul_comm]
    rw [knownTo]
    split
    · rename_i hk
      refine ⟨2 ^ k + n, ?_, by omega, fun i => ?_⟩
      · rw [or_bit12 (by omega) hs.1 hs.2, e]; simp; omega
      · rcases Nat.lt_trichotomy i k with hi | rfl | hi
        · rw [Nat.testBit_two_pow_add_gt hi, h2, decide_eq_true hi, decide_eq_true (show i < k + 1 by omega)]
        · rw [Nat.testBit_two_pow_add_eq, h2, decide_eq_false (by omega), decide_eq_true (by omega), hk]; rfl
        · rw [decide_eq_false (by omega), Bool.false_and]
          exact Nat.testBit_lt_two_pow (Nat.lt_of_lt_of_le (show 2 ^ k + n < 2 ^ (k + 1) by omega) (Nat.pow_le_pow_right (by decide) hi))
    · rename_i hk
      refine ⟨n, e, by omega, fun i => ?_⟩
      rw [h2]
      by_cases he : i = k
      · subst he
        rw [decide_eq_false (by omega), Bool.eq_false_iff.2 hk]; simp
      · rw [decide_eq_decide.2 (show i < k ↔ i < k + 1 by omega)]
theorem known_bit (ss : List St) {k i : Nat} (hk : k ≤ 12) (hi : i < k) : setI (knownTo ss k) i = (ss.getD i default).k := by
  obtain ⟨n, e, h1, h2⟩ := known_nat ss k hk
  have hp : 2 ^ k ≤ 4096 := (by decide +kernel : ∀ k : Fin 13, 2 ^ k.val ≤ 4096) ⟨k, by omega⟩
  rw [e, bit_nat (by omega) (by omega), h2, decide_eq_true hi]; simp
theorem known_none {ss : List St} {k : Nat} (hk : k ≤ 12) : knownTo ss k = 0 ↔ ∀ i, i < k → (ss.getD i default).k = false := by
  obtain ⟨n, e, h1, h2⟩ := known_nat ss k hk
  rw [e]
  constructor
  · intro h i hi
    obtain rfl : n = 0 := by omega
    have := h2 i
    rw [decide_eq_true hi, Nat.zero_testBit] at this
    simpa using this.symm
  · intro h
    have : n = 0 := Nat.eq_of_testBit_eq fun i => by
      rw [h2, Nat.zero_testBit]
      by_cases hi : i < k
      · rw [h i hi]; simp
      · rw [decide_eq_false hi]; rfl
    rw [this]; rfl
theorem known_some {ss : List St} {k : Nat} (hk : k ≤ 12) (h : knownTo ss k ≠ 0) : ∃ i, i < k ∧ (ss.getD i default).k = true := by
  by_cases hx : ∃ i, i < k ∧ (ss.getD i default).k = true
  · exact hx
  · refine absurd ((known_none hk).2 fun i hi => ?_) h
    cases e : (ss.getD i default).k
    · rfl
    · exact absurd ⟨i, hi, e⟩ hx
end Go.Proofs.Ytdkegkacpdkjgaa

namespace Go.Proofs.Ytdkegkacpdkjgaa
open Go.RowKit Go.Maps

def movS (b t : Int) (s : St) : St := if s.k then { s with e0 := s.e0 + b, e1 := s.e1 + b, n0 := s.n0 + t, n1 := s.n1 + t } else s
def dlt (b t : Int) (d : Bool) : Int := if d then t else b
theorem mov_k (b t : Int) (s : St) : (movS b t s).k = s.k := by unfold movS; split <;> rfl
theorem mov_on (b t : Int) (s : St) (d : Bool) : (movS b t s).on d = s.on d := by unfold movS; split <;> rfl
theorem mov_sky {b t : Int} {s : St} (h : s.k = true) (d : Bool) : (movS b t s).sky d = ((s.sky d).1 + dlt b t d, (s.sky d).2 + dlt b t d) := by
  unfold movS; rw [if_pos h]; cases d <;> rfl
theorem mov_bey (b t sc : Int) (s : St) (d : Bool) : beyS sc (movS b t s) d = beyS sc s d := by unfold beyS; rw [mov_on]
theorem mov_cb {b t sc : Int} {s : St} (h : s.k = true) (d : Bool) : (cbS sc (movS b t s) d).1 = (cbS sc s d).1 + dlt b t d ∧ (cbS sc (movS b t s) d).2 = (cbS sc s d).2 + dlt b t d := by
  have hs := mov_sky (b := b) (t := t) h d
  unfold cbS saidS
  rw [mov_bey, mov_k, h, if_pos rfl, if_pos rfl, hs]
  dsimp only
  omega
theorem mov_un {b t : Int} {s : St} (h : s.k = false) : movS b t s = s := by unfold movS; rw [h]; rfl
theorem mov_get (b t : Int) (ss : List St) (i : Nat) : (ss.map (movS b t)).getD i default = movS b t (ss.getD i default) := by
  rw [List.getD_eq_getElem?_getD, List.getD_eq_getElem?_getD, List.getElem?_map]
  cases ss[i]? with
  | none => rfl
  | some s => rfl
theorem known_ext {ss ss' : List St} (h : ∀ i, (ss'.getD i default).k = (ss.getD i default).k) : ∀ n, knownTo ss' n = knownTo ss n
  | 0 => rfl
  | n + 1 => by rw [knownTo, knownTo, known_ext h n, h]
theorem mov_known (b t : Int) (ss : List St) (n : Nat) : knownTo (ss.map (movS b t)) n = knownTo ss n := known_ext (fun i => by rw [mov_get, mov_k]) n
theorem mov_none {b t : Int} {ss : List St} (h : knownTo ss ss.length = 0) (h12 : ss.length ≤ 12) : ss.map (movS b t) = ss := by
  apply List.ext_getElem?
  intro i
  rw [List.getElem?_map]
  cases hi : ss[i]? with
  | none => rfl
  | some s =>
    have hl : i < ss.length := (List.getElem?_eq_some_iff.1 hi).1
    have := (known_none h12).1 h i hl
    rw [List.getD_eq_getElem?_getD, hi] at this
    show some (movS b t s) = some s
    rw [mov_un (show s.k = false from this)]
/-- With a known star the corner is near. -/
theorem near {s : St} {d : Bool} (h : StOk s d) (hk : s.k = true) {sc : Int} (h0 : 0 ≤ sc) (h1 : sc ≤ 1000) : -1081344 ≤ (cbS sc s d).1 ∧ (cbS sc s d).2 ≤ 1048576 ∧ (cbS sc s d).1 ≤ (cbS sc s d).2 := by
  have h2 := bey_rng h h0 h1
  have a := h.e hk; have b := h.f hk; have c := h.g hk
  unfold cbS saidS
  rw [hk, if_pos rfl]
  dsimp only
  omega
theorem corn_near {ss : List St} {sc : Int} {R : Nat → Bool} {n i : Nat} {d : Bool} {c : Int} (h : CornC ss sc R n d c) (hi : i < n) (hR : R i = true) (hok : StOk (ss.getD i default) d) (hk : (ss.getD i default).k = true) (h0 : 0 ≤ sc) (h1 : sc ≤ 1000) : -1081344 ≤ c ∧ c ≤ 1048576 := by
  have := h.2 i hi hR
  have := near hok hk h0 h1
  omega
/-- The same truths, farther on. -/
structure Pair (δ : Bool → Int) (xs ys : List Scl) : Prop where
  fwd : ∀ x ∈ xs, ∃ y ∈ ys, y.sc = x.sc ∧ ∀ d, y.lo d = x.lo d + δ d ∧ y.hi d = x.hi d + δ d
  bwd : ∀ y ∈ ys, ∃ x ∈ xs, y.sc = x.sc ∧ ∀ d, y.lo d = x.lo d + δ d ∧ y.hi d = x.hi d + δ d
theorem corS_shift {ss ss' : List St} {sc : Int} {R R' : Nat → Bool} {n : Nat} {d : Bool} {δ : Int} (h : ∀ c, CornC ss sc R n d c ↔ CornC ss' sc R' n d (c + δ)) :
    ((corS ss sc R d n).1 ≤ (corS ss sc R d n).2 ↔ (corS ss' sc R' d n).1 ≤ (corS ss' sc R' d n).2) ∧ ((corS ss sc R d n).1 ≤ (corS ss sc R d n).2 → (corS ss' sc R' d n).1 = (corS ss sc R d n).1 + δ ∧ (corS ss' sc R' d n).2 = (corS ss sc R d n).2 + δ) := by
  have e : ∀ c, ((corS ss sc R d n).1 ≤ c ∧ c ≤ (corS ss sc R d n).2) ↔ ((corS ss' sc R' d n).1 ≤ c + δ ∧ c + δ ≤ (corS ss' sc R' d n).2) := fun c => by rw [cor_iff, cor_iff]; exact h c
  have a := e (corS ss sc R d n).1
  have b := e (corS ss sc R d n).2
  have c := e ((corS ss' sc R' d n).1 - δ)
  have f := e ((corS ss' sc R' d n).2 - δ)
  omega
theorem corB_ne {ss : List St} {sc : Int} {R : Nat → Bool} {n : Nat} (h : corB ss sc R n = true) (d : Bool) : (corS ss sc R d n).1 ≤ (corS ss sc R d n).2 := by
  unfold corB at h
  simp only [Bool.and_eq_true, decide_eq_true_eq] at h
  cases d
  · exact h.1
  · exact h.2
theorem corB_shift {ss ss' : List St} {sc : Int} {R R' : Nat → Bool} {n : Nat} {δ : Bool → Int} (h : ∀ d c, CornC ss sc R n d c ↔ CornC ss' sc R' n d (c + δ d)) : corB ss sc R n = corB ss' sc R' n := by
  have a := (corS_shift (h false)).1
  have b := (corS_shift (h true)).1
  unfold corB
  rw [decide_eq_decide.2 a, decide_eq_decide.2 b]
theorem can_shift {p p' : Pl} {ss ss' : List St} {set set' : Int} {δ : Bool → Int} (hlo : 1 ≤ p.lo) (hhi : p.hi ≤ 1000) (e1 : p'.lo = p.lo) (e2 : p'.hi = p.hi) (e3 : p'.n = p.n)
    (h : ∀ sc, p.lo ≤ sc → sc ≤ p.hi → ∀ d c, CornC ss sc (setI set) p.n d c ↔ CornC ss' sc (setI set') p.n d (c + δ d)) : canR p' ss' set' = canR p ss set := by
  have hi : canR p' ss' set' = true ↔ canR p ss set = true := by
    rw [canR_iff hlo hhi, canR_iff (by omega) (by omega), e1, e2, e3]
    constructor
    · rintro ⟨sc, h1, h2⟩; exact ⟨sc, h1, by rw [corB_shift (h sc h1.1 h1.2)]; exact h2⟩
    · rintro ⟨sc, h1, h2⟩; exact ⟨sc, h1, by rw [← corB_shift (h sc h1.1 h1.2)]; exact h2⟩
  cases ha : canR p ss set
  · cases hb : canR p' ss' set'
    · rfl
    · rw [hi.1 hb] at ha; cases ha
  · exact hi.2 ha
theorem pair_of {p p' : Pl} {ss ss' : List St} {set set' : Int} {δ : Bool → Int} (hlo : 1 ≤ p.lo) (hhi : p.hi ≤ 1000) (e1 : p'.lo = p.lo) (e2 : p'.hi = p.hi) (e3 : p'.n = p.n)
    (h : ∀ sc, p.lo ≤ sc → sc ≤ p.hi → ∀ d c, CornC ss sc (setI set) p.n d c ↔ CornC ss' sc (setI set') p.n d (c + δ d)) : Pair δ (trL p ss set) (trL p' ss' set') := by
  have hl : ∀ (x : Scl) (q : Int × Int) (d : Bool), (x.lo d, x.hi d) = q → x.lo d = q.1 ∧ x.hi d = q.2 := fun x q d h => by rw [← h]; exact ⟨rfl, rfl⟩
  constructor
  · intro x hx
    obtain ⟨⟨h1, h2⟩, h3, h4⟩ := trL_of hx
    obtain ⟨y, hy, y1, y2⟩ := trL_mk (p := p') (ss := ss') (set := set') (by omega) (by omega) (sc := x.sc) (by omega) (by omega) (by rw [e3, ← corB_shift (h _ h1 h2)]; exact h3)
    refine ⟨y, hy, y1, fun d => ?_⟩
    have a := hl _ _ _ (h4 d)
    have b := hl _ _ _ (y2 d)
    rw [e3] at b
    have c := (corS_shift (h x.sc h1 h2 d)).2 (corB_ne h3 d)
    omega
  · intro y hy
    obtain ⟨⟨h1, h2⟩, h3, h4⟩ := trL_of hy
    rw [e3] at h3 h4
    have h3' := h3
    rw [← corB_shift (h y.sc (by omega) (by omega))] at h3'
    obtain ⟨x, hx, x1, x2⟩ := trL_mk (p := p) (ss := ss) (set := set) hlo hhi (sc := y.sc) (by omega) (by omega) h3'
    refine ⟨x, hx, x1.symm, fun d => ?_⟩
    have a := hl _ _ _ (h4 d)
    have b := hl _ _ _ (x2 d)
    have c := (corS_shift (h y.sc (by omega) (by omega) d)).2 (corB_ne h3' d)
    omega
theorem pair_nil {δ : Bool → Int} {xs ys : List Scl} (h : Pair δ xs ys) : xs = [] ↔ ys = [] := by
  constructor
  · rintro rfl
    cases ys with
    | nil => rfl
    | cons y ys => obtain ⟨x, hx, _⟩ := h.bwd y List.mem_cons_self; cases hx
  · rintro rfl
    cases xs with
    | nil => rfl
    | cons x xs => obtain ⟨x, hx, _⟩ := h.fwd x List.mem_cons_self; cases hx
end Go.Proofs.Ytdkegkacpdkjgaa

namespace Go.Proofs.Ytdkegkacpdkjgaa
open Go.RowKit Go.Maps

theorem test_add {b v : Nat} (hv : v < 2 ^ b) (i : Nat) : (2 ^ b + v).testBit i = (decide (i = b) || v.testBit i) := by
  rcases Nat.lt_trichotomy i b with hi | rfl | hi
  · rw [Nat.testBit_two_pow_add_gt hi, decide_eq_false (by omega), Bool.false_or]
  · rw [Nat.testBit_two_pow_add_eq, Nat.testBit_lt_two_pow hv, decide_eq_true rfl]; rfl
  · have hp : 2 ^ (b + 1) ≤ 2 ^ i := Nat.pow_le_pow_right (by decide) hi
    have hq : 2 ^ (b + 1) = 2 * 2 ^ b := by rw [Nat.pow_succ, Nat.mul_comm]
    rw [Nat.testBit_lt_two_pow (show 2 ^ b + v < 2 ^ i by omega), Nat.testBit_lt_two_pow (show v < 2 ^ i by omega), decide_eq_false (by omega)]; rfl
theorem sizeF_add : ∀ (b k v : Nat), b < k → v < 2 ^ b → sizeF k ((2 ^ b + v : Nat) : Int) = sizeF k (v : Int) + 1
  | b, 0, v, h, _ => by omega
  | 0, k + 1, v, _, hv => by
    obtain rfl : v = 0 := by simpa using hv
    rw [sizeF, sizeF]
    show (1 : Int) % 2 + sizeF k (1 / 2) = (0 : Int) % 2 + sizeF k (0 / 2) + 1
    rw [show (1 : Int) / 2 = 0 from rfl, show (0 : Int) / 2 = 0 from rfl, sizeF_zero]; rfl
  | b + 1, k + 1, v, h, hv => by
    have hp : 2 ^ (b + 1) = 2 * 2 ^ b := by rw [Nat.pow_succ, Nat.mul_comm]
    have ih := sizeF_add b k (v / 2) (by omega) (by omega)
    rw [sizeF, sizeF]
    have e1 : ((2 ^ (b + 1) + v : Nat) : Int) / 2 = ((2 ^ b + v / 2 : Nat) : Int) := by omega
    have e2 : (v : Int) / 2 = ((v / 2 : Nat) : Int) := by omega
    have e3 : ((2 ^ (b + 1) + v : Nat) : Int) % 2 = (v : Int) % 2 := by omega
    rw [e1, e2, e3, ih]; omega
theorem popc_add {b v : Nat} (hb : b < 12) (hv : v < 2 ^ b) : popc ((2 ^ b + v : Nat) : Int) = popc (v : Int) + 1 := by
  have hp : 2 ^ (b + 1) ≤ 4096 := (by decide +kernel : ∀ k : Fin 12, 2 ^ (k.val + 1) ≤ 4096) ⟨b, hb⟩
  have hq : 2 ^ (b + 1) = 2 * 2 ^ b := by rw [Nat.pow_succ, Nat.mul_comm]
  rw [← sizeF_popc (by omega), ← sizeF_popc (by omega), sizeF_add b 12 v hb hv]
theorem popc_zero : popc (0 : Int) = 0 := by decide
theorem popc_le : ∀ (b v : Nat), b ≤ 12 → v < 2 ^ b → 0 ≤ popc (v : Int) ∧ popc (v : Int) ≤ b ∧ (popc (v : Int) = 0 → v = 0)
  | 0, v, _, hv => by
    obtain rfl : v = 0 := by simpa using hv
    exact ⟨by decide, by decide, fun _ => rfl⟩
  | b + 1, v, hb, hv => by
    have hq : 2 ^ (b + 1) = 2 * 2 ^ b := by rw [Nat.pow_succ, Nat.mul_comm]
    by_cases h : v < 2 ^ b
    · have := popc_le b v (by omega) h
      exact ⟨this.1, by omega, this.2.2⟩
    · obtain ⟨u, rfl⟩ : ∃ u, v = 2 ^ b + u := ⟨v - 2 ^ b, by omega⟩
      have := popc_le b u (by omega) (by omega)
      rw [popc_add (by omega) (by omega)]
      exact ⟨by omega, by omega, fun h => by omega⟩
theorem sizeF_mono : ∀ (j x y : Nat), (∀ i, i < j → y.testBit i = true → x.testBit i = true) → sizeF j (y : Int) ≤ sizeF j (x : Int) ∧ ∀ i, i < j → x.testBit i = true → y.testBit i = false → sizeF j (y : Int) < sizeF j (x : Int)
  | 0, x, y, _ => ⟨by rw [sizeF, sizeF]; omega, fun i hi => by omega⟩
  | j + 1, x, y, h => by
    have ih := sizeF_mono j (x / 2) (y / 2) (fun i hi hb => by
      have := h (i + 1) (by omega) (by rw [Nat.testBit_succ]; exact hb)
      rw [Nat.testBit_succ] at this; exact this)
    have h0 := h 0 (by omega)
    have t0 : ∀ x : Nat, x.testBit 0 = true ↔ x % 2 = 1 := fun x => by rw [Nat.testBit_zero, decide_eq_true_eq]
    rw [t0, t0] at h0
    rw [sizeF, sizeF]
    have e1 : (x : Int) / 2 = ((x / 2 : Nat) : Int) := by omega
    have e2 : (y : Int) / 2 = ((y / 2 : Nat) : Int) := by omega
    rw [e1, e2]
    generalize sizeF j ((x / 2 : Nat) : Int) = a at *
    generalize sizeF j ((y / 2 : Nat) : Int) = b at *
    refine ⟨by have := ih.1; omega, fun i hi hx hy => ?_⟩
    cases i with
    | zero =>
      have := ih.1
      rw [t0] at hx
      have : ¬ y % 2 = 1 := fun e => by rw [(t0 y).2 e] at hy; cases hy
      omega
    | succ i =>
      rw [Nat.testBit_succ] at hx hy
      have := ih.2 i (by omega) hx hy
      omega
theorem popc_mono {x y : Nat} (hx : x < 4096) (hy : y < 4096) (h : ∀ i, y.testBit i = true → x.testBit i = true) : popc (y : Int) ≤ popc (x : Int) := by
  have := (sizeF_mono 12 x y (fun i _ => h i)).1
  rwa [sizeF_popc (by omega), sizeF_popc (by omega)] at this
theorem popc_lt {x y : Nat} (hx : x < 4096) (hy : y < 4096) (h : ∀ i, y.testBit i = true → x.testBit i = true) {i : Nat} (hi : i < 12) (h1 : x.testBit i = true) (h2 : y.testBit i = false) : popc (y : Int) < popc (x : Int) := by
  have := (sizeF_mono 12 x y (fun i _ => h i)).2 i hi h1 h2
  rwa [sizeF_popc (by omega), sizeF_popc (by omega)] at this
/-- A set of some of all stars. -/
def Sub (v : Nat) (all : Int) : Prop := ∀ i, v.testBit i = true → setI all i = true
theorem or_above {T b : Nat} (hb : b < 12) (hT : T % 2 ^ (b + 1) = 0) (hT2 : T < 4096) : bits .or .i64 (T : Int) (wrap64 (2 ^ b)) = ((T + 2 ^ b : Nat) : Int) := by
  have hp : wrap64 (2 ^ b) = ((2 ^ b : Nat) : Int) := (by decide +kernel : ∀ k : Fin 12, wrap64 (2 ^ k.val) = ((2 ^ k.val : Nat) : Int)) ⟨b, hb⟩
  have hp2 : 1 ≤ 2 ^ b ∧ 2 ^ b < 4096 := (by decide +kernel : ∀ k : Fin 12, 1 ≤ 2 ^ k.val ∧ 2 ^ k.val < 4096) ⟨b, hb⟩
  unfold bits
  rw [hp]
  dsimp only
  have ho : T ||| 2 ^ b = T + 2 ^ b := by
    have e : T = 2 ^ (b + 1) * (T / 2 ^ (b + 1)) := by have := Nat.div_add_mod T (2 ^ (b + 1)); omega
    have hlt : 2 ^ b < 2 ^ (b + 1) := Nat.pow_lt_pow_right (by decide) (by omega)
    have := Nat.two_pow_add_eq_or_of_lt hlt (T / 2 ^ (b + 1))
    rw [← e] at this
    exact this.symm
  rw [BitVec.toNat_or, bv_nat (by omega), bv_nat (by omega), ho, i64_of_nat (by omega)]
theorem mod_half {T b : Nat} (hT : T % 2 ^ (b + 1) = 0) : T % 2 ^ b = 0 ∧ (T + 2 ^ b) % 2 ^ b = 0 := by
  have h : T % 2 ^ b = 0 := Nat.mod_eq_zero_of_dvd (Nat.dvd_trans (Nat.pow_dvd_pow 2 (by omega)) (Nat.dvd_of_mod_eq_zero hT))
  exact ⟨h, by rw [Nat.add_mod_right]; exact h⟩
theorem try_spec (ask : Int → Bool) (all : Int) : ∀ (b m T : Nat), b ≤ 10 → T % 2 ^ b = 0 → T + 2 ^ b ≤ 1024 →
    (∀ x, tryS ask all b (T : Int) m = some x → ∃ u, u < 2 ^ b ∧ Sub u all ∧ popc (u : Int) = m ∧ x = ((T + u : Nat) : Int) ∧ ask x = true ∧ ∀ v, v < 2 ^ b → Sub v all → popc (v : Int) = m → ask ((T + v : Nat) : Int) = true → u ≤ v) ∧
    (tryS ask all b (T : Int) m = none → ∀ v, v < 2 ^ b → Sub v all → popc (v : Int) = m → ask ((T + v : Nat) : Int) = false)
  | 0, m, T, _, _, _ => by
    have hv0 : ∀ v : Nat, v < 2 ^ 0 → v = 0 := fun v hv => by simpa using hv
    have hs0 : Sub 0 all := fun i h => by rw [Nat.zero_testBit] at h; cases h
    have hp0 : popc ((0 : Nat) : Int) = 0 := popc_zero
    rw [tryS]
    by_cases hm : m = 0
    · subst hm
      rw [if_pos rfl]
      cases ha : ask (T : Int)
      · refine ⟨fun x h => (by cases h), fun _ v hv _ _ => ?_⟩
        rw [hv0 v hv, Nat.add_zero]; exact ha
      · refine ⟨fun x h => ?_, fun h => (by cases h)⟩
        injection h with h
        subst h
        exact ⟨0, by decide, hs0, hp0, by rw [Nat.add_zero], ha, fun v _ _ _ _ => Nat.zero_le _⟩
    · rw [if_neg hm]
      refine ⟨fun x h => (by cases h), fun _ v hv _ hp => ?_⟩
      rw [hv0 v hv, hp0] at hp
      omega
  | b + 1, m, T, hb, hT, hT2 => by
    have hq : 2 ^ (b + 1) = 2 * 2 ^ b := by rw [Nat.pow_succ, Nat.mul_comm]
    have hs0 : Sub 0 all := fun i h => by rw [Nat.zero_testBit] at h; cases h
    have hp0 : popc ((0 : Nat) : Int) = 0 := popc_zero
    obtain ⟨hm1, hm2⟩ := mod_half hT
    have h1 := try_spec ask all b m T (by omega) hm1 (by omega)
    have h2 := try_spec ask all b (m - 1) (T + 2 ^ b) (by omega) hm2 (by omega)
    have hor := or_above (T := T) (b := b) (by omega) hT (by omega)
    rw [tryS]
    by_cases hm : m = 0
    · subst hm
      rw [if_pos rfl]
      have hz : ∀ v : Nat, v < 2 ^ (b + 1) → popc (v : Int) = ((0 : Nat) : Int) → v = 0 := fun v hv hp => (popc_le (b + 1) v (by omega) hv).2.2 hp
      cases ha : ask (T : Int)
      · refine ⟨fun x h => (by cases h), fun _ v hv _ hp => ?_⟩
        rw [hz v hv hp, Nat.add_zero]; exact ha
      · refine ⟨fun x h => ?_, fun h => (by cases h)⟩
        injection h with h
        subst h
        exact ⟨0, Nat.two_pow_pos _, hs0, hp0, by rw [Nat.add_zero], ha, fun v _ _ _ _ => Nat.zero_le _⟩
    rw [if_neg hm]
    by_cases hbm : b + 1 < m
    · rw [if_pos hbm]
      refine ⟨fun x h => (by cases h), fun _ v hv _ hp => ?_⟩
      have := (popc_le (b + 1) v (by omega) hv).2.1
      omega
    rw [if_neg hbm]
    cases h3 : tryS ask all b (T : Int) m with
    | some y =>
      obtain ⟨u, u1, u2, u3, u4, u5, u6⟩ := h1.1 y h3
      refine ⟨fun x h => ?_, fun h => (by cases h)⟩
      injection h with h
      subst h
      refine ⟨u, by omega, u2, u3, u4, u5, fun v hv v2 v3 v4 => ?_⟩
      by_cases hvb : v < 2 ^ b
      · exact u6 v hvb v2 v3 v4
      · omega
    | none =>
      have h1n := h1.2 h3
      dsimp only
      cases hal : setI all b
      · rw [if_neg (by simp)]
        refine ⟨fun x h => (by cases h), fun _ v hv v2 v3 => ?_⟩
        by_cases hvb : v < 2 ^ b
        · exact h1n v hvb v2 v3
        · obtain ⟨u, rfl⟩ : ∃ u, v = 2 ^ b + u := ⟨v - 2 ^ b, by omega⟩
          have := v2 b (by rw [test_add (by omega), decide_eq_true rfl]; rfl)
          rw [hal] at this; cases this
      · rw [if_pos rfl, hor]
        have hsp : ∀ u, u < 2 ^ b → (Sub (2 ^ b + u) all ↔ Sub u all) := fun u hu => by
          constructor
          · intro h i hi; exact h i (by rw [test_add hu, hi, Bool.or_true])
          · intro h i hi
            rw [test_add hu, Bool.or_eq_true, decide_eq_true_eq] at hi
            rcases hi with rfl | hi
            · exact hal
            · exact h i hi
        refine ⟨fun x h => ?_, fun h v hv v2 v3 => ?_⟩
        · obtain ⟨u, u1, u2, u3, u4, u5, u6⟩ := h2.1 x h
          refine ⟨2 ^ b + u, by omega, (hsp u u1).2 u2, by rw [popc_add (by omega) u1, u3]; omega, by rw [u4, Nat.add_assoc], u5, fun v hv v2 v3 v4 => ?_⟩
          by_cases hvb : v < 2 ^ b
          · rw [h1n v hvb v2 v3] at v4; cases v4
          · obtain ⟨z, rfl⟩ : ∃ z, v = 2 ^ b + z := ⟨v - 2 ^ b, by omega⟩
            rw [popc_add (by omega) (by omega)] at v3
            have := u6 z (by omega) ((hsp z (by omega)).1 v2) (by omega) (by rw [Nat.add_assoc]; exact v4)
            omega
        · by_cases hvb : v < 2 ^ b
          · exact h1n v hvb v2 v3
          · obtain ⟨z, rfl⟩ : ∃ z, v = 2 ^ b + z := ⟨v - 2 ^ b, by omega⟩
            rw [popc_add (by omega) (by omega)] at v3
            have := h2.2 h z (by omega) ((hsp z (by omega)).1 v2) (by omega)
            rw [← Nat.add_assoc]; exact this
/-- What the fewest stars that are as asked are. -/
structure Few (ask : Int → Bool) (all : Int) (u : Nat) : Prop where
  lt : u < 1024
  sub : Sub u all
  asks : ask (u : Int) = true
  least : ∀ v, v < 1024 → Sub v all → ask (v : Int) = true → popc (u : Int) < popc (v : Int) ∨ (popc (u : Int) = popc (v : Int) ∧ u ≤ v)
theorem fewTo_spec (ask : Int → Bool) (all : Int) : ∀ n : Nat, (∀ x, fewTo ask all n = some x → ∃ u : Nat, x = (u : Int) ∧ Few ask all u) ∧ (fewTo ask all n = none → ∀ v, v < 1024 → Sub v all → popc (v : Int) < n → ask (v : Int) = false)
  | 0 => ⟨fun x h => (by cases h), fun _ v hv _ hp => by have := (popc_le 10 v (by decide) hv).1; omega⟩
  | n + 1 => by
    have ih := fewTo_spec ask all n
    have ht := try_spec ask all 10 n 0 (by decide) (by decide) (by decide)
    rw [fewTo]
    cases h : fewTo ask all n with
    | some y =>
      refine ⟨fun x hx => ?_, fun hx => (by cases hx)⟩
      injection hx with hx
      subst hx
      exact ih.1 y h
    | none =>
      have hn := ih.2 h
      dsimp only
      refine ⟨fun x hx => ?_, fun hx v hv v2 v3 => ?_⟩
      · obtain ⟨u, u1, u2, u3, u4, u5, u6⟩ := ht.1 x hx
        rw [Nat.zero_add] at u4
        subst u4
        refine ⟨u, rfl, u1, u2, u5, fun v hv v2 v3 => ?_⟩
        rcases Int.lt_trichotomy (popc (u : Int)) (popc (v : Int)) with h1 | h1 | h1
        · exact .inl h1
        · exact .inr ⟨h1, u6 v hv v2 (by omega) (by rw [Nat.zero_add]; exact v3)⟩
        · rw [hn v hv v2 (by omega)] at v3; cases v3
      · by_cases hp : popc (v : Int) < n
        · exact hn v hv v2 hp
        · have := ht.2 hx v hv v2 (by omega)
          rwa [Nat.zero_add] at this
theorem few_is {ask : Int → Bool} {all : Nat} (hall : all < 4096) (h : ∃ v : Nat, v < 1024 ∧ Sub v (all : Int) ∧ ask (v : Int) = true) : ∃ u : Nat, fewS ask (all : Int) = (u : Int) ∧ Few ask (all : Int) u := by
  obtain ⟨v, v1, v2, v3⟩ := h
  have hs := fewTo_spec ask (all : Int) (popc (all : Int) + 1).toNat
  unfold fewS
  cases hf : fewTo ask (all : Int) (popc (all : Int) + 1).toNat with
  | some x =>
    obtain ⟨u, rfl, hu⟩ := hs.1 x hf
    exact ⟨u, rfl, hu⟩
  | none =>
    have hm := popc_mono (x := all) (y := v) hall (by omega) (fun i hi => by
      have h12 : i < 12 := by
        rcases Nat.lt_or_ge i 12 with h | h
        · exact h
        · rw [Nat.testBit_lt_two_pow (Nat.lt_of_lt_of_le v1 (Nat.le_trans (by decide : 1024 ≤ 2 ^ 12) (Nat.pow_le_pow_right (by decide) h)))] at hi; cases hi
      rw [← bit_nat hall h12]; exact v2 i hi)
    have hr := popc_rng (all : Int)
    rw [hs.2 hf v v1 v2 (by omega)] at v3; cases v3
theorem few_not {ask : Int → Bool} {all : Nat} (h : ∀ v : Nat, v < 1024 → Sub v (all : Int) → ask (v : Int) = false) : fewS ask (all : Int) = 0 := by
  have hs := fewTo_spec ask (all : Int) (popc (all : Int) + 1).toNat
  unfold fewS
  cases hf : fewTo ask (all : Int) (popc (all : Int) + 1).toNat with
  | none => rfl
  | some x =>
    obtain ⟨u, rfl, hu⟩ := hs.1 x hf
    exact absurd hu.asks (by rw [h u hu.lt hu.sub]; decide)
/-- Two questions with the same answers. -/
theorem few_same {ask ask' : Int → Bool} {all : Nat} (hall : all < 4096) (h : ∀ v : Nat, v < 1024 → Sub v (all : Int) → ask' (v : Int) = ask (v : Int)) : fewS ask' (all : Int) = fewS ask (all : Int) := by
  by_cases hx : ∃ v : Nat, v < 1024 ∧ Sub v (all : Int) ∧ ask (v : Int) = true
  · obtain ⟨u, e1, hu⟩ := few_is hall hx
    obtain ⟨v, v1, v2, v3⟩ := hx
    obtain ⟨u', e2, hu'⟩ := few_is (ask := ask') hall ⟨v, v1, v2, by rw [h v v1 v2]; exact v3⟩
    have a := hu.least u' hu'.lt hu'.sub (by rw [← h u' hu'.lt hu'.sub]; exact hu'.asks)
    have b := hu'.least u hu.lt hu.sub (by rw [h u hu.lt hu.sub]; exact hu.asks)
    rw [e1, e2]
    omega
  · have hn : ∀ v : Nat, v < 1024 → Sub v (all : Int) → ask (v : Int) = false := fun v v1 v2 => by
      cases e : ask (v : Int)
      · rfl
      · exact absurd ⟨v, v1, v2, e⟩ hx
    rw [few_not hn, few_not fun v v1 v2 => by rw [h v v1 v2]; exact hn v v1 v2]
theorem andNot_nat {a b : Nat} (ha : a < 4096) (hb : b < 1000000) : ∃ y : Nat, bits .andNot .i64 (a : Int) (b : Int) = (y : Int) ∧ y ≤ a ∧ ∀ i, y.testBit i = (a.testBit i && !b.testBit i) := by
  unfold bits
  dsimp only
  have e : (BitVec.ofInt IntKind.i64.bits (a : Int) &&& ~~~ BitVec.ofInt IntKind.i64.bits (b : Int)).toNat = a &&& (2 ^ 64 - (b + 1)) := by
    rw [BitVec.toNat_and, BitVec.toNat_not, bv_nat (by omega), bv_nat (by omega)]
    have h64 : 2 ^ IntKind.i64.bits - 1 - b = 2 ^ 64 - (b + 1) := by show 2 ^ 64 - 1 - b = _; omega
    rw [h64]
  have hle : a &&& (2 ^ 64 - (b + 1)) ≤ a := Nat.and_le_left
  refine ⟨a &&& (2 ^ 64 - (b + 1)), by rw [e, i64_of_nat (by omega)], hle, fun i => ?_⟩
  rw [Nat.testBit_and, Nat.testBit_two_pow_sub_succ (by omega)]
  by_cases hi : i < 64
  · rw [decide_eq_true hi]; simp
  · have : a.testBit i = false := Nat.testBit_lt_two_pow (Nat.lt_of_lt_of_le (show a < 2 ^ 64 by omega) (Nat.pow_le_pow_right (by decide) (by omega)))
    rw [this]; simp
/-- Whether stars can be right is asked of each of them alone. -/
theorem corn_ext {ss : List St} {sc : Int} {R R' : Nat → Bool} {n : Nat} (h : ∀ i, i < n → R i = R' i) (d : Bool) (c : Int) : CornC ss sc R n d c ↔ CornC ss sc R' n d c := by
  unfold CornC
  exact ⟨fun k => ⟨k.1, fun i hi hr => k.2 i hi (by rw [h i hi]; exact hr)⟩, fun k => ⟨k.1, fun i hi hr => k.2 i hi (by rw [← h i hi]; exact hr)⟩⟩
end Go.Proofs.Ytdkegkacpdkjgaa

namespace Go.Proofs.Ytdkegkacpdkjgaa
open Go.RowKit Go.Maps

def shV (δ : Bool → Int) (v : Value) : Value := .agg #[.int .i64 (numB v 0 + δ false), .int .i64 (numB v 1 + δ false), .int .i64 (numB v 2 + δ true), .int .i64 (numB v 3 + δ true)]
def shR (δ : Bool → Int) : Except Int Value → Except Int Value
  | .ok v => .ok (shV δ v)
  | .error c => .error c
theorem along_shift {δ : Bool → Int} {f g : Bool → Scl → Int × Int} {xs ys : List Scl} (h1 : ∀ d, ∀ x ∈ xs, (f d x).1 ≤ (f d x).2 → ∃ y ∈ ys, (g d y).1 = (f d x).1 + δ d ∧ (g d y).2 = (f d x).2 + δ d)
    (h2 : ∀ d, ∀ y ∈ ys, (g d y).1 ≤ (g d y).2 → ∃ x ∈ xs, (g d y).1 = (f d x).1 + δ d ∧ (g d y).2 = (f d x).2 + δ d) :
    alongR (kepL (g false) ys) (kepL (g true) ys) = shR δ (alongR (kepL (f false) xs) (kepL (f true) xs)) := by
  rw [kep_shift (h1 false) (h2 false), kep_shift (h1 true) (h2 true)]
  generalize kepL (f false) xs = k0
  generalize kepL (f true) xs = k1
  obtain ⟨a0, a1, a2⟩ := k0
  obtain ⟨b0, b1, b2⟩ := k1
  unfold alongR shR
  cases a2 <;> cases b2 <;> rfl
theorem along_same {f g : Bool → Scl → Int × Int} {xs ys : List Scl} (h1 : ∀ d, ∀ x ∈ xs, (f d x).1 ≤ (f d x).2 → ∃ y ∈ ys, g d y = f d x)
    (h2 : ∀ d, ∀ y ∈ ys, (g d y).1 ≤ (g d y).2 → ∃ x ∈ xs, g d y = f d x) :
    alongR (kepL (g false) ys) (kepL (g true) ys) = alongR (kepL (f false) xs) (kepL (f true) xs) := by
  rw [kep_same (h1 false) (h2 false), kep_same (h1 true) (h2 true)]
/-- Errors are not zero. -/
def noZ (r : Except Int Value) : Prop := ∀ c, r = .error c → c ≠ 0
theorem noZ_err {c : Int} (h : c ≠ 0) : noZ (.error c) := fun x e => by injection e with e; subst e; exact h
theorem noZ_ok (v : Value) : noZ (.ok v) := fun x e => by cases e
theorem along_noZ (k0 k1 : Int × Int × Bool) : noZ (alongR k0 k1) := by
  unfold alongR; (repeat' split) <;> first | exact noZ_ok _ | exact noZ_err (by decide)
theorem zero_noZ (p : Pl) (ss : List St) : noZ (zeroR p ss) := by unfold zeroR tellK; (repeat' split) <;> first | exact along_noZ _ _ | exact noZ_err (by decide)
theorem star_noZ (p : Pl) (ss : List St) (i : Int) : noZ (starR p ss i) := by unfold starR tellK; (repeat' split) <;> first | exact along_noZ _ _ | exact noZ_err (by decide)
theorem apart_noZ (p : Pl) (ss : List St) (i j : Int) : noZ (apartR p ss i j) := by unfold apartR tellR; (repeat' split) <;> first | exact along_noZ _ _ | exact noZ_err (by decide)
theorem find_noZ (p : Pl) (ss : List St) (i j : Int) : noZ (findR p ss i j) := by unfold findR tellK; (repeat' split) <;> first | exact along_noZ _ _ | exact noZ_err (by decide)
theorem scale_noZ (p : Pl) (ss : List St) : noZ (scaleR p ss) := by unfold scaleR scaleV; (repeat' split) <;> first | exact noZ_ok _ | exact noZ_err (by decide)
/-- Numbers of an answer are bounded. -/
def Bnd (M : Int) (r : Except Int Value) : Prop := ∀ v, r = .ok v → ∀ i, i < 4 → -M ≤ numB v i ∧ numB v i ≤ M
theorem bnd_err (M c : Int) : Bnd M (.error c) := fun v e => by cases e
theorem along_bnd {M : Int} {f : Bool → Scl → Int × Int} {xs : List Scl} (h : ∀ d, ∀ x ∈ xs, -M ≤ (f d x).1 ∧ (f d x).2 ≤ M) : Bnd M (alongR (kepL (f false) xs) (kepL (f true) xs)) := by
  have hk : ∀ d, (kepL (f d) xs).2.2 = true → (-M ≤ (kepL (f d) xs).1 ∧ (kepL (f d) xs).1 ≤ M) ∧ -M ≤ (kepL (f d) xs).2.1 ∧ (kepL (f d) xs).2.1 ≤ M := fun d ht => by
    obtain ⟨x, hx, hl, e1⟩ := (kepL_of (f d) xs).lo ht
    obtain ⟨y, hy, hm, e2⟩ := (kepL_of (f d) xs).hi ht
    have a := h d x hx
    have b := h d y hy
    omega
  intro v hv i hi
  unfold alongR at hv
  split at hv
  · rename_i h0
    split at hv
    · rename_i h1
      injection hv with hv
      subst hv
      have a := hk false h0
      have b := hk true h1
      have : i = 0 ∨ i = 1 ∨ i = 2 ∨ i = 3 := by omega
      rcases this with rfl | rfl | rfl | rfl
      · exact a.1
      · exact a.2
      · exact b.1
      · exact b.2
    · cases hv
  · cases hv
theorem zero_bnd {p : Pl} {ss : List St} (h : plB p ss = true → PlOk p ss) : Bnd 100000000 (zeroR p ss) := by
  unfold zeroR tellK
  split
  · rename_i hv
    repeat' split
    · exact bnd_err _ _
    · exact bnd_err _ _
    · exact along_bnd (f := fun d x => (x.lo d, x.hi d)) (xs := trA p ss) fun d x hx => by have a := (trL_ok (h hv) hx).lo d; have b := (trL_ok (h hv) hx).hi d; exact ⟨a.1, b.2⟩
  · exact bnd_err _ _
theorem star_bnd {p : Pl} {ss : List St} (h : plB p ss = true → PlOk p ss) (i : Int) : Bnd 200000000 (starR p ss i) := by
  unfold starR tellK
  split
  · rename_i hv
    split
    · rename_i hi
      repeat' split
      · exact bnd_err _ _
      · exact bnd_err _ _
      · refine along_bnd (f := fun d x => plS x.sc (x.lo d) (x.hi d) (ss.getD i.toNat default) d) (xs := trA p ss) fun d x hx => ?_
        have k := trL_ok (h hv) hx
        have hn := (h hv).nl
        have := pl_rng ((h hv).st i.toNat (by omega) d) (sc := x.sc) (by have := k.s0; omega) k.s1 (k.lo d) (k.hi d)
        exact ⟨by omega, by omega⟩
    · exact bnd_err _ _
  · exact bnd_err _ _
theorem plOk' {p : Pl} {ss : List St} (hn : ss.length = p.n) (hv : plB p ss = true) : PlOk p ss := by
  unfold plB at hv
  simp only [Bool.and_eq_true, decide_eq_true_eq, List.all_eq_true] at hv
  obtain ⟨⟨⟨⟨h1, h2⟩, h3⟩, h4⟩, h5⟩ := hv
  refine ⟨h1, h2, h3, h4, hn, fun i hi d => stOk (h5 _ ?_) d⟩
  have e : ss.getD i default = ss[i] := by simp [List.getD, hi]
  rw [e]; exact List.getElem_mem hi
/-- An answer that is farther on, in numbers. -/
theorem rep_shift {δ : Bool → Int} {M : Int} {r : Except Int Value} (h : isFour r) (hz : noZ r) (hb : Bnd M r) (hM : 0 ≤ M) : ∃ a b c d e a' b' c' d' : Int, repB r = .tuple #[.agg #[.int .i64 a, .int .i64 b], .agg #[.int .i64 c, .int .i64 d], .int .i64 e] ∧
    repB (shR δ r) = .tuple #[.agg #[.int .i64 a', .int .i64 b'], .agg #[.int .i64 c', .int .i64 d'], .int .i64 e] ∧ (e = 0 → a' = a + δ false ∧ b' = b + δ false ∧ c' = c + δ true ∧ d' = d + δ true) ∧
    ((-M ≤ a ∧ a ≤ M) ∧ (-M ≤ b ∧ b ≤ M) ∧ (-M ≤ c ∧ c ≤ M) ∧ (-M ≤ d ∧ d ≤ M)) := by
  cases r with
  | error c => exact ⟨0, 0, 0, 0, c, 0, 0, 0, 0, rfl, rfl, fun h => absurd h (hz c rfl), by omega⟩
  | ok v =>
    have hb := hb v rfl
    obtain ⟨a, b, c, d, rfl⟩ := h v rfl
    exact ⟨a, b, c, d, 0, a + δ false, b + δ false, c + δ true, d + δ true, rfl, rfl, fun _ => ⟨rfl, rfl, rfl, rfl⟩, hb 0 (by decide), hb 1 (by decide), hb 2 (by decide), hb 3 (by decide)⟩
section
variable {p p' : Pl} {ss : List St} {b t : Int}
/-- A plate whose known places are moved, and it before. -/
structure Mvd (p p' : Pl) (ss : List St) (b t : Int) : Prop where
  lo : p'.lo = p.lo
  hi : p'.hi = p.hi
  n : p'.n = p.n
  nl : ss.length = p.n
  v : plB p ss = true
  v' : plB p' (ss.map (movS b t)) = true
theorem Mvd.ok (h : Mvd p p' ss b t) : PlOk p ss := plOk' h.nl h.v
theorem Mvd.ok' (h : Mvd p p' ss b t) : PlOk p' (ss.map (movS b t)) := plOk' (by rw [List.length_map, h.nl, h.n]) h.v'
theorem Mvd.st (h : Mvd p p' ss b t) {i : Nat} (hi : i < p.n) (d : Bool) : StOk (movS b t (ss.getD i default)) d := by
  rw [← mov_get]; exact h.ok'.st i (by rw [List.length_map, h.nl]; exact hi) d
theorem mvd_corn (h : Mvd p p' ss b t) {set : Int} {i0 : Nat} (hi0 : i0 < p.n) (hk0 : (ss.getD i0 default).k = true) (hR0 : setI set i0 = true) (hsub : ∀ i, i < p.n → setI set i = true → (ss.getD i default).k = true)
    {sc : Int} (h1 : p.lo ≤ sc) (h2 : sc ≤ p.hi) (d : Bool) (c : Int) : CornC ss sc (setI set) p.n d c ↔ CornC (ss.map (movS b t)) sc (setI set) p.n d (c + dlt b t d) := by
  have ok := h.ok
  have hlo := ok.lo
  have hhi := ok.hi
  constructor
  · intro hc
    have hin : ∀ i, i < p.n → setI set i = true → (cbS sc (movS b t (ss.getD i default)) d).1 ≤ c + dlt b t d ∧ c + dlt b t d ≤ (cbS sc (movS b t (ss.getD i default)) d).2 := fun i hi hr => by
      have a := mov_cb (b := b) (t := t) (sc := sc) (hsub i hi hr) d
      have := hc.2 i hi hr
      omega
    have hn := near (h.st hi0 d) (by rw [mov_k]; exact hk0) (sc := sc) (by omega) (by omega)
    have := hin i0 hi0 hR0
    exact ⟨by omega, fun i hi hr => by rw [mov_get]; exact hin i hi hr⟩
  · intro hc
    have hin : ∀ i, i < p.n → setI set i = true → (cbS sc (ss.getD i default) d).1 ≤ c ∧ c ≤ (cbS sc (ss.getD i default) d).2 := fun i hi hr => by
      have a := mov_cb (b := b) (t := t) (sc := sc) (hsub i hi hr) d
      have := hc.2 i hi hr
      rw [mov_get] at this
      omega
    have hn := near (ok.st i0 (by rw [h.nl]; exact hi0) d) hk0 (sc := sc) (by omega) (by omega)
    have := hin i0 hi0 hR0
    exact ⟨by omega, hin⟩
theorem tr_same (e1 : p'.lo = p.lo) (e2 : p'.hi = p.hi) (e3 : p'.n = p.n) (ss : List St) (set : Int) : trL p' ss set = trL p ss set := by unfold trL; rw [e1, e2, e3]
theorem mvd_pair (h : Mvd p p' ss b t) (hk : knownTo ss p.n ≠ 0) : Pair (dlt b t) (trA p ss) (trA p' (ss.map (movS b t))) := by
  have ok := h.ok
  have h12 : p.n ≤ 12 := by have := ok.n10; omega
  obtain ⟨i0, hi0, hk0⟩ := known_some h12 hk
  unfold trA
  rw [mov_known, h.n]
  refine pair_of ok.lo ok.hi h.lo h.hi h.n fun sc h1 h2 d c => ?_
  exact mvd_corn h hi0 hk0 (by rw [known_bit ss h12 hi0]; exact hk0) (fun i hi hr => by rw [known_bit ss h12 hi] at hr; exact hr) h1 h2 d c
/-- Where the corner is, if a star is known. -/
theorem tr_near {p : Pl} {ss : List St} (ok : PlOk p ss) (hk : knownTo ss p.n ≠ 0) {x : Scl} (hx : x ∈ trA p ss) (d : Bool) : -1081344 ≤ x.lo d ∧ x.hi d ≤ 1048576 ∧ x.lo d ≤ x.hi d := by
  have h12 : p.n ≤ 12 := by have := ok.n10; omega
  obtain ⟨i0, hi0, hk0⟩ := known_some h12 hk
  obtain ⟨⟨h1, h2⟩, h3, h4⟩ := trL_of hx
  have hlo := ok.lo
  have hhi := ok.hi
  have hl : x.lo d = (corS ss x.sc (setI (knownTo ss p.n)) d p.n).1 := by rw [← h4 d]
  have hh : x.hi d = (corS ss x.sc (setI (knownTo ss p.n)) d p.n).2 := by rw [← h4 d]
  have hle : x.lo d ≤ x.hi d := by
    unfold corB at h3
    simp only [Bool.and_eq_true, decide_eq_true_eq] at h3
    cases d
    · omega
    · omega
  have a := cor_iff.1 (show _ ∧ x.lo d ≤ _ from ⟨by rw [hl]; exact Int.le_refl _, by rw [← hh]; exact hle⟩)
  have b := cor_iff.1 (show _ ≤ x.hi d ∧ _ from ⟨by rw [← hl]; exact hle, by rw [hh]; exact Int.le_refl _⟩)
  have hR0 : setI (knownTo ss p.n) i0 = true := by rw [known_bit ss h12 hi0]; exact hk0
  have c := corn_near a hi0 hR0 (ok.st i0 (by rw [ok.nl]; exact hi0) d) hk0 (by omega) (by omega)
  have e := corn_near b hi0 hR0 (ok.st i0 (by rw [ok.nl]; exact hi0) d) hk0 (by omega) (by omega)
  omega
theorem mvd_pl (h : Mvd p p' ss b t) (hk : knownTo ss p.n ≠ 0) {x y : Scl} (hx : x ∈ trA p ss) (hy : y ∈ trA p' (ss.map (movS b t))) (e : y.sc = x.sc) (hs : ∀ d, y.lo d = x.lo d + dlt b t d ∧ y.hi d = x.hi d + dlt b t d) {i : Nat} (hi : i < p.n) (d : Bool) :
    (plS y.sc (y.lo d) (y.hi d) (movS b t (ss.getD i default)) d).1 = (plS x.sc (x.lo d) (x.hi d) (ss.getD i default) d).1 + dlt b t d ∧ (plS y.sc (y.lo d) (y.hi d) (movS b t (ss.getD i default)) d).2 = (plS x.sc (x.lo d) (x.hi d) (ss.getD i default) d).2 + dlt b t d := by
  have ok := h.ok
  have n1 := tr_near ok hk hx d
  have n2 := tr_near h.ok' (by rw [h.n, mov_known]; exact hk) hy d
  have k := trL_ok ok hx
  have hb := bey_rng (ok.st i (by rw [ok.nl]; exact hi) d) (sc := x.sc) (by have := k.s0; omega) k.s1
  obtain ⟨s1, s2⟩ := hs d
  unfold plS
  rw [e, mov_bey, s1, s2]
  unfold saidS
  rw [mov_k]
  generalize ss.getD i default = s at *
  generalize beyS x.sc s d = z at *
  cases hsk : s.k
  · simp only [Bool.false_eq_true, if_false]
    omega
  · rw [mov_sky hsk]
    simp only [if_true]
    omega
theorem mvd_scale (h : Mvd p p' ss b t) : scaleR p' (ss.map (movS b t)) = scaleR p ss := by
  unfold scaleR
  rw [h.v, h.v', if_pos rfl, if_pos rfl]
  by_cases hk : knownTo ss p.n = 0
  · have e : ss.map (movS b t) = ss := mov_none (by rw [h.nl]; exact hk) (by have := h.ok.n10; have := h.nl; omega)
    have e2 : trA p' ss = trA p ss := by unfold trA; rw [h.n]; exact tr_same h.lo h.hi h.n ss _
    rw [e, e2]
  · have hp := mvd_pair h hk
    have e : kepL (scaleF false) (trA p' (ss.map (movS b t))) = kepL (scaleF false) (trA p ss) := kep_same
      (fun x hx _ => by obtain ⟨y, hy, e, _⟩ := hp.fwd x hx; exact ⟨y, hy, by unfold scaleF; rw [e]⟩)
      (fun y hy _ => by obtain ⟨x, hx, e, _⟩ := hp.bwd y hy; exact ⟨x, hx, by unfold scaleF; rw [e]⟩)
    rw [e]
    by_cases hn : trA p ss = []
    · rw [if_pos hn, if_pos ((pair_nil hp).1 hn)]
    · rw [if_neg hn, if_neg (fun hn' => hn ((pair_nil hp).2 hn'))]
/-- What is asked of all truths is farther on. -/
theorem mvd_tellK (h : Mvd p p' ss b t) {f g : Bool → Scl → Int × Int} {δ : Bool → Int}
    (hfg : knownTo ss p.n ≠ 0 → ∀ d, ∀ x ∈ trA p ss, ∀ y ∈ trA p' (ss.map (movS b t)), y.sc = x.sc → (∀ d, y.lo d = x.lo d + dlt b t d ∧ y.hi d = x.hi d + dlt b t d) → (g d y).1 = (f d x).1 + δ d ∧ (g d y).2 = (f d x).2 + δ d) :
    tellK p' (ss.map (movS b t)) g = shR δ (tellK p ss f) := by
  unfold tellK
  rw [mov_known, h.n]
  by_cases hk : knownTo ss p.n = 0
  · have e : ss.map (movS b t) = ss := mov_none (by rw [h.nl]; exact hk) (by have := h.ok.n10; have := h.nl; omega)
    have e2 : trA p' ss = trA p ss := by unfold trA; rw [h.n]; exact tr_same h.lo h.hi h.n ss _
    rw [e, e2]
    by_cases hn : trA p ss = []
    · rw [if_pos hn, if_pos hn]; rfl
    · rw [if_neg hn, if_neg hn, if_pos hk, if_pos hk]; rfl
  · have hp := mvd_pair h hk
    by_cases hn : trA p ss = []
    · rw [if_pos hn, if_pos ((pair_nil hp).1 hn)]; rfl
    · rw [if_neg hn, if_neg (fun hn' => hn ((pair_nil hp).2 hn')), if_neg hk, if_neg hk]
      exact along_shift (fun d x hx _ => by obtain ⟨y, hy, e, s⟩ := hp.fwd x hx; exact ⟨y, hy, hfg hk d x hx y hy e s⟩)
        (fun d y hy _ => by obtain ⟨x, hx, e, s⟩ := hp.bwd y hy; exact ⟨x, hx, hfg hk d x hx y hy e s⟩)
theorem shR_zero {r : Except Int Value} (h : isFour r) : shR (fun _ => 0) r = r := by
  cases r with
  | error c => rfl
  | ok v =>
    obtain ⟨a, b, c, d, rfl⟩ := h v rfl
    show Except.ok (Value.agg #[.int .i64 (a + 0), .int .i64 (b + 0), .int .i64 (c + 0), .int .i64 (d + 0)]) = _
    rw [Int.add_zero, Int.add_zero, Int.add_zero, Int.add_zero]
theorem mvd_zero (h : Mvd p p' ss b t) : zeroR p' (ss.map (movS b t)) = shR (dlt b t) (zeroR p ss) := by
  unfold zeroR
  rw [h.v, h.v', if_pos rfl, if_pos rfl]
  exact mvd_tellK h fun _ d x _ y _ _ s => s d
theorem mvd_star (h : Mvd p p' ss b t) (i : Int) : starR p' (ss.map (movS b t)) i = shR (dlt b t) (starR p ss i) := by
  unfold starR
  rw [h.v, h.v', if_pos rfl, if_pos rfl, h.n]
  by_cases hi : 0 ≤ i ∧ i < p.n
  · rw [if_pos hi, if_pos hi]
    refine mvd_tellK h fun hk d x hx y hy e s => ?_
    rw [mov_get]
    exact mvd_pl h hk hx hy e s (by omega) d
  · rw [if_neg hi, if_neg hi]; rfl
theorem mvd_apart (h : Mvd p p' ss b t) (i j : Int) : apartR p' (ss.map (movS b t)) i j = apartR p ss i j := by
  unfold apartR
  rw [h.v, h.v', if_pos rfl, if_pos rfl, h.n]
  by_cases hi : 0 ≤ i ∧ i < p.n
  · rw [if_pos hi, if_pos hi]
    by_cases hj : 0 ≤ j ∧ j < p.n
    · rw [if_pos hj, if_pos hj]
      unfold tellR
      by_cases hk : knownTo ss p.n = 0
      · have e : ss.map (movS b t) = ss := mov_none (by rw [h.nl]; exact hk) (by have := h.ok.n10; have := h.nl; omega)
        have e2 : trA p' ss = trA p ss := by unfold trA; rw [h.n]; exact tr_same h.lo h.hi h.n ss _
        rw [e, e2]
      · have hp := mvd_pair h hk
        have hf : ∀ d, ∀ x ∈ trA p ss, ∀ y ∈ trA p' (ss.map (movS b t)), y.sc = x.sc → (∀ d, y.lo d = x.lo d + dlt b t d ∧ y.hi d = x.hi d + dlt b t d) → apartF (ss.map (movS b t)) i.toNat j.toNat d y = apartF ss i.toNat j.toNat d x := fun d x hx y hy e s => by
          unfold apartF
          split
          · rfl
          · have a := mvd_pl h hk hx hy e s (i := i.toNat) (by omega) d
            have c := mvd_pl h hk hx hy e s (i := j.toNat) (by omega) d
            unfold apS
            rw [mov_get, mov_get, a.1, a.2, c.1, c.2, mov_bey, mov_bey, e]
            refine Prod.ext ?_ ?_ <;> dsimp only <;> omega
        by_cases hn : trA p ss = []
        · rw [if_pos hn, if_pos ((pair_nil hp).1 hn)]
        · rw [if_neg hn, if_neg (fun hn' => hn ((pair_nil hp).2 hn'))]
          exact along_same (fun d x hx _ => by obtain ⟨y, hy, e, s⟩ := hp.fwd x hx; exact ⟨y, hy, hf d x hx y hy e s⟩)
            (fun d y hy _ => by obtain ⟨x, hx, e, s⟩ := hp.bwd y hy; exact ⟨x, hx, hf d x hx y hy e s⟩)
    · rw [if_neg hj, if_neg hj]
  · rw [if_neg hi, if_neg hi]
theorem mvd_find (h : Mvd p p' ss b t) {e n : Int} (h1 : (skyB e e && skyB n n) = true) (h2 : (skyB (e + b) (e + b) && skyB (n + t) (n + t)) = true) : findR p' (ss.map (movS b t)) (e + b) (n + t) = findR p ss e n := by
  have hz : findR p' (ss.map (movS b t)) (e + b) (n + t) = shR (fun _ => 0) (findR p ss e n) := by
    unfold findR
    rw [h.v, h.v', if_pos rfl, if_pos rfl, h1, h2, if_pos rfl, if_pos rfl]
    refine mvd_tellK h fun hk d x hx y hy e s => ?_
    obtain ⟨s1, s2⟩ := s d
    unfold fiS
    rw [e, s1, s2]
    unfold soughtS dlt St.sky St.on
    cases d
    · simp only [Bool.false_eq_true, if_false]
      rw [show ∀ a b c : Int, a + b - (c + b) = a - c from fun a b c => by omega, show ∀ a b c : Int, a + b - (c + b) = a - c from fun a b c => by omega]
      omega
    · simp only [if_true]
      rw [show ∀ a b c : Int, a + b - (c + b) = a - c from fun a b c => by omega, show ∀ a b c : Int, a + b - (c + b) = a - c from fun a b c => by omega]
      omega
  rw [hz, shR_zero (find_four p ss e n)]
theorem sub_lt {v : Nat} {ss : List St} {n : Nat} (hn : n ≤ 12) (h : Sub v (knownTo ss n)) {i : Nat} (hi : v.testBit i = true) (h12 : i < 12) : i < n ∧ (ss.getD i default).k = true := by
  obtain ⟨a, e, h1, h2⟩ := known_nat ss n hn
  have hp : 2 ^ n ≤ 4096 := (by decide +kernel : ∀ k : Fin 13, 2 ^ k.val ≤ 4096) ⟨n, by omega⟩
  have := h i hi
  rw [e, bit_nat (by omega) h12, h2, Bool.and_eq_true, decide_eq_true_eq] at this
  exact this
theorem mvd_can (h : Mvd p p' ss b t) {v : Nat} (hv : v < 1024) (hs : Sub v (knownTo ss p.n)) : canR p' (ss.map (movS b t)) (v : Int) = canR p ss (v : Int) := by
  have ok := h.ok
  have h12 : p.n ≤ 12 := by have := ok.n10; omega
  have hb : ∀ i, i < p.n → setI (v : Int) i = v.testBit i := fun i hi => bit_nat (by omega) (by omega)
  by_cases hx : ∃ i, i < p.n ∧ setI (v : Int) i = true
  · obtain ⟨i0, hi0, hr0⟩ := hx
    have hk : ∀ i, i < p.n → setI (v : Int) i = true → (ss.getD i default).k = true := fun i hi hr => (sub_lt h12 hs (by rw [← hb i hi]; exact hr) (by omega)).2
    exact can_shift ok.lo ok.hi h.lo h.hi h.n fun sc h1 h2 d c => mvd_corn h hi0 (hk i0 hi0 hr0) hr0 hk h1 h2 d c
  · refine can_shift (δ := fun _ => 0) ok.lo ok.hi h.lo h.hi h.n fun sc h1 h2 d c => ?_
    unfold CornC
    rw [Int.add_zero]
    exact ⟨fun k => ⟨k.1, fun i hi hr => absurd ⟨i, hi, hr⟩ hx⟩, fun k => ⟨k.1, fun i hi hr => absurd ⟨i, hi, hr⟩ hx⟩⟩
theorem known_sub {ss : List St} {n a : Nat} (h12 : n ≤ 12) (e : knownTo ss n = (a : Int)) : Sub a (knownTo ss n) ∧ a < 2 ^ n := by
  obtain ⟨a', e', h1, h2⟩ := known_nat ss n h12
  obtain rfl : a' = a := by omega
  have hp : 2 ^ n ≤ 4096 := (by decide +kernel : ∀ k : Fin 13, 2 ^ k.val ≤ 4096) ⟨n, by omega⟩
  refine ⟨fun i hi => ?_, h1⟩
  have hi2 := hi
  rw [h2, Bool.and_eq_true, decide_eq_true_eq] at hi2
  rw [e, bit_nat (by omega) (by omega)]; exact hi
theorem mvd_clash (h : Mvd p p' ss b t) : clashR p' (ss.map (movS b t)) = clashR p ss := by
  have ok := h.ok
  have h12 : p.n ≤ 12 := by have := ok.n10; omega
  obtain ⟨a, e, _, _⟩ := known_nat ss p.n h12
  obtain ⟨hsub, halt⟩ := known_sub h12 e
  have h10 : 2 ^ p.n ≤ 1024 := (by decide +kernel : ∀ k : Fin 11, 2 ^ k.val ≤ 1024) ⟨p.n, by have := ok.n10; omega⟩
  unfold clashR
  rw [h.v, h.v', if_pos rfl, if_pos rfl, mov_known, h.n]
  have hc := fun v hv hs => mvd_can h (v := v) hv hs
  rw [e] at hc hsub ⊢
  rw [hc a (by omega) hsub, few_same (ask := clashF p ss) (ask' := clashF p' (ss.map (movS b t))) (by omega) fun v hv hs => by unfold clashF; rw [hc v hv hs]]
/-- What is found of a place that is moved: the place is none, or the same is found, or the moved place is none. -/
theorem find_facts (h : Mvd p p' ss b t) (e n : Int) {f0 f1 f2 f3 ef : Int} (hf : repB (findR p ss e n) = .tuple #[.agg #[.int .i64 f0, .int .i64 f1], .agg #[.int .i64 f2, .int .i64 f3], .int .i64 ef]) :
    ef = 2 ∨ ((-1048576 ≤ e ∧ e ≤ 1048576) ∧ (-1048576 ≤ n ∧ n ≤ 1048576) ∧ ∃ a b' c d eg, repB (findR p' (ss.map (movS b t)) (e + b) (n + t)) = .tuple #[.agg #[.int .i64 a, .int .i64 b'], .agg #[.int .i64 c, .int .i64 d], .int .i64 eg] ∧ (eg = 2 ∨ (a = f0 ∧ b' = f1 ∧ c = f2 ∧ d = f3 ∧ eg = ef))) := by
  have hz : ∀ {q : Pl} {xs : List St} {e n : Int}, plB q xs = true → (skyB e e && skyB n n) = false → findR q xs e n = .error 2 := fun hv hs => by unfold findR; rw [if_pos hv, hs]; rfl
  cases h1 : (skyB e e && skyB n n)
  · left
    rw [hz h.v h1] at hf
    have hf : Value.tuple #[.agg #[.int .i64 0, .int .i64 0], .agg #[.int .i64 0, .int .i64 0], .int .i64 2] = _ := hf
    simp at hf
    omega
  · right
    have h1' := h1
    unfold skyB at h1'
    simp only [Bool.and_eq_true, decide_eq_true_eq] at h1'
    refine ⟨by omega, by omega, ?_⟩
    cases h2 : (skyB (e + b) (e + b) && skyB (n + t) (n + t))
    · exact ⟨0, 0, 0, 0, 2, by rw [hz h.v' h2]; rfl, .inl rfl⟩
    · exact ⟨f0, f1, f2, f3, ef, by rw [mvd_find h h1 h2]; exact hf, .inr ⟨rfl, rfl, rfl, rfl, rfl⟩⟩
end
end Go.Proofs.Ytdkegkacpdkjgaa

namespace Go.Proofs.Ytdkegkacpdkjgaa
open Go.RowKit Go.Maps

section
variable {p z : Pl} {ss zs : List St}
/-- The second plate knows more than the first one. -/
structure Inc (p z : Pl) (ss zs : List St) : Prop where
  lo : p.lo ≤ z.lo
  hi : z.hi ≤ p.hi
  n : z.n = p.n
  nl : ss.length = p.n
  nl' : zs.length = p.n
  v : plB p ss = true
  v' : plB z zs = true
  on : ∀ i, i < p.n → ∀ d, ((ss.getD i default).on d).1 ≤ ((zs.getD i default).on d).1 ∧ ((zs.getD i default).on d).2 ≤ ((ss.getD i default).on d).2
  k : ∀ i, i < p.n → (ss.getD i default).k = true → (zs.getD i default).k = true
  sky : ∀ i, i < p.n → (ss.getD i default).k = true → ∀ d, ((ss.getD i default).sky d).1 ≤ ((zs.getD i default).sky d).1 ∧ ((zs.getD i default).sky d).2 ≤ ((ss.getD i default).sky d).2
theorem Inc.ok (h : Inc p z ss zs) : PlOk p ss := plOk' h.nl h.v
theorem Inc.ok' (h : Inc p z ss zs) : PlOk z zs := plOk' (by rw [h.nl', h.n]) h.v'
theorem Inc.h12 (h : Inc p z ss zs) : p.n ≤ 12 := by have := h.ok.n10; omega
theorem inc_bey (h : Inc p z ss zs) {i : Nat} (hi : i < p.n) (d : Bool) {sc : Int} (h0 : 0 ≤ sc) : (beyS sc (ss.getD i default) d).1 ≤ (beyS sc (zs.getD i default) d).1 ∧ (beyS sc (zs.getD i default) d).2 ≤ (beyS sc (ss.getD i default) d).2 := by
  obtain ⟨a, b⟩ := h.on i hi d
  have a' := Int.mul_le_mul_of_nonneg_left a h0
  have b' := Int.mul_le_mul_of_nonneg_left b h0
  unfold beyS
  dsimp only
  omega
theorem inc_said (h : Inc p z ss zs) {i : Nat} (hi : i < p.n) (d : Bool) : (saidS (ss.getD i default) d).1 ≤ (saidS (zs.getD i default) d).1 ∧ (saidS (zs.getD i default) d).2 ≤ (saidS (ss.getD i default) d).2 := by
  have a := said_rng (h.ok'.st i (by rw [h.nl']; exact hi) d)
  have hk := h.k i hi
  have hs := h.sky i hi
  generalize ss.getD i default = s at *
  generalize zs.getD i default = s' at *
  cases hsk : s.k
  · have e : saidS s d = (-67108864, 67108864) := by unfold saidS; rw [hsk]; rfl
    rw [e]; exact ⟨a.1, a.2.2⟩
  · have e : saidS s d = s.sky d := by unfold saidS; rw [hsk]; rfl
    have e' : saidS s' d = s'.sky d := by unfold saidS; rw [hk hsk]; rfl
    rw [e, e']; exact hs hsk d
theorem inc_corn (h : Inc p z ss zs) {S S' : Int} (hS : ∀ i, i < p.n → setI S i = true → setI S' i = true) {sc : Int} (h0 : 0 ≤ sc) {d : Bool} {c : Int} (hc : CornC zs sc (setI S') p.n d c) : CornC ss sc (setI S) p.n d c := by
  refine ⟨hc.1, fun i hi hr => ?_⟩
  have a := hc.2 i hi (hS i hi hr)
  have b := inc_bey h hi d h0
  have e := inc_said h hi d
  unfold cbS at *
  dsimp only at *
  omega
theorem inc_known (h : Inc p z ss zs) {i : Nat} (hi : i < p.n) (hr : setI (knownTo ss p.n) i = true) : setI (knownTo zs z.n) i = true := by
  have h12 := h.h12
  rw [h.n]
  rw [known_bit ss h12 hi] at hr
  rw [known_bit zs h12 hi]; exact h.k i hi hr
theorem inc_tr (h : Inc p z ss zs) {y : Scl} (hy : y ∈ trA z zs) : ∃ x ∈ trA p ss, x.sc = y.sc ∧ ∀ d, (x.lo d ≤ y.lo d ∧ y.hi d ≤ x.hi d) ∧ y.lo d ≤ y.hi d := by
  obtain ⟨⟨h1, h2⟩, h3, h4⟩ := trL_of hy
  have ok := h.ok
  have hlo := h.lo
  have hhi := h.hi
  have k0 := ok.lo
  have k1 := ok.hi
  rw [h.n] at h3 h4
  have hin : ∀ d c, CornC zs y.sc (setI (knownTo zs p.n)) p.n d c → CornC ss y.sc (setI (knownTo ss p.n)) p.n d c := fun d c hc => inc_corn h (fun i hi hr => by have := inc_known h hi hr; rwa [h.n] at this) (by omega) hc
  have hB : corB ss y.sc (setI (knownTo ss p.n)) p.n = true := by
    rw [corB_iff] at h3 ⊢
    intro d
    obtain ⟨c, hc⟩ := h3 d
    exact ⟨c, hin d c hc⟩
  obtain ⟨x, hx, x1, x2⟩ := trL_mk (p := p) (ss := ss) (set := knownTo ss p.n) k0 k1 (sc := y.sc) (by omega) (by omega) hB
  refine ⟨x, hx, x1, fun d => ?_⟩
  have a : y.lo d = (corS zs y.sc (setI (knownTo zs p.n)) d p.n).1 ∧ y.hi d = (corS zs y.sc (setI (knownTo zs p.n)) d p.n).2 := by rw [← h4 d]; exact ⟨rfl, rfl⟩
  have b : x.lo d = (corS ss y.sc (setI (knownTo ss p.n)) d p.n).1 ∧ x.hi d = (corS ss y.sc (setI (knownTo ss p.n)) d p.n).2 := by rw [← x2 d]; exact ⟨rfl, rfl⟩
  have hne := corB_ne h3 d
  have c1 := cor_iff.2 (hin d _ (cor_iff.1 ⟨Int.le_refl _, hne⟩))
  have c2 := cor_iff.2 (hin d _ (cor_iff.1 ⟨hne, Int.le_refl _⟩))
  omega
/-- Where the corner is, is within what each star allows. -/
structure TrOk (p : Pl) (ss : List St) (x : Scl) (d : Bool) : Prop where
  s0 : 1 ≤ x.sc
  s1 : x.sc ≤ 1000
  le : x.lo d ≤ x.hi d
  cb : ∀ i, i < p.n → (ss.getD i default).k = true → (cbS x.sc (ss.getD i default) d).1 ≤ x.lo d ∧ x.hi d ≤ (cbS x.sc (ss.getD i default) d).2
  far : (-1081344 ≤ x.lo d ∧ x.hi d ≤ 1048576) ∨ (x.lo d = -67108864 ∧ x.hi d = 67108864 ∧ ∀ i, i < p.n → (ss.getD i default).k = false)
theorem tr_ok {p : Pl} {ss : List St} (ok : PlOk p ss) {x : Scl} (hx : x ∈ trA p ss) (d : Bool) : TrOk p ss x d := by
  have h12 : p.n ≤ 12 := by have := ok.n10; omega
  have k := trL_ok ok hx
  obtain ⟨⟨h1, h2⟩, h3, h4⟩ := trL_of hx
  have a : x.lo d = (corS ss x.sc (setI (knownTo ss p.n)) d p.n).1 ∧ x.hi d = (corS ss x.sc (setI (knownTo ss p.n)) d p.n).2 := by rw [← h4 d]; exact ⟨rfl, rfl⟩
  have hne := corB_ne h3 d
  have c1 := cor_iff.1 (show _ ∧ _ from ⟨Int.le_refl (corS ss x.sc (setI (knownTo ss p.n)) d p.n).1, hne⟩)
  have c2 := cor_iff.1 (show _ ∧ _ from ⟨hne, Int.le_refl (corS ss x.sc (setI (knownTo ss p.n)) d p.n).2⟩)
  rw [← a.1] at c1
  rw [← a.2] at c2
  refine ⟨k.s0, k.s1, by omega, fun i hi hk => ?_, ?_⟩
  · have hr : setI (knownTo ss p.n) i = true := by rw [known_bit ss h12 hi]; exact hk
    exact ⟨(c1.2 i hi hr).1, (c2.2 i hi hr).2⟩
  · by_cases hk : knownTo ss p.n = 0
    · right
      have hn := (known_none h12).1 hk
      have hc : ∀ c, CornC ss x.sc (setI (knownTo ss p.n)) p.n d c ↔ -67108864 ≤ c ∧ c ≤ 67108864 := fun c =>
        ⟨fun h => h.1, fun h => ⟨h, fun i hi hr => by rw [known_bit ss h12 hi, hn i hi] at hr; cases hr⟩⟩
      have e1 := cor_iff.2 ((hc (-67108864)).2 (by omega))
      have e2 := cor_iff.2 ((hc 67108864).2 (by omega))
      exact ⟨by omega, by omega, hn⟩
    · left
      have := tr_near ok hk hx d
      exact ⟨this.1, this.2.1⟩
/-- A star is somewhere. -/
theorem pl_ne {p : Pl} {ss : List St} (ok : PlOk p ss) {x : Scl} (hx : x ∈ trA p ss) {i : Nat} (hi : i < p.n) (d : Bool) : (plS x.sc (x.lo d) (x.hi d) (ss.getD i default) d).1 ≤ (plS x.sc (x.lo d) (x.hi d) (ss.getD i default) d).2 := by
  have t := tr_ok ok hx d
  have hs := ok.st i (by rw [ok.nl]; exact hi) d
  have s0 := t.s0
  have b := bey_rng hs (sc := x.sc) (by omega) t.s1
  have sd := said_rng hs
  have le := t.le
  have cb := t.cb i hi
  have far := t.far
  unfold plS
  dsimp only
  cases hk : (ss.getD i default).k
  · have e : saidS (ss.getD i default) d = (-67108864, 67108864) := by unfold saidS; rw [hk]; rfl
    rw [e]
    dsimp only
    rcases far with f | f <;> omega
  · have := cb hk
    unfold cbS at this
    dsimp only at this
    omega
/-- Two stars are apart by something. -/
theorem ap_ne {p : Pl} {ss : List St} (ok : PlOk p ss) {x : Scl} (hx : x ∈ trA p ss) {i j : Nat} (hi : i < p.n) (hj : j < p.n) (d : Bool) : (apartF ss i j d x).1 ≤ (apartF ss i j d x).2 := by
  unfold apartF
  split
  · exact Int.le_refl _
  have t := tr_ok ok hx d
  have s0 := t.s0
  have bi := bey_rng (ok.st i (by rw [ok.nl]; exact hi) d) (sc := x.sc) (by omega) t.s1
  have bj := bey_rng (ok.st j (by rw [ok.nl]; exact hj) d) (sc := x.sc) (by omega) t.s1
  have si := said_rng (ok.st i (by rw [ok.nl]; exact hi) d)
  have sj := said_rng (ok.st j (by rw [ok.nl]; exact hj) d)
  have pi := pl_ne ok hx hi d
  have pj := pl_ne ok hx hj d
  have le := t.le
  have hci : (saidS (ss.getD i default) d).1 - (beyS x.sc (ss.getD i default) d).2 ≤ x.lo d ∧ x.hi d ≤ (saidS (ss.getD i default) d).2 - (beyS x.sc (ss.getD i default) d).1 ∨ (saidS (ss.getD i default) d = (-67108864, 67108864)) := by
    cases hk : (ss.getD i default).k
    · right; unfold saidS; rw [hk]; rfl
    · left; have := t.cb i hi hk; unfold cbS at this; exact this
  have hcj : (saidS (ss.getD j default) d).1 - (beyS x.sc (ss.getD j default) d).2 ≤ x.lo d ∧ x.hi d ≤ (saidS (ss.getD j default) d).2 - (beyS x.sc (ss.getD j default) d).1 ∨ (saidS (ss.getD j default) d = (-67108864, 67108864)) := by
    cases hk : (ss.getD j default).k
    · right; unfold saidS; rw [hk]; rfl
    · left; have := t.cb j hj hk; unfold cbS at this; exact this
  have far : (-1081344 ≤ x.lo d ∧ x.hi d ≤ 1048576) ∨ (x.lo d = -67108864 ∧ x.hi d = 67108864) := by
    rcases t.far with f | f
    · exact .inl f
    · exact .inr ⟨f.1, f.2.1⟩
  unfold apS plS at *
  dsimp only at *
  generalize beyS x.sc (ss.getD i default) d = B1 at *
  generalize beyS x.sc (ss.getD j default) d = B2 at *
  generalize saidS (ss.getD i default) d = S1 at *
  generalize saidS (ss.getD j default) d = S2 at *
  obtain ⟨b1, b2⟩ := B1
  obtain ⟨b3, b4⟩ := B2
  obtain ⟨s1, s2⟩ := S1
  obtain ⟨s3, s4⟩ := S2
  simp only [Prod.mk.injEq] at *
  generalize x.lo d = l at *
  generalize x.hi d = m at *
  clear t hx
  rcases far with f | f <;> rcases hci with c | c <;> rcases hcj with e | e <;> omega
theorem inc_pl (h : Inc p z ss zs) {x y : Scl} (e : x.sc = y.sc) (h0 : 0 ≤ y.sc) {d : Bool} (hd : x.lo d ≤ y.lo d ∧ y.hi d ≤ x.hi d) {i : Nat} (hi : i < p.n) :
    (plS x.sc (x.lo d) (x.hi d) (ss.getD i default) d).1 ≤ (plS y.sc (y.lo d) (y.hi d) (zs.getD i default) d).1 ∧ (plS y.sc (y.lo d) (y.hi d) (zs.getD i default) d).2 ≤ (plS x.sc (x.lo d) (x.hi d) (ss.getD i default) d).2 := by
  have b := inc_bey h hi d h0
  have s := inc_said h hi d
  unfold plS
  rw [e]
  dsimp only
  omega
theorem inc_ap (h : Inc p z ss zs) {x y : Scl} (e : x.sc = y.sc) (h0 : 0 ≤ y.sc) {d : Bool} (hd : x.lo d ≤ y.lo d ∧ y.hi d ≤ x.hi d) {i j : Nat} (hi : i < p.n) (hj : j < p.n) : (apartF ss i j d x).1 ≤ (apartF zs i j d y).1 ∧ (apartF zs i j d y).2 ≤ (apartF ss i j d x).2 := by
  unfold apartF
  by_cases hij : i = j
  · rw [if_pos hij, if_pos hij]; exact ⟨Int.le_refl _, Int.le_refl _⟩
  · rw [if_neg hij, if_neg hij]
    have a := inc_pl h e h0 hd hi
    have b := inc_pl h e h0 hd hj
    have c := inc_bey h hi d h0
    have f := inc_bey h hj d h0
    unfold apS
    dsimp only
    rw [e] at *
    omega
/-- An answer, and a narrower one. -/
def Narrow (r r' : Except Int Value) : Prop := ∀ v, r = .ok v → ∃ v', r' = .ok v' ∧ (numB v 0 ≤ numB v' 0 ∧ numB v' 1 ≤ numB v 1) ∧ numB v 2 ≤ numB v' 2 ∧ numB v' 3 ≤ numB v 3
theorem narrow_err (c : Int) (r' : Except Int Value) : Narrow (.error c) r' := fun v h => by cases h
theorem along_narrow {f g : Bool → Scl → Int × Int} {xs ys : List Scl} (hne : ys ≠ []) (hg : ∀ d, ∀ y ∈ ys, (g d y).1 ≤ (g d y).2) (h : ∀ d, ∀ y ∈ ys, ∃ x ∈ xs, (f d x).1 ≤ (g d y).1 ∧ (g d y).2 ≤ (f d x).2) :
    Narrow (alongR (kepL (f false) xs) (kepL (f true) xs)) (alongR (kepL (g false) ys) (kepL (g true) ys)) := by
  have ht : ∀ d, (kepL (g d) ys).2.2 = true := fun d => by
    cases ys with
    | nil => exact absurd rfl hne
    | cons y ys => exact ((kepL_of (g d) (y :: ys)).all y List.mem_cons_self (hg d y List.mem_cons_self)).1
  have k := fun d => kep_in (f := g d) (g := f d) (fun y hy _ => h d y hy) (ht d)
  intro v hv
  unfold alongR at hv ⊢
  rw [if_pos (k false).1, if_pos (k true).1] at hv
  rw [if_pos (ht false), if_pos (ht true)]
  injection hv with hv
  subst hv
  exact ⟨_, rfl, ⟨(k false).2.1, (k false).2.2⟩, (k true).2.1, (k true).2.2⟩
theorem inc_nil (h : Inc p z ss zs) (hz : trA z zs ≠ []) : trA p ss ≠ [] := by
  intro he
  cases hx : trA z zs with
  | nil => exact hz hx
  | cons y ys =>
    obtain ⟨x, hx', _⟩ := inc_tr h (y := y) (by rw [hx]; exact List.mem_cons_self)
    rw [he] at hx'; cases hx'
theorem inc_doubt (h : Inc p z ss zs) (hk : knownTo ss p.n ≠ 0) : knownTo zs z.n ≠ 0 := by
  obtain ⟨i, hi, k⟩ := known_some h.h12 hk
  intro hz
  rw [h.n] at hz
  have := (known_none h.h12).1 hz i hi
  rw [h.k i hi k] at this; cases this
/-- What the scale answers: an error, or a span. -/
theorem scale_cases {p : Pl} {ss : List St} (hv : plB p ss = true) : (trA p ss = [] ∧ scaleR p ss = .error 10) ∨ (trA p ss ≠ [] ∧ ∃ a b, scaleR p ss = .ok (.agg #[.int .i64 a, .int .i64 b]) ∧ (kepL (scaleF false) (trA p ss)) = (a, b, true)) := by
  unfold scaleR
  rw [if_pos hv]
  by_cases hn : trA p ss = []
  · rw [if_pos hn]; exact .inl ⟨hn, rfl⟩
  · rw [if_neg hn]
    right
    refine ⟨hn, ?_⟩
    have ht : (kepL (scaleF false) (trA p ss)).2.2 = true := by
      cases hx : trA p ss with
      | nil => exact absurd hx hn
      | cons y ys => exact ((kepL_of (scaleF false) (y :: ys)).all y List.mem_cons_self (Int.le_refl _)).1
    generalize kepL (scaleF false) (trA p ss) = k at *
    obtain ⟨a, b, t⟩ := k
    dsimp only at ht
    subst ht
    exact ⟨a, b, rfl, rfl⟩
theorem inc_scale (h : Inc p z ss zs) {a b a' b' : Int} (h1 : kepL (scaleF false) (trA p ss) = (a, b, true)) (h2 : kepL (scaleF false) (trA z zs) = (a', b', true)) : a ≤ a' ∧ b' ≤ b := by
  have k := kep_in (f := scaleF false) (g := scaleF false) (xs := trA z zs) (ys := trA p ss) (fun y hy _ => by
    obtain ⟨x, hx, e, _⟩ := inc_tr h hy
    exact ⟨x, hx, by unfold scaleF; rw [e]; exact ⟨Int.le_refl _, Int.le_refl _⟩⟩) (by rw [h2])
  rw [h1, h2] at k
  exact k.2
theorem inc_zero (h : Inc p z ss zs) (hz : trA z zs ≠ []) : Narrow (zeroR p ss) (zeroR z zs) := by
  unfold zeroR tellK
  rw [if_pos h.v, if_pos h.v', if_neg hz, if_neg (inc_nil h hz)]
  by_cases hk : knownTo ss p.n = 0
  · rw [if_pos hk]; exact narrow_err _ _
  · rw [if_neg hk, if_neg (inc_doubt h hk)]
    exact along_narrow (f := fun d x => (x.lo d, x.hi d)) (g := fun d x => (x.lo d, x.hi d)) hz (fun d y hy => (tr_ok h.ok' hy d).le) fun d y hy => by
      obtain ⟨x, hx, _, s⟩ := inc_tr h hy
      exact ⟨x, hx, (s d).1⟩
theorem inc_star (h : Inc p z ss zs) (hz : trA z zs ≠ []) (i : Int) : Narrow (starR p ss i) (starR z zs i) := by
  unfold starR tellK
  rw [if_pos h.v, if_pos h.v', if_neg hz, if_neg (inc_nil h hz), h.n]
  by_cases hi : 0 ≤ i ∧ i < p.n
  · rw [if_pos hi, if_pos hi]
    by_cases hk : knownTo ss p.n = 0
    · rw [if_pos hk]; exact narrow_err _ _
    · have hk' := inc_doubt h hk
      rw [h.n] at hk'
      rw [if_neg hk, if_neg hk']
      exact along_narrow (f := fun d x => plS x.sc (x.lo d) (x.hi d) (ss.getD i.toNat default) d) (g := fun d x => plS x.sc (x.lo d) (x.hi d) (zs.getD i.toNat default) d) hz (fun d y hy => pl_ne h.ok' hy (by rw [h.n]; omega) d) fun d y hy => by
        obtain ⟨x, hx, e, s⟩ := inc_tr h hy
        have := (trL_ok h.ok' hy).s0
        exact ⟨x, hx, inc_pl h e (by omega) (s d).1 (by omega)⟩
  · rw [if_neg hi]; exact narrow_err _ _
theorem inc_apart (h : Inc p z ss zs) (hz : trA z zs ≠ []) (i j : Int) : Narrow (apartR p ss i j) (apartR z zs i j) := by
  unfold apartR tellR
  rw [if_pos h.v, if_pos h.v', if_neg hz, if_neg (inc_nil h hz), h.n]
  by_cases hi : 0 ≤ i ∧ i < p.n
  · rw [if_pos hi, if_pos hi]
    by_cases hj : 0 ≤ j ∧ j < p.n
    · rw [if_pos hj, if_pos hj]
      exact along_narrow (f := apartF ss i.toNat j.toNat) (g := apartF zs i.toNat j.toNat) hz (fun d y hy => ap_ne h.ok' hy (by rw [h.n]; omega) (by rw [h.n]; omega) d) fun d y hy => by
        obtain ⟨x, hx, e, s⟩ := inc_tr h hy
        have := (trL_ok h.ok' hy).s0
        exact ⟨x, hx, inc_ap h e (by omega) (s d).1 (by omega) (by omega)⟩
    · rw [if_neg hj]; exact narrow_err _ _
  · rw [if_neg hi]; exact narrow_err _ _
/-- What Drop answers. -/
structure DrF (p : Pl) (ss : List St) (a u : Nat) : Prop where
  known : knownTo ss p.n = (a : Int)
  a10 : a < 2 ^ p.n ∧ a < 1024
  bit : ∀ i, a.testBit i = (decide (i < p.n) && (ss.getD i default).k)
  drop : dropR p ss = .ok (.int .i64 u)
  lt : u < 1024
  sub : ∀ i, u.testBit i = true → a.testBit i = true
  can : ∃ y : Nat, bits .andNot .i64 (a : Int) (u : Int) = (y : Int) ∧ y < 1024 ∧ (∀ i, y.testBit i = (a.testBit i && !u.testBit i)) ∧ canR p ss (y : Int) = true
  least : ∀ v : Nat, v < 1024 → (∀ i, v.testBit i = true → a.testBit i = true) → dropF p ss (v : Int) = true → popc (u : Int) < popc (v : Int) ∨ (popc (u : Int) = popc (v : Int) ∧ u ≤ v)
theorem can_none {p : Pl} {ss : List St} (ok : PlOk p ss) : canR p ss 0 = true := by
  have lo := ok.lo
  have mid := ok.mid
  refine (canR_iff ok.lo ok.hi).2 ⟨p.lo, ⟨Int.le_refl _, mid⟩, corB_iff.2 fun d => ⟨0, by omega, fun i hi hr => ?_⟩⟩
  have n10 := ok.n10
  have := bit_nat (n := 0) (i := i) (by decide) (by omega)
  rw [Nat.zero_testBit] at this
  rw [show ((0 : Nat) : Int) = 0 from rfl] at this
  rw [this] at hr; cases hr
theorem bit_lt {v i : Nat} (hv : v < 1024) (hi : v.testBit i = true) : i < 10 := by
  rcases Nat.lt_or_ge i 10 with h | h
  · exact h
  · rw [Nat.testBit_lt_two_pow (Nat.lt_of_lt_of_le hv (Nat.pow_le_pow_right (n := 2) (by decide) h))] at hi; cases hi
theorem sub_bits {v a : Nat} (hv : v < 1024) (ha : a < 1024) : Sub v (a : Int) ↔ ∀ i, v.testBit i = true → a.testBit i = true :=
  ⟨fun k i hi => by rw [← bit_nat (by omega) (by have := bit_lt hv hi; omega)]; exact k i hi, fun k i hi => by rw [bit_nat (by omega) (by have := bit_lt hv hi; omega)]; exact k i hi⟩
theorem drop_is {p : Pl} {ss : List St} (hn : ss.length = p.n) (hv : plB p ss = true) : ∃ a u, DrF p ss a u := by
  have ok := plOk' hn hv
  have n10 := ok.n10
  obtain ⟨a, e, a1, a2⟩ := known_nat ss p.n (by omega)
  have hp : 2 ^ p.n ≤ 1024 := (by decide +kernel : ∀ k : Fin 11, 2 ^ k.val ≤ 1024) ⟨p.n, by omega⟩
  have hf : dropF p ss (a : Int) = true := by
    unfold dropF
    rw [e]
    obtain ⟨y, g1, g2, g3⟩ := andNot_nat (a := a) (b := a) (by omega) (by omega)
    have : y = 0 := Nat.eq_of_testBit_eq fun i => by rw [g3, Nat.zero_testBit]; cases a.testBit i <;> rfl
    subst this
    rw [g1]; exact can_none ok
  obtain ⟨u, f1, f2⟩ := few_is (ask := dropF p ss) (all := a) (by omega) ⟨a, by omega, (sub_bits (by omega) (by omega)).2 (fun i h => h), hf⟩
  refine ⟨a, u, e, ⟨a1, by omega⟩, a2, by unfold dropR; rw [if_pos hv, e, f1], f2.lt, (sub_bits f2.lt (by omega)).1 f2.sub, ?_, fun v v1 v2 v3 => f2.least v v1 ((sub_bits v1 (by omega)).2 v2) v3⟩
  obtain ⟨y, g1, g2, g3⟩ := andNot_nat (a := a) (b := u) (by omega) (by have := f2.lt; omega)
  refine ⟨y, g1, by omega, g3, ?_⟩
  have := f2.asks
  unfold dropF at this
  rw [e, g1] at this; exact this
theorem inc_can (h : Inc p z ss zs) {v v' : Nat} (hv : v < 1024) (hv' : v' < 1024) (hs : ∀ i, v.testBit i = true → v'.testBit i = true) (hc : canR z zs (v' : Int) = true) : canR p ss (v : Int) = true := by
  have ok := h.ok
  have ok' := h.ok'
  have n10 := ok.n10
  obtain ⟨sc, h1, h2⟩ := (canR_iff ok'.lo ok'.hi).1 hc
  rw [h.n] at h2
  have a := h.lo
  have b := h.hi
  have c := ok.lo
  refine (canR_iff ok.lo ok.hi).2 ⟨sc, by omega, ?_⟩
  rw [corB_iff] at h2 ⊢
  intro d
  obtain ⟨c, hc⟩ := h2 d
  exact ⟨c, inc_corn h (fun i hi hr => by rw [bit_nat (by omega) (by omega)] at hr ⊢; exact hs i hr) (by omega) hc⟩
theorem inc_drop (h : Inc p z ss zs) {a u a' u' : Nat} (hd : DrF p ss a u) (hd' : DrF z zs a' u') : popc (u : Int) ≤ popc (u' : Int) := by
  have hle : u' &&& a ≤ a := Nat.and_le_right
  have ha := hd.a10.2
  have ha' := hd'.a10.2
  obtain ⟨y', g1', g2', g3', g4'⟩ := hd'.can
  obtain ⟨y, g1, g2, g3⟩ := andNot_nat (a := a) (b := u' &&& a) (by omega) (by omega)
  have hcan : canR p ss (y : Int) = true := inc_can h (v' := y') (by omega) g2' (fun i hi => by
    rw [g3, Nat.testBit_and] at hi
    rw [g3']
    have hai : a.testBit i = true := by cases e : a.testBit i; · rw [e] at hi; simp at hi
                                        · rfl
    rw [hai] at hi
    have hk := hai
    rw [hd.bit, Bool.and_eq_true, decide_eq_true_eq] at hk
    have : a'.testBit i = true := by rw [hd'.bit, h.n, decide_eq_true hk.1, h.k i hk.1 hk.2]; rfl
    rw [this]
    simpa using hi) g4'
  have := hd.least (u' &&& a) (by omega) (fun i hi => by rw [Nat.testBit_and, Bool.and_eq_true] at hi; exact hi.2) (by unfold dropF; rw [hd.known, g1]; exact hcan)
  have hm := popc_mono (x := u') (y := u' &&& a) (by have := hd'.lt; omega) (by omega) (fun i hi => by rw [Nat.testBit_and, Bool.and_eq_true] at hi; exact hi.1)
  omega
end
end Go.Proofs.Ytdkegkacpdkjgaa

namespace Go.Proofs.Ytdkegkacpdkjgaa
open Go.RowKit Go.Maps

/-- How wide a star is, by its answer. -/
theorem star_at {p : Pl} {ss : List St} (hv : plB p ss = true) (h0 : trA p ss ≠ []) (h1 : knownTo ss p.n ≠ 0) {k : Nat} (hk : k < p.n) : starR p ss (k : Int) = starV p ss k := by
  unfold starR tellK
  rw [if_pos hv, if_pos ⟨by omega, by omega⟩, if_neg h0, if_neg h1]
  rfl
theorem starV_ok {p : Pl} {ss : List St} (ok : PlOk p ss) (h0 : trA p ss ≠ []) {k : Nat} (hk : k < p.n) : ∃ a b c d : Int, starV p ss k = .ok (.agg #[.int .i64 a, .int .i64 b, .int .i64 c, .int .i64 d]) ∧ a ≤ b ∧ c ≤ d ∧ (-200000000 ≤ a ∧ b ≤ 200000000) ∧ -200000000 ≤ c ∧ d ≤ 200000000 := by
  obtain ⟨y, ys, hx⟩ : ∃ y ys, trA p ss = y :: ys := by
    cases h : trA p ss with
    | nil => exact absurd h h0
    | cons y ys => exact ⟨y, ys, rfl⟩
  have hy : y ∈ trA p ss := by rw [hx]; exact List.mem_cons_self
  have hne := fun d => pl_ne ok hy hk d
  have k0 := (kepL_of (starF ss k false) (trA p ss)).all y hy (hne false)
  have k1 := (kepL_of (starF ss k true) (trA p ss)).all y hy (hne true)
  have hb : Bnd 200000000 (starV p ss k) := along_bnd (f := starF ss k) (xs := trA p ss) fun d x hx => by
    have t := trL_ok ok hx
    have := pl_rng (ok.st k (by rw [ok.nl]; exact hk) d) (sc := x.sc) (by have := t.s0; omega) t.s1 (t.lo d) (t.hi d)
    unfold starF
    exact ⟨by omega, by omega⟩
  have hne0 := hne false
  have hne1 := hne true
  have e : starV p ss k = .ok (.agg #[.int .i64 (kepL (starF ss k false) (trA p ss)).1, .int .i64 (kepL (starF ss k false) (trA p ss)).2.1, .int .i64 (kepL (starF ss k true) (trA p ss)).1, .int .i64 (kepL (starF ss k true) (trA p ss)).2.1]) := by
    unfold starV alongR
    rw [if_pos k0.1, if_pos k1.1]
  have hb' := hb _ e
  have b0 := hb' 0 (by decide)
  have b1 := hb' 1 (by decide)
  have b2 := hb' 2 (by decide)
  have b3 := hb' 3 (by decide)
  refine ⟨_, _, _, _, e, ?_, ?_, ⟨b0.1, b1.2⟩, b2.1, b3.2⟩
  · exact Int.le_trans k0.2.1 (Int.le_trans hne0 k0.2.2)
  · exact Int.le_trans k1.2.1 (Int.le_trans hne1 k1.2.2)
theorem wid_of {a b c d : Int} (h1 : -200000000 ≤ a ∧ b ≤ 200000000) (h2 : -200000000 ≤ c ∧ d ≤ 200000000) (h3 : a ≤ b) (h4 : c ≤ d) : widV (.agg #[.int .i64 a, .int .i64 b, .int .i64 c, .int .i64 d]) = b - a + (d - c) := by
  show IntKind.i64.wrap (wrap64 (b - a) + wrap64 (d - c)) = _
  have e1 : wrap64 (b - a) = b - a := by unfold wrap64; omega
  have e2 : wrap64 (d - c) = d - c := by unfold wrap64; omega
  rw [e1, e2]
  exact IntWalk.i64_in _ (by omega)
/-- The worst of the first ones. -/
theorem poor_to {p : Pl} {ss : List St} (ok : PlOk p ss) (h0 : trA p ss ≠ []) : ∀ {k : Nat}, k ≤ p.n → ∃ s x : Int, poorTo p ss k = .ok (s, x) ∧ 0 ≤ x ∧
    (∀ i, i < k → ∀ v, starV p ss i = .ok v → widV v ≤ x ∧ (widV v = x → s ≤ i)) ∧ ((s = 0 ∧ x = 0) ∨ ∃ j : Nat, s = j ∧ j < k ∧ ∃ v, starV p ss j = .ok v ∧ widV v = x)
  | 0, _ => ⟨0, 0, rfl, by omega, fun i hi => by omega, .inl ⟨rfl, rfl⟩⟩
  | k + 1, hk => by
    obtain ⟨s, x, e, hx, h1, h2⟩ := poor_to ok h0 (k := k) (by omega)
    obtain ⟨a, b, c, d, ev, l1, l2, l3, l4⟩ := starV_ok ok h0 (k := k) (by omega)
    have ew := wid_of l3 l4 l1 l2
    rw [poorTo, e, ev]
    dsimp only
    generalize hw : widV (.agg #[.int .i64 a, .int .i64 b, .int .i64 c, .int .i64 d]) = W at *
    by_cases hlt : x < W
    · rw [if_pos hlt]
      refine ⟨k, W, rfl, by omega, fun i hi v hv => ?_, .inr ⟨k, rfl, by omega, _, ev, hw⟩⟩
      by_cases he : i = k
      · subst he
        rw [ev] at hv
        injection hv with hv
        subst hv
        rw [hw]; exact ⟨Int.le_refl _, fun _ => Int.le_refl _⟩
      · have := (h1 i (by omega) v hv).1
        exact ⟨by omega, fun h => by omega⟩
    · rw [if_neg hlt]
      refine ⟨s, x, rfl, hx, fun i hi v hv => ?_, ?_⟩
      · by_cases he : i = k
        · subst he
          rw [ev] at hv
          injection hv with hv
          subst hv
          rw [hw]
          refine ⟨by omega, fun h => ?_⟩
          rcases h2 with h2 | ⟨j, h2, h3, _⟩
          · omega
          · omega
        · exact h1 i (by omega) v hv
      · rcases h2 with h2 | ⟨j, h2, h3, h4⟩
        · exact .inl h2
        · exact .inr ⟨j, h2, by omega, h4⟩
/-- What Poor answers: an error that each star has, or the worst one. -/
theorem poor_facts {p : Pl} {ss : List St} (hn : ss.length = p.n) (hv : plB p ss = true) : (∃ c, c ≠ 0 ∧ poorR p ss = .error c ∧ ∀ k, k < p.n → starR p ss (k : Int) = .error c) ∨
    ∃ s x : Int, poorR p ss = .ok (.agg #[.int .i64 s, .int .i64 x]) ∧ (0 ≤ s ∧ s < p.n) ∧ ∀ k, k < p.n → ∃ a b c d : Int, starR p ss (k : Int) = .ok (.agg #[.int .i64 a, .int .i64 b, .int .i64 c, .int .i64 d]) ∧ (-200000000 ≤ a ∧ b ≤ 200000000) ∧ (-200000000 ≤ c ∧ d ≤ 200000000) ∧ a ≤ b ∧ c ≤ d ∧
      b - a + (d - c) ≤ x ∧ (b - a + (d - c) = x → s ≤ k) ∧ ((k : Int) = s → b - a + (d - c) = x) := by
  have ok := plOk' hn hv
  have h12 : p.n ≤ 12 := by have := ok.n10; omega
  by_cases h0 : trA p ss = []
  · exact .inl ⟨10, by decide, by unfold poorR; rw [if_pos hv, if_pos h0], fun k hk => by unfold starR tellK; rw [if_pos hv, if_pos ⟨by omega, by omega⟩, if_pos h0]⟩
  by_cases h1 : knownTo ss p.n = 0
  · exact .inl ⟨12, by decide, by unfold poorR; rw [if_pos hv, if_neg h0, if_pos h1], fun k hk => by unfold starR tellK; rw [if_pos hv, if_pos ⟨by omega, by omega⟩, if_neg h0, if_pos h1]⟩
  obtain ⟨i0, hi0, _⟩ := known_some h12 h1
  obtain ⟨s, x, e, hx, h2, h3⟩ := poor_to ok h0 (k := p.n) (Nat.le_refl _)
  right
  have hs : 0 ≤ s ∧ s < p.n ∧ ∀ v, starV p ss s.toNat = .ok v → widV v = x := by
    rcases h3 with ⟨rfl, rfl⟩ | ⟨j, rfl, hj, v, hv1, hv2⟩
    · refine ⟨by omega, by omega, fun v hv => ?_⟩
      obtain ⟨a, b, c, d, ev, l1, l2, l3, l4⟩ := starV_ok ok h0 (k := 0) (by omega)
      have ew := wid_of l3 l4 l1 l2
      have hle := (h2 0 (by omega) v hv).1
      rw [show (0 : Int).toNat = 0 from rfl, ev] at hv
      injection hv with hv
      subst hv
      rw [ew] at hle ⊢
      omega
    · refine ⟨by omega, by omega, fun v' hv' => ?_⟩
      rw [show ((j : Int)).toNat = j by omega, hv1] at hv'
      injection hv' with hv'
      subst hv'
      exact hv2
  refine ⟨s, x, by unfold poorR poorV; rw [if_pos hv, if_neg h0, if_neg h1, e], ⟨hs.1, hs.2.1⟩, fun k hk => ?_⟩
  obtain ⟨a, b, c, d, ev, l1, l2, l3, l4⟩ := starV_ok ok h0 hk
  have ew := wid_of l3 l4 l1 l2
  have hk2 := h2 k hk _ ev
  rw [ew] at hk2
  refine ⟨a, b, c, d, by rw [star_at hv h0 h1 hk, ev], l3, l4, l1, l2, hk2.1, hk2.2, fun hks => ?_⟩
  have := hs.2.2 _ (by rw [← hks, show ((k : Int)).toNat = k by omega]; exact ev)
  rw [ew] at this; exact this
end Go.Proofs.Ytdkegkacpdkjgaa

namespace Go.Proofs.Ytdkegkacpdkjgaa
open Go.RowKit Go.Maps

/-- How many are as asked. -/
def cnt (R : Nat → Bool) : Nat → Nat
  | 0 => 0
  | n + 1 => cnt R n + if R n then 1 else 0
theorem cnt_ext {R R' : Nat → Bool} : ∀ {n : Nat}, (∀ i, i < n → R i = R' i) → cnt R n = cnt R' n
  | 0, _ => rfl
  | n + 1, h => by rw [cnt, cnt, cnt_ext (fun i hi => h i (by omega)), h n (by omega)]
theorem cnt_front (R : Nat → Bool) : ∀ n : Nat, cnt R (n + 1) = (if R 0 then 1 else 0) + cnt (fun i => R (i + 1)) n
  | 0 => by rw [cnt, cnt, cnt]; omega
  | n + 1 => by rw [cnt, cnt_front R n, cnt]; omega
theorem cnt_rev (R : Nat → Bool) : ∀ n : Nat, cnt (fun i => R (n - 1 - i)) n = cnt R n
  | 0 => rfl
  | n + 1 => by
    rw [cnt_front, cnt]
    have h : cnt (fun i => R (n + 1 - 1 - (i + 1))) n = cnt R n := by
      rw [← cnt_rev R n]
      exact cnt_ext fun i hi => by rw [show n + 1 - 1 - (i + 1) = n - 1 - i by omega]
    rw [h, show n + 1 - 1 - 0 = n by omega]; omega
/-- The set of those that are as asked. -/
def ofP (R : Nat → Bool) : Nat → Nat
  | 0 => 0
  | n + 1 => if R n then 2 ^ n + ofP R n else ofP R n
theorem ofP_lt (R : Nat → Bool) : ∀ n : Nat, ofP R n < 2 ^ n
  | 0 => by rw [ofP]; decide
  | n + 1 => by
    have hq : 2 ^ (n + 1) = 2 * 2 ^ n := by rw [Nat.pow_succ, Nat.mul_comm]
    have := ofP_lt R n
    rw [ofP]; split <;> omega
theorem ofP_bit (R : Nat → Bool) : ∀ (n i : Nat), (ofP R n).testBit i = (decide (i < n) && R i)
  | 0, i => by rw [ofP, Nat.zero_testBit]; simp
  | n + 1, i => by
    have h := ofP_bit R n i
    rw [ofP]
    by_cases he : i = n
    · subst he
      cases hr : R i
      · rw [if_neg (by simp), h, hr]; simp
      · rw [if_pos rfl, test_add (ofP_lt R i)]; simp
    · have e : decide (i < n + 1) = decide (i < n) := decide_eq_decide.2 (by omega)
      split
      · rw [test_add (ofP_lt R n), h, decide_eq_false he, e]; rfl
      · rw [h, e]
theorem ofP_size (R : Nat → Bool) : ∀ n : Nat, n ≤ 12 → popc (ofP R n : Int) = cnt R n
  | 0, _ => by rw [ofP, cnt]; exact popc_zero
  | n + 1, h => by
    have ih := ofP_size R n (by omega)
    rw [ofP, cnt]
    split
    · rw [popc_add (by omega) (ofP_lt R n), ih]; omega
    · rw [ih]; omega
theorem of_self {n v : Nat} (hv : v < 2 ^ n) : ofP v.testBit n = v := Nat.eq_of_testBit_eq fun i => by
  rw [ofP_bit]
  by_cases h : i < n
  · rw [decide_eq_true h, Bool.true_and]
  · rw [decide_eq_false h, Nat.testBit_lt_two_pow (Nat.lt_of_lt_of_le hv (Nat.pow_le_pow_right (by decide) (by omega)))]; rfl
/-- A set with the numbers turned. -/
def revN (n v : Nat) : Nat := ofP (fun i => v.testBit (n - 1 - i)) n
theorem rev_bit (n v i : Nat) : (revN n v).testBit i = (decide (i < n) && v.testBit (n - 1 - i)) := ofP_bit _ n i
theorem rev_size {n v : Nat} (hn : n ≤ 12) (hv : v < 2 ^ n) : popc (revN n v : Int) = popc (v : Int) := by
  unfold revN
  rw [ofP_size _ n hn, cnt_rev v.testBit n, ← ofP_size _ n hn, of_self hv]
theorem rev_get {ss : List St} {i : Nat} (hi : i < ss.length) : ss.reverse.getD i default = ss.getD (ss.length - 1 - i) default := by
  rw [List.getD_eq_getElem?_getD, List.getD_eq_getElem?_getD, List.getElem?_reverse hi]
theorem rev_known {ss : List St} {a a' : Nat} (h12 : ss.length ≤ 12) (e : knownTo ss ss.length = (a : Int)) (e' : knownTo ss.reverse ss.length = (a' : Int)) : ∀ i, a'.testBit i = (decide (i < ss.length) && a.testBit (ss.length - 1 - i)) := by
  obtain ⟨b, f, _, h1⟩ := known_nat ss ss.length h12
  obtain ⟨b', f', _, h1'⟩ := known_nat ss.reverse ss.length h12
  obtain rfl : a = b := by omega
  obtain rfl : a' = b' := by omega
  intro i
  rw [h1', h1]
  by_cases hi : i < ss.length
  · rw [rev_get hi, decide_eq_true hi, decide_eq_true (show ss.length - 1 - i < ss.length by omega)]
    simp only [Bool.true_and]
  · rw [decide_eq_false hi]; simp
theorem rev_corn {ss : List St} {sc : Int} {R R' : Nat → Bool} (h : ∀ i, i < ss.length → R' i = R (ss.length - 1 - i)) (d : Bool) (c : Int) : CornC ss sc R ss.length d c ↔ CornC ss.reverse sc R' ss.length d (c + 0) := by
  rw [Int.add_zero]
  unfold CornC
  constructor
  · intro k
    refine ⟨k.1, fun i hi hr => ?_⟩
    rw [rev_get hi]
    exact k.2 _ (by omega) (by rw [← h i hi]; exact hr)
  · intro k
    refine ⟨k.1, fun i hi hr => ?_⟩
    have := k.2 (ss.length - 1 - i) (by omega) (by rw [h _ (by omega), show ss.length - 1 - (ss.length - 1 - i) = i by omega]; exact hr)
    rw [rev_get (by omega), show ss.length - 1 - (ss.length - 1 - i) = i by omega] at this
    exact this
section
variable {p p' : Pl} {ss : List St}
/-- A plate with its stars turned. -/
structure Rvd (p p' : Pl) (ss : List St) : Prop where
  lo : p'.lo = p.lo
  hi : p'.hi = p.hi
  n : p'.n = p.n
  nl : ss.length = p.n
  v : plB p ss = true
theorem Rvd.ok (h : Rvd p p' ss) : PlOk p ss := plOk' h.nl h.v
theorem Rvd.v' (h : Rvd p p' ss) : plB p' ss.reverse = true := by
  have := h.v
  unfold plB at this ⊢
  rw [h.lo, h.hi, h.n, List.all_reverse]; exact this
theorem Rvd.nums (h : Rvd p p' ss) : ∃ a a' : Nat, knownTo ss p.n = (a : Int) ∧ knownTo ss.reverse p.n = (a' : Int) ∧ a < 1024 ∧ a' < 1024 ∧ a < 2 ^ p.n ∧ a' < 2 ^ p.n ∧ p.n ≤ 10 ∧ (∀ i, a'.testBit i = (decide (i < p.n) && a.testBit (p.n - 1 - i))) := by
  have h10 := h.ok.n10
  obtain ⟨a, e, a1, _⟩ := known_nat ss p.n (by omega)
  obtain ⟨a', e', a1', _⟩ := known_nat ss.reverse p.n (by omega)
  have hp : 2 ^ p.n ≤ 1024 := (by decide +kernel : ∀ k : Fin 11, 2 ^ k.val ≤ 1024) ⟨p.n, by omega⟩
  refine ⟨a, a', e, e', by omega, by omega, a1, a1', h10, ?_⟩
  have := rev_known (ss := ss) (a := a) (a' := a') (by rw [h.nl]; omega) (by rw [h.nl]; exact e) (by rw [h.nl]; exact e')
  rwa [h.nl] at this
theorem rvd_set (h : Rvd p p' ss) {v v' : Nat} (hv : v < 1024) (hv' : v' < 1024) (hb : ∀ i, i < p.n → v'.testBit i = v.testBit (p.n - 1 - i)) {sc : Int} (d : Bool) (c : Int) :
    CornC ss sc (setI (v : Int)) p.n d c ↔ CornC ss.reverse sc (setI (v' : Int)) p.n d (c + 0) := by
  have h10 := h.ok.n10
  have := rev_corn (ss := ss) (sc := sc) (R := setI (v : Int)) (R' := setI (v' : Int)) (fun i hi => by
    rw [h.nl] at hi ⊢
    rw [bit_nat (by omega) (by omega), bit_nat (by omega) (by omega)]; exact hb i hi) d c
  rwa [h.nl] at this
theorem rvd_pair (h : Rvd p p' ss) : Pair (fun _ => 0) (trA p ss) (trA p' ss.reverse) := by
  obtain ⟨a, a', e, e', l, l', _, _, h10, hb⟩ := h.nums
  unfold trA
  rw [h.n, e, e']
  exact pair_of h.ok.lo h.ok.hi h.lo h.hi h.n fun _ _ _ d c => rvd_set h l l' (fun i hi => by rw [hb, decide_eq_true hi, Bool.true_and]) d c
theorem rvd_zero (h : Rvd p p' ss) : knownTo ss.reverse p.n = 0 ↔ knownTo ss p.n = 0 := by
  obtain ⟨a, a', e, e', l, l', l2, l2', h10, hb⟩ := h.nums
  rw [e, e']
  constructor
  · intro hz
    obtain rfl : a' = 0 := by omega
    have : a = 0 := Nat.eq_of_testBit_eq fun i => by
      by_cases hi : i < p.n
      · have := hb (p.n - 1 - i)
        rw [Nat.zero_testBit, decide_eq_true (by omega), Bool.true_and, show p.n - 1 - (p.n - 1 - i) = i by omega] at this
        rw [← this, Nat.zero_testBit]
      · rw [Nat.zero_testBit, Nat.testBit_lt_two_pow (Nat.lt_of_lt_of_le l2 (Nat.pow_le_pow_right (by decide) (by omega)))]
    rw [this]; rfl
  · intro hz
    obtain rfl : a = 0 := by omega
    have : a' = 0 := Nat.eq_of_testBit_eq fun i => by rw [hb, Nat.zero_testBit, Nat.zero_testBit, Bool.and_false]
    rw [this]; rfl
theorem rvd_can (h : Rvd p p' ss) {v v' : Nat} (hv : v < 1024) (hv' : v' < 1024) (hb : ∀ i, i < p.n → v'.testBit i = v.testBit (p.n - 1 - i)) : canR p' ss.reverse (v' : Int) = canR p ss (v : Int) :=
  can_shift h.ok.lo h.ok.hi h.lo h.hi h.n fun _ _ _ d c => rvd_set h hv hv' hb d c
/-- What the fewest ones are, is turned. -/
theorem rvd_few (h : Rvd p p' ss) {ask ask' : Int → Bool} (hask : ∀ v v' : Nat, v < 1024 → v' < 1024 → (∀ i, i < p.n → v'.testBit i = v.testBit (p.n - 1 - i)) → ask' (v' : Int) = ask (v : Int)) :
    popc (fewS ask' (knownTo ss.reverse p.n)) = popc (fewS ask (knownTo ss p.n)) ∧ (∃ u : Nat, fewS ask (knownTo ss p.n) = (u : Int) ∧ u < 1024) ∧ ∃ u : Nat, fewS ask' (knownTo ss.reverse p.n) = (u : Int) ∧ u < 1024 := by
  obtain ⟨a, a', e, e', l, l', l2, l2', h10, hb⟩ := h.nums
  have hp : 2 ^ p.n ≤ 1024 := (by decide +kernel : ∀ k : Fin 11, 2 ^ k.val ≤ 1024) ⟨p.n, by omega⟩
  rw [e, e']
  have h12 : ∀ {v i : Nat}, v < 1024 → v.testBit i = true → i < 10 := fun {v i} hv hi => by
    rcases Nat.lt_or_ge i 10 with h | h
    · exact h
    · rw [Nat.testBit_lt_two_pow (Nat.lt_of_lt_of_le hv (Nat.pow_le_pow_right (n := 2) (by decide) h))] at hi; cases hi
  have hsub : ∀ v : Nat, v < 1024 → (Sub v (a : Int) ↔ ∀ i, v.testBit i = true → a.testBit i = true) := fun v hv =>
    ⟨fun k i hi => by rw [← bit_nat (by omega) (by have := h12 hv hi; omega)]; exact k i hi, fun k i hi => by rw [bit_nat (by omega) (by have := h12 hv hi; omega)]; exact k i hi⟩
  have hsub' : ∀ v : Nat, v < 1024 → (Sub v (a' : Int) ↔ ∀ i, v.testBit i = true → a'.testBit i = true) := fun v hv =>
    ⟨fun k i hi => by rw [← bit_nat (by omega) (by have := h12 hv hi; omega)]; exact k i hi, fun k i hi => by rw [bit_nat (by omega) (by have := h12 hv hi; omega)]; exact k i hi⟩
  have hal : ∀ i, a.testBit i = true → i < p.n := fun i hi => by
    rcases Nat.lt_or_ge i p.n with h | h
    · exact h
    · rw [Nat.testBit_lt_two_pow (Nat.lt_of_lt_of_le l2 (Nat.pow_le_pow_right (by decide) h))] at hi; cases hi
  -- a set of the ones is a set of the other ones, turned
  have hto : ∀ v : Nat, v < 1024 → Sub v (a : Int) → v < 2 ^ p.n := fun v hv hs => Nat.lt_pow_two_of_testBit v fun i hi => by
    cases hc : v.testBit i
    · rfl
    · have := hal i ((hsub v hv).1 hs i hc); omega
  have hto' : ∀ v : Nat, v < 1024 → Sub v (a' : Int) → v < 2 ^ p.n := fun v hv hs => Nat.lt_pow_two_of_testBit v fun i hi => by
    cases hc : v.testBit i
    · rfl
    · have := (hsub' v hv).1 hs i hc
      rw [hb, decide_eq_false (by omega)] at this; cases this
  have hrl : ∀ v : Nat, revN p.n v < 1024 := fun v => Nat.lt_of_lt_of_le (ofP_lt _ _) hp
  have r1 : ∀ v : Nat, v < 1024 → Sub v (a : Int) → Sub (revN p.n v) (a' : Int) := fun v hv hs => (hsub' _ (hrl v)).2 fun i hi => by
    rw [rev_bit, Bool.and_eq_true] at hi
    rw [hb, hi.1, (hsub v hv).1 hs _ hi.2]; rfl
  have r2 : ∀ v : Nat, v < 1024 → Sub v (a' : Int) → Sub (revN p.n v) (a : Int) := fun v hv hs => (hsub _ (hrl v)).2 fun i hi => by
    rw [rev_bit, Bool.and_eq_true, decide_eq_true_eq] at hi
    have := (hsub' v hv).1 hs _ hi.2
    rw [hb, Bool.and_eq_true, show p.n - 1 - (p.n - 1 - i) = i by omega] at this
    exact this.2
  have ask1 : ∀ v : Nat, v < 1024 → ask' (revN p.n v : Int) = ask (v : Int) := fun v hv => hask v _ hv (hrl v) fun i hi => by rw [rev_bit, decide_eq_true hi, Bool.true_and]
  have ask2 : ∀ v : Nat, v < 1024 → ask' (v : Int) = ask (revN p.n v : Int) := fun v hv => hask _ v (hrl v) hv fun i hi => by rw [rev_bit, decide_eq_true (by omega), Bool.true_and, show p.n - 1 - (p.n - 1 - i) = i by omega]
  by_cases hx : ∃ v : Nat, v < 1024 ∧ Sub v (a : Int) ∧ ask (v : Int) = true
  · obtain ⟨u, e1, hu⟩ := few_is (all := a) (by omega) hx
    obtain ⟨v, v1, v2, v3⟩ := hx
    obtain ⟨u', e2, hu'⟩ := few_is (ask := ask') (all := a') (by omega) ⟨revN p.n v, hrl v, r1 v v1 v2, by rw [ask1 v v1]; exact v3⟩
    have x := hu.least (revN p.n u') (hrl u') (r2 u' hu'.lt hu'.sub) (by rw [← ask2 u' hu'.lt]; exact hu'.asks)
    have y := hu'.least (revN p.n u) (hrl u) (r1 u hu.lt hu.sub) (by rw [ask1 u hu.lt]; exact hu.asks)
    rw [rev_size (by omega) (hto' u' hu'.lt hu'.sub)] at x
    rw [rev_size (by omega) (hto u hu.lt hu.sub)] at y
    rw [e1, e2]
    exact ⟨by omega, ⟨u, rfl, hu.lt⟩, ⟨u', rfl, hu'.lt⟩⟩
  · have hn : ∀ v : Nat, v < 1024 → Sub v (a : Int) → ask (v : Int) = false := fun v v1 v2 => by
      cases e : ask (v : Int)
      · rfl
      · exact absurd ⟨v, v1, v2, e⟩ hx
    rw [few_not hn, few_not fun v v1 v2 => by rw [ask2 v v1]; exact hn _ (hrl v) (r2 v v1 v2)]
    exact ⟨rfl, ⟨0, rfl, by decide⟩, ⟨0, rfl, by decide⟩⟩
theorem rvd_nil (h : Rvd p p' ss) : trA p' ss.reverse = [] ↔ trA p ss = [] := (pair_nil (rvd_pair h)).symm
theorem rvd_scale (h : Rvd p p' ss) : scaleR p' ss.reverse = scaleR p ss := by
  unfold scaleR
  rw [h.v, h.v', if_pos rfl, if_pos rfl]
  have hp := rvd_pair h
  rw [kep_same (f := scaleF false) (g := scaleF false) (fun x hx _ => by obtain ⟨y, hy, e, _⟩ := hp.fwd x hx; exact ⟨y, hy, by unfold scaleF; rw [e]⟩)
      (fun y hy _ => by obtain ⟨x, hx, e, _⟩ := hp.bwd y hy; exact ⟨x, hx, by unfold scaleF; rw [e]⟩)]
  by_cases hn : trA p ss = []
  · rw [if_pos hn, if_pos ((rvd_nil h).2 hn)]
  · rw [if_neg hn, if_neg (fun hn' => hn ((rvd_nil h).1 hn'))]
theorem rvd_tellK (h : Rvd p p' ss) {f g : Bool → Scl → Int × Int} (hfg : ∀ d, ∀ x y : Scl, y.sc = x.sc → (∀ d, y.lo d = x.lo d ∧ y.hi d = x.hi d) → g d y = f d x) : tellK p' ss.reverse g = tellK p ss f := by
  have hp := rvd_pair h
  unfold tellK
  rw [h.n]
  by_cases hn : trA p ss = []
  · rw [if_pos hn, if_pos ((rvd_nil h).2 hn)]
  · rw [if_neg hn, if_neg (fun hn' => hn ((rvd_nil h).1 hn'))]
    by_cases hk : knownTo ss p.n = 0
    · rw [if_pos hk, if_pos ((rvd_zero h).2 hk)]
    · rw [if_neg hk, if_neg (fun hk' => hk ((rvd_zero h).1 hk'))]
      have hz : ∀ {x y : Scl}, (∀ d, y.lo d = x.lo d + 0 ∧ y.hi d = x.hi d + 0) → ∀ d, y.lo d = x.lo d ∧ y.hi d = x.hi d := fun s d => by have := s d; omega
      exact along_same (fun d x hx _ => by obtain ⟨y, hy, e, s⟩ := hp.fwd x hx; exact ⟨y, hy, hfg d x y e (hz s)⟩)
        (fun d y hy _ => by obtain ⟨x, hx, e, s⟩ := hp.bwd y hy; exact ⟨x, hx, hfg d x y e (hz s)⟩)
theorem rvd_zeroR (h : Rvd p p' ss) : zeroR p' ss.reverse = zeroR p ss := by
  unfold zeroR
  rw [h.v, h.v', if_pos rfl, if_pos rfl]
  exact rvd_tellK h fun d x y _ s => Prod.ext (s d).1 (s d).2
theorem rvd_star (h : Rvd p p' ss) (i : Int) : starR p' ss.reverse ((p.n : Int) - 1 - i) = starR p ss i := by
  unfold starR
  rw [h.v, h.v', if_pos rfl, if_pos rfl, h.n]
  by_cases hi : 0 ≤ i ∧ i < p.n
  · rw [if_pos hi, if_pos (by omega)]
    refine rvd_tellK h fun d x y e s => ?_
    rw [rev_get (by rw [h.nl]; omega), h.nl, show p.n - 1 - ((p.n : Int) - 1 - i).toNat = i.toNat by omega, e, (s d).1, (s d).2]
  · rw [if_neg hi, if_neg (by omega)]
theorem rvd_starW (h : Rvd p p' ss) {i : Int} (hi : -9223372036854775808 ≤ i ∧ i ≤ 9223372036854775807) : starR p' ss.reverse (wrap64 ((p.n : Int) - 1 - i)) = starR p ss i := by
  have h10 := h.ok.n10
  by_cases ho : (p.n : Int) - 1 - i ≤ 9223372036854775807
  · rw [show wrap64 ((p.n : Int) - 1 - i) = (p.n : Int) - 1 - i by unfold wrap64; omega]; exact rvd_star h i
  · have e : wrap64 ((p.n : Int) - 1 - i) = (p.n : Int) - 1 - i - 18446744073709551616 := by unfold wrap64; omega
    rw [e]
    unfold starR
    rw [h.v, h.v', if_pos rfl, if_pos rfl, h.n, if_neg (by omega), if_neg (by omega)]
theorem rvd_clash (h : Rvd p p' ss) : ∃ u u' : Nat, clashR p ss = .ok (.int .i64 u) ∧ clashR p' ss.reverse = .ok (.int .i64 u') ∧ u < 1024 ∧ u' < 1024 ∧ popc (u' : Int) = popc (u : Int) := by
  obtain ⟨a, a', e, e', l, l', l2, l2', h10, hb⟩ := h.nums
  have hc := rvd_can h l l' fun i hi => by rw [hb, decide_eq_true hi, Bool.true_and]
  obtain ⟨f1, ⟨u, f2, f3⟩, u', f4, f5⟩ := rvd_few h (ask := clashF p ss) (ask' := clashF p' ss.reverse) fun v v' hv hv' hb => by unfold clashF; rw [rvd_can h hv hv' hb]
  unfold clashR
  rw [h.v, h.v', if_pos rfl, if_pos rfl, h.n, e, e', hc]
  rw [e] at f1 f2
  rw [e'] at f1 f4
  cases hcan : canR p ss (a : Int)
  · exact ⟨u, u', by rw [f2]; rfl, by rw [f4]; rfl, f3, f5, by rw [← f2, ← f4, f1]⟩
  · exact ⟨0, 0, rfl, rfl, by decide, by decide, rfl⟩
theorem rvd_drop (h : Rvd p p' ss) : ∃ u u' : Nat, dropR p ss = .ok (.int .i64 u) ∧ dropR p' ss.reverse = .ok (.int .i64 u') ∧ u < 1024 ∧ u' < 1024 ∧ popc (u' : Int) = popc (u : Int) := by
  obtain ⟨a, a', e, e', l, l', l2, l2', h10, hb⟩ := h.nums
  obtain ⟨f1, ⟨u, f2, f3⟩, u', f4, f5⟩ := rvd_few h (ask := dropF p ss) (ask' := dropF p' ss.reverse) fun v v' hv hv' hbv => by
    unfold dropF
    rw [h.n, e, e']
    obtain ⟨y, g1, g2, g3⟩ := andNot_nat (a := a) (b := v) (by omega) (by omega)
    obtain ⟨y', g1', g2', g3'⟩ := andNot_nat (a := a') (b := v') (by omega) (by omega)
    rw [g1, g1']
    exact rvd_can h (by omega) (by omega) fun i hi => by rw [g3', g3, hb, hbv i hi, decide_eq_true hi, Bool.true_and]
  unfold dropR
  rw [h.v, h.v', if_pos rfl, if_pos rfl, h.n, f2, f4]
  exact ⟨u, u', rfl, rfl, f3, f5, by rw [← f2, ← f4, f1]⟩
end
/-- How far two stars are apart, the other way round. -/
def ngV (v : Value) : Value := .agg #[.int .i64 (-numB v 1), .int .i64 (-numB v 0), .int .i64 (-numB v 3), .int .i64 (-numB v 2)]
theorem kep_neg {f g : Scl → Int × Int} {xs : List Scl} (h : ∀ x ∈ xs, (g x).1 = -(f x).2 ∧ (g x).2 = -(f x).1) : kepL g xs = if (kepL f xs).2.2 then (-(kepL f xs).2.1, -(kepL f xs).1, true) else (0, 0, false) := by
  have kf := kepL_of f xs
  have kg := kepL_of g xs
  cases ht : (kepL f xs).2.2
  · rw [if_neg (by simp)]
    refine kep_no fun y hy hyl => ?_
    have e := h y hy
    have := (kf.all y hy (by omega)).1
    rw [ht] at this; cases this
  · rw [if_pos rfl]
    obtain ⟨x, hx, hxl, e1⟩ := kf.lo ht
    obtain ⟨z, hz, hzl, e2⟩ := kf.hi ht
    have hx' := h x hx
    have hz' := h z hz
    have a := kg.all x hx (by omega)
    have b := kg.all z hz (by omega)
    obtain ⟨p, hp, hpl, q1⟩ := kg.lo a.1
    obtain ⟨q, hq, hql, q2⟩ := kg.hi a.1
    have hp' := h p hp
    have hq' := h q hq
    have c1 := kf.all p hp (by omega)
    have c2 := kf.all q hq (by omega)
    have e : ∀ k : Int × Int × Bool, k.1 = -(kepL f xs).2.1 → k.2.1 = -(kepL f xs).1 → k.2.2 = true → k = (-(kepL f xs).2.1, -(kepL f xs).1, true) := fun k h1 h2 h3 => by
      obtain ⟨k1, k2, k3⟩ := k
      dsimp only at h1 h2 h3
      rw [h1, h2, h3]
    exact e _ (by omega) (by omega) a.1
theorem apart_neg (p : Pl) (ss : List St) (i j : Int) : (∃ c, c ≠ 0 ∧ apartR p ss i j = .error c ∧ apartR p ss j i = .error c) ∨ ∃ a b c d : Int, apartR p ss i j = .ok (.agg #[.int .i64 a, .int .i64 b, .int .i64 c, .int .i64 d]) ∧ apartR p ss j i = .ok (.agg #[.int .i64 (-b), .int .i64 (-a), .int .i64 (-d), .int .i64 (-c)]) := by
  by_cases hv : plB p ss = true
  · by_cases hi : 0 ≤ i ∧ i < p.n
    · by_cases hj : 0 ≤ j ∧ j < p.n
      · by_cases hn : trA p ss = []
        · exact .inl ⟨10, by decide, by unfold apartR tellR; rw [if_pos hv, if_pos hi, if_pos hj, if_pos hn], by unfold apartR tellR; rw [if_pos hv, if_pos hj, if_pos hi, if_pos hn]⟩
        · have e1 : apartR p ss i j = alongR (kepL (apartF ss i.toNat j.toNat false) (trA p ss)) (kepL (apartF ss i.toNat j.toNat true) (trA p ss)) := by unfold apartR tellR; rw [if_pos hv, if_pos hi, if_pos hj, if_neg hn]
          have e2 : apartR p ss j i = alongR (kepL (apartF ss j.toNat i.toNat false) (trA p ss)) (kepL (apartF ss j.toNat i.toNat true) (trA p ss)) := by unfold apartR tellR; rw [if_pos hv, if_pos hj, if_pos hi, if_neg hn]
          have hk : ∀ d, kepL (apartF ss j.toNat i.toNat d) (trA p ss) = if (kepL (apartF ss i.toNat j.toNat d) (trA p ss)).2.2 then (-(kepL (apartF ss i.toNat j.toNat d) (trA p ss)).2.1, -(kepL (apartF ss i.toNat j.toNat d) (trA p ss)).1, true) else (0, 0, false) := fun d => kep_neg fun x _ => by
            unfold apartF
            by_cases he : i.toNat = j.toNat
            · rw [if_pos he, if_pos he.symm]; decide
            · rw [if_neg he, if_neg (fun e => he e.symm)]
              unfold apS
              dsimp only
              omega
          rw [e1, e2, hk false, hk true]
          generalize kepL (apartF ss i.toNat j.toNat false) (trA p ss) = k0
          generalize kepL (apartF ss i.toNat j.toNat true) (trA p ss) = k1
          obtain ⟨a0, a1, a2⟩ := k0
          obtain ⟨b0, b1, b2⟩ := k1
          cases a2
          · exact .inl ⟨4, by decide, rfl, rfl⟩
          · cases b2
            · exact .inl ⟨4, by decide, rfl, rfl⟩
            · exact .inr ⟨a0, a1, b0, b1, rfl, rfl⟩
      · exact .inl ⟨2, by decide, by unfold apartR; rw [if_pos hv, if_pos hi, if_neg hj], by unfold apartR; rw [if_pos hv, if_neg hj]⟩
    · refine .inl ⟨2, by decide, by unfold apartR; rw [if_pos hv, if_neg hi], ?_⟩
      unfold apartR
      rw [if_pos hv]
      by_cases hj : 0 ≤ j ∧ j < p.n
      · rw [if_pos hj, if_neg hi]
      · rw [if_neg hj]
  · exact .inl ⟨1, by decide, by unfold apartR; rw [if_neg hv], by unfold apartR; rw [if_neg hv]⟩
theorem apart_bnd {p : Pl} {ss : List St} (h : plB p ss = true → PlOk p ss) (i j : Int) : Bnd 400000000 (apartR p ss i j) := by
  unfold apartR tellR
  split
  · rename_i hv
    split
    · rename_i hi
      split
      · rename_i hj
        split
        · exact bnd_err _ _
        · refine along_bnd (f := apartF ss i.toNat j.toNat) (xs := trA p ss) fun d x hx => ?_
          have k := trL_ok (h hv) hx
          have hn := (h hv).nl
          have a := pl_rng ((h hv).st i.toNat (by omega) d) (sc := x.sc) (by have := k.s0; omega) k.s1 (k.lo d) (k.hi d)
          have b := pl_rng ((h hv).st j.toNat (by omega) d) (sc := x.sc) (by have := k.s0; omega) k.s1 (k.lo d) (k.hi d)
          have c := bey_rng ((h hv).st i.toNat (by omega) d) (sc := x.sc) (by have := k.s0; omega) k.s1
          have e := bey_rng ((h hv).st j.toNat (by omega) d) (sc := x.sc) (by have := k.s0; omega) k.s1
          unfold apartF
          split
          · exact ⟨by decide, by decide⟩
          · unfold apS
            dsimp only
            omega
      · exact bnd_err _ _
    · exact bnd_err _ _
  · exact bnd_err _ _
end Go.Proofs.Ytdkegkacpdkjgaa

namespace Go.Proofs.Ytdkegkacpdkjgaa
open Go.RowKit Go.Maps

/-- Two plates in variables. -/
structure Mv2 (Y : World) (B G : Nat) (p px : Pl) (ss xs : List St) : Prop where
  bp : BoxP Y B p
  bx : BoxP Y G px
  mp : PlAt p ss Y
  mx : PlAt px xs Y
theorem Mv2.grown {Y Y' : World} {B G : Nat} {p px : Pl} {ss xs : List St} (h : Mv2 Y B G p px ss xs) (hb : Below Y.heap.size Y Y') : Mv2 Y' B G p px ss xs :=
  ⟨h.bp.grown hb, h.bx.grown hb, h.mp.below hb (Nat.le_refl _), h.mx.below hb (Nat.le_refl _)⟩
theorem BoxP.under {X X' : World} {B M : Nat} {p : Pl} (k : BoxP X B p) (hb : Below M X X') (hB : B < M) : BoxP X' B p :=
  ⟨(hb.cell (p := ⟨B, 0, none⟩) hB).trans k.c0, (hb.cell (p := ⟨B, 1, none⟩) hB).trans k.c1, (hb.cell (p := ⟨B, 2, none⟩) hB).trans k.c2⟩
theorem Worst.put {X : World} {P B : Nat} {s x : Int} (h : Worst X P s x) (hn : P ≠ B) (o : Nat) (v : Value) : Worst (X.setCell ⟨B, o, none⟩ v) P s x := by
  obtain ⟨c0, c1, f0, f1⟩ := h
  have e : ∀ k, (⟨B, o, none⟩ : Addr) ≠ ⟨P, k, none⟩ := fun k he => by injection he with h1; exact hn h1.symm
  exact ⟨by rw [World.cell?_setCell_other _ _ _ _ (e 0)]; exact c0, by rw [World.cell?_setCell_other _ _ _ _ (e 1)]; exact c1, by simpa using f0, by simpa using f1⟩
/-- Two spans are stored. -/
theorem set_two {X : World} {C D : Nat} {a b c d : Int} (hC : Worst X C a b) (hD : Worst X D c d) (hne : C ≠ D) (a' b' c' d' : Int) {Z : World}
    (hZ : (((X.setCell ⟨C, 0, none⟩ (.int .i64 a')).setCell ⟨C, 1, none⟩ (.int .i64 b')).setCell ⟨D, 0, none⟩ (.int .i64 c')).setCell ⟨D, 1, none⟩ (.int .i64 d') = Z) :
    Worst Z C a' b' ∧ Worst Z D c' d' ∧ (∀ P s x, Worst X P s x → P ≠ C → P ≠ D → Worst Z P s x) ∧ (∀ (M : Nat) (X0 : World), M ≤ C → M ≤ D → Below M X0 X → Below M X0 Z) := by
  subst hZ
  refine ⟨((hC.set a' b').put hne 0 _).put hne 1 _, (((hD.put hne.symm 0 _).put hne.symm 1 _)).set c' d', fun P s x h h1 h2 => (((h.put h1 0 _).put h1 1 _).put h2 0 _).put h2 1 _, fun M X0 h1 h2 h => ?_⟩
  exact (((h.setCell (p := ⟨C, 0, none⟩) h1 _).setCell (p := ⟨C, 1, none⟩) h1 _).setCell (p := ⟨D, 0, none⟩) h2 _).setCell (p := ⟨D, 1, none⟩) h2 _
/-- Where something lies that a walk asks for. -/
theorem Worst.cells {X : World} {P : Nat} {s x : Int} (h : Worst X P s x) : X.cell? ⟨P, 0, none⟩ = some (.int .i64 s) ∧ X.cell? ⟨P, 1, none⟩ = some (.int .i64 x) := ⟨h.c0, h.c1⟩
end Go.Proofs.Ytdkegkacpdkjgaa

namespace Go.Proofs.Ytdkegkacpdkjgaa
open Go.RowKit Go.Maps

/-- One star, onto a row. -/
theorem wp_append_star {o : Oper} {a : Act} {w : World} {K : Act → World → Prop} {Q : Exit → Act → World → Prop} (s x : Operand) (ho : o.op = .call { callee := .builtin .append, args := #[s, x], argTypes := #[27, 27] })
    (base : Nat) (v : Value) (hs : a.eval s = v) (n : Nat) (xs : List Value) (hown : w.ownsRow base 55 9 v n xs) (ad : Addr) (c : Nat) (l : St) (hx : a.eval x = .slice (some ad) 1 c) (hc : ∀ j u, (starC l)[j]? = some u → w.cell? (ad.add j) = some u) (hl : n ≤ 100) (hbase : base ≤ w.heap.size)
    (h : ∀ v' w', w'.ownsRow base 55 9 v' (n + 1) (xs ++ starC l) → w.grownBy w' v.ownBlock → K (a.put o.dst v') w') : o.wp Try.prog a w K Q := by
  obtain ⟨i0, hi9, hz0, hz1, hz2⟩ := info_star
  obtain ⟨v', w', r1, r2, r3, _⟩ := run_append_own (P := Try.prog) w base 27 o.type 55 i0 (.agg #[.int .i64 0, .int .i64 0, .int .i64 0, .int .i64 0, .bool false, .int .i64 0, .int .i64 0, .int .i64 0, .int .i64 0]) 9 72 Try.underlying27 hi9 hz0 hz1 hz2 rfl (by decide) v n xs hown ad 1 c (starC l) rfl hc
    (fun u hu => by simp [starC, St.cells] at hu; rcases hu with rfl | rfl | rfl | rfl | rfl | rfl | rfl | rfl | rfl <;> rfl) (by unfold maxLen; omega) (by omega) hbase
  unfold Oper.wp execOp
  simp only [ho, resolve, invoke, builtin, Sem.run_bind, Sem.run_pure, Result.andThen_ok, List.map_toArray, List.map_cons, List.map_nil, hs, hx, r1]
  exact h v' w' r2 r3
theorem rev_take {ss : List St} {k : Nat} (hk : k < ss.length) : ss.reverse.take (k + 1) = ss.reverse.take k ++ [ss.getD (ss.length - 1 - k) default] := by
  rw [List.take_succ_eq_append_getElem (by rw [List.length_reverse]; exact hk), List.getElem_reverse]
  simp [List.getD, show ss.length - 1 - k < ss.length by omega]
set_option maxRecDepth 100000 in
set_option maxHeartbeats 16000000 in
theorem turned_walk (p : Pl) (ss : List St) (a b : Int) (w : World) (hnl : ss.length = p.n) (hst : StarsIn w p.a ss) (ha : Rng a) :
    Calls Try.prog 9 #[p.val, .int .i64 a, .int .i64 b] w (Ret (.bool true) w) := by
  unfold Pl.val
  obtain ⟨W0, hW0⟩ : ∃ X, w.alloc (.cells #[.int .i64 p.lo, .int .i64 p.hi, .slice p.a p.n p.cap] 29) = X := ⟨_, rfl⟩
  have hB0 : Below w.heap.size w W0 := by rw [← hW0]; exact newB _ _
  have hQ : BoxP W0 w.heap.size p := by rw [← hW0]; exact boxP_new w p _
  have hS := hst.below hB0
  have hgt : w.heap.size < W0.heap.size := by rw [← hW0]; simp
  clear hst
  obtain ⟨c0, c1, c2⟩ := id hQ
  go_enter Try.func9, Try.ntmps9
  by_cases h30 : 30 < (p.n : Int)
  · clear hS hnl
    go_wp2_with fail
    clear hW0
    refine (alive_any _).mono ?_
    rintro e wz ⟨rfl, hz⟩
    have hB := BT hB0 hz
    go_wp2
    go_ret
    exact ⟨rfl, hB⟩
  have hm : PlAt p ss W0 := ⟨hnl, by omega, hS⟩
  have HPL := plateR_any p ss W0 hm
  unfold Pl.val at HPL
  go_wp2_with fail
  clear hW0
  refine HPL.mono ?_
  rintro e w1 ⟨rfl, hx1⟩
  have hB1 := BT hB0 hx1
  have hQ1 := hQ.grown hx1
  have hm1 := hm.below hx1 (Nat.le_refl _)
  have hgt1 := Nat.lt_of_lt_of_le hgt hx1.size
  clear hB0 hQ hm hS hgt HPL hx1 c0 c1 c2
  cases hv : plB p ss
  · clear hm1 hQ1
    go_wp2_with fail
    refine (alive_any _).mono ?_
    rintro e wz ⟨rfl, hz⟩
    have hB := BT hB1 hz
    go_wp2
    go_ret
    exact ⟨rfl, hB⟩
  have hok := plOk hm1 hv
  have hn10 := hok.n10
  have hHid := Lib.hid hv
  have hOK := Lib.hid hok
  clear hv hok
  obtain ⟨c0, c1, c2⟩ := id hQ1
  obtain ⟨XE, hXE⟩ : ∃ X, w1.alloc (.cells #[] 55) = X := ⟨_, rfl⟩
  have hr0 : XE.ownsRow w1.heap.size 55 9 (.slice (some ⟨w1.heap.size, 0, none⟩) 0 0) 0 [] := by rw [← hXE]; exact World.ownsRow_lit (base := w1.heap.size) (e := 55) (size := 9) w1 #[] 0 (Nat.le_refl _) (by unfold maxLen; omega) (by rfl)
  have hE2 : Below w1.heap.size w1 XE := by rw [← hXE]; exact newB _ _
  have hst1 : StarsIn XE p.a ss := (hm1.below hE2 (Nat.le_refl _)).lk
  have c2' := cellB c2 hE2
  go_wp2_with (at_builtin; refine wpList_append_stars rfl (.tmp 50) (.tmp 52) rfl w1.heap.size (.slice (some ⟨w1.heap.size, 0, none⟩) 0 0) (by rfl) hr0 p.a p.n p.cap ss (by rfl) hst1 hnl (by omega) hE2.size ?_)
  intro v' w2 hr hg
  have hBx : Below w1.heap.size w1 w2 := hE2.grown hg hE2.size (fun k e => by simp [Value.ownBlock] at e; omega)
  clear hg hr0 hst1 hXE hE2 c0 c1 c2 c2'
  obtain ⟨sk, ck, rfl, hkp⟩ : ∃ sk ck, v' = .slice sk p.n ck ∧ StarsIn w2 sk ss := by
    rcases hr.2 with ⟨h1, h2⟩ | ⟨g, cap, cur, h1, _⟩
    · exact ⟨none, 0, by rw [h1, h2], .inl (List.eq_nil_of_length_eq_zero (by rw [hnl, h2]))⟩
    · subst h1
      have hg := (hr.lt g rfl).2
      have hr2 := hr
      rw [← hnl] at hr2
      exact ⟨some ⟨g, 0, none⟩, cap, rfl, row_stars hg hr2⟩
  have hQ2 := hQ1.grown hBx
  have hm2 := hm1.below hBx (Nat.le_refl _)
  have hB2 := BT hB1 hBx
  clear hr hBx hB1 hQ1 hm1
  obtain ⟨c0, c1, c2⟩ := id hQ2
  go_upto_region 7 with fail
  obtain ⟨W3, hW3⟩ : ∃ X, w2.alloc (.cells #[.int .i64 p.lo, .int .i64 p.hi, .slice none 0 0] 29) = X := ⟨_, rfl⟩
  have hx3 : Below w2.heap.size w2 W3 := by rw [← hW3]; exact newB _ _
  have d0 : W3.cell? ⟨w2.heap.size, 0, none⟩ = some (.int .i64 p.lo) := by rw [← hW3]; simp [go_sem]
  have d1 : W3.cell? ⟨w2.heap.size, 1, none⟩ = some (.int .i64 p.hi) := by rw [← hW3]; simp [go_sem]
  have d2 : W3.cell? ⟨w2.heap.size, 2, none⟩ = some (.slice none 0 0) := by rw [← hW3]; simp [go_sem]
  have hsx : Slots w2.heap.size 3 W3 := by
    rw [← hW3]; intro o ho
    have : o = 0 ∨ o = 1 ∨ o = 2 := by omega
    rcases this with rfl | rfl | rfl <;> simp [go_sem]
  have hgx : W3.heap.size = w2.heap.size + 1 := by rw [← hW3]; simp
  have hgx1 : w2.heap.size < W3.heap.size := by omega
  have hgx2 : W3.heap.size ≤ w2.heap.size + 1 := by omega
  have hgw : w.heap.size < w2.heap.size := World.block_lt_of_cell? _ _ hQ2.c0
  have hQ3 := Lib.hid hQ2
  have hm3 := Lib.hid hm2
  have hk3 := Lib.hid hkp
  rw [hW3]
  clear hgx hW3 c0 c1 c2 hQ2 hm2 hkp
  obtain ⟨c0, c1, c2⟩ := hQ3.out.grown hx3
  go_wp2_with fail
  clear c0 c1 c2
  go_loopw [59] (fun i wr => ∃ (k : Nat) (sv : Value), k ≤ p.n ∧ i = .int .i64 k ∧ wr.cell? ⟨w2.heap.size, 0, none⟩ = some (.int .i64 p.lo) ∧ wr.cell? ⟨w2.heap.size, 1, none⟩ = some (.int .i64 p.hi) ∧ wr.cell? ⟨w2.heap.size, 2, none⟩ = some sv ∧ Slots w2.heap.size 3 wr ∧ wr.ownsRow W3.heap.size 55 9 sv k ((ss.reverse.take k).flatMap starC) ∧ Below w2.heap.size w2 wr ∧ W3.heap.size ≤ wr.heap.size) (fun i _ => p.n - (intOf i).toNat)
  case atStart => exact ⟨0, .slice none 0 0, by omega, rfl, d0, d1, d2, hsx, World.ownsRow_nil _ _ _ _, hx3, Nat.le_refl _⟩
  case round =>
    clear d0 d1 d2 hsx hx3
    obtain ⟨k, sv, hk, rfl, d0, d1, d2, hsx, hr, hV, hsz⟩ := hrel
    have hk0 : (0 : Int) ≤ (k : Int) := by omega
    by_cases hlt : k < p.n
    · skip
      have hki : (k : Int) < (p.n : Int) := by omega
      have hkl : k < ss.length := by omega
      obtain ⟨j, hj⟩ : ∃ j : Nat, p.n - 1 - k = j := ⟨_, rfl⟩
      have hjl : j < ss.length := by omega
      have hw1 : IntKind.i64.wrap ((p.n : Int) - 1) = (p.n : Int) - 1 := IntWalk.i64_in _ (by omega)
      have hw2 : IntKind.i64.wrap ((p.n : Int) - 1 - (k : Int)) = (j : Int) := by rw [IntWalk.i64_in _ (by omega)]; omega
      have hj0 : (0 : Int) ≤ (j : Int) := by omega
      have hj1 : (j : Int) < (p.n : Int) := by omega
      have hrt := Lib.hid (rev_take hkl)
      rw [hnl, hj] at hrt
      obtain ⟨pb, po, hpa, hpb, hct⟩ : ∃ pb po, p.a = some ⟨pb, po, none⟩ ∧ pb < w2.heap.size ∧ StAt (ss.getD j default) pb (po + j * 9) w2 := by
        rcases hm3.out.lk with h | ⟨pb, po, h1, h2, h3⟩
        · rw [h] at hjl; simp at hjl
        · exact ⟨pb, po, h1, h2, h3 j hjl⟩
      have hc2 := hQ3.out.c2
      rw [hpa] at hc2
      clear hpa
      generalize ss.getD j default = s at hct hrt
      have hSS : Hid (∀ Y, Below W3.heap.size wr Y → Y.cell? ⟨w2.heap.size, 2, none⟩ = some sv ∧ Y.cell? ⟨w.heap.size, 2, none⟩ = some (.slice (some ⟨pb, po, none⟩) p.n p.cap) ∧ Y.cell? ⟨pb, po + j * 9, none⟩ = some (.int .i64 s.x0) ∧ Y.cell? ⟨pb, po + j * 9 + 1, none⟩ = some (.int .i64 s.x1) ∧ Y.cell? ⟨pb, po + j * 9 + 2, none⟩ = some (.int .i64 s.y0) ∧ Y.cell? ⟨pb, po + j * 9 + 3, none⟩ = some (.int .i64 s.y1) ∧ Y.cell? ⟨pb, po + j * 9 + 4, none⟩ = some (.bool s.k) ∧ Y.cell? ⟨pb, po + j * 9 + 5, none⟩ = some (.int .i64 s.e0) ∧ Y.cell? ⟨pb, po + j * 9 + 6, none⟩ = some (.int .i64 s.e1) ∧ Y.cell? ⟨pb, po + j * 9 + 7, none⟩ = some (.int .i64 s.n0) ∧ Y.cell? ⟨pb, po + j * 9 + 8, none⟩ = some (.int .i64 s.n1)) := fun Y hY => by
        have hY2 : Below w2.heap.size w2 Y := hV.trans (hY.mono (by omega))
        obtain ⟨e0, e1, e2, e3, e4, e5, e6, e7, e8⟩ := hct.below hY2 hpb
        exact ⟨(hY.cell (p := ⟨w2.heap.size, 2, none⟩) hgx1).trans d2, (hY2.cell (p := ⟨w.heap.size, 2, none⟩) hgw).trans hc2, e0, e1, e2, e3, e4, e5, e6, e7, e8⟩
      have hbD : Below W3.heap.size wr wr.drew := Below.drew (Below.refl _ _)
      have hr0 := hr.drew
      go_wp2_with fail
      refine wp_region_seq [(0, true), (1, true), (2, true), (3, true), (4, true), (5, true), (6, true), (7, true), (8, true), (9, true), (10, false), (11, false), (12, true), (13, false)] (fun Y => Y.cell? ⟨w2.heap.size, 2, none⟩ = some sv ∧ Y.cell? ⟨w.heap.size, 2, none⟩ = some (.slice (some ⟨pb, po, none⟩) p.n p.cap) ∧ Y.cell? ⟨pb, po + j * 9, none⟩ = some (.int .i64 s.x0) ∧ Y.cell? ⟨pb, po + j * 9 + 1, none⟩ = some (.int .i64 s.x1) ∧ Y.cell? ⟨pb, po + j * 9 + 2, none⟩ = some (.int .i64 s.y0) ∧ Y.cell? ⟨pb, po + j * 9 + 3, none⟩ = some (.int .i64 s.y1) ∧ Y.cell? ⟨pb, po + j * 9 + 4, none⟩ = some (.bool s.k) ∧ Y.cell? ⟨pb, po + j * 9 + 5, none⟩ = some (.int .i64 s.e0) ∧ Y.cell? ⟨pb, po + j * 9 + 6, none⟩ = some (.int .i64 s.e1) ∧ Y.cell? ⟨pb, po + j * 9 + 7, none⟩ = some (.int .i64 s.n0) ∧ Y.cell? ⟨pb, po + j * 9 + 8, none⟩ = some (.int .i64 s.n1)) (by kernel_rfl) (by kernel_rfl) (fun _ _ d _ _ h => by cases d <;> exact h) (hSS.out _ hbD) ?_
      generalize wr.drew = Y0 at *
      repeat (first | (refine seq_read rfl (by rfl) _ (fun w' hS => by (try dsimp only at hS); go_simp; (try with_reducible rfl)) ?_; (try simp only [Act.put, List.setIfInBounds_toArray, List.set_cons_zero, List.set_cons_succ])) | (refine seq_skip rfl (by rfl) ?_; (try simp only [Act.put, List.setIfInBounds_toArray, List.set_cons_zero, List.set_cons_succ])))
      refine seq_do rfl (by rfl) (fun K hK => ?_)
      have hb1 := hbD.alloc (by have := hbD.size; omega) (.cells #[.int .i64 s.x0, .int .i64 s.x1, .int .i64 s.y0, .int .i64 s.y1, .bool s.k, .int .i64 s.e0, .int .i64 s.e1, .int .i64 s.n0, .int .i64 s.n1] 55)
      have hnew : ∀ q u, (starC s)[q]? = some u → (Y0.alloc (.cells #[.int .i64 s.x0, .int .i64 s.x1, .int .i64 s.y0, .int .i64 s.y1, .bool s.k, .int .i64 s.e0, .int .i64 s.e1, .int .i64 s.n0, .int .i64 s.n1] 55)).cell? ((⟨Y0.heap.size, 0, none⟩ : Addr).add q) = some u := fun q u hu => by
        have := (StAt.new s 55 Y0).at hu
        rw [Nat.zero_add] at this
        rw [Addr.add_mid, Nat.zero_add]; exact this
      have hr1 := hr0.kept (World.grownBy_alloc Y0 (.cells #[.int .i64 s.x0, .int .i64 s.x1, .int .i64 s.y0, .int .i64 s.y1, .bool s.k, .int .i64 s.e0, .int .i64 s.e1, .int .i64 s.n0, .int .i64 s.n1] 55) none) (by cases h : sv.ownBlock <;> simp)
      go_simp
      have hz1 : W3.heap.size ≤ Y0.heap.size := by have := hbD.size; omega
      generalize Y0.heap.size = gs at *
      generalize Y0.alloc (.cells #[.int .i64 s.x0, .int .i64 s.x1, .int .i64 s.y0, .int .i64 s.y1, .bool s.k, .int .i64 s.e0, .int .i64 s.e1, .int .i64 s.n0, .int .i64 s.n1] 55) = Y1 at *
      refine hK _ _ (hSS.out _ hb1) ?_
      clear hK K hr0 hbD
      (try simp only [Act.put, List.setIfInBounds_toArray, List.set_cons_zero, List.set_cons_succ])
      repeat (first | (refine seq_read rfl (by rfl) _ (fun w' hS => by (try dsimp only at hS); go_simp; (try with_reducible rfl)) ?_; (try simp only [Act.put, List.setIfInBounds_toArray, List.set_cons_zero, List.set_cons_succ])) | (refine seq_skip rfl (by rfl) ?_; (try simp only [Act.put, List.setIfInBounds_toArray, List.set_cons_zero, List.set_cons_succ])))
      refine seq_do rfl (by rfl) (fun K hK => ?_)
      have hz2 : W3.heap.size ≤ Y1.heap.size := by have := hb1.size; omega
      refine wp_append_star (.tmp 63) (.tmp 72) rfl W3.heap.size sv (by rfl) k _ hr1 ⟨gs, 0, none⟩ 1 s (by rfl) hnew (by omega) hz2 ?_
      intro v2 Y2 hr2 hg2
      obtain ⟨g2, cap2, rfl⟩ : ∃ g2 cap2, v2 = .slice (some ⟨g2, 0, none⟩) (k + 1) cap2 := by
        rcases hr2.2 with ⟨_, h2⟩ | ⟨g2, cap2, cur, h1, _⟩
        · omega
        · exact ⟨g2, cap2, h1⟩
      have hb2 : Below W3.heap.size wr Y2 := hb1.grown hg2 hz2 (fun q hq => (hr1.lt q hq).1)
      refine hK _ _ (hSS.out _ hb2) ?_
      clear hK K hr1 hg2 hnew hb1 hSS
      (try simp only [Act.put, List.setIfInBounds_toArray, List.set_cons_zero, List.set_cons_succ])
      repeat (first | (refine seq_read rfl (by rfl) _ (fun w' hS => by (try dsimp only at hS); go_simp; (try with_reducible rfl)) ?_; (try simp only [Act.put, List.setIfInBounds_toArray, List.set_cons_zero, List.set_cons_succ])) | (refine seq_skip rfl (by rfl) ?_; (try simp only [Act.put, List.setIfInBounds_toArray, List.set_cons_zero, List.set_cons_succ])))
      refine seq_last rfl (by rfl) (by kernel_rfl) (fun K hK => ?_)
      have e0 := (hb2.cell (p := ⟨w2.heap.size, 0, none⟩) hgx1).trans d0
      have e1 := (hb2.cell (p := ⟨w2.heap.size, 1, none⟩) hgx1).trans d1
      have e2 := (hb2.cell (p := ⟨w2.heap.size, 2, none⟩) hgx1).trans d2
      have hsx := hsx.below hb2 hgx1
      obtain ⟨_, _, z2⟩ := hsx.get 2 (by omega)
      go_simp
      refine hK _ _ ?_
      clear hK K
      first | show Exit.inBlock _ _ Exit.normal _ _ | show Exit.then _ _ Exit.normal _ _ | skip
      have hrow := ownsRow_setCell_below hr2 (a := ⟨w2.heap.size, 2, none⟩) hgx1 (.slice (some ⟨g2, 0, none⟩) (k + 1) cap2)
      have hV2 := (hV.trans (hb2.mono (by omega))).setCell (p := ⟨w2.heap.size, 2, none⟩) (Nat.le_refl _) (.slice (some ⟨g2, 0, none⟩) (k + 1) cap2)
      have hz3 : W3.heap.size ≤ (Y2.setCell ⟨w2.heap.size, 2, none⟩ (.slice (some ⟨g2, 0, none⟩) (k + 1) cap2)).heap.size := by rw [World.size_setCell]; have := hb2.size; omega
      have f0 : (Y2.setCell ⟨w2.heap.size, 2, none⟩ (.slice (some ⟨g2, 0, none⟩) (k + 1) cap2)).cell? ⟨w2.heap.size, 0, none⟩ = some (.int .i64 p.lo) := by simp [go_sem, e0]
      have f1 : (Y2.setCell ⟨w2.heap.size, 2, none⟩ (.slice (some ⟨g2, 0, none⟩) (k + 1) cap2)).cell? ⟨w2.heap.size, 1, none⟩ = some (.int .i64 p.hi) := by simp [go_sem, e1]
      have f2 := World.cell?_setCell_same Y2 ⟨w2.heap.size, 2, none⟩ (.slice (some ⟨g2, 0, none⟩) (k + 1) cap2) e2
      have hsx2 := hsx.set (p := ⟨w2.heap.size, 2, none⟩) (.slice (some ⟨g2, 0, none⟩) (k + 1) cap2)
      rw [show List.flatMap starC (List.take k ss.reverse) ++ starC s = List.flatMap starC (List.take (k + 1) ss.reverse) by rw [hrt.out, List.flatMap_append]; simp] at hrow
      clear e0 e1 e2 d0 d1 d2 hsx hr2 hb2 z2 hr
      generalize Y2.setCell ⟨w2.heap.size, 2, none⟩ (.slice (some ⟨g2, 0, none⟩) (k + 1) cap2) = Y3 at *
      go_wp2_with fail
      go_roundw
      case rel => exact ⟨k + 1, _, by omega, by go_num, f0, f1, f2, hsx2, hrow, hV2, hz3⟩
      case measure => simp [intOf]; omega
    · obtain rfl : k = p.n := by omega
      rw [List.take_of_length_le (by rw [List.length_reverse, hnl]; exact Nat.le_refl _)] at hr
      obtain ⟨sa, cap, rfl, hS3⟩ : ∃ sa cap, sv = .slice sa p.n cap ∧ StarsIn wr sa ss.reverse := by
        rcases hr.2 with ⟨h1, h2⟩ | ⟨g, cap, cur, h1, _⟩
        · exact ⟨none, 0, by rw [h1, h2], .inl (by rw [List.eq_nil_of_length_eq_zero (l := ss) (by rw [hnl, h2])]; rfl)⟩
        · subst h1
          have hg := (hr.lt g rfl).2
          have hr2 := hr
          have hl2 : ss.reverse.length = p.n := by rw [List.length_reverse, hnl]
          rw [← hl2] at hr2
          exact ⟨some ⟨g, 0, none⟩, cap, rfl, row_stars hg (by simpa only [hl2] using hr2)⟩
      have HT : Hid (Mv2 wr w.heap.size w2.heap.size p ⟨p.lo, p.hi, sa, p.n, cap⟩ ss ss.reverse) := ⟨hQ3.out.under hV hgw, ⟨d0, d1, d2⟩, hm3.out.below hV (Nat.le_refl _), ⟨by rw [List.length_reverse]; exact hnl, by show p.n ≤ 1000000000; omega, hS3⟩⟩
      have hKP : Hid (StarsIn wr sk ss) := hk3.out.below hV
      have hBw := BT hB2 hV
      clear hQ3 hm3 hk3 hB2 hV hr hsx hsz d0 d1 d2 hS3 hlt hk
      obtain ⟨wo, rfl⟩ : ∃ wo : World, wo = wr := ⟨_, rfl⟩
      have hB : Below wo.heap.size wo wo := Below.refl _ _
      have hRv : Rvd p ⟨p.lo, p.hi, sa, p.n, cap⟩ ss := ⟨rfl, rfl, rfl, hnl, hHid.out⟩
      have hpo : plB p ss = true → PlOk p ss := fun _ => hOK.out
      obtain ⟨s0, s1, es, hs⟩ := repS_eq (scaleR_two p ss)
      obtain ⟨z0, z1, z2, z3, ez, hz⟩ := repB_eq (zero_four p ss)
      obtain ⟨t0, t1, t2, t3, et, ht⟩ := repB_eq (star_four p ss a)
      obtain ⟨m, m', hc1, hc2, hm1, hm2, hm3⟩ := rvd_clash hRv
      obtain ⟨q, q', hd1, hd2, hq1, hq2, hq3⟩ := rvd_drop hRv
      have HS1 : Hid (∀ Y, Below wo.heap.size wo Y → Calls Try.prog 14 #[.agg #[.int .i64 p.lo, .int .i64 p.hi, .slice p.a p.n p.cap]] Y (Ret (.tuple #[.agg #[.int .i64 s0, .int .i64 s1], .int .i64 es]) Y)) := fun Y hY => by
        have h0 := scale_any p ss Y (HT.out.mp.below hY (Nat.le_refl _))
        rw [hs] at h0
        exact h0
      have HSx : Hid (∀ Y, Below wo.heap.size wo Y → Calls Try.prog 14 #[.agg #[.int .i64 p.lo, .int .i64 p.hi, .slice sa p.n cap]] Y (Ret (.tuple #[.agg #[.int .i64 s0, .int .i64 s1], .int .i64 es]) Y)) := fun Y hY => by
        have h0 := scale_any (⟨p.lo, p.hi, sa, p.n, cap⟩ : Pl) ss.reverse Y (HT.out.mx.below hY (Nat.le_refl _))
        rw [rvd_scale hRv, hs] at h0
        exact h0
      have HZ1 : Hid (∀ Y, Below wo.heap.size wo Y → Calls Try.prog 21 #[.agg #[.int .i64 p.lo, .int .i64 p.hi, .slice p.a p.n p.cap]] Y (Ret (.tuple #[.agg #[.int .i64 z0, .int .i64 z1], .agg #[.int .i64 z2, .int .i64 z3], .int .i64 ez]) Y)) := fun Y hY => by
        have h0 := zero_any p ss Y (HT.out.mp.below hY (Nat.le_refl _))
        rw [hz] at h0
        exact h0
      have HZx : Hid (∀ Y, Below wo.heap.size wo Y → Calls Try.prog 21 #[.agg #[.int .i64 p.lo, .int .i64 p.hi, .slice sa p.n cap]] Y (Ret (.tuple #[.agg #[.int .i64 z0, .int .i64 z1], .agg #[.int .i64 z2, .int .i64 z3], .int .i64 ez]) Y)) := fun Y hY => by
        have h0 := zero_any (⟨p.lo, p.hi, sa, p.n, cap⟩ : Pl) ss.reverse Y (HT.out.mx.below hY (Nat.le_refl _))
        rw [rvd_zeroR hRv, hz] at h0
        exact h0
      have HC1 : Hid (∀ Y, Below wo.heap.size wo Y → Calls Try.prog 12 #[.agg #[.int .i64 p.lo, .int .i64 p.hi, .slice p.a p.n p.cap]] Y (Ret (.tuple #[.int .i64 (m : Int), .int .i64 0]) Y)) := fun Y hY => by
        have h0 := clash_any p ss Y (HT.out.mp.below hY (Nat.le_refl _))
        rw [hc1] at h0
        exact h0
      have HCx : Hid (∀ Y, Below wo.heap.size wo Y → Calls Try.prog 12 #[.agg #[.int .i64 p.lo, .int .i64 p.hi, .slice sa p.n cap]] Y (Ret (.tuple #[.int .i64 (m' : Int), .int .i64 0]) Y)) := fun Y hY => by
        have h0 := clash_any (⟨p.lo, p.hi, sa, p.n, cap⟩ : Pl) ss.reverse Y (HT.out.mx.below hY (Nat.le_refl _))
        rw [hc2] at h0
        exact h0
      have HD1 : Hid (∀ Y, Below wo.heap.size wo Y → Calls Try.prog 13 #[.agg #[.int .i64 p.lo, .int .i64 p.hi, .slice p.a p.n p.cap]] Y (Ret (.tuple #[.int .i64 (q : Int), .int .i64 0]) Y)) := fun Y hY => by
        have h0 := drop_any p ss Y (HT.out.mp.below hY (Nat.le_refl _))
        rw [hd1] at h0
        exact h0
      have HDx : Hid (∀ Y, Below wo.heap.size wo Y → Calls Try.prog 13 #[.agg #[.int .i64 p.lo, .int .i64 p.hi, .slice sa p.n cap]] Y (Ret (.tuple #[.int .i64 (q' : Int), .int .i64 0]) Y)) := fun Y hY => by
        have h0 := drop_any (⟨p.lo, p.hi, sa, p.n, cap⟩ : Pl) ss.reverse Y (HT.out.mx.below hY (Nat.le_refl _))
        rw [hd2] at h0
        exact h0
      have HT1 : Hid (∀ Y, Below wo.heap.size wo Y → Calls Try.prog 10 #[.agg #[.int .i64 p.lo, .int .i64 p.hi, .slice p.a p.n p.cap], .int .i64 a] Y (Ret (.tuple #[.agg #[.int .i64 t0, .int .i64 t1], .agg #[.int .i64 t2, .int .i64 t3], .int .i64 et]) Y)) := fun Y hY => by
        have h0 := star_any a p ss Y (HT.out.mp.below hY (Nat.le_refl _))
        rw [ht] at h0
        exact h0
      have HTx : Hid (∀ Y, Below wo.heap.size wo Y → Calls Try.prog 10 #[.agg #[.int .i64 p.lo, .int .i64 p.hi, .slice sa p.n cap], .int .i64 (wrap64 ((p.n : Int) - 1 - a))] Y (Ret (.tuple #[.agg #[.int .i64 t0, .int .i64 t1], .agg #[.int .i64 t2, .int .i64 t3], .int .i64 et]) Y)) := fun Y hY => by
        have h0 := star_any (wrap64 ((p.n : Int) - 1 - a)) (⟨p.lo, p.hi, sa, p.n, cap⟩ : Pl) ss.reverse Y (HT.out.mx.below hY (Nat.le_refl _))
        rw [rvd_starW hRv ha, ht] at h0
        exact h0
      have HK1 : Hid (∀ Y, Calls Try.prog 30 #[.int .i64 (m : Int)] Y (Ret (.int .i64 (popc (m : Int))) Y)) := fun Y => sizeR_any _ (by omega) Y
      have HK2 : Hid (∀ Y, Calls Try.prog 30 #[.int .i64 (m' : Int)] Y (Ret (.int .i64 (popc (m : Int))) Y)) := fun Y => by rw [← hm3]; exact sizeR_any _ (by omega) Y
      have HL1 : Hid (∀ Y, Calls Try.prog 30 #[.int .i64 (q : Int)] Y (Ret (.int .i64 (popc (q : Int))) Y)) := fun Y => sizeR_any _ (by omega) Y
      have HL2 : Hid (∀ Y, Calls Try.prog 30 #[.int .i64 (q' : Int)] Y (Ret (.int .i64 (popc (q : Int))) Y)) := fun Y => by rw [← hq3]; exact sizeR_any _ (by omega) Y
      have m0 : (0 : Int) ≤ (m : Int) := by omega
      have m0' : (0 : Int) ≤ (m' : Int) := by omega
      have q0 : (0 : Int) ≤ (q : Int) := by omega
      have q0' : (0 : Int) ≤ (q' : Int) := by omega
      generalize popc (m : Int) = cm at *
      generalize popc (q : Int) = cq at *
      generalize (m : Int) = mi at *
      generalize (m' : Int) = mj at *
      generalize (q : Int) = qi at *
      generalize (q' : Int) = qj at *
      clear hs hz ht hc1 hc2 hd1 hd2 hm1 hm2 hm3 hq1 hq2 hq3
      obtain ⟨p0, p1, p2⟩ := id (HT.out.grown hB).bp
      (try dsimp only at p0 p1 p2)
      go_wp2_with fail
      clear p0 p1 p2
      refine (HS1.out wo hB).mono ?_
      rintro e Y1 ⟨rfl, hx⟩
      replace hB := BT hB hx
      clear hx
      obtain ⟨Z1, hZ⟩ : ∃ Z, Y1.alloc (.cells #[.int .i64 s0, .int .i64 s1] 23) = Z := ⟨_, rfl⟩
      have hx : Below Y1.heap.size Y1 Z1 := by rw [← hZ]; exact newB _ _
      have xs : Worst Z1 Y1.heap.size s0 s1 := by rw [← hZ]; exact worst_new _ _ _ _
      have hge1 : wo.heap.size ≤ Y1.heap.size := hB.size
      replace hB := BT hB hx
      clear hx
      obtain ⟨x0, x1, x2⟩ := id (HT.out.grown hB).bx
      (try dsimp only at x0 x1 x2)
      go_wp2_with fail
      clear hZ
      generalize Y1.heap.size = B1 at *
      clear x0 x1 x2
      refine (HSx.out Z1 hB).mono ?_
      rintro e Y2 ⟨rfl, hx⟩
      replace xs := xs.grown hx
      replace hB := BT hB hx
      clear hx
      obtain ⟨Z2, hZ⟩ : ∃ Z, Y2.alloc (.cells #[.int .i64 s0, .int .i64 s1] 23) = Z := ⟨_, rfl⟩
      have hx : Below Y2.heap.size Y2 Z2 := by rw [← hZ]; exact newB _ _
      have xt : Worst Z2 Y2.heap.size s0 s1 := by rw [← hZ]; exact worst_new _ _ _ _
      have hge2 : wo.heap.size ≤ Y2.heap.size := hB.size
      have hlt2_B1 : B1 < Y2.heap.size := xs.lt
      replace xs := xs.grown hx
      replace hB := BT hB hx
      clear hx
      obtain ⟨p0, p1, p2⟩ := id (HT.out.grown hB).bp
      (try dsimp only at p0 p1 p2)
      go_wp2_with fail
      clear hZ
      generalize Y2.heap.size = B2 at *
      clear p0 p1 p2
      refine (HZ1.out Z2 hB).mono ?_
      rintro e Y3 ⟨rfl, hx⟩
      replace xs := xs.grown hx
      replace xt := xt.grown hx
      replace hB := BT hB hx
      clear hx
      obtain ⟨Z3, hZ⟩ : ∃ Z, (Y3.alloc (.cells #[.int .i64 z0, .int .i64 z1] 23)).alloc (.cells #[.int .i64 z2, .int .i64 z3] 23) = Z := ⟨_, rfl⟩
      have hx : Below Y3.heap.size Y3 Z3 := by rw [← hZ]; exact BA (newB _ _) _
      have xc : Worst Z3 Y3.heap.size z0 z1 := by rw [← hZ]; exact (worst_new _ _ _ _).grown (newB _ _)
      have xd : Worst Z3 (Y3.heap.size + 1) z2 z3 := by rw [← hZ]; have := worst_new (Y3.alloc (.cells #[.int .i64 z0, .int .i64 z1] 23)) z2 z3 23; rw [World.size_alloc] at this; exact this
      have hge3 : wo.heap.size ≤ Y3.heap.size := hB.size
      have hlt3_B1 : B1 < Y3.heap.size := xs.lt
      have hlt3_B2 : B2 < Y3.heap.size := xt.lt
      replace xs := xs.grown hx
      replace xt := xt.grown hx
      replace hB := BT hB hx
      clear hx
      obtain ⟨x0, x1, x2⟩ := id (HT.out.grown hB).bx
      (try dsimp only at x0 x1 x2)
      go_wp2_with fail
      clear hZ
      generalize Y3.heap.size = B3 at *
      clear x0 x1 x2
      refine (HZx.out Z3 hB).mono ?_
      rintro e Y4 ⟨rfl, hx⟩
      replace xs := xs.grown hx
      replace xt := xt.grown hx
      replace xc := xc.grown hx
      replace xd := xd.grown hx
      replace hB := BT hB hx
      clear hx
      obtain ⟨Z4, hZ⟩ : ∃ Z, (Y4.alloc (.cells #[.int .i64 z0, .int .i64 z1] 23)).alloc (.cells #[.int .i64 z2, .int .i64 z3] 23) = Z := ⟨_, rfl⟩
      have hx : Below Y4.heap.size Y4 Z4 := by rw [← hZ]; exact BA (newB _ _) _
      have xu : Worst Z4 Y4.heap.size z0 z1 := by rw [← hZ]; exact (worst_new _ _ _ _).grown (newB _ _)
      have xv : Worst Z4 (Y4.heap.size + 1) z2 z3 := by rw [← hZ]; have := worst_new (Y4.alloc (.cells #[.int .i64 z0, .int .i64 z1] 23)) z2 z3 23; rw [World.size_alloc] at this; exact this
      have hge4 : wo.heap.size ≤ Y4.heap.size := hB.size
      have hlt4_B1 : B1 < Y4.heap.size := xs.lt
      have hlt4_B2 : B2 < Y4.heap.size := xt.lt
      have hlt4_B3 : B3 + 1 < Y4.heap.size := xd.lt
      replace xs := xs.grown hx
      replace xt := xt.grown hx
      replace xc := xc.grown hx
      replace xd := xd.grown hx
      replace hB := BT hB hx
      clear hx
      obtain ⟨p0, p1, p2⟩ := id (HT.out.grown hB).bp
      (try dsimp only at p0 p1 p2)
      go_wp2_with fail
      clear hZ
      generalize Y4.heap.size = B4 at *
      clear p0 p1 p2
      refine (HC1.out Z4 hB).mono ?_
      rintro e Y5 ⟨rfl, hx⟩
      replace xs := xs.grown hx
      replace xt := xt.grown hx
      replace xc := xc.grown hx
      replace xd := xd.grown hx
      replace xu := xu.grown hx
      replace xv := xv.grown hx
      replace hB := BT hB hx
      clear hx
      obtain ⟨x0, x1, x2⟩ := id (HT.out.grown hB).bx
      (try dsimp only at x0 x1 x2)
      go_wp2_with fail
      clear x0 x1 x2
      refine (HCx.out Y5 hB).mono ?_
      rintro e Y6 ⟨rfl, hx⟩
      replace xs := xs.grown hx
      replace xt := xt.grown hx
      replace xc := xc.grown hx
      replace xd := xd.grown hx
      replace xu := xu.grown hx
      replace xv := xv.grown hx
      replace hB := BT hB hx
      clear hx
      obtain ⟨p0, p1, p2⟩ := id (HT.out.grown hB).bp
      (try dsimp only at p0 p1 p2)
      go_wp2_with fail
      clear p0 p1 p2
      refine (HD1.out Y6 hB).mono ?_
      rintro e Y7 ⟨rfl, hx⟩
      replace xs := xs.grown hx
      replace xt := xt.grown hx
      replace xc := xc.grown hx
      replace xd := xd.grown hx
      replace xu := xu.grown hx
      replace xv := xv.grown hx
      replace hB := BT hB hx
      clear hx
      obtain ⟨x0, x1, x2⟩ := id (HT.out.grown hB).bx
      (try dsimp only at x0 x1 x2)
      go_wp2_with fail
      clear x0 x1 x2
      refine (HDx.out Y7 hB).mono ?_
      rintro e Y8 ⟨rfl, hx⟩
      replace xs := xs.grown hx
      replace xt := xt.grown hx
      replace xc := xc.grown hx
      replace xd := xd.grown hx
      replace xu := xu.grown hx
      replace xv := xv.grown hx
      replace hB := BT hB hx
      clear hx
      obtain ⟨xsc, xsd, -, -⟩ := id xs
      obtain ⟨xtc, xtd, -, -⟩ := id xt
      obtain ⟨xcc, xcd, -, -⟩ := id xc
      obtain ⟨xdc, xdd, -, -⟩ := id xd
      obtain ⟨xuc, xud, -, -⟩ := id xu
      obtain ⟨xvc, xvd, -, -⟩ := id xv
      go_wp2_with fail
      clear xsc xsd xtc xtd xcc xcd xdc xdd xuc xud xvc xvd
      refine (HK1.out Y8).mono ?_
      rintro e Y9 ⟨rfl, hx⟩
      replace xs := xs.grown hx
      replace xt := xt.grown hx
      replace xc := xc.grown hx
      replace xd := xd.grown hx
      replace xu := xu.grown hx
      replace xv := xv.grown hx
      replace hB := BT hB hx
      clear hx
      go_wp2_with fail
      refine (HK2.out Y9).mono ?_
      rintro e Y10 ⟨rfl, hx⟩
      replace xs := xs.grown hx
      replace xt := xt.grown hx
      replace xc := xc.grown hx
      replace xd := xd.grown hx
      replace xu := xu.grown hx
      replace xv := xv.grown hx
      replace hB := BT hB hx
      clear hx
      go_wp2_with fail
      refine (HL1.out Y10).mono ?_
      rintro e Y11 ⟨rfl, hx⟩
      replace xs := xs.grown hx
      replace xt := xt.grown hx
      replace xc := xc.grown hx
      replace xd := xd.grown hx
      replace xu := xu.grown hx
      replace xv := xv.grown hx
      replace hB := BT hB hx
      clear hx
      go_wp2_with fail
      refine (HL2.out Y11).mono ?_
      rintro e Y12 ⟨rfl, hx⟩
      replace xs := xs.grown hx
      replace xt := xt.grown hx
      replace xc := xc.grown hx
      replace xd := xd.grown hx
      replace xu := xu.grown hx
      replace xv := xv.grown hx
      replace hB := BT hB hx
      clear hx
      clear xs
      clear xt
      obtain ⟨p0, p1, p2⟩ := id (HT.out.grown hB).bp
      (try dsimp only at p0 p1 p2)
      go_wp2_with fail
      clear p0 p1 p2
      refine (HT1.out Y12 hB).mono ?_
      rintro e Y13 ⟨rfl, hx⟩
      replace xc := xc.grown hx
      replace xd := xd.grown hx
      replace xu := xu.grown hx
      replace xv := xv.grown hx
      replace hB := BT hB hx
      clear hx
      obtain ⟨Z13, hZ⟩ : ∃ Z, (((Y13.setCell ⟨B3, 0, none⟩ (.int .i64 t0)).setCell ⟨B3, 1, none⟩ (.int .i64 t1)).setCell ⟨B3 + 1, 0, none⟩ (.int .i64 t2)).setCell ⟨B3 + 1, 1, none⟩ (.int .i64 t3) = Z := ⟨_, rfl⟩
      obtain ⟨xcn, xdn, hoth, hbel⟩ := set_two xc xd (by omega) t0 t1 t2 t3 hZ
      replace hB := hbel _ _ (by omega) (by omega) hB
      replace xu := hoth _ _ _ xu (by omega) (by omega)
      replace xv := hoth _ _ _ xv (by omega) (by omega)
      clear hoth hbel
      obtain ⟨cp0, cp1, cp2, cp3⟩ := id xc
      obtain ⟨dp0, dp1, dp2, dp3⟩ := id xd
      obtain ⟨x0, x1, x2⟩ := id (HT.out.grown hB).bx
      (try dsimp only at x0 x1 x2)
      go_wp2_with fail
      clear hZ cp0 cp1 cp2 cp3 dp0 dp1 dp2 dp3
      clear xc
      have xc := xcn
      clear xcn
      clear xd
      have xd := xdn
      clear xdn
      clear x0 x1 x2
      refine (HTx.out Z13 hB).mono ?_
      rintro e Y14 ⟨rfl, hx⟩
      replace xc := xc.grown hx
      replace xd := xd.grown hx
      replace xu := xu.grown hx
      replace xv := xv.grown hx
      replace hB := BT hB hx
      clear hx
      obtain ⟨Z14, hZ⟩ : ∃ Z, (((Y14.setCell ⟨B4, 0, none⟩ (.int .i64 t0)).setCell ⟨B4, 1, none⟩ (.int .i64 t1)).setCell ⟨B4 + 1, 0, none⟩ (.int .i64 t2)).setCell ⟨B4 + 1, 1, none⟩ (.int .i64 t3) = Z := ⟨_, rfl⟩
      obtain ⟨xun, xvn, hoth, hbel⟩ := set_two xu xv (by omega) t0 t1 t2 t3 hZ
      replace hB := hbel _ _ (by omega) (by omega) hB
      replace xc := hoth _ _ _ xc (by omega) (by omega)
      replace xd := hoth _ _ _ xd (by omega) (by omega)
      clear hoth hbel
      obtain ⟨cp0, cp1, cp2, cp3⟩ := id xu
      obtain ⟨dp0, dp1, dp2, dp3⟩ := id xv
      obtain ⟨xcc, xcd, -, -⟩ := id xc
      obtain ⟨xdc, xdd, -, -⟩ := id xd
      obtain ⟨xuc, xud, -, -⟩ := id xun
      obtain ⟨xvc, xvd, -, -⟩ := id xvn
      obtain ⟨p0, p1, p2⟩ := id (HT.out.grown hB).bp
      (try dsimp only at p0 p1 p2)
      go_wp2_with fail
      clear xcc xcd xdc xdd xuc xud xvc xvd
      clear hZ cp0 cp1 cp2 cp3 dp0 dp1 dp2 dp3
      clear xu
      have xu := xun
      clear xun
      clear xv
      have xv := xvn
      clear xvn
      have hap : ∃ v0 v1 v2 v3 ev : Int, repB (apartR p ss a b) = .tuple #[.agg #[.int .i64 (-v1), .int .i64 (-v0)], .agg #[.int .i64 (-v3), .int .i64 (-v2)], .int .i64 ev] ∧ repB (apartR p ss b a) = .tuple #[.agg #[.int .i64 v0, .int .i64 v1], .agg #[.int .i64 v2, .int .i64 v3], .int .i64 ev] ∧ (-400000000 ≤ v0 ∧ v0 ≤ 400000000) ∧ (-400000000 ≤ v1 ∧ v1 ≤ 400000000) ∧ (-400000000 ≤ v2 ∧ v2 ≤ 400000000) ∧ (-400000000 ≤ v3 ∧ v3 ≤ 400000000) := by
        rcases apart_neg p ss b a with ⟨c, _, h1, h2⟩ | ⟨v0, v1, v2, v3, h1, h2⟩
        · exact ⟨0, 0, 0, 0, c, by rw [h2]; rfl, by rw [h1]; rfl, by omega, by omega, by omega, by omega⟩
        · have hb := apart_bnd hpo b a _ h1
          exact ⟨v0, v1, v2, v3, 0, by rw [h2]; rfl, by rw [h1]; rfl, hb 0 (by decide), hb 1 (by decide), hb 2 (by decide), hb 3 (by decide)⟩
      obtain ⟨v0, v1, v2, v3, ev, ha1, ha2, hv0, hv1, hv2, hv3⟩ := hap
      have HA1 : Hid (∀ Y, Below wo.heap.size wo Y → Calls Try.prog 24 #[.agg #[.int .i64 p.lo, .int .i64 p.hi, .slice p.a p.n p.cap], .int .i64 a, .int .i64 b] Y (Ret (.tuple #[.agg #[.int .i64 (-v1), .int .i64 (-v0)], .agg #[.int .i64 (-v3), .int .i64 (-v2)], .int .i64 ev]) Y)) := fun Y hY => by
        have h0 := apart2_any a b p ss Y (HT.out.mp.below hY (Nat.le_refl _))
        rw [ha1] at h0
        exact h0
      have HA2 : Hid (∀ Y, Below wo.heap.size wo Y → Calls Try.prog 24 #[.agg #[.int .i64 p.lo, .int .i64 p.hi, .slice p.a p.n p.cap], .int .i64 b, .int .i64 a] Y (Ret (.tuple #[.agg #[.int .i64 v0, .int .i64 v1], .agg #[.int .i64 v2, .int .i64 v3], .int .i64 ev]) Y)) := fun Y hY => by
        have h0 := apart2_any b a p ss Y (HT.out.mp.below hY (Nat.le_refl _))
        rw [ha2] at h0
        exact h0
      clear ha1 ha2
      clear p0 p1 p2
      refine (HA1.out Z14 hB).mono ?_
      rintro e Y15 ⟨rfl, hx⟩
      replace xc := xc.grown hx
      replace xd := xd.grown hx
      replace xu := xu.grown hx
      replace xv := xv.grown hx
      replace hB := BT hB hx
      clear hx
      obtain ⟨Z15, hZ⟩ : ∃ Z, (((Y15.setCell ⟨B3, 0, none⟩ (.int .i64 (-v1))).setCell ⟨B3, 1, none⟩ (.int .i64 (-v0))).setCell ⟨B3 + 1, 0, none⟩ (.int .i64 (-v3))).setCell ⟨B3 + 1, 1, none⟩ (.int .i64 (-v2)) = Z := ⟨_, rfl⟩
      obtain ⟨xcn, xdn, hoth, hbel⟩ := set_two xc xd (by omega) (-v1) (-v0) (-v3) (-v2) hZ
      replace hB := hbel _ _ (by omega) (by omega) hB
      replace xu := hoth _ _ _ xu (by omega) (by omega)
      replace xv := hoth _ _ _ xv (by omega) (by omega)
      clear hoth hbel
      obtain ⟨cp0, cp1, cp2, cp3⟩ := id xc
      obtain ⟨dp0, dp1, dp2, dp3⟩ := id xd
      obtain ⟨p0, p1, p2⟩ := id (HT.out.grown hB).bp
      (try dsimp only at p0 p1 p2)
      go_wp2_with fail
      clear hZ cp0 cp1 cp2 cp3 dp0 dp1 dp2 dp3
      clear xc
      have xc := xcn
      clear xcn
      clear xd
      have xd := xdn
      clear xdn
      clear p0 p1 p2
      refine (HA2.out Z15 hB).mono ?_
      rintro e Y16 ⟨rfl, hx⟩
      replace xc := xc.grown hx
      replace xd := xd.grown hx
      replace xu := xu.grown hx
      replace xv := xv.grown hx
      replace hB := BT hB hx
      clear hx
      obtain ⟨Z16, hZ⟩ : ∃ Z, (((Y16.setCell ⟨B4, 0, none⟩ (.int .i64 v0)).setCell ⟨B4, 1, none⟩ (.int .i64 v1)).setCell ⟨B4 + 1, 0, none⟩ (.int .i64 v2)).setCell ⟨B4 + 1, 1, none⟩ (.int .i64 v3) = Z := ⟨_, rfl⟩
      obtain ⟨xun, xvn, hoth, hbel⟩ := set_two xu xv (by omega) v0 v1 v2 v3 hZ
      replace hB := hbel _ _ (by omega) (by omega) hB
      replace xc := hoth _ _ _ xc (by omega) (by omega)
      replace xd := hoth _ _ _ xd (by omega) (by omega)
      clear hoth hbel
      obtain ⟨cp0, cp1, cp2, cp3⟩ := id xu
      obtain ⟨dp0, dp1, dp2, dp3⟩ := id xv
      obtain ⟨xcc, xcd, -, -⟩ := id xc
      obtain ⟨xdc, xdd, -, -⟩ := id xd
      obtain ⟨xuc, xud, -, -⟩ := id xun
      obtain ⟨xvc, xvd, -, -⟩ := id xvn
      obtain ⟨p0, p1, p2⟩ := id (HT.out.grown hB).bp
      (try dsimp only at p0 p1 p2)
      go_wp2_with fail
      clear xcc xcd xdc xdd xuc xud xvc xvd
      clear hZ cp0 cp1 cp2 cp3 dp0 dp1 dp2 dp3
      clear xu
      have xu := xun
      clear xun
      clear xv
      have xv := xvn
      clear xvn
      have hpf := Lib.hid (poor_facts hnl hHid.out)
      obtain ⟨sp, xp, ep, hpr, hpr2⟩ := repW_eq (poor_two p ss)
      have HP1 : Hid (∀ Y, Below wo.heap.size wo Y → Calls Try.prog 33 #[.agg #[.int .i64 p.lo, .int .i64 p.hi, .slice p.a p.n p.cap]] Y (Ret (.tuple #[.int .i64 sp, .int .i64 xp, .int .i64 ep]) Y)) := fun Y hY => by
        have h0 := poor_any p ss Y (HT.out.mp.below hY (Nat.le_refl _))
        rw [hpr2] at h0
        exact h0
      have hPF : Hid ((ep ≠ 0 ∧ sp = 0 ∧ xp = 0 ∧ ∀ k, k < p.n → repB (starR p ss (k : Int)) = .tuple #[.agg #[.int .i64 0, .int .i64 0], .agg #[.int .i64 0, .int .i64 0], .int .i64 ep]) ∨
          (ep = 0 ∧ (0 ≤ sp ∧ sp < p.n) ∧ ∀ k, k < p.n → ∃ a b c d : Int, repB (starR p ss (k : Int)) = .tuple #[.agg #[.int .i64 a, .int .i64 b], .agg #[.int .i64 c, .int .i64 d], .int .i64 0] ∧ (-200000000 ≤ a ∧ b ≤ 200000000) ∧ (-200000000 ≤ c ∧ d ≤ 200000000) ∧ a ≤ b ∧ c ≤ d ∧ b - a + d - c ≤ xp ∧ (b - a + d - c = xp → sp ≤ k) ∧ ((k : Int) = sp → b - a + d - c = xp))) := by
        rcases hpf.out with ⟨c, h0, h1, h2⟩ | ⟨s, x, h1, h2, h3⟩
        · left
          rw [h1] at hpr2
          have hpr2 : Value.tuple #[.int .i64 0, .int .i64 0, .int .i64 c] = _ := hpr2
          simp at hpr2
          obtain ⟨rfl, rfl, rfl⟩ := hpr2
          exact ⟨h0, rfl, rfl, fun k hk => by rw [h2 k hk]; rfl⟩
        · right
          rw [h1] at hpr2
          have hpr2 : Value.tuple #[.int .i64 s, .int .i64 x, .int .i64 0] = _ := hpr2
          simp at hpr2
          obtain ⟨rfl, rfl, rfl⟩ := hpr2
          refine ⟨rfl, h2, fun k hk => ?_⟩
          obtain ⟨a, b, c, d, k1, k2, k3, k4, k5, k6, k7, k8⟩ := h3 k hk
          exact ⟨a, b, c, d, by rw [k1]; rfl, k2, k3, k4, k5, by omega, fun h => k7 (by omega), fun h => by have := k8 h; omega⟩
      clear hpr hpr2 hpf
      clear p0 p1 p2
      refine (HP1.out Z16 hB).mono ?_
      rintro e Y17 ⟨rfl, hx⟩
      replace xc := xc.grown hx
      replace xd := xd.grown hx
      replace xu := xu.grown hx
      replace xv := xv.grown hx
      replace hB := BT hB hx
      clear hx
      clear xc
      clear xd
      clear xu
      clear xv
      have HST : Hid (∀ (i : Int) Y, Below wo.heap.size wo Y → Calls Try.prog 10 #[.agg #[.int .i64 p.lo, .int .i64 p.hi, .slice p.a p.n p.cap], .int .i64 i] Y (Ret (repB (starR p ss i)) Y)) := fun i Y hY => star_any i p ss Y (HT.out.mp.below hY (Nat.le_refl _))
      clear HS1 HSx HZ1 HZx HC1 HCx HD1 HDx HT1 HTx HK1 HK2 HL1 HL2 HA1 HA2 HP1 hRv hpo hge1 hge2 hge3 hge4
      go_wp2_with fail
      go_loopw [270] (fun i wz => ∃ k : Nat, k ≤ p.n ∧ i = .int .i64 k ∧ Below wo.heap.size wo wz) (fun i _ => p.n - (intOf i).toNat)
      case atStart => exact ⟨0, by omega, rfl, hB⟩
      case round =>
        clear hB
        obtain ⟨k, hk, rfl, hB⟩ := hrel
        have hk0 : (0 : Int) ≤ (k : Int) := by omega
        by_cases hlt : k < p.n
        · have hki : (k : Int) < (p.n : Int) := by omega
          have hkl : k < ss.length := by omega
          obtain ⟨pb, po, hpa, hct⟩ : ∃ pb po, p.a = some ⟨pb, po, none⟩ ∧ StAt (ss.getD k default) pb (po + k * 9) wr := by
            rcases (HT.out.grown hB).mp.lk with h | ⟨pb, po, h1, h2, h3⟩
            · rw [h] at hkl; simp at hkl
            · exact ⟨pb, po, h1, h3 k hkl⟩
          obtain ⟨kb, ko, hka, hck⟩ : ∃ kb ko, sk = some ⟨kb, ko, none⟩ ∧ StAt (ss.getD k default) kb (ko + k * 9) wr := by
            rcases hKP.out.below hB with h | ⟨kb, ko, h1, h2, h3⟩
            · rw [h] at hkl; simp at hkl
            · exact ⟨kb, ko, h1, h3 k hkl⟩
          generalize ss.getD k default = s at hct hck
          have hc2 := (HT.out.grown hB).bp.c2
          rw [hpa] at hc2
          clear hpa
          have hkw := hka
          subst hkw
          clear hka
          have hSS : Hid (∀ Y, Below wr.heap.size wr Y → Y.cell? ⟨w.heap.size, 2, none⟩ = some (.slice (some ⟨pb, po, none⟩) p.n p.cap) ∧ Y.cell? ⟨pb, po + k * 9, none⟩ = some (.int .i64 s.x0) ∧ Y.cell? ⟨pb, po + k * 9 + 1, none⟩ = some (.int .i64 s.x1) ∧ Y.cell? ⟨pb, po + k * 9 + 2, none⟩ = some (.int .i64 s.y0) ∧ Y.cell? ⟨pb, po + k * 9 + 3, none⟩ = some (.int .i64 s.y1) ∧ Y.cell? ⟨pb, po + k * 9 + 4, none⟩ = some (.bool s.k) ∧ Y.cell? ⟨pb, po + k * 9 + 5, none⟩ = some (.int .i64 s.e0) ∧ Y.cell? ⟨pb, po + k * 9 + 6, none⟩ = some (.int .i64 s.e1) ∧ Y.cell? ⟨pb, po + k * 9 + 7, none⟩ = some (.int .i64 s.n0) ∧ Y.cell? ⟨pb, po + k * 9 + 8, none⟩ = some (.int .i64 s.n1) ∧ Y.cell? ⟨kb, ko + k * 9, none⟩ = some (.int .i64 s.x0) ∧ Y.cell? ⟨kb, ko + k * 9 + 1, none⟩ = some (.int .i64 s.x1) ∧ Y.cell? ⟨kb, ko + k * 9 + 2, none⟩ = some (.int .i64 s.y0) ∧ Y.cell? ⟨kb, ko + k * 9 + 3, none⟩ = some (.int .i64 s.y1) ∧ Y.cell? ⟨kb, ko + k * 9 + 4, none⟩ = some (.bool s.k) ∧ Y.cell? ⟨kb, ko + k * 9 + 5, none⟩ = some (.int .i64 s.e0) ∧ Y.cell? ⟨kb, ko + k * 9 + 6, none⟩ = some (.int .i64 s.e1) ∧ Y.cell? ⟨kb, ko + k * 9 + 7, none⟩ = some (.int .i64 s.n0) ∧ Y.cell? ⟨kb, ko + k * 9 + 8, none⟩ = some (.int .i64 s.n1)) := fun Y hY => by
            obtain ⟨e0, e1, e2, e3, e4, e5, e6, e7, e8⟩ := hct.below hY hct.lt
            obtain ⟨f0, f1, f2, f3, f4, f5, f6, f7, f8⟩ := hck.below hY hck.lt
            exact ⟨cellB hc2 hY, e0, e1, e2, e3, e4, e5, e6, e7, e8, f0, f1, f2, f3, f4, f5, f6, f7, f8⟩
          have hbD : Below wr.heap.size wr wr.drew := Below.drew (Below.refl _ _)
          go_wp2_with fail
          refine wp_region_seq [(0, true), (1, true), (2, true), (3, true), (4, true), (5, true), (6, true), (7, true), (8, true), (9, true)] (fun Y => Y.cell? ⟨w.heap.size, 2, none⟩ = some (.slice (some ⟨pb, po, none⟩) p.n p.cap) ∧ Y.cell? ⟨pb, po + k * 9, none⟩ = some (.int .i64 s.x0) ∧ Y.cell? ⟨pb, po + k * 9 + 1, none⟩ = some (.int .i64 s.x1) ∧ Y.cell? ⟨pb, po + k * 9 + 2, none⟩ = some (.int .i64 s.y0) ∧ Y.cell? ⟨pb, po + k * 9 + 3, none⟩ = some (.int .i64 s.y1) ∧ Y.cell? ⟨pb, po + k * 9 + 4, none⟩ = some (.bool s.k) ∧ Y.cell? ⟨pb, po + k * 9 + 5, none⟩ = some (.int .i64 s.e0) ∧ Y.cell? ⟨pb, po + k * 9 + 6, none⟩ = some (.int .i64 s.e1) ∧ Y.cell? ⟨pb, po + k * 9 + 7, none⟩ = some (.int .i64 s.n0) ∧ Y.cell? ⟨pb, po + k * 9 + 8, none⟩ = some (.int .i64 s.n1) ∧ Y.cell? ⟨kb, ko + k * 9, none⟩ = some (.int .i64 s.x0) ∧ Y.cell? ⟨kb, ko + k * 9 + 1, none⟩ = some (.int .i64 s.x1) ∧ Y.cell? ⟨kb, ko + k * 9 + 2, none⟩ = some (.int .i64 s.y0) ∧ Y.cell? ⟨kb, ko + k * 9 + 3, none⟩ = some (.int .i64 s.y1) ∧ Y.cell? ⟨kb, ko + k * 9 + 4, none⟩ = some (.bool s.k) ∧ Y.cell? ⟨kb, ko + k * 9 + 5, none⟩ = some (.int .i64 s.e0) ∧ Y.cell? ⟨kb, ko + k * 9 + 6, none⟩ = some (.int .i64 s.e1) ∧ Y.cell? ⟨kb, ko + k * 9 + 7, none⟩ = some (.int .i64 s.n0) ∧ Y.cell? ⟨kb, ko + k * 9 + 8, none⟩ = some (.int .i64 s.n1)) (by kernel_rfl) (by kernel_rfl) (fun _ _ d _ _ h => by cases d <;> exact h) (hSS.out _ hbD) ?_
          repeat (first | (refine seq_read rfl (by rfl) _ (fun w' hS => by (try dsimp only at hS); go_simp; (try with_reducible rfl)) ?_; (try simp only [Act.put, List.setIfInBounds_toArray, List.set_cons_zero, List.set_cons_succ])) | (refine seq_skip rfl (by rfl) ?_; (try simp only [Act.put, List.setIfInBounds_toArray, List.set_cons_zero, List.set_cons_succ])))
          apply seq_end
          first | show Exit.inBlock _ _ Exit.normal _ _ | show Exit.then _ _ Exit.normal _ _ | skip
          replace hB := BT hB hbD
          clear hSS hbD hct hck hc2
          generalize wr.drew = V at *
          rcases hPF.out with ⟨hep, rfl, rfl, p3⟩ | ⟨rfl, p1, p3⟩
          · skip
            have hst0 := p3 k hlt
            clear p3
            have hepb : (ep == 0) = false := by simpa using hep
            have hep2 : ¬ ep = 0 := hep
            have HS2 : Hid (∀ Y, Below wo.heap.size wo Y → Calls Try.prog 10 #[.agg #[.int .i64 p.lo, .int .i64 p.hi, .slice p.a p.n p.cap], .int .i64 (k : Int)] Y (Ret (.tuple #[.agg #[.int .i64 0, .int .i64 0], .agg #[.int .i64 0, .int .i64 0], .int .i64 ep]) Y)) := fun Y hY => by
              have h0 := HST.out (k : Int) Y hY
              rw [hst0] at h0
              exact h0
            clear hst0
            obtain ⟨p0, p1, p2⟩ := id (HT.out.grown hB).bp
            (try dsimp only at p0 p1 p2)
            go_wp2_with fail
            clear p0 p1 p2
            refine (HS2.out V hB).mono ?_
            rintro e Y18 ⟨rfl, hx⟩
            replace hB := BT hB hx
            clear hx
            go_wp2_with fail
            go_roundw
            case rel => exact ⟨k + 1, by omega, by go_num, (by (repeat (first | assumption | exact Below.refl _ _ | refine BA ?_ _ | refine BC ?_ _ _ (by first | omega | (simp; done) | (simp; omega)) _ | refine Below.drew ?_ | refine BT ?_ (by assumption))))⟩
            case measure => simp [intOf]; omega
          · skip
            obtain ⟨t0', t1', t2', t3', hst0, r1, r2, r3, r4, r5, r6, r7⟩ := p3 k hlt
            clear p3
            have HS2 : Hid (∀ Y, Below wo.heap.size wo Y → Calls Try.prog 10 #[.agg #[.int .i64 p.lo, .int .i64 p.hi, .slice p.a p.n p.cap], .int .i64 (k : Int)] Y (Ret (.tuple #[.agg #[.int .i64 t0', .int .i64 t1'], .agg #[.int .i64 t2', .int .i64 t3'], .int .i64 0]) Y)) := fun Y hY => by
              have h0 := HST.out (k : Int) Y hY
              rw [hst0] at h0
              exact h0
            clear hst0
            obtain ⟨p0, p1, p2⟩ := id (HT.out.grown hB).bp
            (try dsimp only at p0 p1 p2)
            go_wp2_with fail
            clear p0 p1 p2
            refine (HS2.out V hB).mono ?_
            rintro e Y18 ⟨rfl, hx⟩
            replace hB := BT hB hx
            clear hx
            obtain ⟨Z18, hZ⟩ : ∃ Z, (Y18.alloc (.cells #[.int .i64 t0', .int .i64 t1'] 23)).alloc (.cells #[.int .i64 t2', .int .i64 t3'] 23) = Z := ⟨_, rfl⟩
            have hx : Below Y18.heap.size Y18 Z18 := by rw [← hZ]; exact BA (newB _ _) _
            have xy : Worst Z18 Y18.heap.size t0' t1' := by rw [← hZ]; exact (worst_new _ _ _ _).grown (newB _ _)
            have xa : Worst Z18 (Y18.heap.size + 1) t2' t3' := by rw [← hZ]; have := worst_new (Y18.alloc (.cells #[.int .i64 t0', .int .i64 t1'] 23)) t2' t3' 23; rw [World.size_alloc] at this; exact this
            have hge18 : wo.heap.size ≤ Y18.heap.size := hB.size
            replace hB := BT hB hx
            clear hx
            obtain ⟨xyc, xyd, -, -⟩ := id xy
            obtain ⟨xac, xad, -, -⟩ := id xa
            obtain ⟨own, hown⟩ : ∃ own : Int, t1' - t0' + t3' - t2' = own := ⟨_, rfl⟩
            rw [hown] at r5 r6 r7
            by_cases hks : (k : Int) = sp
            · have ho : own = xp := r7 hks
              subst ho
              clear r5 r6 r7
              go_wp2_with fail
              clear hZ xyc xyd xac xad
              go_roundw
              case rel => exact ⟨k + 1, by omega, by go_num, hB⟩
              case measure => simp [intOf]; omega
            have ho2 : ¬ (own = xp ∧ (k : Int) < sp) := fun h => by have := r6 h.1; omega
            clear r6 r7
            by_cases ho3 : own = xp
            · have hge : ¬ (k : Int) < sp := fun h => ho2 ⟨ho3, h⟩
              go_wp2_with fail
              clear hZ xyc xyd xac xad
              go_roundw
              case rel => exact ⟨k + 1, by omega, by go_num, hB⟩
              case measure => simp [intOf]; omega
            go_wp2_with fail
            clear hZ xyc xyd xac xad
            go_roundw
            case rel => exact ⟨k + 1, by omega, by go_num, hB⟩
            case measure => simp [intOf]; omega
        · obtain rfl : k = p.n := by omega
          rcases hPF.out with ⟨hep, rfl, rfl, p3⟩ | ⟨rfl, p1, p3⟩
          · clear p3
            have hepb : (ep == 0) = false := by simpa using hep
            have hep2 : ¬ ep = 0 := hep
            go_wp2_with fail
            refine (alive_any _).mono ?_
            rintro e wz ⟨rfl, hz⟩
            have hB := BT hB hz
            go_wp2_with fail
            go_ret
            exact ⟨rfl, hBw.trans (hB.mono hBw.size)⟩
          · clear p3
            obtain ⟨p1, p2⟩ := p1
            go_wp2_with fail
            refine (alive_any _).mono ?_
            rintro e wz ⟨rfl, hz⟩
            have hB := BT hB hz
            go_wp2_with fail
            go_ret
            exact ⟨rfl, hBw.trans (hB.mono hBw.size)⟩
end Go.Proofs.Ytdkegkacpdkjgaa

namespace Go.Proofs.Ytdkegkacpdkjgaa.PlateTurnedRow
open Go.ChangeShapes Go.WideShapes Go.ChangeAt Go.RowKit

theorem own : ownKnob Try.prog.godebug = none := by kernel_rfl

set_option maxRecDepth 100000 in
theorem lifted (os : Os) (started : os.Started) (H : Type) (enc : TypeId × Value → H) :
    ReturnsInHanded {} Try.checked os 9 .any (Rows.plateTurnedSpec.pre6 enc Try.prog Try.f9 Rows.plateTurnedRow.domain false) (Rows.plateTurnedSpec.post enc Try.prog Try.f9 false true false false) := by
  refine returnsInHanded_of_change (C := Try.checked) own started (by kernel_rfl) Try.func9
    (ChangeSpec.witness6 (enc := enc) (C := Try.checked) false ⟨#[], #[.agg #[.int .i64 0, .int .i64 0, .slice none 0 0], .int .i64 0, .int .i64 0], []⟩ 8 (by kernel_rfl) (by kernel_rfl) (by kernel_rfl) (by kernel_rfl)) ?_
  intro W base args ds gs before hval0 hW hcnd _
  have hval : ∀ (j : Nat) t v, Try.f9.params[j]? = some t → args[j]? = some v → Value.okWide Try.prog W .any base t v := hval0
  have hW' := hW
  obtain ⟨p, q, hA0, hV, rfl, hfz, hnd⟩ := hW
  have hA : DataW.TrodAll enc Try.prog W 0 (fun _ => true) true Try.f9.params.toList args.toList ds p := hA0
  rw [Try.params9] at hA hval
  obtain ⟨v0, vs0, d0, ds0, p0, q0, hargs, rfl, rfl, h0, r0⟩ := trodAll_cons hA
  obtain ⟨v1, vs1, d1, ds1, p1, q1, rfl, rfl, rfl, h1, r1⟩ := trodAll_cons r0
  obtain ⟨v2, vs2, d2, ds2, p2, q2, rfl, rfl, rfl, h2, r2⟩ := trodAll_cons r1
  obtain ⟨rfl, rfl, rfl⟩ := trodAll_nil r2
  obtain rfl : args = #[v0, v1, v2] := Array.toList_inj.1 (by simpa using hargs)
  obtain ⟨pl, ss, rfl, hnl, hst⟩ := open_plate (hval 0 29 v0 rfl rfl) h0
  obtain ⟨y1, rfl, rfl, rfl, w1⟩ := open_int Try.underlying3 (hval 1 3 v1 rfl rfl) h1
  obtain ⟨y2, rfl, rfl, rfl, w2⟩ := open_int Try.underlying3 (hval 2 3 v2 rfl rfl) h2
  obtain ⟨rfl, rfl⟩ := trodVars_none hV
  have hy1 := rng_of w1
  have hy2 := rng_of w2
  refine (turned_walk pl ss y1 y2 W hnl hst hy1).mono fun e W' ⟨he, hb⟩ => ?_
  subst he
  refine ⟨_, rfl, law_last rfl (by decide +kernel) (fun _ _ _ => trodAll_cons_mk (shut_bool Try.underlying4 _) trodAll_mk0) (ok_one (by kernel_rfl) rfl (okWide_bool_mk Try.underlying4 _)) hW' rfl rfl rfl hb⟩

theorem over : Rows.plateTurnedRow.holds Try.pinned (OpenSpec.ofChange Rows.plateTurnedSpec) :=
  OpenClaim.holds_of_wide 9 Try.f9 rfl rfl rfl rfl rfl rfl rfl ⟨rfl, rfl, rfl, rfl, rfl⟩ rfl rfl rfl rfl rfl (by kernel_rfl) Try.func9 (by kernel_rfl)
    (of_decide_eq_true (by kernel_rfl)) (by unfold Func.isWrapper; first | (rw [if_pos (by decide +kernel)]; kernel_rfl) | (rw [if_neg (by decide +kernel)]; exact ⟨rfl, rfl⟩))
    (fun os started H enc _ => lifted os started H enc)

theorem plateTurned_holds : Rows.PlateTurnedSaid := over
#print axioms plateTurned_holds
end Go.Proofs.Ytdkegkacpdkjgaa.PlateTurnedRow
