/- Plate: what is kept of all truths, in whatever order they come. -/
import Derived.Test.YtdkegkacpdkjgaaGreatPtr
import Derived.Test.YtdkegkacpdkjgaaGreatPke
namespace Go.Proofs.YtdkegkacpdkjgaaGreat
open Go.RowKit Go.Maps

theorem kepS_comm (k : Int × Int × Bool) (a b c d : Int) : kepS (kepS k a b) c d = kepS (kepS k c d) a b := by
  obtain ⟨l, m, t⟩ := k
  unfold kepS
  by_cases h1 : a ≤ b <;> by_cases h2 : c ≤ d <;> cases t <;> simp [h1, h2] <;> omega
/-- What is kept of some truths. -/
def kepL (f : Scl → Int × Int) (xs : List Scl) : Int × Int × Bool := xs.foldl (fun k x => kepS k (f x).1 (f x).2) (0, 0, false)
theorem kepL_perm {f : Scl → Int × Int} {xs ys : List Scl} (h : xs.Perm ys) : kepL f xs = kepL f ys := by
  have : ∀ {xs ys : List Scl}, xs.Perm ys → ∀ k, xs.foldl (fun k x => kepS k (f x).1 (f x).2) k = ys.foldl (fun k x => kepS k (f x).1 (f x).2) k := fun {xs ys} h => by
    induction h with
    | nil => exact fun k => rfl
    | cons x _ ih => exact fun k => ih _
    | swap x y l => intro k; rw [List.foldl_cons, List.foldl_cons, List.foldl_cons, List.foldl_cons, kepS_comm]
    | trans _ _ h1 h2 => exact fun k => (h1 k).trans (h2 k)
  exact this h _
theorem same_int (a b : Int) : (Lit.int .i64 a).sameKey (.int .i64 b) = (a == b) := by
  by_cases h : a = b
  · subst h; simp [Lit.sameKey]
  · have : (a == b) = false := by simpa using h
    rw [this]; exact sameKey_ne (lit_ne h)
/-- Those that are no longer to come. -/
def gone (left : Lit → Bool) (xs : List Scl) : List Scl := xs.filter (fun x => !left (.int .i64 x.sc))
theorem gone_start (xs : List Scl) : gone (Maps.has (mapD xs)) xs = [] := by
  unfold gone
  rw [List.filter_eq_nil_iff]
  intro x hx
  rw [mapD_has]
  simp
  exact ⟨x, hx, rfl⟩
theorem gone_end {left : Lit → Bool} (h : ∀ kl, left kl = false) (xs : List Scl) : gone left xs = xs := by
  unfold gone
  rw [List.filter_eq_self]
  intro x _
  rw [h]; rfl
theorem gone_step {left : Lit → Bool} {xs : List Scl} (ha : Apart xs) {x : Scl} (hx : x ∈ xs) (hl : left (.int .i64 x.sc) = true) :
    (gone (fun z => left z && !z.sameKey (.int .i64 x.sc)) xs).Perm (x :: gone left xs) := by
  unfold gone
  induction xs with
  | nil => cases hx
  | cons y l ih =>
    unfold Apart at ha
    rw [List.pairwise_cons] at ha
    rcases List.mem_cons.1 hx with e | hm
    · subst e
      rw [List.filter_cons_of_pos (by simp [same_int]), List.filter_cons_of_neg (by simp [hl])]
      refine List.Perm.cons _ (List.Perm.of_eq (List.filter_congr fun u hu => ?_))
      have := ha.1 u hu
      dsimp only
      rw [same_int]
      have e : (u.sc == x.sc) = false := by simpa using fun h => this h.symm
      rw [e]; simp
    · have hne : y.sc ≠ x.sc := ha.1 x hm
      have e : (y.sc == x.sc) = false := by simpa using hne
      have ih := ih ha.2 hm
      by_cases hy : left (.int .i64 y.sc) = true
      · rw [List.filter_cons_of_neg (by simp [same_int, e, hy]), List.filter_cons_of_neg (by simp [hy])]
        exact ih
      · rw [List.filter_cons_of_pos (by simp [hy]), List.filter_cons_of_pos (by simp [hy])]
        exact (List.Perm.cons _ ih).trans (List.Perm.swap _ _ _)
theorem kep_step {left : Lit → Bool} {f : Scl → Int × Int} {xs : List Scl} (ha : Apart xs) {x : Scl} (hx : x ∈ xs) (hl : left (.int .i64 x.sc) = true) :
    kepL f (gone (fun z => left z && !z.sameKey (.int .i64 x.sc)) xs) = kepS (kepL f (gone left xs)) (f x).1 (f x).2 := by
  have h1 : (gone (fun z => left z && !z.sameKey (.int .i64 x.sc)) xs).Perm (gone left xs ++ [x]) := (gone_step ha hx hl).trans (List.perm_append_singleton x _).symm
  rw [kepL_perm h1, kepL, List.foldl_append]
  rfl
/-- What came is one of the truths. -/
theorem came {xs : List Scl} (ha : Apart xs) {s : Int} {y : DataW Unit} (h : ∀ zd, (mapD xs).atKey (.int .i64 s) zd = y) : ∃ x, x ∈ xs ∧ x.sc = s ∧ y = x.q := by
  have hh := has_true_of_atKey h
  rw [mapD_has, List.any_eq_true] at hh
  obtain ⟨x, hx, e⟩ := hh
  have e : x.sc = s := by simpa using e
  refine ⟨x, hx, e, ?_⟩
  rw [← h (.map []), ← e, mapD_at ha hx]
end Go.Proofs.YtdkegkacpdkjgaaGreat
