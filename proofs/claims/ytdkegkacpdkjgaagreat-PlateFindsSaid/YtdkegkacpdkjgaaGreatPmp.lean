/- Plate: all truths, as a map by their scales. -/
import Derived.Test.YtdkegkacpdkjgaaGreatPca
import Derived.Maps.OwnSet
import Derived.Maps.OwnOps
import Derived.Maps.OwnIn
import Derived.Maps.Views
import Derived.Maps.RangeWalk
namespace Go.Proofs.YtdkegkacpdkjgaaGreat
open Go.RowKit Go.Shelf Go.Maps
attribute [local go_sem] Oper.semAt_some

def qd (a b c d : Int) : DataW Unit := .agg [.lit (.int .i64 a), .lit (.int .i64 b), .lit (.int .i64 c), .lit (.int .i64 d)]
def quadElem (v : Value) : Option (DataW Unit × List MemPlace) :=
  match v with
  | .agg cs => match cs.toList with
    | [.int .i64 a, .int .i64 b, .int .i64 c, .int .i64 d] => some (qd a b c d, [])
    | _ => none
  | _ => none
theorem quadElem_mk (a b c d : Int) : quadElem (.agg #[.int .i64 a, .int .i64 b, .int .i64 c, .int .i64 d]) = some (qd a b c d, []) := rfl
theorem quadElem_inv {v : Value} {z : DataW Unit × List MemPlace} (h : quadElem v = some z) : ∃ a b c d, v = .agg #[.int .i64 a, .int .i64 b, .int .i64 c, .int .i64 d] ∧ z = (qd a b c d, []) := by
  unfold quadElem at h
  split at h
  · rename_i cs
    split at h
    · rename_i a b c d hc
      injection h with h
      obtain ⟨l⟩ := cs
      simp only at hc
      subst hc
      exact ⟨a, b, c, d, rfl, h.symm⟩
    · cases h
  · cases h
theorem qd_inj {a b c d a' b' c' d' : Int} (h : qd a b c d = qd a' b' c' d') : a = a' ∧ b = b' ∧ c = c' ∧ d = d' := by
  unfold qd at h
  simp at h
  exact h
theorem mapQ : Tryz.prog.underlying 72 = some (.map 3 81) := by kernel_rfl
theorem keyed3 : Keyed Tryz.prog 3 := int_keyed Tryz.underlying3
theorem wf_sc {x : Int} (h : 0 ≤ x ∧ x ≤ 1000) : (Lit.int .i64 x).wf = true := by
  have e1 : IntKind.i64.min = -9223372036854775808 := by decide
  have e2 : IntKind.i64.max = 9223372036854775807 := by decide
  simp only [Lit.wf, e1, e2, Bool.and_eq_true, decide_eq_true_eq]
  omega
def Scl.q (x : Scl) : DataW Unit := qd x.a x.b x.c x.d
/-- The map of some truths. -/
def mapD (xs : List Scl) : DataW Unit := xs.foldl (fun D x => D.put (.int .i64 x.sc) x.q) (.map [])
theorem mapD_snoc (xs : List Scl) (x : Scl) : mapD (xs ++ [x]) = (mapD xs).put (.int .i64 x.sc) x.q := by simp [mapD, List.foldl_append]
theorem mapD_isMap (xs : List Scl) : IsMap (mapD xs) := by
  unfold mapD
  have : ∀ (l : List Scl) (D : DataW Unit), IsMap D → IsMap (l.foldl (fun D x => D.put (.int .i64 x.sc) x.q) D) := fun l => by
    induction l with
    | nil => exact fun D h => h
    | cons x l ih => exact fun D h => ih _ (h.put _ _)
  exact this xs _ isMap_empty
theorem lit_ne {a b : Int} (h : a ≠ b) : (Lit.int .i64 a) ≠ .int .i64 b := fun e => by injection e with _ e; exact h e
theorem mapD_has (xs : List Scl) (s : Int) : Maps.has (mapD xs) (.int .i64 s) = xs.any (fun x => x.sc == s) := by
  have hk : WideAt.IsKeyLit (.int .i64 s) := by trivial
  have : ∀ (l : List Scl) (D : DataW Unit), IsMap D → Maps.has (l.foldl (fun D x => D.put (.int .i64 x.sc) x.q) D) (.int .i64 s) = (Maps.has D (.int .i64 s) || l.any (fun x => x.sc == s)) := fun l => by
    induction l with
    | nil => intro D _; simp
    | cons x l ih =>
      intro D h
      rw [List.foldl_cons, ih _ (h.put _ _), List.any_cons]
      by_cases e : x.sc = s
      · subst e; rw [Maps.has_put_same h hk]; simp
      · rw [Maps.has_put_other (lit_ne (fun h => e h.symm))]
        have : (x.sc == s) = false := by simpa using e
        rw [this, Bool.false_or]
  rw [mapD, this xs _ isMap_empty]
  rfl
/-- The scales are all different. -/
def Apart (xs : List Scl) : Prop := xs.Pairwise (fun x y => x.sc ≠ y.sc)
theorem mapD_at {xs : List Scl} (hd : Apart xs) {x : Scl} (hx : x ∈ xs) (z : DataW Unit) : (mapD xs).atKey (.int .i64 x.sc) z = x.q := by
  have hk : WideAt.IsKeyLit (.int .i64 x.sc) := by trivial
  have keep : ∀ (l : List Scl) (D : DataW Unit), (∀ y ∈ l, y.sc ≠ x.sc) → (l.foldl (fun D x => D.put (.int .i64 x.sc) x.q) D).atKey (.int .i64 x.sc) z = D.atKey (.int .i64 x.sc) z := fun l => by
    induction l with
    | nil => exact fun D _ => rfl
    | cons y l ih =>
      intro D h
      rw [List.foldl_cons, ih _ (fun u hu => h u (List.mem_cons_of_mem _ hu)), Maps.atKey_put_other (lit_ne (fun e => h y (List.mem_cons_self ..) e.symm))]
  have : ∀ (l : List Scl) (D : DataW Unit), IsMap D → Apart l → x ∈ l → (l.foldl (fun D x => D.put (.int .i64 x.sc) x.q) D).atKey (.int .i64 x.sc) z = x.q := fun l => by
    induction l with
    | nil => intro D _ _ h; cases h
    | cons y l ih =>
      intro D hD ha hm
      unfold Apart at ha
      rw [List.pairwise_cons] at ha
      rw [List.foldl_cons]
      rcases List.mem_cons.1 hm with e | hm
      · subst e
        rw [keep l _ (fun u hu e => ha.1 u hu e.symm), Maps.atKey_put_same hD hk]
      · exact ih _ (hD.put _ _) ha.2 hm
  exact this xs _ isMap_empty hd hx
theorem mapD_size (xs : List Scl) : (0 < Maps.size (mapD xs)) ↔ xs ≠ [] := by
  constructor
  · intro h e; subst e; exact absurd h (by decide)
  · intro h
    cases xs with
    | nil => exact absurd rfl h
    | cons x l =>
      have hh := mapD_has (x :: l) x.sc
      rw [List.any_cons, show (x.sc == x.sc) = true by simp, Bool.true_or] at hh
      obtain ⟨es, he⟩ := mapD_isMap (x :: l)
      rw [he] at hh ⊢
      cases es with
      | nil => cases hh
      | cons => exact Nat.succ_pos _
theorem trTo_apart (ss : List St) (R : Nat → Bool) (n : Nat) (lo : Int) : ∀ k, Apart (trTo ss R n lo k) ∧ ∀ x ∈ trTo ss R n lo k, x.sc < lo + k ∧ lo ≤ x.sc
  | 0 => ⟨List.Pairwise.nil, fun x hx => by cases hx⟩
  | k + 1 => by
    obtain ⟨h1, h2⟩ := trTo_apart ss R n lo k
    have ho : ∀ x ∈ trOf ss R n (lo + k), x.sc = lo + k := fun x hx => by
      unfold trOf at hx
      split at hx
      · split at hx
        · simp at hx; rw [hx]
        · cases hx
      · cases hx
    have ha : Apart (trOf ss R n (lo + k)) := by
      unfold trOf
      split
      · split
        · exact List.pairwise_singleton _ _
        · exact List.Pairwise.nil
      · exact List.Pairwise.nil
    refine ⟨List.pairwise_append.2 ⟨h1, ha, fun x hx y hy => ?_⟩, fun x hx => ?_⟩
    · have := (h2 x hx).1; have := ho y hy; omega
    · rcases List.mem_append.1 hx with hx | hx
      · have := h2 x hx; omega
      · have := ho x hx; omega
theorem trL_apart (p : Pl) (ss : List St) (set : Int) : Apart (trL p ss set) := (trTo_apart ..).1
theorem trTo_len (ss : List St) (R : Nat → Bool) (n : Nat) (lo : Int) : ∀ k, (trTo ss R n lo k).length ≤ k
  | 0 => Nat.le_refl _
  | k + 1 => by
    have := trTo_len ss R n lo k
    have h1 : (trOf ss R n (lo + k)).length ≤ 1 := by
      unfold trOf
      split
      · split <;> simp
      · simp
    rw [trTo, List.length_append]; omega
theorem trL_len {p : Pl} {ss : List St} (h : PlOk p ss) (set : Int) : (trL p ss set).length ≤ 1000 := by
  have := trTo_len ss (setI set) p.n p.lo (p.hi - p.lo + 1).toNat
  have h1 := h.lo; have h2 := h.hi
  unfold trL; omega
end Go.Proofs.YtdkegkacpdkjgaaGreat
