/- Eye: bounds as a map in memory. -/
import Derived.Test.YtcfjakifeihbpaaGreatEla
import Derived.Maps.OwnSet
import Derived.Maps.OwnOps
import Derived.Maps.Views
namespace Go.Proofs.YtcfjakifeihbpaaGreat
namespace Ey
open Go.RowKit Go.Maps Nb

def sd (s : Int × Int) : DataW Unit := .agg [.lit (.int .i64 s.1), .lit (.int .i64 s.2)]
def spanElem (v : Value) : Option (DataW Unit × List MemPlace) :=
  match v with
  | .agg cs => match cs.toList with
    | [.int .i64 a, .int .i64 b] => some (sd (a, b), [])
    | _ => none
  | _ => none
theorem spanElem_mk (a b : Int) : spanElem (.agg #[.int .i64 a, .int .i64 b]) = some (sd (a, b), []) := rfl
theorem spanElem_inv {v : Value} {z : DataW Unit × List MemPlace} (h : spanElem v = some z) : ∃ a b, v = .agg #[.int .i64 a, .int .i64 b] ∧ z = (sd (a, b), []) := by
  unfold spanElem at h
  split at h
  · rename_i cs
    split at h
    · rename_i a b hc
      injection h with h
      obtain ⟨l⟩ := cs
      simp only at hc
      subst hc
      exact ⟨a, b, rfl, h.symm⟩
    · cases h
  · cases h
theorem sd_inj {s t : Int × Int} (h : sd s = sd t) : s = t := by
  unfold sd at h
  simp at h
  exact Prod.ext h.1 h.2
theorem map69 : Tryz.prog.underlying 76 = some (.map 3 24) := by kernel_rfl
theorem keyed3 : Keyed Tryz.prog 3 := int_keyed Tryz.underlying3
theorem wf_key {k : Nat} (hk : k < 11) : (Lit.int .i64 (k : Int)).wf = true := by
  have e1 : IntKind.i64.min = -9223372036854775808 := by decide
  have e2 : IntKind.i64.max = 9223372036854775807 := by decide
  simp only [Lit.wf, e1, e2, Bool.and_eq_true, decide_eq_true_eq]
  omega
theorem zeroE (w : World) : (zeroValue 24).run Tryz.prog w = .ok (.agg #[.int .i64 0, .int .i64 0]) w := by kernel_rfl
theorem key_ne {k j : Nat} (h : j ≠ k) : (Lit.int .i64 (j : Int)) ≠ .int .i64 (k : Int) := fun e => by
  injection e with _ e
  exact h (by omega)
/-- The bounds b, as a map of at most n entries. -/
def OwnB (X : World) (mb n : Nat) (b : B) : Prop :=
  ∃ D, X.ownsMap Tryz.prog 3 spanElem mb n D ∧ ∀ k : Nat, k < 11 → Maps.has D (.int .i64 (k : Int)) = (b k).isSome ∧ ∀ s, b k = some s → D.atKey (.int .i64 (k : Int)) (sd (0, 0)) = sd s
section
variable {X X' : World} {mb n : Nat} {b : B}
theorem OwnB.kept (h : OwnB X mb n b) {row : Option Nat} (hg : X.grownBy X' row) (hne : some mb ≠ row) : OwnB X' mb n b := by
  obtain ⟨D, h1, h2⟩ := h
  exact ⟨D, h1.kept hg hne, h2⟩
theorem OwnB.lt (h : OwnB X mb n b) : mb < X.heap.size := by
  obtain ⟨D, h1, _⟩ := h
  exact h1.lt
theorem ownB_made (X : World) : OwnB (X.alloc (.map #[] 0)) X.heap.size 0 (fun _ => none) :=
  ⟨_, World.ownsMap_made _ _ _ _, fun k _ => ⟨rfl, fun s hs => by cases hs⟩⟩
theorem OwnB.put {D : DataW Unit} {k : Nat} {s : Int × Int} (hk : k < 11) (hi : IsMap D) (h : ∀ k : Nat, k < 11 → Maps.has D (.int .i64 (k : Int)) = (b k).isSome ∧ ∀ s, b k = some s → D.atKey (.int .i64 (k : Int)) (sd (0, 0)) = sd s) :
    ∀ j : Nat, j < 11 → Maps.has (D.put (.int .i64 (k : Int)) (sd s)) (.int .i64 (j : Int)) = (upd b k s j).isSome ∧ ∀ t, upd b k s j = some t → (D.put (.int .i64 (k : Int)) (sd s)).atKey (.int .i64 (j : Int)) (sd (0, 0)) = sd t := fun j hj => by
  have hkl : WideAt.IsKeyLit (.int .i64 (k : Int)) := by trivial
  by_cases e : j = k
  · subst e
    rw [upd_at, Maps.has_put_same hi hkl, Maps.atKey_put_same hi hkl]
    exact ⟨rfl, fun t ht => by cases ht; rfl⟩
  · rw [upd_ne _ _ e, Maps.has_put_other (key_ne e), Maps.atKey_put_other (key_ne e)]
    exact h j hj
theorem wp_lookB {ops : Array Oper} {rest : List Oper} {o : Oper} {a : Act} {Q : Exit → Act → World → Prop} (hg : o.guard = none) (m x : Operand) (hop : o.op = Op.lookup 76 m x true) (hm : a.eval m = .map (some mb)) (h : OwnB X mb n b) (k : Nat) (hk : k < 11) (hx : a.eval x = .int .i64 (k : Int))
    (hK : ∀ c d : Int, Hid (∀ t, b k = some t → t = (c, d)) → wpList Tryz.prog ops Q rest (a.put o.dst (.tuple #[.agg #[.int .i64 c, .int .i64 d], .bool (b k).isSome])) X) : wpList Tryz.prog ops Q (o :: rest) a X := by
  obtain ⟨D, h1, h2⟩ := h
  refine wpList_lookup_own_ok X hg m x _ hop 3 _ keyed3 map69 spanElem (zeroE X) (sd (0, 0)) [] (spanElem_mk 0 0) mb n D hm h1 _ (.int .i64 (k : Int)) hx (keyOf_int_mk Tryz.underlying3 (wf_key hk)) ?_
  intro v ps hv
  obtain ⟨c, d, rfl, e⟩ := spanElem_inv hv
  rw [(h2 k hk).1]
  refine hK c d (fun t ht => ?_)
  have h3 := (h2 k hk).2 t ht
  injection e with e _
  exact sd_inj (h3.symm.trans e)
theorem wp_putB {ops : Array Oper} {rest : List Oper} {o : Oper} {a : Act} {Q : Exit → Act → World → Prop} (hg : o.guard = none) (m x v : Operand) (hop : o.op = Op.mapUpdate 76 m x v) (hm : a.eval m = .map (some mb)) (h : OwnB X mb n b) (hn : n < 1000000) (k : Nat) (hk : k < 11) (hx : a.eval x = .int .i64 (k : Int)) (c d : Int) (hv : a.eval v = .agg #[.int .i64 c, .int .i64 d])
    (hK : ∀ X', OwnB X' mb (n + 1) (upd b k (c, d)) → X.grownBy X' (some mb) → wpList Tryz.prog ops Q rest (a.put o.dst undef) X') : wpList Tryz.prog ops Q (o :: rest) a X := by
  obtain ⟨D, h1, h2⟩ := h
  refine wpList_mapUpdate_own X hg m x v _ hop 3 _ keyed3 map69 spanElem mb n D hm h1 (by unfold maxLen; omega) _ _ (.int .i64 (k : Int)) hx hv (keyOf_int_mk Tryz.underlying3 (wf_key hk)) (sd (c, d)) [] (spanElem_mk c d) ?_
  intro X' h3 hg'
  exact hK X' ⟨_, h3, OwnB.put hk h1.isMap h2⟩ hg'
end
end Ey
end Go.Proofs.YtcfjakifeihbpaaGreat
