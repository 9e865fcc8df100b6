/- Plate: stars are copied: append of all stars onto an empty row. -/
import Derived.Test.YtdkegkacpdkjgaaGreatPar
import Derived.Laws.OwnMore
import Derived.Laws.AppendOwnNone
namespace Go.Proofs.YtdkegkacpdkjgaaGreat
open Go.RowKit

def starC (s : St) : List Value := s.cells.toList
theorem starC_len (s : St) : (starC s).length = 9 := rfl
theorem flat_len9 (ss : List St) : (ss.flatMap starC).length = ss.length * 9 := by
  induction ss with
  | nil => rfl
  | cons s ss ih => rw [List.flatMap_cons, List.length_append, ih, starC_len, List.length_cons]; omega
theorem flat_at {ss : List St} : ∀ {j : Nat} {u : Value}, (ss.flatMap starC)[j]? = some u → (starC (ss.getD (j / 9) default))[j % 9]? = some u := by
  induction ss with
  | nil => intro j u h; simp at h
  | cons s ss ih =>
    intro j u h
    rw [List.flatMap_cons] at h
    by_cases hj : j < 9
    · rw [List.getElem?_append_left (by rw [starC_len]; exact hj)] at h
      rw [show j / 9 = 0 by omega, show j % 9 = j by omega]
      exact h
    · rw [List.getElem?_append_right (by rw [starC_len]; omega), starC_len] at h
      have := ih h
      rw [show (j - 9) % 9 = j % 9 by omega] at this
      rw [show j / 9 = (j - 9) / 9 + 1 by omega]
      exact this
theorem StAt.at {s : St} {b o : Nat} {w : World} (h : StAt s b o w) {r : Nat} {u : Value} (hu : (starC s)[r]? = some u) : w.cell? ⟨b, o + r, none⟩ = some u := by
  have hr : r < 9 := by have := (List.getElem?_eq_some_iff.1 hu).1; rwa [starC_len] at this
  obtain ⟨c0, c1, c2, c3, c4, c5, c6, c7, c8⟩ := h
  have : r = 0 ∨ r = 1 ∨ r = 2 ∨ r = 3 ∨ r = 4 ∨ r = 5 ∨ r = 6 ∨ r = 7 ∨ r = 8 := by omega
  rcases this with rfl | rfl | rfl | rfl | rfl | rfl | rfl | rfl | rfl
  all_goals
    injection hu with hu
    subst hu
    assumption
theorem StAt.of {s : St} {b o : Nat} {w : World} (h : ∀ r u, (starC s)[r]? = some u → w.cell? ⟨b, o + r, none⟩ = some u) : StAt s b o w :=
  ⟨h 0 _ rfl, h 1 _ rfl, h 2 _ rfl, h 3 _ rfl, h 4 _ rfl, h 5 _ rfl, h 6 _ rfl, h 7 _ rfl, h 8 _ rfl⟩
theorem infoSt : (Tryz.prog.info? 60).map (fun i => (i.zero, i.size, i.bytes)) = some (some (.agg #[.int .i64 0, .int .i64 0, .int .i64 0, .int .i64 0, .bool false, .int .i64 0, .int .i64 0, .int .i64 0, .int .i64 0]), 9, 72) := by kernel_rfl
theorem info_star : ∃ i, Tryz.prog.info? 60 = some i ∧ i.zero = some (.agg #[.int .i64 0, .int .i64 0, .int .i64 0, .int .i64 0, .bool false, .int .i64 0, .int .i64 0, .int .i64 0, .int .i64 0]) ∧ i.size = 9 ∧ i.bytes = 72 := by
  have h := infoSt
  cases hi : Tryz.prog.info? 60 with
  | none => rw [hi] at h; cases h
  | some i =>
    rw [hi] at h
    simp only [Option.map_some, Option.some.injEq, Prod.mk.injEq] at h
    exact ⟨i, rfl, h.1, h.2.1, h.2.2⟩
/-- Nothing is appended. -/
theorem run_append_nothing {P : Program} {w : World} (base : Nat) (t ty e : TypeId) (i : TypeInfo) (size : Nat) (ht : P.underlying t = some (.slice e)) (hi : P.info? e = some i)
    (v : Value) (n : Nat) (xs : List Value) (hown : w.ownsRow base e size v n xs) (ao : Option Addr) (c : Nat) : (Builtin.append_ #[t, t] ty #[v, .slice ao 0 c]).run P w = .ok v w := by
  rcases hown.2 with ⟨rfl, rfl⟩ | ⟨g, cap, cur, rfl, _, _, hnc, _⟩
  · cases ao <;> simp [Builtin.append_, run_underlying ht, sizeOf, typeInfo, hi, Builtin.lenOf, Builtin.firstCells, loadCells, loadCellsFrom]
  · cases ao <;> simp [Builtin.append_, run_underlying ht, sizeOf, typeInfo, hi, Builtin.lenOf, Builtin.firstCells, hnc, storeCells, loadCells, loadCellsFrom]
/-- All stars of a plate, onto a row that is new. -/
theorem wp_append_stars {o : Oper} {a : Act} {w : World} {K : Act → World → Prop} {Q : Exit → Act → World → Prop} (s x : Operand) (ho : o.op = .call { callee := .builtin .append, args := #[s, x], argTypes := #[24, 24] })
    (base : Nat) (v : Value) (hs : a.eval s = v) (hown : w.ownsRow base 60 9 v 0 []) (sa : Option Addr) (n c : Nat) (ss : List St) (hx : a.eval x = .slice sa n c) (hst : StarsIn w sa ss) (hn : ss.length = n) (hl : n ≤ 100) (hbase : base ≤ w.heap.size)
    (h : ∀ v' w', w'.ownsRow base 60 9 v' n (ss.flatMap starC) → w.grownBy w' v.ownBlock → K (a.put o.dst v') w') : o.wp Tryz.prog a w K Q := by
  obtain ⟨i0, hi9, hz0, hz1, hz2⟩ := info_star
  have hr : ∃ v' w', (Builtin.append_ #[24, 24] o.type #[v, .slice sa n c]).run Tryz.prog w = .ok v' w' ∧ w'.ownsRow base 60 9 v' n (ss.flatMap starC) ∧ w.grownBy w' v.ownBlock := by
    by_cases h0 : ss = []
    · subst h0
      obtain rfl : n = 0 := by rw [← hn]; rfl
      exact ⟨v, w, run_append_nothing base 24 o.type 60 i0 9 Tryz.underlying24 hi9 v 0 [] hown sa c, hown, .refl _ _⟩
    · rcases hst with h1 | ⟨b, ofs, h1, h2, h3⟩
      · exact absurd h1 h0
      · subst h1
        have hnew : ∀ j u, (ss.flatMap starC)[j]? = some u → w.cell? ((⟨b, ofs, none⟩ : Addr).add j) = some u := by
          intro j u hj
          have hlt : j < ss.length * 9 := by rw [← flat_len9]; exact (List.getElem?_eq_some_iff.1 hj).1
          have hc := (h3 (j / 9) (by omega)).at (flat_at hj)
          rw [Addr.add_mid, show ofs + j = ofs + j / 9 * 9 + j % 9 by omega]
          exact hc
        obtain ⟨v', w', r1, r2, r3, _⟩ := run_append_own (P := Tryz.prog) w base 24 o.type 60 i0 (.agg #[.int .i64 0, .int .i64 0, .int .i64 0, .int .i64 0, .bool false, .int .i64 0, .int .i64 0, .int .i64 0, .int .i64 0]) 9 72 Tryz.underlying24 hi9 hz0 hz1 hz2 rfl (by decide) v 0 [] hown ⟨b, ofs, none⟩ n c (ss.flatMap starC) (by rw [flat_len9, hn]) hnew
          (fun u hu => by
            obtain ⟨s, _, hs⟩ := List.mem_flatMap.1 hu
            simp [starC, St.cells] at hs
            rcases hs with rfl | rfl | rfl | rfl | rfl | rfl | rfl | rfl | rfl <;> rfl) (by unfold maxLen; omega) (by omega) hbase
        rw [Nat.zero_add, List.nil_append] at r2
        exact ⟨v', w', r1, r2, r3⟩
  obtain ⟨v', w', r1, r2, r3⟩ := hr
  unfold Oper.wp execOp
  simp only [ho, resolve, invoke, builtin, Sem.run_bind, Sem.run_pure, Result.andThen_ok, List.map_toArray, List.map_cons, List.map_nil, hs, hx, r1]
  exact h v' w' r2 r3
theorem wpList_append_stars {ops : Array Oper} {rest : List Oper} {o : Oper} {a : Act} {w : World} {Q : Exit → Act → World → Prop} (hgd : o.guard = none) (s x : Operand) (ho : o.op = .call { callee := .builtin .append, args := #[s, x], argTypes := #[24, 24] })
    (base : Nat) (v : Value) (hs : a.eval s = v) (hown : w.ownsRow base 60 9 v 0 []) (sa : Option Addr) (n c : Nat) (ss : List St) (hx : a.eval x = .slice sa n c) (hst : StarsIn w sa ss) (hn : ss.length = n) (hl : n ≤ 100) (hbase : base ≤ w.heap.size)
    (h : ∀ v' w', w'.ownsRow base 60 9 v' n (ss.flatMap starC) → w.grownBy w' v.ownBlock → wpList Tryz.prog ops Q rest (a.put o.dst v') w') : wpList Tryz.prog ops Q (o :: rest) a w :=
  wpList_plain hgd fun _ hK => wp_append_stars s x ho base v hs hown sa n c ss hx hst hn hl hbase fun v' w' h2 h3 => hK _ _ (h v' w' h2 h3)
end Go.Proofs.YtdkegkacpdkjgaaGreat
