/- Eye: words for the walks of EyeTurned and EyeMore: a box of eight cells; looks that are appended to a new slice. -/
import Derived.Test.YtcfjakifeihbpaaEtr
import Derived.Test.YtcfjakifeihbpaaEpw
import Derived.Test.YtcfjakifeihbpaaEpt
import Derived.Deep.AppendLies
namespace Go.Proofs.Ytcfjakifeihbpaa
namespace Ey
open Go.RowKit

theorem lt8 {g : Nat} {X : World} (k : Slots g 8 X) : g < X.heap.size := by
  obtain ⟨v, h, _⟩ := k.get 0 (by omega)
  exact World.block_lt_of_cell? _ _ h
def wput8 (X : World) (g : Nat) (h : Wd) : World :=
  (((((((X.setCell ⟨g, 0, none⟩ (.slice h.a h.n h.cap)).setCell ⟨g, 1, none⟩ (.int .i64 h.eLo)).setCell ⟨g, 2, none⟩ (.int .i64 h.eHi)).setCell ⟨g, 3, none⟩ (.int .i64 h.images)).setCell ⟨g, 4, none⟩ (.int .i64 h.eyes)).setCell ⟨g, 5, none⟩ (.int .i64 h.hLo)).setCell ⟨g, 6, none⟩ (.int .i64 h.hHi)).setCell ⟨g, 7, none⟩ (.slice h.la h.ln h.lcap)
theorem wput8_bx (X : World) (g : Nat) (h : Wd) : BX g X (wput8 X g h) :=
  ((((((((BX.set g 0 X (.slice h.a h.n h.cap)).trans (BX.set g 1 _ (.int .i64 h.eLo))).trans (BX.set g 2 _ (.int .i64 h.eHi))).trans (BX.set g 3 _ (.int .i64 h.images))).trans (BX.set g 4 _ (.int .i64 h.eyes))).trans (BX.set g 5 _ (.int .i64 h.hLo))).trans (BX.set g 6 _ (.int .i64 h.hHi))).trans (BX.set g 7 _ (.slice h.la h.ln h.lcap)))
/-- Block g is a watch's, and can be written. -/
structure Box8 (X : World) (g : Nat) (h : Wd) : Prop where
  box : BoxW X g h
  slots : Slots g 8 X
theorem box_wput8 {X : World} {g : Nat} (k : Slots g 8 X) (h : Wd) : Box8 (wput8 X g h) g h := by
  obtain ⟨v0, a0, _⟩ := k.get 0 (by omega)
  obtain ⟨v1, a1, _⟩ := k.get 1 (by omega)
  obtain ⟨v2, a2, _⟩ := k.get 2 (by omega)
  obtain ⟨v3, a3, _⟩ := k.get 3 (by omega)
  obtain ⟨v4, a4, _⟩ := k.get 4 (by omega)
  obtain ⟨v5, a5, _⟩ := k.get 5 (by omega)
  obtain ⟨v6, a6, _⟩ := k.get 6 (by omega)
  obtain ⟨v7, a7, _⟩ := k.get 7 (by omega)
  refine ⟨?_, (((((((k.set _ _).set _ _).set _ _).set _ _).set _ _).set _ _).set _ _).set _ _⟩
  unfold wput8
  refine ⟨?_, ?_, ?_, ?_, ?_, ?_, ?_, ?_⟩ <;> simp [go_sem, a0, a1, a2, a3, a4, a5, a6, a7]
theorem Box8.grown8 {g : Nat} {X X' : World} {h : Wd} (k : Box8 X g h) (hb : Below X.heap.size X X') : Box8 X' g h := ⟨k.box.grown hb, k.slots.below hb (lt8 k.slots)⟩
/-- Nothing is appended. -/
theorem run_append_nothing {P : Program} {w : World} (base : Nat) (t ty e : TypeId) (i : TypeInfo) (size : Nat) (ht : P.underlying t = some (.slice e)) (hi : P.info? e = some i)
    (v : Value) (n : Nat) (xs : List Value) (hown : w.ownsRow base e size v n xs) (ao : Option Addr) (c : Nat) : (Builtin.append_ #[t, t] ty #[v, .slice ao 0 c]).run P w = .ok v w := by
  rcases hown.2 with ⟨rfl, rfl⟩ | ⟨g, cap, cur, rfl, _, _, hnc, _⟩
  · cases ao <;> simp [Builtin.append_, run_underlying ht, sizeOf, typeInfo, hi, Builtin.lenOf, Builtin.firstCells, loadCells, loadCellsFrom]
  · cases ao <;> simp [Builtin.append_, run_underlying ht, sizeOf, typeInfo, hi, Builtin.lenOf, Builtin.firstCells, hnc, storeCells, loadCells, loadCellsFrom]
theorem flat_len (ls : List LkV) : (ls.flatMap lookV).length = ls.length * 3 := by
  induction ls with
  | nil => rfl
  | cons s ls ih => rw [List.flatMap_cons, List.length_append, ih]; simp [lookV]; omega
theorem news_look {w : World} {b o : Nat} {ls : List LkV} (hc : ∀ k, k < ls.length → w.cell? ⟨b, o + k * 3, none⟩ = some (.int .i64 (ls.getD k (0, 0, 0)).1) ∧ w.cell? ⟨b, o + k * 3 + 1, none⟩ = some (.int .i64 (ls.getD k (0, 0, 0)).2.1) ∧ w.cell? ⟨b, o + k * 3 + 2, none⟩ = some (.int .i64 (ls.getD k (0, 0, 0)).2.2) ∧ (ls.getD k (0, 0, 0)).2.2 ≤ 9223372036854775807) :
    ∀ j u, (ls.flatMap lookV)[j]? = some u → w.cell? ((⟨b, o, none⟩ : Addr).add j) = some u := by
  intro j u hj
  have hlt : j < ls.length * 3 := by rw [← flat_len]; exact (List.getElem?_eq_some_iff.1 hj).1
  have hadd : (⟨b, o, none⟩ : Addr).add j = ⟨b, o + j, none⟩ := by unfold Addr.add; split <;> simp_all
  rw [hadd]
  have hk : j / 3 < ls.length := by omega
  obtain ⟨c0, c1, c2, _⟩ := hc _ hk
  obtain ⟨f0, f1, f2⟩ := flat_look ls _ hk
  have hr : j = j / 3 * 3 ∨ j = j / 3 * 3 + 1 ∨ j = j / 3 * 3 + 2 := by omega
  rcases hr with h | h | h
  · rw [h] at hj ⊢; rw [f0] at hj; injection hj with hj; rw [← hj, ← c0]
  · rw [h] at hj ⊢; rw [f1] at hj; injection hj with hj; rw [← hj, ← c1]; rfl
  · rw [h] at hj ⊢; rw [f2] at hj; injection hj with hj; rw [← hj, ← c2]; rfl
/-- All looks that came in, onto a row that is new. -/
theorem wp_append_looks {o : Oper} {a : Act} {w : World} {K : Act → World → Prop} {Q : Exit → Act → World → Prop} (s x : Operand) (ho : o.op = .call { callee := .builtin .append, args := #[s, x], argTypes := #[27, 27] })
    (base : Nat) (v : Value) (hs : a.eval s = v) (hown : w.ownsRow base 47 3 v 0 []) (sa : Option Addr) (n c : Nat) (ls : List LkV) (hx : a.eval x = .slice sa n c) (hst : LooksIn w sa ls) (hn : ls.length = n) (hl : n ≤ 100) (hbase : base ≤ w.heap.size)
    (h : ∀ v' w', w'.ownsRow base 47 3 v' n (ls.flatMap lookV) → w.grownBy w' v.ownBlock → K (a.put o.dst v') w') : o.wp Try.prog a w K Q := by
  obtain ⟨i0, hi9, hz0, hz1, hz2⟩ := info_parts infoLk
  have hr : ∃ v' w', (Builtin.append_ #[27, 27] o.type #[v, .slice sa n c]).run Try.prog w = .ok v' w' ∧ w'.ownsRow base 47 3 v' n (ls.flatMap lookV) ∧ w.grownBy w' v.ownBlock := by
    by_cases h0 : ls = []
    · subst h0
      obtain rfl : n = 0 := by rw [← hn]; rfl
      exact ⟨v, w, run_append_nothing base 27 o.type 47 i0 3 Try.underlying27 hi9 v 0 [] hown sa c, hown, .refl _ _⟩
    · rcases hst with h1 | ⟨b, ofs, h1, h2, h3⟩
      · exact absurd h1 h0
      · subst h1
        obtain ⟨v', w', r1, r2, r3, _⟩ := run_append_own (P := Try.prog) w base 27 o.type 47 i0 (.agg #[.int .i64 0, .int .i64 0, .int .i64 0]) 3 24 Try.underlying27 hi9 hz0 hz1 hz2 rfl (by decide) v 0 [] hown ⟨b, ofs, none⟩ n c (ls.flatMap lookV) (by rw [flat_len, hn]) (news_look h3)
          (fun u hu => by
            obtain ⟨s, _, hs⟩ := List.mem_flatMap.1 hu
            simp [lookV] at hs
            rcases hs with rfl | rfl | rfl <;> rfl) (by unfold maxLen; omega) (by omega) hbase
        rw [Nat.zero_add, List.nil_append] at r2
        exact ⟨v', w', r1, r2, r3⟩
  obtain ⟨v', w', r1, r2, r3⟩ := hr
  unfold Oper.wp execOp
  simp only [ho, resolve, invoke, builtin, Sem.run_bind, Sem.run_pure, Result.andThen_ok, List.map_toArray, List.map_cons, List.map_nil, hs, hx, r1]
  exact h v' w' r2 r3
/-- One look, onto a row of the call's own. -/
theorem wp_append_one {o : Oper} {a : Act} {w : World} {K : Act → World → Prop} {Q : Exit → Act → World → Prop} (s x : Operand) (ho : o.op = .call { callee := .builtin .append, args := #[s, x], argTypes := #[27, 27] })
    (base : Nat) (v : Value) (hs : a.eval s = v) (n : Nat) (xs : List Value) (hown : w.ownsRow base 47 3 v n xs) (ad : Addr) (c : Nat) (l : LkV) (hx : a.eval x = .slice (some ad) 1 c) (hc : ∀ j u, (lookV l)[j]? = some u → w.cell? (ad.add j) = some u) (hl : n ≤ 100) (hbase : base ≤ w.heap.size)
    (h : ∀ v' w', w'.ownsRow base 47 3 v' (n + 1) (xs ++ lookV l) → w.grownBy w' v.ownBlock → K (a.put o.dst v') w') : o.wp Try.prog a w K Q := by
  obtain ⟨i0, hi9, hz0, hz1, hz2⟩ := info_parts infoLk
  obtain ⟨v', w', r1, r2, r3, _⟩ := run_append_own (P := Try.prog) w base 27 o.type 47 i0 (.agg #[.int .i64 0, .int .i64 0, .int .i64 0]) 3 24 Try.underlying27 hi9 hz0 hz1 hz2 rfl (by decide) v n xs hown ad 1 c (lookV l) rfl hc
    (fun u hu => by simp [lookV] at hu; rcases hu with rfl | rfl | rfl <;> rfl) (by unfold maxLen; omega) (by omega) hbase
  unfold Oper.wp execOp
  simp only [ho, resolve, invoke, builtin, Sem.run_bind, Sem.run_pure, Result.andThen_ok, List.map_toArray, List.map_cons, List.map_nil, hs, hx, r1]
  exact h v' w' r2 r3
theorem new_look (w : World) (a b c : Int) (t : TypeId) : ∀ j u, (lookV (a, b, c))[j]? = some u → (w.alloc (.cells #[.int .i64 a, .int .i64 b, .int .i64 c] t)).cell? ((⟨w.heap.size, 0, none⟩ : Addr).add j) = some u := by
  intro j u hj
  have hj3 : j < 3 := by have := (List.getElem?_eq_some_iff.1 hj).1; simpa [lookV] using this
  have : j = 0 ∨ j = 1 ∨ j = 2 := by omega
  rcases this with rfl | rfl | rfl <;> (simp [lookV] at hj; subst hj; simp [go_sem])
theorem BX.refl (B : Nat) (w : World) : BX B w w := ⟨rfl, rfl, rfl, Nat.le_refl _, fun _ _ _ => rfl⟩
/-- What such a slice looks like. -/
theorem row_looks {W : World} {base n : Nat} {v : Value} {ls : List LkV} (h : W.ownsRow base 47 3 v n (ls.flatMap lookV)) (hn : ls.length = n) (hr : ∀ s ∈ ls, s.2.2 ≤ 9223372036854775807) : ∃ sa cap, v = .slice sa n cap ∧ LooksIn W sa ls ∧ ∀ b o, sa = some ⟨b, o, none⟩ → base ≤ b ∧ b < W.heap.size := by
  rcases h.2 with ⟨h1, h2⟩ | ⟨g, cap, cur, h1, hb, hg, _⟩
  · subst h1; subst h2
    exact ⟨none, 0, rfl, .inl (List.eq_nil_of_length_eq_zero hn), fun b o e => by cases e⟩
  · subst h1
    refine ⟨_, cap, rfl, looks_row h hn hr, fun b o e => ?_⟩
    injection e with e; injection e with e; subst e
    exact ⟨hb, (h.lt _ rfl).2⟩
theorem LooksIn.bx {X X' : World} {B : Nat} {a : Option Addr} {ls : List LkV} (h : LooksIn X a ls) (hx : BX B X X') (hne : ∀ b o, a = some ⟨b, o, none⟩ → b ≠ B) : LooksIn X' a ls := by
  rcases h with h0 | ⟨b, o, h1, h2, h3⟩
  · exact .inl h0
  · have hb := hne b o h1
    exact .inr ⟨b, o, h1, Nat.lt_of_lt_of_le h2 hx.size, fun k hk => by
      obtain ⟨e0, e1, e2, e3⟩ := h3 k hk
      exact ⟨(hx.cell b _ h2 hb).trans e0, (hx.cell b _ h2 hb).trans e1, (hx.cell b _ h2 hb).trans e2, e3⟩⟩
/-- A watch whose looks are being put together: block g is its box. -/
structure TK (w X : World) (g : Nat) (h : Wd) (sv : Value) (L : List LkV) : Prop where
  bx : BX g w X
  sl : Slots g 8 X
  f0 : X.cell? ⟨g, 0, none⟩ = some (.slice h.a h.n h.cap)
  f1 : X.cell? ⟨g, 1, none⟩ = some (.int .i64 h.eLo)
  f2 : X.cell? ⟨g, 2, none⟩ = some (.int .i64 h.eHi)
  f3 : X.cell? ⟨g, 3, none⟩ = some (.int .i64 h.images)
  f4 : X.cell? ⟨g, 4, none⟩ = some (.int .i64 h.eyes)
  f5 : X.cell? ⟨g, 5, none⟩ = some (.int .i64 h.hLo)
  f6 : X.cell? ⟨g, 6, none⟩ = some (.int .i64 h.hHi)
  f7 : X.cell? ⟨g, 7, none⟩ = some sv
  row : X.ownsRow w.heap.size 47 3 sv L.length (L.flatMap lookV)
  lt : g < w.heap.size
theorem BX.below' {B : Nat} {w X X' : World} (h : BX B w X) (hb : Below X.heap.size X X') : BX B w X' :=
  h.trans ⟨hb.os, hb.tape, hb.output, hb.size, fun i hi _ => hb.block i hi⟩
theorem TK.grown {w X X' : World} {g : Nat} {h : Wd} {sv : Value} {L : List LkV} (k : TK w X g h sv L) (hb : Below X.heap.size X X') : TK w X' g h sv L :=
  ⟨k.bx.below' hb, k.sl.below hb (lt8 k.sl), cellB k.f0 hb, cellB k.f1 hb, cellB k.f2 hb, cellB k.f3 hb, cellB k.f4 hb, cellB k.f5 hb, cellB k.f6 hb, cellB k.f7 hb,
    k.row.kept (row := none) ⟨hb.os, hb.tape, hb.output, hb.size, fun i hi _ => hb.block i hi⟩ (by cases h : sv.ownBlock <;> simp), k.lt⟩
theorem TK.put {w X X' : World} {g : Nat} {h : Wd} {sv v' : Value} {L : List LkV} {s : LkV} (k : TK w X g h sv L) (hg : X.grownBy X' sv.ownBlock) (hown : X'.ownsRow w.heap.size 47 3 v' (L.length + 1) (L.flatMap lookV ++ lookV s)) :
    TK w (X'.setCell ⟨g, 7, none⟩ v') g h v' (L ++ [s]) := by
  have hl := lt8 k.sl
  have hlt := k.lt
  have hb : ∀ b, b < w.heap.size → some b ≠ sv.ownBlock := fun b hb e => by have := (k.row.lt b e.symm).1; omega
  have c : ∀ o v, X.cell? ⟨g, o, none⟩ = some v → o ≠ 7 → (X'.setCell ⟨g, 7, none⟩ v').cell? ⟨g, o, none⟩ = some v := fun o v hv ho => by
    rw [World.cell?_setCell_other _ _ _ _ (by intro he; injection he; omega)]; exact hg.cell hv (hb _ hlt)
  refine ⟨?_, (slots_grownBy k.sl hg (hb _ hlt)).set _ _, c _ _ k.f0 (by omega), c _ _ k.f1 (by omega), c _ _ k.f2 (by omega), c _ _ k.f3 (by omega), c _ _ k.f4 (by omega), c _ _ k.f5 (by omega), c _ _ k.f6 (by omega), ?_, ?_, k.lt⟩
  · have h1 : BX g w X' := ⟨hg.os.trans k.bx.os, hg.tape.trans k.bx.tape, hg.output.trans k.bx.output, Nat.le_trans k.bx.size hg.size, fun i hi hn => (hg.block i (Nat.lt_of_lt_of_le hi k.bx.size) (hb i hi)).trans (k.bx.block i hi hn)⟩
    exact h1.trans (BX.set g 7 X' v')
  · exact World.cell?_setCell_same _ _ _ (hg.cell k.f7 (hb _ hlt))
  · rw [List.length_append, List.flatMap_append]
    have := ownsRow_setCell_below hown (a := ⟨g, 7, none⟩) hlt v'
    simpa using this
end Ey
end Go.Proofs.Ytcfjakifeihbpaa
