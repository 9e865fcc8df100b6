/- Plate: a plate that tells the truth, made of drawn numbers: the walk. -/
import Derived.Test.YtdkegkacpdkjgaaTruA
import Derived.Test.YtdkegkacpdkjgaaPsn
namespace Go.Proofs.Ytdkegkacpdkjgaa
open Go.RowKit

/-- Places in memory. -/
def Spots (X : World) (a : Option Addr) (is : List (Int × Int)) : Prop := is = [] ∨ ∃ g, a = some ⟨g, 0, none⟩ ∧ g < X.heap.size ∧ ∀ k, k < is.length → X.cell? ⟨g, k * 2, none⟩ = some (.int .i64 (is.getD k (0, 0)).1) ∧ X.cell? ⟨g, k * 2 + 1, none⟩ = some (.int .i64 (is.getD k (0, 0)).2)
def dir (q : Int × Int) (d : Bool) : Int := if d then q.2 else q.1
theorem flat_spot : ∀ (is : List (Int × Int)) (k : Nat), k < is.length → (is.flatMap spotV)[k * 2]? = some (.int .i64 (is.getD k (0, 0)).1) ∧ (is.flatMap spotV)[k * 2 + 1]? = some (.int .i64 (is.getD k (0, 0)).2)
  | [], _, h => by simp at h
  | q :: is, 0, _ => ⟨rfl, rfl⟩
  | q :: is, k + 1, h => by
    have ih := flat_spot is k (by simpa using h)
    have e : (k + 1) * 2 = k * 2 + 1 + 1 := by omega
    rw [List.flatMap_cons, e]
    exact ih
theorem spots_of_row {X : World} {M : Nat} {v : Value} {is : List (Int × Int)} (h : X.ownsRow M 39 2 v is.length (is.flatMap spotV)) : ∃ a cap, v = .slice a is.length cap ∧ Spots X a is := by
  rcases h.2 with ⟨h1, h2⟩ | ⟨g, cap, cur, h1, _⟩
  · exact ⟨none, 0, by rw [h1, h2], .inl (List.eq_nil_of_length_eq_zero h2)⟩
  · subst h1
    refine ⟨_, cap, rfl, .inr ⟨g, rfl, (h.lt g rfl).2, fun k hk => ?_⟩⟩
    obtain ⟨f0, f1⟩ := flat_spot is k hk
    exact ⟨by rw [h.cellAt _ (by omega), f0], by rw [h.cellAt _ (by omega), f1]⟩
theorem stars_of_row {X : World} {M : Nat} {v : Value} {ss : List St} (h : X.ownsRow M 55 9 v ss.length (ss.flatMap starC)) : ∃ a cap, v = .slice a ss.length cap ∧ StarsIn X a ss := by
  rcases h.2 with ⟨h1, h2⟩ | ⟨g, cap, cur, h1, _⟩
  · exact ⟨none, 0, by rw [h1, h2], .inl (List.eq_nil_of_length_eq_zero h2)⟩
  · subst h1
    exact ⟨_, cap, rfl, row_stars (h.lt g rfl).2 h⟩
structure MadeO (wb : World) (e : Ending) (w' : World) : Prop where
  out : ∃ (p : Pl) (ss : List St) (sc : Int) (co : Int × Int) (is ks : List (Int × Int)) (ia ka : Option Addr) (ic kc : Nat),
    e = .returned (.tuple #[.agg #[.int .i64 p.lo, .int .i64 p.hi, .slice p.a p.n p.cap], .int .i64 sc, .agg #[.int .i64 co.1, .int .i64 co.2], .slice ia p.n ic, .slice ka p.n kc]) ∧ Below wb.heap.size wb w' ∧ PlAt p ss w' ∧ (Spots w' ia is ∧ Spots w' ka ks) ∧ TruP p ss sc (dir co) (fun i => dir (is.getD i (0, 0))) ∧ (is.length = p.n ∧ ks.length = p.n) ∧
    ∀ i, i < p.n → ks.getD i (0, 0) = (skP sc (dir co) (dir (is.getD i (0, 0))) false, skP sc (dir co) (dir (is.getD i (0, 0))) true)
theorem slots_new2s (w : World) (a b : Value) (t : TypeId) : Slots w.heap.size 2 (w.alloc (.cells #[a, b] t)) := by
  intro o ho
  have : o = 0 ∨ o = 1 := by omega
  rcases this with rfl | rfl <;> simp [go_sem]
theorem slots_new9 (w : World) (t : TypeId) : Slots w.heap.size 9 (w.alloc (.cells #[.int .i64 0, .int .i64 0, .int .i64 0, .int .i64 0, .bool false, .int .i64 0, .int .i64 0, .int .i64 0, .int .i64 0] t)) := by
  intro o ho
  have : o = 0 ∨ o = 1 ∨ o = 2 ∨ o = 3 ∨ o = 4 ∨ o = 5 ∨ o = 6 ∨ o = 7 ∨ o = 8 := by omega
  rcases this with rfl | rfl | rfl | rfl | rfl | rfl | rfl | rfl | rfl <;> simp [go_sem]
theorem slots_lt {X : World} {B n : Nat} (h : Slots B n X) (hn : 0 < n) : B < X.heap.size := by
  obtain ⟨v, hv, _⟩ := h.get 0 hn
  exact World.block_lt_of_cell? _ _ hv
/-- Cel2 cells. -/
structure Cel2 (X : World) (g : Nat) (a b : Int) : Prop where
  c0 : X.cell? ⟨g, 0, none⟩ = some (.int .i64 a)
  c1 : X.cell? ⟨g, 1, none⟩ = some (.int .i64 b)
theorem Cel2.bx {X X' : World} {g B : Nat} {a b : Int} (k : Cel2 X g a b) (hx : BX B X X') (hn : g ≠ B) : Cel2 X' g a b := ⟨hx.keep hn k.c0, hx.keep hn k.c1⟩
theorem Cel2.grown {X X' : World} {g : Nat} {a b : Int} (k : Cel2 X g a b) (hb : Below X.heap.size X X') : Cel2 X' g a b := ⟨cellB k.c0 hb, cellB k.c1 hb⟩
theorem cel2_set {X : World} {g : Nat} (h : Slots g 2 X) (a b : Int) : Cel2 ((X.setCell ⟨g, 0, none⟩ (.int .i64 a)).setCell ⟨g, 1, none⟩ (.int .i64 b)) g a b := by
  obtain ⟨u0, q0, -⟩ := h.get 0 (by omega)
  obtain ⟨u1, q1, -⟩ := h.get 1 (by omega)
  exact ⟨by simp [go_sem, q0], by simp [go_sem, q1]⟩
theorem BX.put {B : Nat} {w X : World} (h : BX B w X) {g : Nat} (hg : w.heap.size ≤ g) (o : Nat) (v : Value) : BX B w (X.setCell ⟨g, o, none⟩ v) :=
  ⟨h.os, h.tape, h.output, by rw [World.size_setCell]; exact h.size, fun i hi hn => by rw [Below.heap_setCell _ _ _ _ (by show i ≠ g; omega)]; exact h.block i hi hn⟩
theorem StAt.bx {X X' : World} {g B : Nat} {s : St} (k : StAt s g 0 X) (hx : BX B X X') (hn : g ≠ B) : StAt s g 0 X' := StAt.of fun _ _ hu => hx.keep hn (k.at hu)
theorem mul_rng {sc a : Int} (h0 : 20 ≤ sc) (h1 : sc ≤ 979) (h2 : 0 ≤ a) (h3 : a < 30000) : 0 ≤ sc * a ∧ sc * a ≤ 29370000 := by
  have n0 := Int.mul_nonneg (show 0 ≤ sc by omega) h2
  have n1 := Int.mul_le_mul h1 (show a ≤ 30000 by omega) h2 (by omega : (0 : Int) ≤ 979)
  omega
theorem infoSp : (Try.prog.info? 39).map (fun i => (i.zero, i.size, i.bytes)) = some (some (.agg #[.int .i64 0, .int .i64 0]), 2, 16) := by kernel_rfl
theorem info_spot : ∃ i, Try.prog.info? 39 = some i ∧ i.zero = some (.agg #[.int .i64 0, .int .i64 0]) ∧ i.size = 2 ∧ i.bytes = 16 := by
  have h := infoSp
  cases h1 : Try.prog.info? 39 with
  | none => rw [h1] at h; cases h
  | some i =>
    rw [h1] at h
    simp only [Option.map_some, Option.some.injEq, Prod.mk.injEq] at h
    exact ⟨i, rfl, h.1, h.2.1, h.2.2⟩
/-- A star is stored. -/
def put9 (X : World) (g : Nat) (s : St) : World := ((((((((X.setCell ⟨g, 0, none⟩ (.int .i64 s.x0)).setCell ⟨g, 1, none⟩ (.int .i64 s.x1)).setCell ⟨g, 2, none⟩ (.int .i64 s.y0)).setCell ⟨g, 3, none⟩ (.int .i64 s.y1)).setCell ⟨g, 4, none⟩ (.bool s.k)).setCell ⟨g, 5, none⟩ (.int .i64 s.e0)).setCell ⟨g, 6, none⟩ (.int .i64 s.e1)).setCell ⟨g, 7, none⟩ (.int .i64 s.n0)).setCell ⟨g, 8, none⟩ (.int .i64 s.n1)
theorem put9_at {X : World} {g : Nat} (h : Slots g 9 X) (s : St) : StAt s g 0 (put9 X g s) := by
  obtain ⟨u0, q0, -⟩ := h.get 0 (by omega)
  obtain ⟨u1, q1, -⟩ := h.get 1 (by omega)
  obtain ⟨u2, q2, -⟩ := h.get 2 (by omega)
  obtain ⟨u3, q3, -⟩ := h.get 3 (by omega)
  obtain ⟨u4, q4, -⟩ := h.get 4 (by omega)
  obtain ⟨u5, q5, -⟩ := h.get 5 (by omega)
  obtain ⟨u6, q6, -⟩ := h.get 6 (by omega)
  obtain ⟨u7, q7, -⟩ := h.get 7 (by omega)
  obtain ⟨u8, q8, -⟩ := h.get 8 (by omega)
  unfold put9
  exact ⟨by simp [go_sem, q0], by simp [go_sem, q1], by simp [go_sem, q2], by simp [go_sem, q3], by simp [go_sem, q4], by simp [go_sem, q5], by simp [go_sem, q6], by simp [go_sem, q7], by simp [go_sem, q8]⟩
theorem put9_bx (X : World) (g : Nat) (s : St) : BX g X (put9 X g s) :=
  ((((((((BX.set g 0 X _).trans (BX.set g 1 _ _)).trans (BX.set g 2 _ _)).trans (BX.set g 3 _ _)).trans (BX.set g 4 _ _)).trans (BX.set g 5 _ _)).trans (BX.set g 6 _ _)).trans (BX.set g 7 _ _)).trans (BX.set g 8 _ _)
theorem BX.put9 {B : Nat} {w X : World} (h : BX B w X) {g : Nat} (hg : w.heap.size ≤ g) (s : St) : BX B w (put9 X g s) :=
  ((((((((h.put hg 0 _).put hg 1 _).put hg 2 _).put hg 3 _).put hg 4 _).put hg 5 _).put hg 6 _).put hg 7 _).put hg 8 _
section
variable {f : MF} {X X' : World} {g g' n cap : Nat} {xs : List Value} {vs vi vk : Value}
theorem NB.grown (k : NB f X g xs vs vi vk) (hb : Below X.heap.size X X') : NB f X' g xs vs vi vk :=
  ⟨fun j u hu => by
    have hadd : (⟨g, 0, none⟩ : Addr).add j = ⟨g, j, none⟩ := by unfold Addr.add; split <;> simp_all
    have := k.nw j u hu
    rw [hadd] at this ⊢
    exact cellB this hb, Nat.lt_of_lt_of_le k.lt hb.size, k.m, k.n1, k.n2, k.n3⟩
theorem NB.by (k : NB f X g xs vs vi vk) {row : Option Nat} (hg : X.grownBy X' row) (hn : some g ≠ row) : (∀ j u, xs[j]? = some u → X'.cell? ((⟨g, 0, none⟩ : Addr).add j) = some u) ∧ g < X'.heap.size :=
  ⟨fun j u hu => by
    have hadd : (⟨g, 0, none⟩ : Addr).add j = ⟨g, j, none⟩ := by unfold Addr.add; split <;> simp_all
    have := k.nw j u hu
    rw [hadd] at this ⊢
    exact cell_by this hg hn, Nat.lt_of_lt_of_le k.lt hg.size⟩
theorem NB.fresh (k : NB f X g xs vs vi vk) {v : Value} (hn : v.ownBlock ≠ some g) (hf : v.ownBlock = some g' ∨ g' = X.heap.size) : (Value.slice (some ⟨g', 0, none⟩) n cap).ownBlock ≠ some g := fun e => by
  have e : some g' = some g := e
  rcases hf with h | h
  · exact hn (h.trans e)
  · injection e with e; have := k.lt; omega
theorem NB.appS (k : NB f X g xs vs vi vk) (hg : X.grownBy X' vs.ownBlock) (hf : vs.ownBlock = some g' ∨ g' = X.heap.size) : NB f X' g xs (.slice (some ⟨g', 0, none⟩) n cap) vi vk :=
  ⟨(k.by hg (Ne.symm k.n1)).1, (k.by hg (Ne.symm k.n1)).2, k.m, k.fresh k.n1 hf, k.n2, k.n3⟩
theorem NB.appI (k : NB f X g xs vs vi vk) (hg : X.grownBy X' vi.ownBlock) (hf : vi.ownBlock = some g' ∨ g' = X.heap.size) : NB f X' g xs vs (.slice (some ⟨g', 0, none⟩) n cap) vk :=
  ⟨(k.by hg (Ne.symm k.n2)).1, (k.by hg (Ne.symm k.n2)).2, k.m, k.n1, k.fresh k.n2 hf, k.n3⟩
theorem NB.appK (k : NB f X g xs vs vi vk) (hg : X.grownBy X' vk.ownBlock) (hf : vk.ownBlock = some g' ∨ g' = X.heap.size) : NB f X' g xs vs vi (.slice (some ⟨g', 0, none⟩) n cap) :=
  ⟨(k.by hg (Ne.symm k.n3)).1, (k.by hg (Ne.symm k.n3)).2, k.m, k.n1, k.n2, k.fresh k.n3 hf⟩
end
/-- What the last lines of a round read. -/
structure SB (f : MF) (X : World) (v2 : Value) (g8 : Nat) (xa xb : Int) (g9 : Nat) (ua ub : Int) (g10 : Nat) (s : St) (vs vi vk : Value) : Prop where
  p2 : X.cell? ⟨f.B, 2, none⟩ = some v2
  t8 : Cel2 X g8 xa xb
  t9 : Cel2 X g9 ua ub
  st : StAt s g10 0 X
  l8 : g8 < X.heap.size
  l9 : g9 < X.heap.size
  l10 : g10 < X.heap.size
  m8 : f.M ≤ g8
  m9 : f.M ≤ g9
  m10 : f.M ≤ g10
  o8 : vs.ownBlock ≠ some g8 ∧ vi.ownBlock ≠ some g8 ∧ vk.ownBlock ≠ some g8
  o9 : vs.ownBlock ≠ some g9 ∧ vi.ownBlock ≠ some g9 ∧ vk.ownBlock ≠ some g9
  o10 : vs.ownBlock ≠ some g10 ∧ vi.ownBlock ≠ some g10 ∧ vk.ownBlock ≠ some g10
section
variable {f : MF} {X X' : World} {g8 g9 g10 g' n cap : Nat} {v2 vs vi vk : Value} {xa xb ua ub : Int} {s : St}
theorem own_fresh {v : Value} {g : Nat} (hl : g < X.heap.size) (hn : v.ownBlock ≠ some g) (hf : v.ownBlock = some g' ∨ g' = X.heap.size) : (Value.slice (some ⟨g', 0, none⟩) n cap).ownBlock ≠ some g := fun e => by
  have e : some g' = some g := e
  rcases hf with h | h
  · exact hn (h.trans e)
  · injection e with e; omega
theorem SB.by (ok : MFok f) (k : SB f X v2 g8 xa xb g9 ua ub g10 s vs vi vk) {row : Option Nat} (hg : X.grownBy X' row) (hr : ∀ b, row = some b → f.M ≤ b) (h8 : row ≠ some g8) (h9 : row ≠ some g9) (h10 : row ≠ some g10) {vs' vi' vk' : Value}
    (o8 : vs'.ownBlock ≠ some g8 ∧ vi'.ownBlock ≠ some g8 ∧ vk'.ownBlock ≠ some g8) (o9 : vs'.ownBlock ≠ some g9 ∧ vi'.ownBlock ≠ some g9 ∧ vk'.ownBlock ≠ some g9) (o10 : vs'.ownBlock ≠ some g10 ∧ vi'.ownBlock ≠ some g10 ∧ vk'.ownBlock ≠ some g10) : SB f X' v2 g8 xa xb g9 ua ub g10 s vs' vi' vk' :=
  ⟨cell_by k.p2 hg (fun e => by have := hr f.B e.symm; have := ok.mB; omega), ⟨cell_by k.t8.c0 hg (Ne.symm h8), cell_by k.t8.c1 hg (Ne.symm h8)⟩, ⟨cell_by k.t9.c0 hg (Ne.symm h9), cell_by k.t9.c1 hg (Ne.symm h9)⟩, StAt.of fun _ _ hu => cell_by (k.st.at hu) hg (Ne.symm h10),
    Nat.lt_of_lt_of_le k.l8 hg.size, Nat.lt_of_lt_of_le k.l9 hg.size, Nat.lt_of_lt_of_le k.l10 hg.size, k.m8, k.m9, k.m10, o8, o9, o10⟩
theorem SB.grown (ok : MFok f) (k : SB f X v2 g8 xa xb g9 ua ub g10 s vs vi vk) (hb : Below X.heap.size X X') : SB f X' v2 g8 xa xb g9 ua ub g10 s vs vi vk :=
  k.by ok (below_by hb none) (fun b e => by cases e) (fun e => by cases e) (fun e => by cases e) (fun e => by cases e) k.o8 k.o9 k.o10
theorem SB.appS (ok : MFok f) (k : SB f X v2 g8 xa xb g9 ua ub g10 s vs vi vk) (hg : X.grownBy X' vs.ownBlock) (hr : ∀ b, vs.ownBlock = some b → f.M ≤ b) (hf : vs.ownBlock = some g' ∨ g' = X.heap.size) : SB f X' v2 g8 xa xb g9 ua ub g10 s (.slice (some ⟨g', 0, none⟩) n cap) vi vk :=
  k.by ok hg hr k.o8.1 k.o9.1 k.o10.1 ⟨own_fresh k.l8 k.o8.1 hf, k.o8.2⟩ ⟨own_fresh k.l9 k.o9.1 hf, k.o9.2⟩ ⟨own_fresh k.l10 k.o10.1 hf, k.o10.2⟩
theorem SB.appI (ok : MFok f) (k : SB f X v2 g8 xa xb g9 ua ub g10 s vs vi vk) (hg : X.grownBy X' vi.ownBlock) (hr : ∀ b, vi.ownBlock = some b → f.M ≤ b) (hf : vi.ownBlock = some g' ∨ g' = X.heap.size) : SB f X' v2 g8 xa xb g9 ua ub g10 s vs (.slice (some ⟨g', 0, none⟩) n cap) vk :=
  k.by ok hg hr k.o8.2.1 k.o9.2.1 k.o10.2.1 ⟨k.o8.1, own_fresh k.l8 k.o8.2.1 hf, k.o8.2.2⟩ ⟨k.o9.1, own_fresh k.l9 k.o9.2.1 hf, k.o9.2.2⟩ ⟨k.o10.1, own_fresh k.l10 k.o10.2.1 hf, k.o10.2.2⟩
theorem SB.appK (ok : MFok f) (k : SB f X v2 g8 xa xb g9 ua ub g10 s vs vi vk) (hg : X.grownBy X' vk.ownBlock) (hr : ∀ b, vk.ownBlock = some b → f.M ≤ b) (hf : vk.ownBlock = some g' ∨ g' = X.heap.size) : SB f X' v2 g8 xa xb g9 ua ub g10 s vs vi (.slice (some ⟨g', 0, none⟩) n cap) :=
  k.by ok hg hr k.o8.2.2 k.o9.2.2 k.o10.2.2 ⟨k.o8.1, k.o8.2.1, own_fresh k.l8 k.o8.2.2 hf⟩ ⟨k.o9.1, k.o9.2.1, own_fresh k.l9 k.o9.2.2 hf⟩ ⟨k.o10.1, k.o10.2.1, own_fresh k.l10 k.o10.2.2 hf⟩
theorem SB.all (k : SB f X v2 g8 xa xb g9 ua ub g10 s vs vi vk) : X.cell? ⟨f.B, 2, none⟩ = some v2 ∧ (X.cell? ⟨g8, 0, none⟩ = some (.int .i64 xa) ∧ X.cell? ⟨g8, 1, none⟩ = some (.int .i64 xb)) ∧ (X.cell? ⟨g9, 0, none⟩ = some (.int .i64 ua) ∧ X.cell? ⟨g9, 1, none⟩ = some (.int .i64 ub)) ∧
    X.cell? ⟨g10, 0, none⟩ = some (.int .i64 s.x0) ∧ X.cell? ⟨g10, 1, none⟩ = some (.int .i64 s.x1) ∧ X.cell? ⟨g10, 2, none⟩ = some (.int .i64 s.y0) ∧ X.cell? ⟨g10, 3, none⟩ = some (.int .i64 s.y1) ∧ X.cell? ⟨g10, 4, none⟩ = some (.bool s.k) ∧ X.cell? ⟨g10, 5, none⟩ = some (.int .i64 s.e0) ∧ X.cell? ⟨g10, 6, none⟩ = some (.int .i64 s.e1) ∧ X.cell? ⟨g10, 7, none⟩ = some (.int .i64 s.n0) ∧ X.cell? ⟨g10, 8, none⟩ = some (.int .i64 s.n1) := by
  have h := fun r u (hu : (starC s)[r]? = some u) => k.st.at hu
  have h' : ∀ r u, (starC s)[r]? = some u → X.cell? ⟨g10, r, none⟩ = some u := fun r u hu => by have := h r u hu; rwa [Nat.zero_add] at this
  exact ⟨k.p2, ⟨k.t8.c0, k.t8.c1⟩, ⟨k.t9.c0, k.t9.c1⟩, h' 0 _ rfl, h' 1 _ rfl, h' 2 _ rfl, h' 3 _ rfl, h' 4 _ rfl, h' 5 _ rfl, h' 6 _ rfl, h' 7 _ rfl, h' 8 _ rfl⟩
end
/-- Images and stars so far tell the truth. -/
def TruL (sc : Int) (co : Int × Int) (ss : List St) (is ks : List (Int × Int)) : Prop :=
  ∀ i, i < ss.length → TruS sc (dir co) (dir (is.getD i (0, 0))) (ss.getD i default) ∧ ks.getD i (0, 0) = (skP sc (dir co) (dir (is.getD i (0, 0))) false, skP sc (dir co) (dir (is.getD i (0, 0))) true)
theorem getD_push {α : Type} {l : List α} {x d : α} {i : Nat} (hi : i < (l ++ [x]).length) : (l ++ [x]).getD i d = if i < l.length then l.getD i d else x := by
  by_cases h : i < l.length
  · rw [if_pos h]; simp [List.getD, List.getElem?_append_left h]
  · rw [if_neg h]
    have : i = l.length := by simp at hi; omega
    subst this
    simp [List.getD]
theorem tru_push {sc : Int} {co : Int × Int} {ss : List St} {is ks : List (Int × Int)} {s : St} {q : Int × Int} {ua ub : Int} (h : TruL sc co ss is ks) (h1 : ss.length = is.length) (h2 : ss.length = ks.length) (hs : TruS sc (dir co) (dir q) s)
    (h3 : skP sc (dir co) (dir q) false = ua) (h4 : skP sc (dir co) (dir q) true = ub) : TruL sc co (ss ++ [s]) (is ++ [q]) (ks ++ [(ua, ub)]) := fun i hi => by
  have hi1 : i < (is ++ [q]).length := by simp at hi ⊢; omega
  have hi2 : i < (ks ++ [(ua, ub)]).length := by simp at hi ⊢; omega
  rw [getD_push hi, getD_push hi1, getD_push hi2, ← h1, ← h2]
  by_cases hl : i < ss.length
  · rw [if_pos hl, if_pos hl, if_pos hl]; exact h i hl
  · rw [if_neg hl, if_neg hl, if_neg hl]; exact ⟨hs, by rw [h3, h4]⟩
/-- An image was drawn. -/
def R7 (f : MF) (w : World) (c : Nat) (v : Value) (X : World) : Prop :=
  ∃ g a b, v = .pointer (some ⟨g, 0, none⟩) ∧ (0 ≤ a ∧ a < 30000) ∧ (0 ≤ b ∧ b < 30000) ∧ w.heap.size ≤ g ∧ Cel2 X g a b ∧ BX f.gA w X ∧ DS X f.gA f.gY (c + 2) f.yb f.yo f.yn f.yc
/-- Where its image is. -/
def R9 (f : MF) (w : World) (c g8 g9 : Nat) (xa xb ua ub : Int) (v : Value) (X : World) : Prop :=
  ∃ g x0 x1 y0 y1, v = .pointer (some ⟨g, 0, none⟩) ∧ ((0 ≤ x0 ∧ x0 ≤ xa) ∧ xa ≤ x1 ∧ x1 < xa + 8) ∧ ((0 ≤ y0 ∧ y0 ≤ xb) ∧ xb ≤ y1 ∧ y1 < xb + 8) ∧ (w.heap.size ≤ g ∧ g ≠ g8 ∧ g ≠ g9) ∧ Slots g 9 X ∧ StAt ⟨x0, x1, y0, y1, false, 0, 0, 0, 0⟩ g 0 X ∧ Cel2 X g8 xa xb ∧ Cel2 X g9 ua ub ∧ BX f.gA w X ∧ DS X f.gA f.gY (c + 6) f.yb f.yo f.yn f.yc
/-- What is said of it. -/
def R11 (f : MF) (w : World) (c : Nat) (sc : Int) (co m : Bool → Int) (g8 g9 g10 : Nat) (xa xb ua ub : Int) (X : World) : Prop :=
  ∃ s c', StAt s g10 0 X ∧ TruS sc co m s ∧ Cel2 X g8 xa xb ∧ Cel2 X g9 ua ub ∧ BX f.gA w X ∧ DS X f.gA f.gY c' f.yb f.yo f.yn f.yc ∧ c' ≤ c + 11
def R12 (f : MF) (lo hi ce cn : Int) (ss : List St) (is ks : List (Int × Int)) (vi vk : Value) (X : World) (c : Nat) : Prop :=
  ∃ vs, MC f X c lo hi vs ce cn ∧ MR f X vs vi vk ss is ks
set_option maxRecDepth 100000 in
set_option maxHeartbeats 16000000 in
theorem made_any (gA gY yb yo yn yc : Nat) (wb w : World) (hwb : Below wb.heap.size wb w) (hd : DS w gA gY 0 yb yo yn yc) (hA : wb.heap.size ≤ gA) (hY : wb.heap.size ≤ gY) (hok : DOk gA gY yb yn) (hyb : yb < wb.heap.size) :
    Calls Try.prog 18 #[.func (.func 57) #[] #[.pointer (some ⟨gA, 0, none⟩), .pointer (some ⟨gY, 0, none⟩)]] w (MadeO wb) := by
  have hmf : ∀ (fn : Fn) (first cap : Array Value) (w : World), (Instr.makeFunc fn first cap).run Try.prog w = .ok (.func fn first cap) w := fun _ _ _ _ => rfl
  obtain ⟨f, hf⟩ : ∃ f : MF, f = ⟨gA, gY, w.heap.size, w.heap.size + 1, w.heap.size + 1 + 1, w.heap.size + 1 + 1 + 1, yb, yo, yn, yc, wb⟩ := ⟨_, rfl⟩
  have lA : gA < w.heap.size := World.block_lt_of_cell? _ _ hd.ca
  have lY : gY < w.heap.size := World.block_lt_of_cell? _ _ hd.cy
  have hws := hwb.size
  have ok : MFok f := by
    subst hf
    constructor <;> (try exact hok) <;> (try exact hA) <;> (try exact hY) <;> (try exact hyb) <;> dsimp only <;> omega
  obtain ⟨w0, hw0⟩ : ∃ X, ((w.alloc (.cells #[.func (.func 57) #[] #[.pointer (some ⟨gA, 0, none⟩), .pointer (some ⟨gY, 0, none⟩)]] 43)).alloc (.cells #[.int .i64 0, .int .i64 0, .slice none 0 0] 29)).alloc (.cells #[.int .i64 0, .int .i64 0] 39) = X := ⟨_, rfl⟩
  have hW : Below w.heap.size w w0 := by rw [← hw0]; exact BA (BA (newB _ _) _) _
  have hk0 : MC f w0 0 0 0 (.slice none 0 0) 0 0 := by
    subst hf
    refine ⟨hd.below hW, ?_, ?_, ?_, ?_, ?_, ?_, ?_, ?_, BT hwb hW, ?_⟩
    all_goals rw [← hw0]
    all_goals first | (simp [go_sem]; done) | skip
    · have h := (slots_new3 (w.alloc (.cells #[.func (.func 57) #[] #[.pointer (some ⟨gA, 0, none⟩), .pointer (some ⟨gY, 0, none⟩)]] 43)) (.int .i64 0) (.int .i64 0) (.slice none 0 0) 29).below (newB _ (.cells #[.int .i64 0, .int .i64 0] 39)) (by simp only [World.size_alloc]; omega)
      rw [World.size_alloc] at h; exact h
    · have h := slots_new2s ((w.alloc (.cells #[.func (.func 57) #[] #[.pointer (some ⟨gA, 0, none⟩), .pointer (some ⟨gY, 0, none⟩)]] 43)).alloc (.cells #[.int .i64 0, .int .i64 0, .slice none 0 0] 29)) (.int .i64 0) (.int .i64 0) 39
      rw [World.size_alloc, World.size_alloc] at h; exact h
  have hr0 : MR f w0 (.slice none 0 0) (.slice none 0 0) (.slice none 0 0) [] [] [] := ⟨World.ownsRow_nil _ _ _ _, World.ownsRow_nil _ _ _ _, World.ownsRow_nil _ _ _ _, .inl rfl⟩
  have eA : f.gA = gA := by rw [hf]
  have eY : f.gY = gY := by rw [hf]
  have eF : f.F = w.heap.size := by rw [hf]
  have eB : f.B = w.heap.size + 1 := by rw [hf]
  have eC : f.C = w.heap.size + 1 + 1 := by rw [hf]
  have eW : f.wb = wb := by rw [hf]
  clear hd hW hwb hA hY hok hyb hws
  rw [← eW]
  rw [← eA, ← eY] at hw0 ⊢
  clear hf eA eY eW lA lY
  go_enter Try.func18, Try.ntmps18
  go_upto_region 1 with fail
  rw [← eC, ← eB, ← eF]
  clear eC eB eF hw0
  have fn := hk0.fn
  go_wp2_with fail
  refine (draw_any f.gA f.gY 0 f.yb f.yo f.yn f.yc 960 w0 ok.d hk0.ds (by omega) (by omega)).mono ?_
  rintro e w1 ⟨d, rfl, ⟨q0, q1⟩, hx, hd⟩
  have hk1 := hk0.bx ok hx hd
  have hr1 := hr0.low ok.mA hx
  clear hk0 hr0 hx hd fn
  go_upto_region 2 with fail
  obtain ⟨sc, hsc⟩ : ∃ sc : Int, 20 + d = sc := ⟨_, rfl⟩
  rw [hsc]
  have hs0 : 20 ≤ sc ∧ sc ≤ 979 := by omega
  clear hsc q0 q1
  have hI : Hid (∀ Y, BX f.gA w1 Y → Y.cell? ⟨f.F, 0, none⟩ = some (.func (.func 57) #[] #[.pointer (some ⟨f.gA, 0, none⟩), .pointer (some ⟨f.gY, 0, none⟩)])) := fun Y hY => hY.keep ok.nFA hk1.fn
  have hx0 := BX.drew f.gA w1
  have hd0 := hk1.ds.below (Below.drew (Below.refl _ w1))
  refine wp_region_seq [(0, true), (1, true), (4, true), (5, true), (2, false), (3, true), (6, false), (7, true), (8, false), (9, true), (10, false)] (fun Y => Y.cell? ⟨f.F, 0, none⟩ = some (.func (.func 57) #[] #[.pointer (some ⟨f.gA, 0, none⟩), .pointer (some ⟨f.gY, 0, none⟩)])) (by kernel_rfl) (by kernel_rfl) (fun _ _ d _ _ h => by cases d <;> exact h) (hI.out _ hx0) ?_
  generalize w1.drew = Y0 at *
  repeat (first | (refine seq_read rfl (by rfl) _ (fun w' hS => by (try dsimp only at hS); go_simp; (try with_reducible rfl)) ?_; (try simp only [Act.put, List.setIfInBounds_toArray, List.set_cons_zero, List.set_cons_succ])) | (refine seq_skip rfl (by rfl) ?_; (try simp only [Act.put, List.setIfInBounds_toArray, List.set_cons_zero, List.set_cons_succ])))
  refine seq_do rfl (by rfl) (fun K hK => ?_)
  go_simp
  refine (draw_any f.gA f.gY (0 + 1) f.yb f.yo f.yn f.yc 20 Y0 ok.d hd0 (by omega) (by omega)).mono ?_
  rintro e Y1 ⟨d1, rfl, ⟨q1a, q1b⟩, hx, hd1⟩
  have hx1 := hx0.trans hx
  refine hK _ _ (hI.out _ hx1) ?_
  clear hK K hx hx0 hd0
  (try simp only [Act.put, List.setIfInBounds_toArray, List.set_cons_zero, List.set_cons_succ])
  have elo : IntKind.i64.wrap (sc - d1) = sc - d1 := IntWalk.i64_in _ (by omega)
  repeat (first | (refine seq_read rfl (by rfl) _ (fun w' hS => by (try dsimp only at hS); go_simp; (try with_reducible rfl)) ?_; (try simp only [Act.put, List.setIfInBounds_toArray, List.set_cons_zero, List.set_cons_succ])) | (refine seq_skip rfl (by rfl) ?_; (try simp only [Act.put, List.setIfInBounds_toArray, List.set_cons_zero, List.set_cons_succ])))
  obtain ⟨lo, hlo⟩ : ∃ lo : Int, sc - d1 = lo := ⟨_, rfl⟩
  have hlo0 : 1 ≤ lo ∧ lo ≤ sc := by omega
  clear elo
  rw [hlo]
  clear hlo q1a q1b
  refine seq_do rfl (by rfl) (fun K hK => ?_)
  go_simp
  refine (draw_any f.gA f.gY (0 + 1 + 1) f.yb f.yo f.yn f.yc 20 Y1 ok.d hd1 (by omega) (by omega)).mono ?_
  rintro e Y2 ⟨d2, rfl, ⟨q2a, q2b⟩, hx, hd2⟩
  have hx2 := hx1.trans hx
  refine hK _ _ (hI.out _ hx2) ?_
  clear hK K hx hx1 hd1
  (try simp only [Act.put, List.setIfInBounds_toArray, List.set_cons_zero, List.set_cons_succ])
  have ehi : IntKind.i64.wrap (sc + d2) = sc + d2 := IntWalk.i64_in _ (by omega)
  repeat (first | (refine seq_read rfl (by rfl) _ (fun w' hS => by (try dsimp only at hS); go_simp; (try with_reducible rfl)) ?_; (try simp only [Act.put, List.setIfInBounds_toArray, List.set_cons_zero, List.set_cons_succ])) | (refine seq_skip rfl (by rfl) ?_; (try simp only [Act.put, List.setIfInBounds_toArray, List.set_cons_zero, List.set_cons_succ])))
  obtain ⟨hi, hhi⟩ : ∃ hi : Int, sc + d2 = hi := ⟨_, rfl⟩
  have hhi0 : sc ≤ hi ∧ hi ≤ 1000 := by omega
  clear ehi
  rw [hhi]
  clear hhi q2a q2b
  refine seq_do rfl (by rfl) (fun K hK => ?_)
  go_simp
  refine (spanL_any lo hi Y2).mono ?_
  rintro e Y3 ⟨rfl, hx⟩
  have hx3 := hx2.then hx
  have hd3 := hd2.below hx
  refine hK _ _ (hI.out _ hx3) ?_
  clear hK K hx hx2 hd2
  (try simp only [Act.put, List.setIfInBounds_toArray, List.set_cons_zero, List.set_cons_succ])
  repeat (first | (refine seq_read rfl (by rfl) _ (fun w' hS => by (try dsimp only at hS); go_simp; (try with_reducible rfl)) ?_; (try simp only [Act.put, List.setIfInBounds_toArray, List.set_cons_zero, List.set_cons_succ])) | (refine seq_skip rfl (by rfl) ?_; (try simp only [Act.put, List.setIfInBounds_toArray, List.set_cons_zero, List.set_cons_succ])))
  refine seq_last rfl (by rfl) (by kernel_rfl) (fun K hK => ?_)
  have hk2 := hk1.bx ok hx3 hd3
  have hr2 := hr1.low ok.mA hx3
  obtain ⟨u0, q0, f0⟩ := hk2.sp.get 0 (by omega)
  obtain ⟨u1, q1, f1⟩ := hk2.sp.get 1 (by omega)
  have hk3 := hk2.span ok lo hi
  have hr3 := hr2.low ok.mB ((BX.set f.B 0 Y3 (.int .i64 lo)).trans (BX.set f.B 1 _ (.int .i64 hi)))
  go_simp
  refine hK _ _ ?_
  clear hK K hk1 hr1 hk2 hr2 hx3 hd3 u0 q0 f0 u1 q1 f1 hI
  generalize (Y3.setCell ⟨f.B, 0, none⟩ (.int .i64 lo)).setCell ⟨f.B, 1, none⟩ (.int .i64 hi) = w2 at *
  show Exit.then _ _ Exit.normal _ _
  go_upto_region 3 with fail
  have hI : Hid (∀ Y, BX f.gA w2 Y → Y.cell? ⟨f.F, 0, none⟩ = some (.func (.func 57) #[] #[.pointer (some ⟨f.gA, 0, none⟩), .pointer (some ⟨f.gY, 0, none⟩)])) := fun Y hY => hY.keep ok.nFA hk3.fn
  have hx0 := BX.drew f.gA w2
  have hd0 := hk3.ds.below (Below.drew (Below.refl _ w2))
  refine wp_region_seq [(0, true), (3, true), (1, false), (2, true), (4, false), (5, true), (6, true), (7, false)] (fun Y => Y.cell? ⟨f.F, 0, none⟩ = some (.func (.func 57) #[] #[.pointer (some ⟨f.gA, 0, none⟩), .pointer (some ⟨f.gY, 0, none⟩)])) (by kernel_rfl) (by kernel_rfl) (fun _ _ d _ _ h => by cases d <;> exact h) (hI.out _ hx0) ?_
  generalize w2.drew = Y0 at *
  repeat (first | (refine seq_read rfl (by rfl) _ (fun w' hS => by (try dsimp only at hS); go_simp; (try with_reducible rfl)) ?_; (try simp only [Act.put, List.setIfInBounds_toArray, List.set_cons_zero, List.set_cons_succ])) | (refine seq_skip rfl (by rfl) ?_; (try simp only [Act.put, List.setIfInBounds_toArray, List.set_cons_zero, List.set_cons_succ])))
  refine seq_do rfl (by rfl) (fun K hK => ?_)
  go_simp
  refine (draw_any f.gA f.gY (0 + 1 + 1 + 1) f.yb f.yo f.yn f.yc 20000 Y0 ok.d hd0 (by omega) (by omega)).mono ?_
  rintro e Y1 ⟨d1, rfl, ⟨q1a, q1b⟩, hx, hd1⟩
  have hx1 := hx0.trans hx
  refine hK _ _ (hI.out _ hx1) ?_
  clear hK K hx hx0 hd0
  (try simp only [Act.put, List.setIfInBounds_toArray, List.set_cons_zero, List.set_cons_succ])
  have elo : IntKind.i64.wrap (d1 - 10000) = d1 - 10000 := IntWalk.i64_in _ (by omega)
  repeat (first | (refine seq_read rfl (by rfl) _ (fun w' hS => by (try dsimp only at hS); go_simp; (try with_reducible rfl)) ?_; (try simp only [Act.put, List.setIfInBounds_toArray, List.set_cons_zero, List.set_cons_succ])) | (refine seq_skip rfl (by rfl) ?_; (try simp only [Act.put, List.setIfInBounds_toArray, List.set_cons_zero, List.set_cons_succ])))
  obtain ⟨ce, hce⟩ : ∃ ce : Int, d1 - 10000 = ce := ⟨_, rfl⟩
  have hce0 : -10000 ≤ ce ∧ ce ≤ 10000 := by omega
  clear elo
  rw [hce]
  clear hce q1a q1b
  refine seq_do rfl (by rfl) (fun K hK => ?_)
  go_simp
  refine (draw_any f.gA f.gY (0 + 1 + 1 + 1 + 1) f.yb f.yo f.yn f.yc 20000 Y1 ok.d hd1 (by omega) (by omega)).mono ?_
  rintro e Y2 ⟨d2, rfl, ⟨q2a, q2b⟩, hx, hd2⟩
  have hx2 := hx1.trans hx
  refine hK _ _ (hI.out _ hx2) ?_
  clear hK K hx hx1 hd1
  (try simp only [Act.put, List.setIfInBounds_toArray, List.set_cons_zero, List.set_cons_succ])
  have elo : IntKind.i64.wrap (d2 - 10000) = d2 - 10000 := IntWalk.i64_in _ (by omega)
  repeat (first | (refine seq_read rfl (by rfl) _ (fun w' hS => by (try dsimp only at hS); go_simp; (try with_reducible rfl)) ?_; (try simp only [Act.put, List.setIfInBounds_toArray, List.set_cons_zero, List.set_cons_succ])) | (refine seq_skip rfl (by rfl) ?_; (try simp only [Act.put, List.setIfInBounds_toArray, List.set_cons_zero, List.set_cons_succ])))
  obtain ⟨cn, hcn⟩ : ∃ cn : Int, d2 - 10000 = cn := ⟨_, rfl⟩
  have hcn0 : -10000 ≤ cn ∧ cn ≤ 10000 := by omega
  clear elo
  rw [hcn]
  clear hcn q2a q2b
  refine seq_last rfl (by rfl) (by kernel_rfl) (fun K hK => ?_)
  have hk4 := hk3.bx ok hx2 hd2
  have hr4 := hr3.low ok.mA hx2
  obtain ⟨u0, q0, f0⟩ := hk4.sq.get 0 (by omega)
  obtain ⟨u1, q1, f1⟩ := hk4.sq.get 1 (by omega)
  have hk5 := hk4.corn ok ce cn
  have hr5 := hr4.low ok.mC ((BX.set f.C 0 Y2 (.int .i64 ce)).trans (BX.set f.C 1 _ (.int .i64 cn)))
  go_simp
  refine hK _ _ ?_
  clear hK K hk3 hr3 hk4 hr4 hx2 hd2 u0 q0 f0 u1 q1 f1 hI
  generalize (Y2.setCell ⟨f.C, 0, none⟩ (.int .i64 ce)).setCell ⟨f.C, 1, none⟩ (.int .i64 cn) = w3 at *
  show Exit.then _ _ Exit.normal _ _
  have fn := hk5.fn
  go_wp2_with fail
  refine (draw_any f.gA f.gY (0 + 1 + 1 + 1 + 1 + 1) f.yb f.yo f.yn f.yc 11 w3 ok.d hk5.ds (by omega) (by omega)).mono ?_
  rintro e w4 ⟨N, rfl, ⟨q0, q1⟩, hx, hd⟩
  have hk6 := hk5.bx ok hx hd
  have hr6 := hr5.low ok.mA hx
  obtain ⟨n, rfl⟩ : ∃ n : Nat, N = (n : Int) := ⟨N.toNat, by omega⟩
  have hn10 : n ≤ 10 := by omega
  clear hk5 hr5 hx hd fn q0 q1
  go_upto_region 6 with fail
  have HTL : TruL sc (ce, cn) [] [] [] := fun i hi => by cases hi
  go_loopw [34, 5, 6] (fun i vi vk wr => ∃ (k c : Nat) (vs : Value) (ss : List St) (is ks : List (Int × Int)), k ≤ n ∧ i = .int .i64 k ∧ (ss.length = k ∧ is.length = k ∧ ks.length = k) ∧ c ≤ 6 + 11 * k ∧ Hid (MC f wr c lo hi vs ce cn) ∧ Hid (MR f wr vs vi vk ss is ks) ∧ Hid (TruL sc (ce, cn) ss is ks)) (fun i _ _ _ => n - (intOf i).toNat)
  case atStart => exact ⟨0, _, _, [], [], [], by omega, rfl, ⟨rfl, rfl, rfl⟩, by omega, hk6, hr6, HTL⟩
  case round =>
    clear hk6 hr6 HTL
    obtain ⟨k, c, vs, ss, is, ks, hk, rfl, ⟨hl1, hl2, hl3⟩, hc, hkc, hkr, hTL⟩ := hrel
    obtain ⟨wo, rfl⟩ : ∃ wo : World, wo = wr := ⟨_, rfl⟩
    have hk0 : (0 : Int) ≤ (k : Int) := by omega
    by_cases hlt : k < n
    · skip
      have hki : (k : Int) < (n : Int) := by omega
      have hMs := hkc.out.sz
      have hoA := ok.mA
      have hoY := ok.mY
      have hoF := ok.mF
      have hoB := ok.mB
      have hoC := ok.mC
      have hyl : f.yb < wo.heap.size := by have := ok.yl; have := ok.lA; omega
      go_upto_region 7 with fail
      have hI : Hid (∀ Y, BX f.gA wo Y → Y.cell? ⟨f.F, 0, none⟩ = some (.func (.func 57) #[] #[.pointer (some ⟨f.gA, 0, none⟩), .pointer (some ⟨f.gY, 0, none⟩)])) := fun Y hY => hY.keep ok.nFA hkc.out.fn
      have hx0 := BX.drew f.gA wo
      have hd0 := hkc.out.ds.below (Below.drew (Below.refl _ wo))
      go_cut [8] from 36 to 40 (fun v X => R7 f wo c v X)
      case first =>
        refine wp_region_tree (.read 0 (.read 2 (.two 1 (.two 3 (.read 4 (.one 5 (.one 6 (.leaf)))) 5 (.one 3 (.read 4 (.one 6 (.leaf))))) 5 (.one 1 (.one 3 (.read 4 (.one 6 (.leaf)))))))) (fun Y => Y.cell? ⟨f.F, 0, none⟩ = some (.func (.func 57) #[] #[.pointer (some ⟨f.gA, 0, none⟩), .pointer (some ⟨f.gY, 0, none⟩)])) (by kernel_rfl) (by kernel_rfl) (fun _ _ d _ _ h => by cases d <;> exact h) (hI.out _ hx0) ?_
        generalize wo.drew = Y0 at *
        repeat (first | (refine tr_read rfl (by rfl) _ (fun w' hS => by (try dsimp only at hS); go_simp; (try with_reducible rfl)) ?_; (try simp only [Act.put, List.setIfInBounds_toArray, List.set_cons_zero, List.set_cons_succ])) | (refine tr_skip rfl (by rfl) ?_; (try simp only [Act.put, List.setIfInBounds_toArray, List.set_cons_zero, List.set_cons_succ])))
        refine ⟨?_, ?_⟩
        · skip
          refine tr_step rfl (by rfl) (fun K hK => ?_)
          go_simp
          refine (draw_any f.gA f.gY (c) f.yb f.yo f.yn f.yc 30000 Y0 ok.d hd0 (by omega) (by omega)).mono ?_
          rintro e Y1 ⟨d1, rfl, ⟨d1a, d1b⟩, hx, hd1⟩
          have hx1 := hx0.trans hx
          refine hK _ _ (hI.out _ hx1) ?_
          clear hK K hx hx0 hd0
          (try simp only [Act.put, List.setIfInBounds_toArray, List.set_cons_zero, List.set_cons_succ])
          refine ⟨?_, ?_⟩
          · skip
            refine tr_step rfl (by rfl) (fun K hK => ?_)
            go_simp
            refine (draw_any f.gA f.gY (c + 1) f.yb f.yo f.yn f.yc 30000 Y1 ok.d hd1 (by omega) (by omega)).mono ?_
            rintro e Y2 ⟨d2, rfl, ⟨d2a, d2b⟩, hx, hd2⟩
            have hx2 := hx1.trans hx
            refine hK _ _ (hI.out _ hx2) ?_
            clear hK K hx hx1 hd1
            (try simp only [Act.put, List.setIfInBounds_toArray, List.set_cons_zero, List.set_cons_succ])
            repeat (first | (refine tr_read rfl (by rfl) _ (fun w' hS => by (try dsimp only at hS); go_simp; (try with_reducible rfl)) ?_; (try simp only [Act.put, List.setIfInBounds_toArray, List.set_cons_zero, List.set_cons_succ])) | (refine tr_skip rfl (by rfl) ?_; (try simp only [Act.put, List.setIfInBounds_toArray, List.set_cons_zero, List.set_cons_succ])))
            refine tr_step rfl (by rfl) (fun K hK => ?_)
            have hs8 := slots_new2s Y2 (.int .i64 0) (.int .i64 0) 39
            have hx3 := hx2.then (newB Y2 (.cells #[.int .i64 0, .int .i64 0] 39))
            have hd3 := hd2.below (newB Y2 (.cells #[.int .i64 0, .int .i64 0] 39))
            have hge8 := hx2.size
            go_simp
            refine hK _ _ (hI.out _ hx3) ?_
            clear hK K hx2 hd2
            generalize Y2.heap.size = g8 at *
            generalize Y2.alloc (.cells #[.int .i64 0, .int .i64 0] 39) = Y3 at *
            have hne8 : g8 ≠ f.gA := by omega
            (try simp only [Act.put, List.setIfInBounds_toArray, List.set_cons_zero, List.set_cons_succ])
            refine tr_step rfl (by rfl) (fun K hK => ?_)
            have ht8 := cel2_set hs8 d1 d2
            have hx4 := (hx3.put hge8 0 (.int .i64 d1)).put hge8 1 (.int .i64 d2)
            have hd4 := (hd3.bx (BX.set g8 0 Y3 (.int .i64 d1)) (by omega) (by omega) (by omega)).bx (BX.set g8 1 _ (.int .i64 d2)) (by omega) (by omega) (by omega)
            obtain ⟨u0, q0, f0⟩ := hs8.get 0 (by omega)
            obtain ⟨u1, q1, f1⟩ := hs8.get 1 (by omega)
            go_simp
            refine hK _ _ (hI.out _ hx4) ?_
            clear hK K u0 u1 q0 q1 f0 f1 hx3 hd3 hs8
            generalize (Y3.setCell ⟨g8, 0, none⟩ (.int .i64 d1)).setCell ⟨g8, 1, none⟩ (.int .i64 d2) = Y4 at *
            (try simp only [Act.put, List.setIfInBounds_toArray, List.set_cons_zero, List.set_cons_succ])
            show Exit.then _ _ Exit.normal _ _
            go_wp2_with fail
            go_meet
            exact ⟨g8, d1, d2, rfl, ⟨d1a, d1b⟩, ⟨d2a, d2b⟩, hge8, ht8, hx4, hd4⟩
          · skip
            refine tr_step rfl (by rfl) (fun K hK => ?_)
            have hs8 := slots_new2s Y1 (.int .i64 0) (.int .i64 0) 39
            have hx5 := hx1.then (newB Y1 (.cells #[.int .i64 0, .int .i64 0] 39))
            have hd5 := hd1.below (newB Y1 (.cells #[.int .i64 0, .int .i64 0] 39))
            have hge8 := hx1.size
            go_simp
            refine hK _ _ (hI.out _ hx5) ?_
            clear hK K hx1 hd1
            generalize Y1.heap.size = g8 at *
            generalize Y1.alloc (.cells #[.int .i64 0, .int .i64 0] 39) = Y5 at *
            have hne8 : g8 ≠ f.gA := by omega
            (try simp only [Act.put, List.setIfInBounds_toArray, List.set_cons_zero, List.set_cons_succ])
            refine tr_step rfl (by rfl) (fun K hK => ?_)
            go_simp
            refine (draw_any f.gA f.gY (c + 1) f.yb f.yo f.yn f.yc 30000 Y5 ok.d hd5 (by omega) (by omega)).mono ?_
            rintro e Y6 ⟨d6, rfl, ⟨d6a, d6b⟩, hx, hd6⟩
            have hx6 := hx5.trans hx
            replace hs8 := hx.slots hne8 hs8
            refine hK _ _ (hI.out _ hx6) ?_
            clear hK K hx hx5 hd5
            (try simp only [Act.put, List.setIfInBounds_toArray, List.set_cons_zero, List.set_cons_succ])
            repeat (first | (refine tr_read rfl (by rfl) _ (fun w' hS => by (try dsimp only at hS); go_simp; (try with_reducible rfl)) ?_; (try simp only [Act.put, List.setIfInBounds_toArray, List.set_cons_zero, List.set_cons_succ])) | (refine tr_skip rfl (by rfl) ?_; (try simp only [Act.put, List.setIfInBounds_toArray, List.set_cons_zero, List.set_cons_succ])))
            refine tr_step rfl (by rfl) (fun K hK => ?_)
            have ht8 := cel2_set hs8 d1 d6
            have hx7 := (hx6.put hge8 0 (.int .i64 d1)).put hge8 1 (.int .i64 d6)
            have hd7 := (hd6.bx (BX.set g8 0 Y6 (.int .i64 d1)) (by omega) (by omega) (by omega)).bx (BX.set g8 1 _ (.int .i64 d6)) (by omega) (by omega) (by omega)
            obtain ⟨u0, q0, f0⟩ := hs8.get 0 (by omega)
            obtain ⟨u1, q1, f1⟩ := hs8.get 1 (by omega)
            go_simp
            refine hK _ _ (hI.out _ hx7) ?_
            clear hK K u0 u1 q0 q1 f0 f1 hx6 hd6 hs8
            generalize (Y6.setCell ⟨g8, 0, none⟩ (.int .i64 d1)).setCell ⟨g8, 1, none⟩ (.int .i64 d6) = Y7 at *
            (try simp only [Act.put, List.setIfInBounds_toArray, List.set_cons_zero, List.set_cons_succ])
            show Exit.then _ _ Exit.normal _ _
            go_wp2_with fail
            go_meet
            exact ⟨g8, d1, d6, rfl, ⟨d1a, d1b⟩, ⟨d6a, d6b⟩, hge8, ht8, hx7, hd7⟩
        · skip
          refine tr_step rfl (by rfl) (fun K hK => ?_)
          have hs8 := slots_new2s Y0 (.int .i64 0) (.int .i64 0) 39
          have hx8 := hx0.then (newB Y0 (.cells #[.int .i64 0, .int .i64 0] 39))
          have hd8 := hd0.below (newB Y0 (.cells #[.int .i64 0, .int .i64 0] 39))
          have hge8 := hx0.size
          go_simp
          refine hK _ _ (hI.out _ hx8) ?_
          clear hK K hx0 hd0
          generalize Y0.heap.size = g8 at *
          generalize Y0.alloc (.cells #[.int .i64 0, .int .i64 0] 39) = Y8 at *
          have hne8 : g8 ≠ f.gA := by omega
          (try simp only [Act.put, List.setIfInBounds_toArray, List.set_cons_zero, List.set_cons_succ])
          refine tr_step rfl (by rfl) (fun K hK => ?_)
          go_simp
          refine (draw_any f.gA f.gY (c) f.yb f.yo f.yn f.yc 30000 Y8 ok.d hd8 (by omega) (by omega)).mono ?_
          rintro e Y9 ⟨d9, rfl, ⟨d9a, d9b⟩, hx, hd9⟩
          have hx9 := hx8.trans hx
          replace hs8 := hx.slots hne8 hs8
          refine hK _ _ (hI.out _ hx9) ?_
          clear hK K hx hx8 hd8
          (try simp only [Act.put, List.setIfInBounds_toArray, List.set_cons_zero, List.set_cons_succ])
          refine tr_step rfl (by rfl) (fun K hK => ?_)
          go_simp
          refine (draw_any f.gA f.gY (c + 1) f.yb f.yo f.yn f.yc 30000 Y9 ok.d hd9 (by omega) (by omega)).mono ?_
          rintro e Y10 ⟨d10, rfl, ⟨d10a, d10b⟩, hx, hd10⟩
          have hx10 := hx9.trans hx
          replace hs8 := hx.slots hne8 hs8
          refine hK _ _ (hI.out _ hx10) ?_
          clear hK K hx hx9 hd9
          (try simp only [Act.put, List.setIfInBounds_toArray, List.set_cons_zero, List.set_cons_succ])
          repeat (first | (refine tr_read rfl (by rfl) _ (fun w' hS => by (try dsimp only at hS); go_simp; (try with_reducible rfl)) ?_; (try simp only [Act.put, List.setIfInBounds_toArray, List.set_cons_zero, List.set_cons_succ])) | (refine tr_skip rfl (by rfl) ?_; (try simp only [Act.put, List.setIfInBounds_toArray, List.set_cons_zero, List.set_cons_succ])))
          refine tr_step rfl (by rfl) (fun K hK => ?_)
          have ht8 := cel2_set hs8 d9 d10
          have hx11 := (hx10.put hge8 0 (.int .i64 d9)).put hge8 1 (.int .i64 d10)
          have hd11 := (hd10.bx (BX.set g8 0 Y10 (.int .i64 d9)) (by omega) (by omega) (by omega)).bx (BX.set g8 1 _ (.int .i64 d10)) (by omega) (by omega) (by omega)
          obtain ⟨u0, q0, f0⟩ := hs8.get 0 (by omega)
          obtain ⟨u1, q1, f1⟩ := hs8.get 1 (by omega)
          go_simp
          refine hK _ _ (hI.out _ hx11) ?_
          clear hK K u0 u1 q0 q1 f0 f1 hx10 hd10 hs8
          generalize (Y10.setCell ⟨g8, 0, none⟩ (.int .i64 d9)).setCell ⟨g8, 1, none⟩ (.int .i64 d10) = Y11 at *
          (try simp only [Act.put, List.setIfInBounds_toArray, List.set_cons_zero, List.set_cons_succ])
          show Exit.then _ _ Exit.normal _ _
          go_wp2_with fail
          go_meet
          exact ⟨g8, d9, d10, rfl, ⟨d9a, d9b⟩, ⟨d10a, d10b⟩, hge8, ht8, hx11, hd11⟩
      case rest =>
        unfold R7 at hcut
        obtain ⟨g8, xa, xb, rfl, ⟨xa0, xa1⟩, ⟨xb0, xb1⟩, hg8, ht8, hx7, hd7⟩ := hcut
        obtain ⟨X7, rfl⟩ : ∃ X7 : World, X7 = wc := ⟨_, rfl⟩
        clear hI hx0 hd0
        have hgA8 : g8 ≠ f.gA := by omega
        have qC0 := hx7.keep ok.nCA hkc.out.q0
        have qC1 := hx7.keep ok.nCA hkc.out.q1
        obtain ⟨t80, t81⟩ := id ht8
        obtain ⟨ma, hma⟩ : ∃ ma, sc * xa = ma := ⟨_, rfl⟩
        obtain ⟨mb, hmb⟩ : ∃ mb, sc * xb = mb := ⟨_, rfl⟩
        have hma0 := mul_rng hs0.1 hs0.2 xa0 xa1
        have hmb0 := mul_rng hs0.1 hs0.2 xb0 xb1
        rw [hma] at hma0
        rw [hmb] at hmb0
        obtain ⟨ma0, ma1⟩ := hma0
        obtain ⟨mb0, mb1⟩ := hmb0
        go_upto_region 9 with fail
        obtain ⟨ua, hua⟩ : ∃ ua, ce + ma / 1000 = ua := ⟨_, rfl⟩
        obtain ⟨ub, hub⟩ : ∃ ub, cn + mb / 1000 = ub := ⟨_, rfl⟩
        rw [hua, hub]
        have ht9 : Cel2 (X7.alloc (.cells #[.int .i64 ua, .int .i64 ub] 39)) X7.heap.size ua ub := ⟨by simp [go_sem], by simp [go_sem]⟩
        have hnb := newB X7 (.cells #[.int .i64 ua, .int .i64 ub] 39)
        have ht8b := ht8.grown hnb
        have hx8 := hx7.then hnb
        have hd8 := hd7.below hnb
        have hg9 := hx7.size
        have h89 : g8 < X7.heap.size := World.block_lt_of_cell? _ _ ht8.c0
        have hur : (-10000 ≤ ua ∧ ua ≤ 40000) ∧ -10000 ≤ ub ∧ ub ≤ 40000 := by omega
        rw [← hma] at hua
        rw [← hmb] at hub
        have HUA := Lib.hid hua
        have HUB := Lib.hid hub
        clear hnb hua hub hma hmb ma0 ma1 mb0 mb1 qC0 qC1 t80 t81 ht8 hx7 hd7
        generalize X7.heap.size = g9 at *
        generalize X7.alloc (.cells #[.int .i64 ua, .int .i64 ub] 39) = X8 at *
        have ht8 := ht8b
        clear ht8b
        have hgA9 : g9 ≠ f.gA := by omega
        have hsz8 := hx8.size
        have hl9 : g9 < X8.heap.size := World.block_lt_of_cell? _ _ ht9.c0
        have hfn8 := hx8.keep ok.nFA hkc.out.fn
        have hI : Hid (∀ Y, BX f.gA X8 Y → Y.cell? ⟨f.F, 0, none⟩ = some (.func (.func 57) #[] #[.pointer (some ⟨f.gA, 0, none⟩), .pointer (some ⟨f.gY, 0, none⟩)]) ∧ Y.cell? ⟨g8, 0, none⟩ = some (.int .i64 xa) ∧ Y.cell? ⟨g8, 1, none⟩ = some (.int .i64 xb)) := fun Y hY => ⟨hY.keep ok.nFA hfn8, hY.keep hgA8 ht8.c0, hY.keep hgA8 ht8.c1⟩
        have hx0 := BX.drew f.gA X8
        have hd0 := hd8.below (Below.drew (Below.refl _ X8))
        go_cut [10] from 58 to 66 (fun v X => R9 f wo c g8 g9 xa xb ua ub v X)
        case first =>
          refine wp_region_tree (.read 0 (.read 1 (.read 2 (.read 4 (.read 5 (.read 6 (.two 3 (.two 7 (.read 8 (.one 9 (.one 10 (.leaf)))) 9 (.one 7 (.read 8 (.one 10 (.leaf))))) 9 (.one 3 (.one 7 (.read 8 (.one 10 (.leaf)))))))))))) (fun Y => Y.cell? ⟨f.F, 0, none⟩ = some (.func (.func 57) #[] #[.pointer (some ⟨f.gA, 0, none⟩), .pointer (some ⟨f.gY, 0, none⟩)]) ∧ Y.cell? ⟨g8, 0, none⟩ = some (.int .i64 xa) ∧ Y.cell? ⟨g8, 1, none⟩ = some (.int .i64 xb)) (by kernel_rfl) (by kernel_rfl) (fun _ _ d _ _ h => by cases d <;> exact h) (hI.out _ hx0) ?_
          generalize X8.drew = Y0 at *
          repeat (first | (refine tr_read rfl (by rfl) _ (fun w' hS => by (try dsimp only at hS); go_simp; (try with_reducible rfl)) ?_; (try simp only [Act.put, List.setIfInBounds_toArray, List.set_cons_zero, List.set_cons_succ])) | (refine tr_skip rfl (by rfl) ?_; (try simp only [Act.put, List.setIfInBounds_toArray, List.set_cons_zero, List.set_cons_succ])))
          refine ⟨?_, ?_⟩
          · skip
            refine tr_step rfl (by rfl) (fun K hK => ?_)
            go_simp
            refine (around_any f.F f.gA f.gY (c + 2) f.yb f.yo f.yn f.yc xa Y0 ok.d (hI.out _ hx0).1 ok.nFA hd0 (by omega) (by omega)).mono ?_
            rintro e Y1 ⟨sa0, sa1, rfl, ⟨sa0r, sa1r⟩, hx, hd1⟩
            have hx1 := hx0.trans hx
            refine hK _ _ (hI.out _ hx1) ?_
            clear hK K hx hx0 hd0
            (try simp only [Act.put, List.setIfInBounds_toArray, List.set_cons_zero, List.set_cons_succ])
            refine ⟨?_, ?_⟩
            · skip
              refine tr_step rfl (by rfl) (fun K hK => ?_)
              go_simp
              refine (around_any f.F f.gA f.gY (c + 2 + 2) f.yb f.yo f.yn f.yc xb Y1 ok.d (hI.out _ hx1).1 ok.nFA hd1 (by omega) (by omega)).mono ?_
              rintro e Y2 ⟨sb0, sb1, rfl, ⟨sb0r, sb1r⟩, hx, hd2⟩
              have hx2 := hx1.trans hx
              refine hK _ _ (hI.out _ hx2) ?_
              clear hK K hx hx1 hd1
              (try simp only [Act.put, List.setIfInBounds_toArray, List.set_cons_zero, List.set_cons_succ])
              repeat (first | (refine tr_read rfl (by rfl) _ (fun w' hS => by (try dsimp only at hS); go_simp; (try with_reducible rfl)) ?_; (try simp only [Act.put, List.setIfInBounds_toArray, List.set_cons_zero, List.set_cons_succ])) | (refine tr_skip rfl (by rfl) ?_; (try simp only [Act.put, List.setIfInBounds_toArray, List.set_cons_zero, List.set_cons_succ])))
              refine tr_step rfl (by rfl) (fun K hK => ?_)
              have hs10 := slots_new9 Y2 55
              have hx3 := hx2.then (newB Y2 (.cells #[.int .i64 0, .int .i64 0, .int .i64 0, .int .i64 0, .bool false, .int .i64 0, .int .i64 0, .int .i64 0, .int .i64 0] 55))
              have hd3 := hd2.below (newB Y2 (.cells #[.int .i64 0, .int .i64 0, .int .i64 0, .int .i64 0, .bool false, .int .i64 0, .int .i64 0, .int .i64 0, .int .i64 0] 55))
              have hge10 := hx2.size
              go_simp
              refine hK _ _ (hI.out _ hx3) ?_
              clear hK K hx2 hd2
              generalize Y2.heap.size = g10 at *
              generalize Y2.alloc (.cells #[.int .i64 0, .int .i64 0, .int .i64 0, .int .i64 0, .bool false, .int .i64 0, .int .i64 0, .int .i64 0, .int .i64 0] 55) = Y3 at *
              have hne10 : g10 ≠ f.gA := by omega
              (try simp only [Act.put, List.setIfInBounds_toArray, List.set_cons_zero, List.set_cons_succ])
              refine tr_step rfl (by rfl) (fun K hK => ?_)
              have hst := put9_at hs10 ⟨sa0, sa1, sb0, sb1, false, 0, 0, 0, 0⟩
              have hx4 := hx3.put9 hge10 ⟨sa0, sa1, sb0, sb1, false, 0, 0, 0, 0⟩
              have hd4 := hd3.bx (put9_bx Y3 g10 ⟨sa0, sa1, sb0, sb1, false, 0, 0, 0, 0⟩) (by omega) (by omega) (by omega)
              have hs10n := (put9_bx Y3 g10 ⟨sa0, sa1, sb0, sb1, false, 0, 0, 0, 0⟩)

              obtain ⟨u0, q0, f0⟩ := hs10.get 0 (by omega)
              obtain ⟨u1, q1, f1⟩ := hs10.get 1 (by omega)
              obtain ⟨u2, q2, f2⟩ := hs10.get 2 (by omega)
              obtain ⟨u3, q3, f3⟩ := hs10.get 3 (by omega)
              obtain ⟨u4, q4, f4⟩ := hs10.get 4 (by omega)
              obtain ⟨u5, q5, f5⟩ := hs10.get 5 (by omega)
              obtain ⟨u6, q6, f6⟩ := hs10.get 6 (by omega)
              obtain ⟨u7, q7, f7⟩ := hs10.get 7 (by omega)
              obtain ⟨u8, q8, f8⟩ := hs10.get 8 (by omega)
              have hs10' : Slots g10 9 (put9 Y3 g10 ⟨sa0, sa1, sb0, sb1, false, 0, 0, 0, 0⟩) := ((((((((hs10.set _ _).set _ _).set _ _).set _ _).set _ _).set _ _).set _ _).set _ _).set _ _
              unfold put9 at hst hx4 hd4 hs10n hs10'
              dsimp only at hst hx4 hd4 hs10n hs10'
              clear hs10
              go_simp
              refine hK _ _ (hI.out _ hx4) ?_
              clear hK K u0 q0 f0 u1 q1 f1 u2 q2 f2 u3 q3 f3 u4 q4 f4 u5 q5 f5 u6 q6 f6 u7 q7 f7 u8 q8 f8 hx3 hd3 hs10n
              have hs10 := hs10'
              clear hs10' 
              skip
              generalize (((((((((Y3.setCell ⟨g10, 0, none⟩ (.int .i64 sa0)).setCell ⟨g10, 1, none⟩ (.int .i64 sa1)).setCell ⟨g10, 2, none⟩ (.int .i64 sb0)).setCell ⟨g10, 3, none⟩ (.int .i64 sb1)).setCell ⟨g10, 4, none⟩ (.bool false)).setCell ⟨g10, 5, none⟩ (.int .i64 0)).setCell ⟨g10, 6, none⟩ (.int .i64 0)).setCell ⟨g10, 7, none⟩ (.int .i64 0)).setCell ⟨g10, 8, none⟩ (.int .i64 0)) = Y4 at *
              (try simp only [Act.put, List.setIfInBounds_toArray, List.set_cons_zero, List.set_cons_succ])
              show Exit.then _ _ Exit.normal _ _
              go_wp2_with fail
              go_meet
              exact ⟨g10, sa0, sa1, sb0, sb1, rfl, ⟨sa0r, sa1r⟩, ⟨sb0r, sb1r⟩, ⟨by omega, by omega, by omega⟩, hs10, hst, ⟨(hx4).keep hgA8 ht8.c0, (hx4).keep hgA8 ht8.c1⟩, ⟨(hx4).keep hgA9 ht9.c0, (hx4).keep hgA9 ht9.c1⟩, hx8.trans hx4, hd4⟩
            · skip
              refine tr_step rfl (by rfl) (fun K hK => ?_)
              have hs10 := slots_new9 Y1 55
              have hx5 := hx1.then (newB Y1 (.cells #[.int .i64 0, .int .i64 0, .int .i64 0, .int .i64 0, .bool false, .int .i64 0, .int .i64 0, .int .i64 0, .int .i64 0] 55))
              have hd5 := hd1.below (newB Y1 (.cells #[.int .i64 0, .int .i64 0, .int .i64 0, .int .i64 0, .bool false, .int .i64 0, .int .i64 0, .int .i64 0, .int .i64 0] 55))
              have hge10 := hx1.size
              go_simp
              refine hK _ _ (hI.out _ hx5) ?_
              clear hK K hx1 hd1
              generalize Y1.heap.size = g10 at *
              generalize Y1.alloc (.cells #[.int .i64 0, .int .i64 0, .int .i64 0, .int .i64 0, .bool false, .int .i64 0, .int .i64 0, .int .i64 0, .int .i64 0] 55) = Y5 at *
              have hne10 : g10 ≠ f.gA := by omega
              (try simp only [Act.put, List.setIfInBounds_toArray, List.set_cons_zero, List.set_cons_succ])
              refine tr_step rfl (by rfl) (fun K hK => ?_)
              go_simp
              refine (around_any f.F f.gA f.gY (c + 2 + 2) f.yb f.yo f.yn f.yc xb Y5 ok.d (hI.out _ hx5).1 ok.nFA hd5 (by omega) (by omega)).mono ?_
              rintro e Y6 ⟨sb0, sb1, rfl, ⟨sb0r, sb1r⟩, hx, hd6⟩
              have hx6 := hx5.trans hx
              replace hs10 := hx.slots hne10 hs10
              refine hK _ _ (hI.out _ hx6) ?_
              clear hK K hx hx5 hd5
              (try simp only [Act.put, List.setIfInBounds_toArray, List.set_cons_zero, List.set_cons_succ])
              repeat (first | (refine tr_read rfl (by rfl) _ (fun w' hS => by (try dsimp only at hS); go_simp; (try with_reducible rfl)) ?_; (try simp only [Act.put, List.setIfInBounds_toArray, List.set_cons_zero, List.set_cons_succ])) | (refine tr_skip rfl (by rfl) ?_; (try simp only [Act.put, List.setIfInBounds_toArray, List.set_cons_zero, List.set_cons_succ])))
              refine tr_step rfl (by rfl) (fun K hK => ?_)
              have hst := put9_at hs10 ⟨sa0, sa1, sb0, sb1, false, 0, 0, 0, 0⟩
              have hx7 := hx6.put9 hge10 ⟨sa0, sa1, sb0, sb1, false, 0, 0, 0, 0⟩
              have hd7 := hd6.bx (put9_bx Y6 g10 ⟨sa0, sa1, sb0, sb1, false, 0, 0, 0, 0⟩) (by omega) (by omega) (by omega)
              have hs10n := (put9_bx Y6 g10 ⟨sa0, sa1, sb0, sb1, false, 0, 0, 0, 0⟩)

              obtain ⟨u0, q0, f0⟩ := hs10.get 0 (by omega)
              obtain ⟨u1, q1, f1⟩ := hs10.get 1 (by omega)
              obtain ⟨u2, q2, f2⟩ := hs10.get 2 (by omega)
              obtain ⟨u3, q3, f3⟩ := hs10.get 3 (by omega)
              obtain ⟨u4, q4, f4⟩ := hs10.get 4 (by omega)
              obtain ⟨u5, q5, f5⟩ := hs10.get 5 (by omega)
              obtain ⟨u6, q6, f6⟩ := hs10.get 6 (by omega)
              obtain ⟨u7, q7, f7⟩ := hs10.get 7 (by omega)
              obtain ⟨u8, q8, f8⟩ := hs10.get 8 (by omega)
              have hs10' : Slots g10 9 (put9 Y6 g10 ⟨sa0, sa1, sb0, sb1, false, 0, 0, 0, 0⟩) := ((((((((hs10.set _ _).set _ _).set _ _).set _ _).set _ _).set _ _).set _ _).set _ _).set _ _
              unfold put9 at hst hx7 hd7 hs10n hs10'
              dsimp only at hst hx7 hd7 hs10n hs10'
              clear hs10
              go_simp
              refine hK _ _ (hI.out _ hx7) ?_
              clear hK K u0 q0 f0 u1 q1 f1 u2 q2 f2 u3 q3 f3 u4 q4 f4 u5 q5 f5 u6 q6 f6 u7 q7 f7 u8 q8 f8 hx6 hd6 hs10n
              have hs10 := hs10'
              clear hs10' 
              skip
              generalize (((((((((Y6.setCell ⟨g10, 0, none⟩ (.int .i64 sa0)).setCell ⟨g10, 1, none⟩ (.int .i64 sa1)).setCell ⟨g10, 2, none⟩ (.int .i64 sb0)).setCell ⟨g10, 3, none⟩ (.int .i64 sb1)).setCell ⟨g10, 4, none⟩ (.bool false)).setCell ⟨g10, 5, none⟩ (.int .i64 0)).setCell ⟨g10, 6, none⟩ (.int .i64 0)).setCell ⟨g10, 7, none⟩ (.int .i64 0)).setCell ⟨g10, 8, none⟩ (.int .i64 0)) = Y7 at *
              (try simp only [Act.put, List.setIfInBounds_toArray, List.set_cons_zero, List.set_cons_succ])
              show Exit.then _ _ Exit.normal _ _
              go_wp2_with fail
              go_meet
              exact ⟨g10, sa0, sa1, sb0, sb1, rfl, ⟨sa0r, sa1r⟩, ⟨sb0r, sb1r⟩, ⟨by omega, by omega, by omega⟩, hs10, hst, ⟨(hx7).keep hgA8 ht8.c0, (hx7).keep hgA8 ht8.c1⟩, ⟨(hx7).keep hgA9 ht9.c0, (hx7).keep hgA9 ht9.c1⟩, hx8.trans hx7, hd7⟩
          · skip
            refine tr_step rfl (by rfl) (fun K hK => ?_)
            have hs10 := slots_new9 Y0 55
            have hx8 := hx0.then (newB Y0 (.cells #[.int .i64 0, .int .i64 0, .int .i64 0, .int .i64 0, .bool false, .int .i64 0, .int .i64 0, .int .i64 0, .int .i64 0] 55))
            have hd8 := hd0.below (newB Y0 (.cells #[.int .i64 0, .int .i64 0, .int .i64 0, .int .i64 0, .bool false, .int .i64 0, .int .i64 0, .int .i64 0, .int .i64 0] 55))
            have hge10 := hx0.size
            go_simp
            refine hK _ _ (hI.out _ hx8) ?_
            clear hK K hx0 hd0
            generalize Y0.heap.size = g10 at *
            generalize Y0.alloc (.cells #[.int .i64 0, .int .i64 0, .int .i64 0, .int .i64 0, .bool false, .int .i64 0, .int .i64 0, .int .i64 0, .int .i64 0] 55) = Y8 at *
            have hne10 : g10 ≠ f.gA := by omega
            (try simp only [Act.put, List.setIfInBounds_toArray, List.set_cons_zero, List.set_cons_succ])
            refine tr_step rfl (by rfl) (fun K hK => ?_)
            go_simp
            refine (around_any f.F f.gA f.gY (c + 2) f.yb f.yo f.yn f.yc xa Y8 ok.d (hI.out _ hx8).1 ok.nFA hd8 (by omega) (by omega)).mono ?_
            rintro e Y9 ⟨sa0, sa1, rfl, ⟨sa0r, sa1r⟩, hx, hd9⟩
            have hx9 := hx8.trans hx
            replace hs10 := hx.slots hne10 hs10
            refine hK _ _ (hI.out _ hx9) ?_
            clear hK K hx hx8 hd8
            (try simp only [Act.put, List.setIfInBounds_toArray, List.set_cons_zero, List.set_cons_succ])
            refine tr_step rfl (by rfl) (fun K hK => ?_)
            go_simp
            refine (around_any f.F f.gA f.gY (c + 2 + 2) f.yb f.yo f.yn f.yc xb Y9 ok.d (hI.out _ hx9).1 ok.nFA hd9 (by omega) (by omega)).mono ?_
            rintro e Y10 ⟨sb0, sb1, rfl, ⟨sb0r, sb1r⟩, hx, hd10⟩
            have hx10 := hx9.trans hx
            replace hs10 := hx.slots hne10 hs10
            refine hK _ _ (hI.out _ hx10) ?_
            clear hK K hx hx9 hd9
            (try simp only [Act.put, List.setIfInBounds_toArray, List.set_cons_zero, List.set_cons_succ])
            repeat (first | (refine tr_read rfl (by rfl) _ (fun w' hS => by (try dsimp only at hS); go_simp; (try with_reducible rfl)) ?_; (try simp only [Act.put, List.setIfInBounds_toArray, List.set_cons_zero, List.set_cons_succ])) | (refine tr_skip rfl (by rfl) ?_; (try simp only [Act.put, List.setIfInBounds_toArray, List.set_cons_zero, List.set_cons_succ])))
            refine tr_step rfl (by rfl) (fun K hK => ?_)
            have hst := put9_at hs10 ⟨sa0, sa1, sb0, sb1, false, 0, 0, 0, 0⟩
            have hx11 := hx10.put9 hge10 ⟨sa0, sa1, sb0, sb1, false, 0, 0, 0, 0⟩
            have hd11 := hd10.bx (put9_bx Y10 g10 ⟨sa0, sa1, sb0, sb1, false, 0, 0, 0, 0⟩) (by omega) (by omega) (by omega)
            have hs10n := (put9_bx Y10 g10 ⟨sa0, sa1, sb0, sb1, false, 0, 0, 0, 0⟩)

            obtain ⟨u0, q0, f0⟩ := hs10.get 0 (by omega)
            obtain ⟨u1, q1, f1⟩ := hs10.get 1 (by omega)
            obtain ⟨u2, q2, f2⟩ := hs10.get 2 (by omega)
            obtain ⟨u3, q3, f3⟩ := hs10.get 3 (by omega)
            obtain ⟨u4, q4, f4⟩ := hs10.get 4 (by omega)
            obtain ⟨u5, q5, f5⟩ := hs10.get 5 (by omega)
            obtain ⟨u6, q6, f6⟩ := hs10.get 6 (by omega)
            obtain ⟨u7, q7, f7⟩ := hs10.get 7 (by omega)
            obtain ⟨u8, q8, f8⟩ := hs10.get 8 (by omega)
            have hs10' : Slots g10 9 (put9 Y10 g10 ⟨sa0, sa1, sb0, sb1, false, 0, 0, 0, 0⟩) := ((((((((hs10.set _ _).set _ _).set _ _).set _ _).set _ _).set _ _).set _ _).set _ _).set _ _
            unfold put9 at hst hx11 hd11 hs10n hs10'
            dsimp only at hst hx11 hd11 hs10n hs10'
            clear hs10
            go_simp
            refine hK _ _ (hI.out _ hx11) ?_
            clear hK K u0 q0 f0 u1 q1 f1 u2 q2 f2 u3 q3 f3 u4 q4 f4 u5 q5 f5 u6 q6 f6 u7 q7 f7 u8 q8 f8 hx10 hd10 hs10n
            have hs10 := hs10'
            clear hs10' 
            skip
            generalize (((((((((Y10.setCell ⟨g10, 0, none⟩ (.int .i64 sa0)).setCell ⟨g10, 1, none⟩ (.int .i64 sa1)).setCell ⟨g10, 2, none⟩ (.int .i64 sb0)).setCell ⟨g10, 3, none⟩ (.int .i64 sb1)).setCell ⟨g10, 4, none⟩ (.bool false)).setCell ⟨g10, 5, none⟩ (.int .i64 0)).setCell ⟨g10, 6, none⟩ (.int .i64 0)).setCell ⟨g10, 7, none⟩ (.int .i64 0)).setCell ⟨g10, 8, none⟩ (.int .i64 0)) = Y11 at *
            (try simp only [Act.put, List.setIfInBounds_toArray, List.set_cons_zero, List.set_cons_succ])
            show Exit.then _ _ Exit.normal _ _
            go_wp2_with fail
            go_meet
            exact ⟨g10, sa0, sa1, sb0, sb1, rfl, ⟨sa0r, sa1r⟩, ⟨sb0r, sb1r⟩, ⟨by omega, by omega, by omega⟩, hs10, hst, ⟨(hx11).keep hgA8 ht8.c0, (hx11).keep hgA8 ht8.c1⟩, ⟨(hx11).keep hgA9 ht9.c0, (hx11).keep hgA9 ht9.c1⟩, hx8.trans hx11, hd11⟩
        case rest =>
          unfold R9 at hcut
          obtain ⟨g10, sa0, sa1, sb0, sb1, rfl, ⟨⟨sa0a, sa0b⟩, sa1a, sa1b⟩, ⟨⟨sb0a, sb0b⟩, sb1a, sb1b⟩, ⟨hg10, h10a, h10b⟩, hs10, hst, ht8', ht9', hx9, hd9⟩ := hcut
          obtain ⟨X9, rfl⟩ : ∃ X9 : World, X9 = wc := ⟨_, rfl⟩
          clear hI hx0 hd0 hfn8 ht8 ht9 hx8 hd8 hsz8 hl9
          have ht8 := ht8'
          have ht9 := ht9'
          clear ht8' ht9'
          have hgA10 : g10 ≠ f.gA := by omega
          have fn := hx9.keep ok.nFA hkc.out.fn
          have hsk0 : skP sc (dir (ce, cn)) (dir (xa, xb)) false = ua := HUA.out
          have hsk1 : skP sc (dir (ce, cn)) (dir (xa, xb)) true = ub := HUB.out
          have HK0 := Lib.hid hsk0
          have HK1 := Lib.hid hsk1
          have HS10 := Lib.hid hs10
          clear hsk0 hsk1 hs10
          go_wp2_with fail
          refine (draw_any f.gA f.gY (c + 6) f.yb f.yo f.yn f.yc 2 X9 ok.d hd9 (by omega) (by omega)).mono ?_
          rintro e X10 ⟨kd, rfl, ⟨kd0, kd1⟩, hx, hd10⟩
          have hx10 := hx9.trans hx
          replace ht8 := ht8.bx hx hgA8
          replace ht9 := ht9.bx hx hgA9
          replace hst := hst.bx hx hgA10
          have HS10b := Lib.hid (hx.slots hgA10 HS10.out)
          clear hx hx9 hd9 fn HS10
          go_upto_if 69 with fail
          go_cut [] from 70 to 91 (fun X => R11 f wo c sc (dir (ce, cn)) (dir (xa, xb)) g8 g9 g10 xa xb ua ub X)
          case first =>
            by_cases hkd : kd = 0
            · subst hkd
              go_upto_region 11 with fail
              have hI : Hid (∀ Y, BX f.gA X10 Y → Y.cell? ⟨f.F, 0, none⟩ = some (.func (.func 57) #[] #[.pointer (some ⟨f.gA, 0, none⟩), .pointer (some ⟨f.gY, 0, none⟩)]) ∧ (Y.cell? ⟨g9, 0, none⟩ = some (.int .i64 ua) ∧ Y.cell? ⟨g9, 1, none⟩ = some (.int .i64 ub)) ∧ Y.cell? ⟨g10, 0, none⟩ = some (.int .i64 sa0) ∧ Y.cell? ⟨g10, 1, none⟩ = some (.int .i64 sa1) ∧ Y.cell? ⟨g10, 2, none⟩ = some (.int .i64 sb0) ∧ Y.cell? ⟨g10, 3, none⟩ = some (.int .i64 sb1) ∧ Y.cell? ⟨g10, 4, none⟩ = some (.bool false) ∧ Y.cell? ⟨g10, 5, none⟩ = some (.int .i64 0) ∧ Y.cell? ⟨g10, 6, none⟩ = some (.int .i64 0) ∧ Y.cell? ⟨g10, 7, none⟩ = some (.int .i64 0) ∧ Y.cell? ⟨g10, 8, none⟩ = some (.int .i64 0)) := fun Y hY => by
                obtain ⟨z0, z1, z2, z3, z4, z5, z6, z7, z8⟩ := hst.bx hY hgA10
                exact ⟨hY.keep ok.nFA (hx10.keep ok.nFA hkc.out.fn), ⟨hY.keep hgA9 ht9.c0, hY.keep hgA9 ht9.c1⟩, z0, z1, z2, z3, z4, z5, z6, z7, z8⟩
              have hx0 := BX.drew f.gA X10
              have hd0 := hd10.below (Below.drew (Below.refl _ X10))
              refine wp_region_seq [(0, true), (1, true), (2, true), (3, true), (6, true), (7, true), (8, true), (11, true), (12, true), (13, true), (16, true), (17, true), (18, true), (4, false), (5, true), (9, false), (10, true), (14, false), (15, true), (19, false), (20, true), (21, false), (22, false)] (fun Y => Y.cell? ⟨f.F, 0, none⟩ = some (.func (.func 57) #[] #[.pointer (some ⟨f.gA, 0, none⟩), .pointer (some ⟨f.gY, 0, none⟩)]) ∧ (Y.cell? ⟨g9, 0, none⟩ = some (.int .i64 ua) ∧ Y.cell? ⟨g9, 1, none⟩ = some (.int .i64 ub)) ∧ Y.cell? ⟨g10, 0, none⟩ = some (.int .i64 sa0) ∧ Y.cell? ⟨g10, 1, none⟩ = some (.int .i64 sa1) ∧ Y.cell? ⟨g10, 2, none⟩ = some (.int .i64 sb0) ∧ Y.cell? ⟨g10, 3, none⟩ = some (.int .i64 sb1) ∧ Y.cell? ⟨g10, 4, none⟩ = some (.bool false) ∧ Y.cell? ⟨g10, 5, none⟩ = some (.int .i64 0) ∧ Y.cell? ⟨g10, 6, none⟩ = some (.int .i64 0) ∧ Y.cell? ⟨g10, 7, none⟩ = some (.int .i64 0) ∧ Y.cell? ⟨g10, 8, none⟩ = some (.int .i64 0)) (by kernel_rfl) (by kernel_rfl) (fun _ _ d _ _ h => by cases d <;> exact h) (hI.out _ hx0) ?_
              generalize X10.drew = Y0 at *
              repeat (first | (refine seq_read rfl (by rfl) _ (fun w' hS => by (try dsimp only at hS); go_simp; (try with_reducible rfl)) ?_; (try simp only [Act.put, List.setIfInBounds_toArray, List.set_cons_zero, List.set_cons_succ])) | (refine seq_skip rfl (by rfl) ?_; (try simp only [Act.put, List.setIfInBounds_toArray, List.set_cons_zero, List.set_cons_succ])))
              refine seq_do rfl (by rfl) (fun K hK => ?_)
              go_simp
              refine (draw_any f.gA f.gY (c + 6 + 1) f.yb f.yo f.yn f.yc 8 Y0 ok.d hd0 (by omega) (by omega)).mono ?_
              rintro e Y1 ⟨d1, rfl, ⟨q1a, q1b⟩, hx, hd1⟩
              have hx1 := hx0.trans hx
              refine hK _ _ (hI.out _ hx1) ?_
              clear hK K hx hx0 hd0
              (try simp only [Act.put, List.setIfInBounds_toArray, List.set_cons_zero, List.set_cons_succ])
              have elo : IntKind.i64.wrap (ua - d1) = ua - d1 := IntWalk.i64_in _ (by omega)
              repeat (first | (refine seq_read rfl (by rfl) _ (fun w' hS => by (try dsimp only at hS); go_simp; (try with_reducible rfl)) ?_; (try simp only [Act.put, List.setIfInBounds_toArray, List.set_cons_zero, List.set_cons_succ])) | (refine seq_skip rfl (by rfl) ?_; (try simp only [Act.put, List.setIfInBounds_toArray, List.set_cons_zero, List.set_cons_succ])))
              obtain ⟨ea, hea⟩ : ∃ ea : Int, ua - d1 = ea := ⟨_, rfl⟩
              have hea0 : ua - 8 ≤ ea ∧ ea ≤ ua := by omega
              clear elo
              rw [hea]
              clear hea q1a q1b
              refine seq_do rfl (by rfl) (fun K hK => ?_)
              go_simp
              refine (draw_any f.gA f.gY (c + 6 + 1 + 1) f.yb f.yo f.yn f.yc 8 Y1 ok.d hd1 (by omega) (by omega)).mono ?_
              rintro e Y2 ⟨d2, rfl, ⟨q2a, q2b⟩, hx, hd2⟩
              have hx2 := hx1.trans hx
              refine hK _ _ (hI.out _ hx2) ?_
              clear hK K hx hx1 hd1
              (try simp only [Act.put, List.setIfInBounds_toArray, List.set_cons_zero, List.set_cons_succ])
              have elo : IntKind.i64.wrap (ua + d2) = ua + d2 := IntWalk.i64_in _ (by omega)
              repeat (first | (refine seq_read rfl (by rfl) _ (fun w' hS => by (try dsimp only at hS); go_simp; (try with_reducible rfl)) ?_; (try simp only [Act.put, List.setIfInBounds_toArray, List.set_cons_zero, List.set_cons_succ])) | (refine seq_skip rfl (by rfl) ?_; (try simp only [Act.put, List.setIfInBounds_toArray, List.set_cons_zero, List.set_cons_succ])))
              obtain ⟨eb, heb⟩ : ∃ eb : Int, ua + d2 = eb := ⟨_, rfl⟩
              have heb0 : ua ≤ eb ∧ eb ≤ ua + 8 := by omega
              clear elo
              rw [heb]
              clear heb q2a q2b
              refine seq_do rfl (by rfl) (fun K hK => ?_)
              go_simp
              refine (draw_any f.gA f.gY (c + 6 + 1 + 1 + 1) f.yb f.yo f.yn f.yc 8 Y2 ok.d hd2 (by omega) (by omega)).mono ?_
              rintro e Y3 ⟨d3, rfl, ⟨q3a, q3b⟩, hx, hd3⟩
              have hx3 := hx2.trans hx
              refine hK _ _ (hI.out _ hx3) ?_
              clear hK K hx hx2 hd2
              (try simp only [Act.put, List.setIfInBounds_toArray, List.set_cons_zero, List.set_cons_succ])
              have elo : IntKind.i64.wrap (ub - d3) = ub - d3 := IntWalk.i64_in _ (by omega)
              repeat (first | (refine seq_read rfl (by rfl) _ (fun w' hS => by (try dsimp only at hS); go_simp; (try with_reducible rfl)) ?_; (try simp only [Act.put, List.setIfInBounds_toArray, List.set_cons_zero, List.set_cons_succ])) | (refine seq_skip rfl (by rfl) ?_; (try simp only [Act.put, List.setIfInBounds_toArray, List.set_cons_zero, List.set_cons_succ])))
              obtain ⟨na, hna⟩ : ∃ na : Int, ub - d3 = na := ⟨_, rfl⟩
              have hna0 : ub - 8 ≤ na ∧ na ≤ ub := by omega
              clear elo
              rw [hna]
              clear hna q3a q3b
              refine seq_do rfl (by rfl) (fun K hK => ?_)
              go_simp
              refine (draw_any f.gA f.gY (c + 6 + 1 + 1 + 1 + 1) f.yb f.yo f.yn f.yc 8 Y3 ok.d hd3 (by omega) (by omega)).mono ?_
              rintro e Y4 ⟨d4, rfl, ⟨q4a, q4b⟩, hx, hd4⟩
              have hx4 := hx3.trans hx
              refine hK _ _ (hI.out _ hx4) ?_
              clear hK K hx hx3 hd3
              (try simp only [Act.put, List.setIfInBounds_toArray, List.set_cons_zero, List.set_cons_succ])
              have elo : IntKind.i64.wrap (ub + d4) = ub + d4 := IntWalk.i64_in _ (by omega)
              repeat (first | (refine seq_read rfl (by rfl) _ (fun w' hS => by (try dsimp only at hS); go_simp; (try with_reducible rfl)) ?_; (try simp only [Act.put, List.setIfInBounds_toArray, List.set_cons_zero, List.set_cons_succ])) | (refine seq_skip rfl (by rfl) ?_; (try simp only [Act.put, List.setIfInBounds_toArray, List.set_cons_zero, List.set_cons_succ])))
              obtain ⟨nb, hnb⟩ : ∃ nb : Int, ub + d4 = nb := ⟨_, rfl⟩
              have hnb0 : ub ≤ nb ∧ nb ≤ ub + 8 := by omega
              clear elo
              rw [hnb]
              clear hnb q4a q4b
              refine seq_do rfl (by rfl) (fun K hK => ?_)
              go_simp
              refine (knownL_any sa0 sa1 sb0 sb1 0 0 0 0 ea eb na nb false Y4).mono ?_
              rintro e Y5 ⟨rfl, hx⟩
              have hx5 := hx4.then hx
              have hd5 := hd4.below hx
              refine hK _ _ (hI.out _ hx5) ?_
              clear hK K hx hx4 hd4
              (try simp only [Act.put, List.setIfInBounds_toArray, List.set_cons_zero, List.set_cons_succ])
              have hs11 := hx5.slots hgA10 HS10b.out
              refine seq_last rfl (by rfl) (by kernel_rfl) (fun K hK => ?_)
              have hst2 := put9_at hs11 ⟨sa0, sa1, sb0, sb1, true, ea, eb, na, nb⟩
              have hx12 := ((hx10.trans hx5).put9 (by omega : wo.heap.size ≤ g10) ⟨sa0, sa1, sb0, sb1, true, ea, eb, na, nb⟩)
              have hd12 := hd5.bx (put9_bx Y5 g10 ⟨sa0, sa1, sb0, sb1, true, ea, eb, na, nb⟩) (by omega) (by omega) (by omega)
              have hb9 := put9_bx Y5 g10 ⟨sa0, sa1, sb0, sb1, true, ea, eb, na, nb⟩
              have ht8' := (ht8.bx hx5 hgA8).bx hb9 (Ne.symm h10a)
              have ht9' := (ht9.bx hx5 hgA9).bx hb9 (Ne.symm h10b)
              obtain ⟨u0, p0, f0⟩ := hs11.get 0 (by omega)
              obtain ⟨u1, p1, f1⟩ := hs11.get 1 (by omega)
              obtain ⟨u2, p2, f2⟩ := hs11.get 2 (by omega)
              obtain ⟨u3, p3, f3⟩ := hs11.get 3 (by omega)
              obtain ⟨u4, p4, f4⟩ := hs11.get 4 (by omega)
              obtain ⟨u5, p5, f5⟩ := hs11.get 5 (by omega)
              obtain ⟨u6, p6, f6⟩ := hs11.get 6 (by omega)
              obtain ⟨u7, p7, f7⟩ := hs11.get 7 (by omega)
              obtain ⟨u8, p8, f8⟩ := hs11.get 8 (by omega)
              clear hs11 hb9
              unfold put9 at hst2 hx12 hd12 ht8' ht9'
              dsimp only at hst2 hx12 hd12 ht8' ht9'
              clear hI hst ht8 ht9 hx5 hd5
              go_simp
              refine hK _ _ ?_
              clear hK K u0 p0 f0 u1 p1 f1 u2 p2 f2 u3 p3 f3 u4 p4 f4 u5 p5 f5 u6 p6 f6 u7 p7 f7 u8 p8 f8
              show Exit.then _ _ Exit.normal _ _
              go_wp2_with fail
              go_meet
              have hT : TruS sc (dir (ce, cn)) (dir (xa, xb)) ⟨sa0, sa1, sb0, sb1, true, ea, eb, na, nb⟩ := by
                refine ⟨fun d => ?_, fun _ d => ?_⟩
                · cases d
                  · exact ⟨⟨sa0a, sa0b⟩, sa1a, by show sa1 ≤ 32768; omega⟩
                  · exact ⟨⟨sb0a, sb0b⟩, sb1a, by show sb1 ≤ 32768; omega⟩
                · cases d
                  · rw [HK0.out]; exact ⟨⟨by show -1048576 ≤ ea; omega, by show ea ≤ ua; omega⟩, by show ua ≤ eb; omega, by show eb ≤ 1048576; omega⟩
                  · rw [HK1.out]; exact ⟨⟨by show -1048576 ≤ na; omega, by show na ≤ ub; omega⟩, by show ub ≤ nb; omega, by show nb ≤ 1048576; omega⟩
              exact ⟨_, _, hst2, hT, ht8', ht9', hx12, hd12, by omega⟩
            have hkd2 : (kd == 0) = false := by simpa using hkd
            go_wp2_with fail
            go_meet
            have hT : TruS sc (dir (ce, cn)) (dir (xa, xb)) ⟨sa0, sa1, sb0, sb1, false, 0, 0, 0, 0⟩ := by
              refine ⟨fun d => ?_, fun h => by cases h⟩
              cases d
              · exact ⟨⟨sa0a, sa0b⟩, sa1a, by show sa1 ≤ 32768; omega⟩
              · exact ⟨⟨sb0a, sb0b⟩, sb1a, by show sb1 ≤ 32768; omega⟩
            exact ⟨_, _, hst, hT, ht8, ht9, hx10, hd10, by omega⟩
          case rest =>
            unfold R11 at hcut
            obtain ⟨s, c', hst', hT, ht8', ht9', hx11, hd11, hc'⟩ := hcut
            obtain ⟨X11, rfl⟩ : ∃ X11 : World, X11 = wc := ⟨_, rfl⟩
            clear hst ht8 ht9 hx10 hd10 HS10b kd0 kd1 sa0a sa0b sa1a sa1b sb0a sb0b sb1a sb1b
            have hk11 := hkc.out.bx ok hx11 hd11
            have hr11 := hkr.out.low ok.mA hx11
            have HT := Lib.hid hT
            have hsb : SB f X11 vs g8 xa xb g9 ua ub g10 s vs u5 u6 := ⟨hk11.p2, ht8', ht9', hst', World.block_lt_of_cell? _ _ ht8'.c0, World.block_lt_of_cell? _ _ ht9'.c0, hst'.lt, by omega, by omega, by omega,
              ⟨fun e => by have := (hkr.out.rs.lt _ e).2; omega, fun e => by have := (hkr.out.ri.lt _ e).2; omega, fun e => by have := (hkr.out.rk.lt _ e).2; omega⟩,
              ⟨fun e => by have := (hkr.out.rs.lt _ e).2; omega, fun e => by have := (hkr.out.ri.lt _ e).2; omega, fun e => by have := (hkr.out.rk.lt _ e).2; omega⟩,
              ⟨fun e => by have := (hkr.out.rs.lt _ e).2; omega, fun e => by have := (hkr.out.ri.lt _ e).2; omega, fun e => by have := (hkr.out.rk.lt _ e).2; omega⟩⟩
            clear hT hst' ht8' ht9' hd11 hx11
            go_upto_region 12 with fail
            obtain ⟨i9, j9, z9, s9, b9⟩ := info_star
            obtain ⟨i2, j2, z2, s2, b2⟩ := info_spot
            have I9 := Lib.hid (And.intro j9 (And.intro z9 (And.intro s9 b9)))
            have I2 := Lib.hid (And.intro j2 (And.intro z2 (And.intro s2 b2)))
            clear j9 z9 s9 b9 j2 z2 s2 b2
            have hbD : Below X11.heap.size X11 X11.drew := Below.drew (Below.refl _ _)
            have hk0 := hk11.grown ok hbD
            have hr0 := hr11.grown hbD
            have hb0 := hsb.grown ok hbD
            clear hk11 hr11 hsb hbD
            have hTL2 := Lib.hid (tru_push hTL.out (hl1.trans hl2.symm) (hl1.trans hl3.symm) HT.out HK0.out HK1.out)
            have hln1 : (ss ++ [s]).length = k + 1 := by simp [hl1]
            have hln2 : (is ++ [(xa, xb)]).length = k + 1 := by simp [hl2]
            have hln3 : (ks ++ [(ua, ub)]).length = k + 1 := by simp [hl3]
            have HL := Lib.hid (And.intro hln1 (And.intro hln2 hln3))
            clear hln1 hln2 hln3
            have hb1 : ss.length ≤ 10 := by omega
            have hb2 : is.length ≤ 10 := by omega
            have hb3 : ks.length ≤ 10 := by omega
            clear hl1 hl2 hl3
            refine wp_region_treeF5 [1, 2, 6, 10] (.read 0 (.read 1 (.read 2 (.read 5 (.read 6 (.read 9 (.read 10 (.three 3 (.three 4 (.read 13 (.two 7 (.two 8 (.one 11 (.one 12 (.one 14 (.read 15 (.read 16 (.leaf)))))) 11 (.one 8 (.one 12 (.one 14 (.read 15 (.read 16 (.leaf))))))) 11 (.one 7 (.one 8 (.one 12 (.one 14 (.read 15 (.read 16 (.leaf))))))))) 7 (.two 4 (.read 13 (.two 8 (.one 11 (.one 12 (.one 14 (.read 15 (.read 16 (.leaf)))))) 11 (.one 8 (.one 12 (.one 14 (.read 15 (.read 16 (.leaf)))))))) 11 (.one 4 (.read 13 (.one 8 (.one 12 (.one 14 (.read 15 (.read 16 (.leaf))))))))) 11 (.two 4 (.read 13 (.one 7 (.one 8 (.one 12 (.one 14 (.read 15 (.read 16 (.leaf)))))))) 7 (.one 4 (.read 13 (.one 8 (.one 12 (.one 14 (.read 15 (.read 16 (.leaf)))))))))) 7 (.two 3 (.two 4 (.read 13 (.two 8 (.one 11 (.one 12 (.one 14 (.read 15 (.read 16 (.leaf)))))) 11 (.one 8 (.one 12 (.one 14 (.read 15 (.read 16 (.leaf)))))))) 11 (.one 4 (.read 13 (.one 8 (.one 12 (.one 14 (.read 15 (.read 16 (.leaf))))))))) 11 (.one 3 (.one 4 (.read 13 (.one 8 (.one 12 (.one 14 (.read 15 (.read 16 (.leaf)))))))))) 11 (.two 3 (.two 4 (.read 13 (.one 7 (.one 8 (.one 12 (.one 14 (.read 15 (.read 16 (.leaf)))))))) 7 (.one 4 (.read 13 (.one 8 (.one 12 (.one 14 (.read 15 (.read 16 (.leaf))))))))) 7 (.one 3 (.one 4 (.read 13 (.one 8 (.one 12 (.one 14 (.read 15 (.read 16 (.leaf)))))))))))))))))) (fun Y => Y.cell? ⟨f.B, 2, none⟩ = some vs ∧ (Y.cell? ⟨g8, 0, none⟩ = some (.int .i64 xa) ∧ Y.cell? ⟨g8, 1, none⟩ = some (.int .i64 xb)) ∧ (Y.cell? ⟨g9, 0, none⟩ = some (.int .i64 ua) ∧ Y.cell? ⟨g9, 1, none⟩ = some (.int .i64 ub)) ∧ Y.cell? ⟨g10, 0, none⟩ = some (.int .i64 s.x0) ∧ Y.cell? ⟨g10, 1, none⟩ = some (.int .i64 s.x1) ∧ Y.cell? ⟨g10, 2, none⟩ = some (.int .i64 s.y0) ∧ Y.cell? ⟨g10, 3, none⟩ = some (.int .i64 s.y1) ∧ Y.cell? ⟨g10, 4, none⟩ = some (.bool s.k) ∧ Y.cell? ⟨g10, 5, none⟩ = some (.int .i64 s.e0) ∧ Y.cell? ⟨g10, 6, none⟩ = some (.int .i64 s.e1) ∧ Y.cell? ⟨g10, 7, none⟩ = some (.int .i64 s.n0) ∧ Y.cell? ⟨g10, 8, none⟩ = some (.int .i64 s.n1)) (by kernel_rfl) (by kernel_rfl) (fun _ _ d _ _ h => by cases d <;> exact h) hb0.all ?_
            generalize X11.drew = Y0 at *
            repeat (first | (refine trF_read5 rfl (by rfl) _ (fun w' hS => by (try replace hS := hS (by decide)); (try dsimp only at hS); go_simp; (try with_reducible rfl)) ?_; (try simp only [Act.put, List.setIfInBounds_toArray, List.set_cons_zero, List.set_cons_succ])) | (refine trF_skip5 rfl (by rfl) ?_; (try simp only [Act.put, List.setIfInBounds_toArray, List.set_cons_zero, List.set_cons_succ])))
            refine ⟨?_, ?_, ?_⟩
            · skip
              refine trF_step5 rfl (by rfl) (fun K hK => ?_)
              have hx := newB Y0 (.cells #[.int .i64 s.x0, .int .i64 s.x1, .int .i64 s.y0, .int .i64 s.y1, .bool s.k, .int .i64 s.e0, .int .i64 s.e1, .int .i64 s.n0, .int .i64 s.n1] 55)
              have hk1 := hk0.grown ok hx
              have hr1 := hr0.grown hx
              have sb1 := hb0.grown ok hx
              have nS_1 : NB f (Y0.alloc (.cells #[.int .i64 s.x0, .int .i64 s.x1, .int .i64 s.y0, .int .i64 s.y1, .bool s.k, .int .i64 s.e0, .int .i64 s.e1, .int .i64 s.n0, .int .i64 s.n1] 55)) Y0.heap.size (starC s) vs u5 u6 := NB.new (xs := starC s) 55 hk0 hr0
              go_simp
              refine hK _ _ sb1.all ?_
              clear hK K hx hk0 hr0 hb0 
              generalize Y0.heap.size = gS at *
              generalize Y0.alloc (.cells #[.int .i64 s.x0, .int .i64 s.x1, .int .i64 s.y0, .int .i64 s.y1, .bool s.k, .int .i64 s.e0, .int .i64 s.e1, .int .i64 s.n0, .int .i64 s.n1] 55) = Y1 at *
              (try simp only [Act.put, List.setIfInBounds_toArray, List.set_cons_zero, List.set_cons_succ])
              refine ⟨?_, ?_, ?_⟩
              · skip
                refine trF_step5 rfl (by rfl) (fun K hK => ?_)
                obtain ⟨j9, z9, s9, b9⟩ := I9.out
                refine wp_append_lies Y1 (.tmp 93) (.tmp 95) 27 rfl f.M 55 i9 (.agg #[.int .i64 0, .int .i64 0, .int .i64 0, .int .i64 0, .bool false, .int .i64 0, .int .i64 0, .int .i64 0, .int .i64 0]) 9 72 Try.underlying27 j9 z9 s9 b9 rfl (by decide) vs ss.length (ss.flatMap starC) (by rfl) hr1.rs ⟨gS, 0, none⟩ 1 1 (starC s) (by rfl) rfl nS_1.nw (by intro u hu; simp [starC, St.cells] at hu; rcases hu with rfl | rfl | rfl | rfl | rfl | rfl | rfl | rfl | rfl <;> rfl) (by omega) (by unfold maxLen; omega) (by omega) hk1.sz _ rfl ?_
                intro gnS capS Y2 hrow hgr hfr _
                have hk2 := hk1.by ok hgr (fun b hb => (hr1.rs.lt b hb).1)
                have sb2 := sb1.appS (n := ss.length + 1) (cap := capS) ok hgr (fun b hb => (hr1.rs.lt b hb).1) hfr
                have hr2 := hr1.pushS hgr hrow
                refine hK _ _ sb2.all ?_
                clear hK K hrow hgr hfr j9 z9 s9 b9 hk1 hr1 sb1 nS_1
                (try simp only [Act.put, List.setIfInBounds_toArray, List.set_cons_zero, List.set_cons_succ])
                repeat (first | (refine trF_read5 rfl (by rfl) _ (fun w' hS => by (try replace hS := hS (by decide)); (try dsimp only at hS); go_simp; (try with_reducible rfl)) ?_; (try simp only [Act.put, List.setIfInBounds_toArray, List.set_cons_zero, List.set_cons_succ])) | (refine trF_skip5 rfl (by rfl) ?_; (try simp only [Act.put, List.setIfInBounds_toArray, List.set_cons_zero, List.set_cons_succ])))
                refine ⟨?_, ?_⟩
                · skip
                  refine trF_step5 rfl (by rfl) (fun K hK => ?_)
                  have hx := newB Y2 (.cells #[.int .i64 xa, .int .i64 xb] 39)
                  have hk3 := hk2.grown ok hx
                  have hr3 := hr2.grown hx
                  have sb3 := sb2.grown ok hx
                  have nI_3 : NB f (Y2.alloc (.cells #[.int .i64 xa, .int .i64 xb] 39)) Y2.heap.size (spotV (xa, xb)) (.slice (some ⟨gnS, 0, none⟩) (ss.length + 1) capS) u5 u6 := NB.new (xs := spotV (xa, xb)) 39 hk2 hr2
                  go_simp
                  refine hK _ _ sb3.all ?_
                  clear hK K hx hk2 hr2 sb2 
                  generalize Y2.heap.size = gI at *
                  generalize Y2.alloc (.cells #[.int .i64 xa, .int .i64 xb] 39) = Y3 at *
                  (try simp only [Act.put, List.setIfInBounds_toArray, List.set_cons_zero, List.set_cons_succ])
                  refine ⟨?_, ?_⟩
                  · skip
                    refine trF_step5 rfl (by rfl) (fun K hK => ?_)
                    obtain ⟨j2, z2, s2, b2⟩ := I2.out
                    refine wp_append_lies Y3 (.tmp 97) (.tmp 99) 40 rfl f.M 39 i2 (.agg #[.int .i64 0, .int .i64 0]) 2 16 Try.underlying40 j2 z2 s2 b2 rfl (by decide) u5 is.length (is.flatMap spotV) (by rfl) hr3.ri ⟨gI, 0, none⟩ 1 1 (spotV (xa, xb)) (by rfl) rfl nI_3.nw (by intro u hu; simp [spotV] at hu; rcases hu with rfl | rfl <;> rfl) (by omega) (by unfold maxLen; omega) (by omega) hk3.sz _ rfl ?_
                    intro gnI capI Y4 hrow hgr hfr _
                    have hk4 := hk3.by ok hgr (fun b hb => (hr3.ri.lt b hb).1)
                    have sb4 := sb3.appI (n := is.length + 1) (cap := capI) ok hgr (fun b hb => (hr3.ri.lt b hb).1) hfr
                    have hr4 := hr3.pushI hgr hrow hfr
                    refine hK _ _ sb4.all ?_
                    clear hK K hrow hgr hfr j2 z2 s2 b2 hk3 hr3 sb3 nI_3
                    (try simp only [Act.put, List.setIfInBounds_toArray, List.set_cons_zero, List.set_cons_succ])
                    refine trF_step5 rfl (by rfl) (fun K hK => ?_)
                    have hx := newB Y4 (.cells #[.int .i64 ua, .int .i64 ub] 39)
                    have hk5 := hk4.grown ok hx
                    have hr5 := hr4.grown hx
                    have sb5 := sb4.grown ok hx
                    have nK_5 : NB f (Y4.alloc (.cells #[.int .i64 ua, .int .i64 ub] 39)) Y4.heap.size (spotV (ua, ub)) (.slice (some ⟨gnS, 0, none⟩) (ss.length + 1) capS) (.slice (some ⟨gnI, 0, none⟩) (is.length + 1) capI) u6 := NB.new (xs := spotV (ua, ub)) 39 hk4 hr4
                    go_simp
                    refine hK _ _ sb5.all ?_
                    clear hK K hx hk4 hr4 sb4 
                    generalize Y4.heap.size = gK at *
                    generalize Y4.alloc (.cells #[.int .i64 ua, .int .i64 ub] 39) = Y5 at *
                    (try simp only [Act.put, List.setIfInBounds_toArray, List.set_cons_zero, List.set_cons_succ])
                    refine trF_step5 rfl (by rfl) (fun K hK => ?_)
                    obtain ⟨j2, z2, s2, b2⟩ := I2.out
                    refine wp_append_lies Y5 (.tmp 101) (.tmp 103) 40 rfl f.M 39 i2 (.agg #[.int .i64 0, .int .i64 0]) 2 16 Try.underlying40 j2 z2 s2 b2 rfl (by decide) u6 ks.length (ks.flatMap spotV) (by rfl) hr5.rk ⟨gK, 0, none⟩ 1 1 (spotV (ua, ub)) (by rfl) rfl nK_5.nw (by intro u hu; simp [spotV] at hu; rcases hu with rfl | rfl <;> rfl) (by omega) (by unfold maxLen; omega) (by omega) hk5.sz _ rfl ?_
                    intro gnK capK Y6 hrow hgr hfr _
                    have hk6 := hk5.by ok hgr (fun b hb => (hr5.rk.lt b hb).1)
                    have sb6 := sb5.appK (n := ks.length + 1) (cap := capK) ok hgr (fun b hb => (hr5.rk.lt b hb).1) hfr
                    have hr6 := hr5.pushK hgr hrow hfr
                    refine hK _ _ sb6.all ?_
                    clear hK K hrow hgr hfr j2 z2 s2 b2 hk5 hr5 sb5 nK_5
                    (try simp only [Act.put, List.setIfInBounds_toArray, List.set_cons_zero, List.set_cons_succ])
                    refine trF_late5 rfl (by rfl) (by kernel_rfl) (fun K hK => ?_)
                    obtain ⟨v2, p2, f2⟩ := hk6.sp.get 2 (by omega)
                    have hk7 := hk6.put2 ok (.slice (some ⟨gnS, 0, none⟩) (ss.length + 1) capS)
                    have hr7 := hr6.low ok.mB (BX.set f.B 2 Y6 (.slice (some ⟨gnS, 0, none⟩) (ss.length + 1) capS))
                    go_simp
                    refine hK _ _ ?_
                    clear hK K v2 p2 f2 hk6 hr6 sb6
                    generalize Y6.setCell ⟨f.B, 2, none⟩ (.slice (some ⟨gnS, 0, none⟩) (ss.length + 1) capS) = Y7 at *
                    (try simp only [Act.put, List.setIfInBounds_toArray, List.set_cons_zero, List.set_cons_succ])
                    repeat (first | (refine trF_read5 rfl (by rfl) _ (fun w' hS => by (try replace hS := hS (by decide)); (try dsimp only at hS); go_simp; (try with_reducible rfl)) ?_; (try simp only [Act.put, List.setIfInBounds_toArray, List.set_cons_zero, List.set_cons_succ])) | (refine trF_skip5 rfl (by rfl) ?_; (try simp only [Act.put, List.setIfInBounds_toArray, List.set_cons_zero, List.set_cons_succ])))
                    have HK12 := Lib.hid hk7
                    have HR12 := Lib.hid hr7
                    clear hk7 hr7
                    show Exit.inBlock _ _ Exit.normal _ _
                    go_wp2_with fail
                    go_roundw
                    case rel => exact ⟨k + 1, c', _, _, _, _, by omega, by go_num, HL.out, by omega, HK12, HR12, hTL2⟩
                    case measure => simp [intOf]; omega
                  · skip
                    refine trF_step5 rfl (by rfl) (fun K hK => ?_)
                    have hx := newB Y3 (.cells #[.int .i64 ua, .int .i64 ub] 39)
                    have hk8 := hk3.grown ok hx
                    have hr8 := hr3.grown hx
                    have sb8 := sb3.grown ok hx
                    have nK_8 : NB f (Y3.alloc (.cells #[.int .i64 ua, .int .i64 ub] 39)) Y3.heap.size (spotV (ua, ub)) (.slice (some ⟨gnS, 0, none⟩) (ss.length + 1) capS) u5 u6 := NB.new (xs := spotV (ua, ub)) 39 hk3 hr3
                    have nI_8 := nI_3.grown hx
                    go_simp
                    refine hK _ _ sb8.all ?_
                    clear hK K hx hk3 hr3 sb3 nI_3
                    generalize Y3.heap.size = gK at *
                    generalize Y3.alloc (.cells #[.int .i64 ua, .int .i64 ub] 39) = Y8 at *
                    (try simp only [Act.put, List.setIfInBounds_toArray, List.set_cons_zero, List.set_cons_succ])
                    refine trF_step5 rfl (by rfl) (fun K hK => ?_)
                    obtain ⟨j2, z2, s2, b2⟩ := I2.out
                    refine wp_append_lies Y8 (.tmp 97) (.tmp 99) 40 rfl f.M 39 i2 (.agg #[.int .i64 0, .int .i64 0]) 2 16 Try.underlying40 j2 z2 s2 b2 rfl (by decide) u5 is.length (is.flatMap spotV) (by rfl) hr8.ri ⟨gI, 0, none⟩ 1 1 (spotV (xa, xb)) (by rfl) rfl nI_8.nw (by intro u hu; simp [spotV] at hu; rcases hu with rfl | rfl <;> rfl) (by omega) (by unfold maxLen; omega) (by omega) hk8.sz _ rfl ?_
                    intro gnI capI Y9 hrow hgr hfr _
                    have hk9 := hk8.by ok hgr (fun b hb => (hr8.ri.lt b hb).1)
                    have sb9 := sb8.appI (n := is.length + 1) (cap := capI) ok hgr (fun b hb => (hr8.ri.lt b hb).1) hfr
                    have hr9 := hr8.pushI hgr hrow hfr
                    have nK_9 := nK_8.appI (n := is.length + 1) (cap := capI) hgr hfr
                    refine hK _ _ sb9.all ?_
                    clear hK K hrow hgr hfr j2 z2 s2 b2 hk8 hr8 sb8 nI_8 nK_8
                    (try simp only [Act.put, List.setIfInBounds_toArray, List.set_cons_zero, List.set_cons_succ])
                    refine trF_step5 rfl (by rfl) (fun K hK => ?_)
                    obtain ⟨j2, z2, s2, b2⟩ := I2.out
                    refine wp_append_lies Y9 (.tmp 101) (.tmp 103) 40 rfl f.M 39 i2 (.agg #[.int .i64 0, .int .i64 0]) 2 16 Try.underlying40 j2 z2 s2 b2 rfl (by decide) u6 ks.length (ks.flatMap spotV) (by rfl) hr9.rk ⟨gK, 0, none⟩ 1 1 (spotV (ua, ub)) (by rfl) rfl nK_9.nw (by intro u hu; simp [spotV] at hu; rcases hu with rfl | rfl <;> rfl) (by omega) (by unfold maxLen; omega) (by omega) hk9.sz _ rfl ?_
                    intro gnK capK Y10 hrow hgr hfr _
                    have hk10 := hk9.by ok hgr (fun b hb => (hr9.rk.lt b hb).1)
                    have sb10 := sb9.appK (n := ks.length + 1) (cap := capK) ok hgr (fun b hb => (hr9.rk.lt b hb).1) hfr
                    have hr10 := hr9.pushK hgr hrow hfr
                    refine hK _ _ sb10.all ?_
                    clear hK K hrow hgr hfr j2 z2 s2 b2 hk9 hr9 sb9 nK_9
                    (try simp only [Act.put, List.setIfInBounds_toArray, List.set_cons_zero, List.set_cons_succ])
                    refine trF_late5 rfl (by rfl) (by kernel_rfl) (fun K hK => ?_)
                    obtain ⟨v2, p2, f2⟩ := hk10.sp.get 2 (by omega)
                    have hk11 := hk10.put2 ok (.slice (some ⟨gnS, 0, none⟩) (ss.length + 1) capS)
                    have hr11 := hr10.low ok.mB (BX.set f.B 2 Y10 (.slice (some ⟨gnS, 0, none⟩) (ss.length + 1) capS))
                    go_simp
                    refine hK _ _ ?_
                    clear hK K v2 p2 f2 hk10 hr10 sb10
                    generalize Y10.setCell ⟨f.B, 2, none⟩ (.slice (some ⟨gnS, 0, none⟩) (ss.length + 1) capS) = Y11 at *
                    (try simp only [Act.put, List.setIfInBounds_toArray, List.set_cons_zero, List.set_cons_succ])
                    repeat (first | (refine trF_read5 rfl (by rfl) _ (fun w' hS => by (try replace hS := hS (by decide)); (try dsimp only at hS); go_simp; (try with_reducible rfl)) ?_; (try simp only [Act.put, List.setIfInBounds_toArray, List.set_cons_zero, List.set_cons_succ])) | (refine trF_skip5 rfl (by rfl) ?_; (try simp only [Act.put, List.setIfInBounds_toArray, List.set_cons_zero, List.set_cons_succ])))
                    have HK12 := Lib.hid hk11
                    have HR12 := Lib.hid hr11
                    clear hk11 hr11
                    show Exit.inBlock _ _ Exit.normal _ _
                    go_wp2_with fail
                    go_roundw
                    case rel => exact ⟨k + 1, c', _, _, _, _, by omega, by go_num, HL.out, by omega, HK12, HR12, hTL2⟩
                    case measure => simp [intOf]; omega
                · skip
                  refine trF_step5 rfl (by rfl) (fun K hK => ?_)
                  have hx := newB Y2 (.cells #[.int .i64 ua, .int .i64 ub] 39)
                  have hk12 := hk2.grown ok hx
                  have hr12 := hr2.grown hx
                  have sb12 := sb2.grown ok hx
                  have nK_12 : NB f (Y2.alloc (.cells #[.int .i64 ua, .int .i64 ub] 39)) Y2.heap.size (spotV (ua, ub)) (.slice (some ⟨gnS, 0, none⟩) (ss.length + 1) capS) u5 u6 := NB.new (xs := spotV (ua, ub)) 39 hk2 hr2
                  go_simp
                  refine hK _ _ sb12.all ?_
                  clear hK K hx hk2 hr2 sb2 
                  generalize Y2.heap.size = gK at *
                  generalize Y2.alloc (.cells #[.int .i64 ua, .int .i64 ub] 39) = Y12 at *
                  (try simp only [Act.put, List.setIfInBounds_toArray, List.set_cons_zero, List.set_cons_succ])
                  refine trF_step5 rfl (by rfl) (fun K hK => ?_)
                  have hx := newB Y12 (.cells #[.int .i64 xa, .int .i64 xb] 39)
                  have hk13 := hk12.grown ok hx
                  have hr13 := hr12.grown hx
                  have sb13 := sb12.grown ok hx
                  have nI_13 : NB f (Y12.alloc (.cells #[.int .i64 xa, .int .i64 xb] 39)) Y12.heap.size (spotV (xa, xb)) (.slice (some ⟨gnS, 0, none⟩) (ss.length + 1) capS) u5 u6 := NB.new (xs := spotV (xa, xb)) 39 hk12 hr12
                  have nK_13 := nK_12.grown hx
                  go_simp
                  refine hK _ _ sb13.all ?_
                  clear hK K hx hk12 hr12 sb12 nK_12
                  generalize Y12.heap.size = gI at *
                  generalize Y12.alloc (.cells #[.int .i64 xa, .int .i64 xb] 39) = Y13 at *
                  (try simp only [Act.put, List.setIfInBounds_toArray, List.set_cons_zero, List.set_cons_succ])
                  refine trF_step5 rfl (by rfl) (fun K hK => ?_)
                  obtain ⟨j2, z2, s2, b2⟩ := I2.out
                  refine wp_append_lies Y13 (.tmp 97) (.tmp 99) 40 rfl f.M 39 i2 (.agg #[.int .i64 0, .int .i64 0]) 2 16 Try.underlying40 j2 z2 s2 b2 rfl (by decide) u5 is.length (is.flatMap spotV) (by rfl) hr13.ri ⟨gI, 0, none⟩ 1 1 (spotV (xa, xb)) (by rfl) rfl nI_13.nw (by intro u hu; simp [spotV] at hu; rcases hu with rfl | rfl <;> rfl) (by omega) (by unfold maxLen; omega) (by omega) hk13.sz _ rfl ?_
                  intro gnI capI Y14 hrow hgr hfr _
                  have hk14 := hk13.by ok hgr (fun b hb => (hr13.ri.lt b hb).1)
                  have sb14 := sb13.appI (n := is.length + 1) (cap := capI) ok hgr (fun b hb => (hr13.ri.lt b hb).1) hfr
                  have hr14 := hr13.pushI hgr hrow hfr
                  have nK_14 := nK_13.appI (n := is.length + 1) (cap := capI) hgr hfr
                  refine hK _ _ sb14.all ?_
                  clear hK K hrow hgr hfr j2 z2 s2 b2 hk13 hr13 sb13 nK_13 nI_13
                  (try simp only [Act.put, List.setIfInBounds_toArray, List.set_cons_zero, List.set_cons_succ])
                  refine trF_step5 rfl (by rfl) (fun K hK => ?_)
                  obtain ⟨j2, z2, s2, b2⟩ := I2.out
                  refine wp_append_lies Y14 (.tmp 101) (.tmp 103) 40 rfl f.M 39 i2 (.agg #[.int .i64 0, .int .i64 0]) 2 16 Try.underlying40 j2 z2 s2 b2 rfl (by decide) u6 ks.length (ks.flatMap spotV) (by rfl) hr14.rk ⟨gK, 0, none⟩ 1 1 (spotV (ua, ub)) (by rfl) rfl nK_14.nw (by intro u hu; simp [spotV] at hu; rcases hu with rfl | rfl <;> rfl) (by omega) (by unfold maxLen; omega) (by omega) hk14.sz _ rfl ?_
                  intro gnK capK Y15 hrow hgr hfr _
                  have hk15 := hk14.by ok hgr (fun b hb => (hr14.rk.lt b hb).1)
                  have sb15 := sb14.appK (n := ks.length + 1) (cap := capK) ok hgr (fun b hb => (hr14.rk.lt b hb).1) hfr
                  have hr15 := hr14.pushK hgr hrow hfr
                  refine hK _ _ sb15.all ?_
                  clear hK K hrow hgr hfr j2 z2 s2 b2 hk14 hr14 sb14 nK_14
                  (try simp only [Act.put, List.setIfInBounds_toArray, List.set_cons_zero, List.set_cons_succ])
                  refine trF_late5 rfl (by rfl) (by kernel_rfl) (fun K hK => ?_)
                  obtain ⟨v2, p2, f2⟩ := hk15.sp.get 2 (by omega)
                  have hk16 := hk15.put2 ok (.slice (some ⟨gnS, 0, none⟩) (ss.length + 1) capS)
                  have hr16 := hr15.low ok.mB (BX.set f.B 2 Y15 (.slice (some ⟨gnS, 0, none⟩) (ss.length + 1) capS))
                  go_simp
                  refine hK _ _ ?_
                  clear hK K v2 p2 f2 hk15 hr15 sb15
                  generalize Y15.setCell ⟨f.B, 2, none⟩ (.slice (some ⟨gnS, 0, none⟩) (ss.length + 1) capS) = Y16 at *
                  (try simp only [Act.put, List.setIfInBounds_toArray, List.set_cons_zero, List.set_cons_succ])
                  repeat (first | (refine trF_read5 rfl (by rfl) _ (fun w' hS => by (try replace hS := hS (by decide)); (try dsimp only at hS); go_simp; (try with_reducible rfl)) ?_; (try simp only [Act.put, List.setIfInBounds_toArray, List.set_cons_zero, List.set_cons_succ])) | (refine trF_skip5 rfl (by rfl) ?_; (try simp only [Act.put, List.setIfInBounds_toArray, List.set_cons_zero, List.set_cons_succ])))
                  have HK12 := Lib.hid hk16
                  have HR12 := Lib.hid hr16
                  clear hk16 hr16
                  show Exit.inBlock _ _ Exit.normal _ _
                  go_wp2_with fail
                  go_roundw
                  case rel => exact ⟨k + 1, c', _, _, _, _, by omega, by go_num, HL.out, by omega, HK12, HR12, hTL2⟩
                  case measure => simp [intOf]; omega
              · skip
                refine trF_step5 rfl (by rfl) (fun K hK => ?_)
                have hx := newB Y1 (.cells #[.int .i64 xa, .int .i64 xb] 39)
                have hk17 := hk1.grown ok hx
                have hr17 := hr1.grown hx
                have sb17 := sb1.grown ok hx
                have nI_17 : NB f (Y1.alloc (.cells #[.int .i64 xa, .int .i64 xb] 39)) Y1.heap.size (spotV (xa, xb)) vs u5 u6 := NB.new (xs := spotV (xa, xb)) 39 hk1 hr1
                have nS_17 := nS_1.grown hx
                go_simp
                refine hK _ _ sb17.all ?_
                clear hK K hx hk1 hr1 sb1 nS_1
                generalize Y1.heap.size = gI at *
                generalize Y1.alloc (.cells #[.int .i64 xa, .int .i64 xb] 39) = Y17 at *
                (try simp only [Act.put, List.setIfInBounds_toArray, List.set_cons_zero, List.set_cons_succ])
                refine ⟨?_, ?_⟩
                · skip
                  refine trF_step5 rfl (by rfl) (fun K hK => ?_)
                  obtain ⟨j9, z9, s9, b9⟩ := I9.out
                  refine wp_append_lies Y17 (.tmp 93) (.tmp 95) 27 rfl f.M 55 i9 (.agg #[.int .i64 0, .int .i64 0, .int .i64 0, .int .i64 0, .bool false, .int .i64 0, .int .i64 0, .int .i64 0, .int .i64 0]) 9 72 Try.underlying27 j9 z9 s9 b9 rfl (by decide) vs ss.length (ss.flatMap starC) (by rfl) hr17.rs ⟨gS, 0, none⟩ 1 1 (starC s) (by rfl) rfl nS_17.nw (by intro u hu; simp [starC, St.cells] at hu; rcases hu with rfl | rfl | rfl | rfl | rfl | rfl | rfl | rfl | rfl <;> rfl) (by omega) (by unfold maxLen; omega) (by omega) hk17.sz _ rfl ?_
                  intro gnS capS Y18 hrow hgr hfr _
                  have hk18 := hk17.by ok hgr (fun b hb => (hr17.rs.lt b hb).1)
                  have sb18 := sb17.appS (n := ss.length + 1) (cap := capS) ok hgr (fun b hb => (hr17.rs.lt b hb).1) hfr
                  have hr18 := hr17.pushS hgr hrow
                  have nI_18 := nI_17.appS (n := ss.length + 1) (cap := capS) hgr hfr
                  refine hK _ _ sb18.all ?_
                  clear hK K hrow hgr hfr j9 z9 s9 b9 hk17 hr17 sb17 nS_17 nI_17
                  (try simp only [Act.put, List.setIfInBounds_toArray, List.set_cons_zero, List.set_cons_succ])
                  repeat (first | (refine trF_read5 rfl (by rfl) _ (fun w' hS => by (try replace hS := hS (by decide)); (try dsimp only at hS); go_simp; (try with_reducible rfl)) ?_; (try simp only [Act.put, List.setIfInBounds_toArray, List.set_cons_zero, List.set_cons_succ])) | (refine trF_skip5 rfl (by rfl) ?_; (try simp only [Act.put, List.setIfInBounds_toArray, List.set_cons_zero, List.set_cons_succ])))
                  refine ⟨?_, ?_⟩
                  · skip
                    refine trF_step5 rfl (by rfl) (fun K hK => ?_)
                    obtain ⟨j2, z2, s2, b2⟩ := I2.out
                    refine wp_append_lies Y18 (.tmp 97) (.tmp 99) 40 rfl f.M 39 i2 (.agg #[.int .i64 0, .int .i64 0]) 2 16 Try.underlying40 j2 z2 s2 b2 rfl (by decide) u5 is.length (is.flatMap spotV) (by rfl) hr18.ri ⟨gI, 0, none⟩ 1 1 (spotV (xa, xb)) (by rfl) rfl nI_18.nw (by intro u hu; simp [spotV] at hu; rcases hu with rfl | rfl <;> rfl) (by omega) (by unfold maxLen; omega) (by omega) hk18.sz _ rfl ?_
                    intro gnI capI Y19 hrow hgr hfr _
                    have hk19 := hk18.by ok hgr (fun b hb => (hr18.ri.lt b hb).1)
                    have sb19 := sb18.appI (n := is.length + 1) (cap := capI) ok hgr (fun b hb => (hr18.ri.lt b hb).1) hfr
                    have hr19 := hr18.pushI hgr hrow hfr
                    refine hK _ _ sb19.all ?_
                    clear hK K hrow hgr hfr j2 z2 s2 b2 hk18 hr18 sb18 nI_18
                    (try simp only [Act.put, List.setIfInBounds_toArray, List.set_cons_zero, List.set_cons_succ])
                    refine trF_step5 rfl (by rfl) (fun K hK => ?_)
                    have hx := newB Y19 (.cells #[.int .i64 ua, .int .i64 ub] 39)
                    have hk20 := hk19.grown ok hx
                    have hr20 := hr19.grown hx
                    have sb20 := sb19.grown ok hx
                    have nK_20 : NB f (Y19.alloc (.cells #[.int .i64 ua, .int .i64 ub] 39)) Y19.heap.size (spotV (ua, ub)) (.slice (some ⟨gnS, 0, none⟩) (ss.length + 1) capS) (.slice (some ⟨gnI, 0, none⟩) (is.length + 1) capI) u6 := NB.new (xs := spotV (ua, ub)) 39 hk19 hr19
                    go_simp
                    refine hK _ _ sb20.all ?_
                    clear hK K hx hk19 hr19 sb19 
                    generalize Y19.heap.size = gK at *
                    generalize Y19.alloc (.cells #[.int .i64 ua, .int .i64 ub] 39) = Y20 at *
                    (try simp only [Act.put, List.setIfInBounds_toArray, List.set_cons_zero, List.set_cons_succ])
                    refine trF_step5 rfl (by rfl) (fun K hK => ?_)
                    obtain ⟨j2, z2, s2, b2⟩ := I2.out
                    refine wp_append_lies Y20 (.tmp 101) (.tmp 103) 40 rfl f.M 39 i2 (.agg #[.int .i64 0, .int .i64 0]) 2 16 Try.underlying40 j2 z2 s2 b2 rfl (by decide) u6 ks.length (ks.flatMap spotV) (by rfl) hr20.rk ⟨gK, 0, none⟩ 1 1 (spotV (ua, ub)) (by rfl) rfl nK_20.nw (by intro u hu; simp [spotV] at hu; rcases hu with rfl | rfl <;> rfl) (by omega) (by unfold maxLen; omega) (by omega) hk20.sz _ rfl ?_
                    intro gnK capK Y21 hrow hgr hfr _
                    have hk21 := hk20.by ok hgr (fun b hb => (hr20.rk.lt b hb).1)
                    have sb21 := sb20.appK (n := ks.length + 1) (cap := capK) ok hgr (fun b hb => (hr20.rk.lt b hb).1) hfr
                    have hr21 := hr20.pushK hgr hrow hfr
                    refine hK _ _ sb21.all ?_
                    clear hK K hrow hgr hfr j2 z2 s2 b2 hk20 hr20 sb20 nK_20
                    (try simp only [Act.put, List.setIfInBounds_toArray, List.set_cons_zero, List.set_cons_succ])
                    refine trF_late5 rfl (by rfl) (by kernel_rfl) (fun K hK => ?_)
                    obtain ⟨v2, p2, f2⟩ := hk21.sp.get 2 (by omega)
                    have hk22 := hk21.put2 ok (.slice (some ⟨gnS, 0, none⟩) (ss.length + 1) capS)
                    have hr22 := hr21.low ok.mB (BX.set f.B 2 Y21 (.slice (some ⟨gnS, 0, none⟩) (ss.length + 1) capS))
                    go_simp
                    refine hK _ _ ?_
                    clear hK K v2 p2 f2 hk21 hr21 sb21
                    generalize Y21.setCell ⟨f.B, 2, none⟩ (.slice (some ⟨gnS, 0, none⟩) (ss.length + 1) capS) = Y22 at *
                    (try simp only [Act.put, List.setIfInBounds_toArray, List.set_cons_zero, List.set_cons_succ])
                    repeat (first | (refine trF_read5 rfl (by rfl) _ (fun w' hS => by (try replace hS := hS (by decide)); (try dsimp only at hS); go_simp; (try with_reducible rfl)) ?_; (try simp only [Act.put, List.setIfInBounds_toArray, List.set_cons_zero, List.set_cons_succ])) | (refine trF_skip5 rfl (by rfl) ?_; (try simp only [Act.put, List.setIfInBounds_toArray, List.set_cons_zero, List.set_cons_succ])))
                    have HK12 := Lib.hid hk22
                    have HR12 := Lib.hid hr22
                    clear hk22 hr22
                    show Exit.inBlock _ _ Exit.normal _ _
                    go_wp2_with fail
                    go_roundw
                    case rel => exact ⟨k + 1, c', _, _, _, _, by omega, by go_num, HL.out, by omega, HK12, HR12, hTL2⟩
                    case measure => simp [intOf]; omega
                  · skip
                    refine trF_step5 rfl (by rfl) (fun K hK => ?_)
                    have hx := newB Y18 (.cells #[.int .i64 ua, .int .i64 ub] 39)
                    have hk23 := hk18.grown ok hx
                    have hr23 := hr18.grown hx
                    have sb23 := sb18.grown ok hx
                    have nK_23 : NB f (Y18.alloc (.cells #[.int .i64 ua, .int .i64 ub] 39)) Y18.heap.size (spotV (ua, ub)) (.slice (some ⟨gnS, 0, none⟩) (ss.length + 1) capS) u5 u6 := NB.new (xs := spotV (ua, ub)) 39 hk18 hr18
                    have nI_23 := nI_18.grown hx
                    go_simp
                    refine hK _ _ sb23.all ?_
                    clear hK K hx hk18 hr18 sb18 nI_18
                    generalize Y18.heap.size = gK at *
                    generalize Y18.alloc (.cells #[.int .i64 ua, .int .i64 ub] 39) = Y23 at *
                    (try simp only [Act.put, List.setIfInBounds_toArray, List.set_cons_zero, List.set_cons_succ])
                    refine trF_step5 rfl (by rfl) (fun K hK => ?_)
                    obtain ⟨j2, z2, s2, b2⟩ := I2.out
                    refine wp_append_lies Y23 (.tmp 97) (.tmp 99) 40 rfl f.M 39 i2 (.agg #[.int .i64 0, .int .i64 0]) 2 16 Try.underlying40 j2 z2 s2 b2 rfl (by decide) u5 is.length (is.flatMap spotV) (by rfl) hr23.ri ⟨gI, 0, none⟩ 1 1 (spotV (xa, xb)) (by rfl) rfl nI_23.nw (by intro u hu; simp [spotV] at hu; rcases hu with rfl | rfl <;> rfl) (by omega) (by unfold maxLen; omega) (by omega) hk23.sz _ rfl ?_
                    intro gnI capI Y24 hrow hgr hfr _
                    have hk24 := hk23.by ok hgr (fun b hb => (hr23.ri.lt b hb).1)
                    have sb24 := sb23.appI (n := is.length + 1) (cap := capI) ok hgr (fun b hb => (hr23.ri.lt b hb).1) hfr
                    have hr24 := hr23.pushI hgr hrow hfr
                    have nK_24 := nK_23.appI (n := is.length + 1) (cap := capI) hgr hfr
                    refine hK _ _ sb24.all ?_
                    clear hK K hrow hgr hfr j2 z2 s2 b2 hk23 hr23 sb23 nI_23 nK_23
                    (try simp only [Act.put, List.setIfInBounds_toArray, List.set_cons_zero, List.set_cons_succ])
                    refine trF_step5 rfl (by rfl) (fun K hK => ?_)
                    obtain ⟨j2, z2, s2, b2⟩ := I2.out
                    refine wp_append_lies Y24 (.tmp 101) (.tmp 103) 40 rfl f.M 39 i2 (.agg #[.int .i64 0, .int .i64 0]) 2 16 Try.underlying40 j2 z2 s2 b2 rfl (by decide) u6 ks.length (ks.flatMap spotV) (by rfl) hr24.rk ⟨gK, 0, none⟩ 1 1 (spotV (ua, ub)) (by rfl) rfl nK_24.nw (by intro u hu; simp [spotV] at hu; rcases hu with rfl | rfl <;> rfl) (by omega) (by unfold maxLen; omega) (by omega) hk24.sz _ rfl ?_
                    intro gnK capK Y25 hrow hgr hfr _
                    have hk25 := hk24.by ok hgr (fun b hb => (hr24.rk.lt b hb).1)
                    have sb25 := sb24.appK (n := ks.length + 1) (cap := capK) ok hgr (fun b hb => (hr24.rk.lt b hb).1) hfr
                    have hr25 := hr24.pushK hgr hrow hfr
                    refine hK _ _ sb25.all ?_
                    clear hK K hrow hgr hfr j2 z2 s2 b2 hk24 hr24 sb24 nK_24
                    (try simp only [Act.put, List.setIfInBounds_toArray, List.set_cons_zero, List.set_cons_succ])
                    refine trF_late5 rfl (by rfl) (by kernel_rfl) (fun K hK => ?_)
                    obtain ⟨v2, p2, f2⟩ := hk25.sp.get 2 (by omega)
                    have hk26 := hk25.put2 ok (.slice (some ⟨gnS, 0, none⟩) (ss.length + 1) capS)
                    have hr26 := hr25.low ok.mB (BX.set f.B 2 Y25 (.slice (some ⟨gnS, 0, none⟩) (ss.length + 1) capS))
                    go_simp
                    refine hK _ _ ?_
                    clear hK K v2 p2 f2 hk25 hr25 sb25
                    generalize Y25.setCell ⟨f.B, 2, none⟩ (.slice (some ⟨gnS, 0, none⟩) (ss.length + 1) capS) = Y26 at *
                    (try simp only [Act.put, List.setIfInBounds_toArray, List.set_cons_zero, List.set_cons_succ])
                    repeat (first | (refine trF_read5 rfl (by rfl) _ (fun w' hS => by (try replace hS := hS (by decide)); (try dsimp only at hS); go_simp; (try with_reducible rfl)) ?_; (try simp only [Act.put, List.setIfInBounds_toArray, List.set_cons_zero, List.set_cons_succ])) | (refine trF_skip5 rfl (by rfl) ?_; (try simp only [Act.put, List.setIfInBounds_toArray, List.set_cons_zero, List.set_cons_succ])))
                    have HK12 := Lib.hid hk26
                    have HR12 := Lib.hid hr26
                    clear hk26 hr26
                    show Exit.inBlock _ _ Exit.normal _ _
                    go_wp2_with fail
                    go_roundw
                    case rel => exact ⟨k + 1, c', _, _, _, _, by omega, by go_num, HL.out, by omega, HK12, HR12, hTL2⟩
                    case measure => simp [intOf]; omega
                · skip
                  refine trF_step5 rfl (by rfl) (fun K hK => ?_)
                  have hx := newB Y17 (.cells #[.int .i64 ua, .int .i64 ub] 39)
                  have hk27 := hk17.grown ok hx
                  have hr27 := hr17.grown hx
                  have sb27 := sb17.grown ok hx
                  have nK_27 : NB f (Y17.alloc (.cells #[.int .i64 ua, .int .i64 ub] 39)) Y17.heap.size (spotV (ua, ub)) vs u5 u6 := NB.new (xs := spotV (ua, ub)) 39 hk17 hr17
                  have nS_27 := nS_17.grown hx
                  have nI_27 := nI_17.grown hx
                  go_simp
                  refine hK _ _ sb27.all ?_
                  clear hK K hx hk17 hr17 sb17 nS_17 nI_17
                  generalize Y17.heap.size = gK at *
                  generalize Y17.alloc (.cells #[.int .i64 ua, .int .i64 ub] 39) = Y27 at *
                  (try simp only [Act.put, List.setIfInBounds_toArray, List.set_cons_zero, List.set_cons_succ])
                  refine trF_step5 rfl (by rfl) (fun K hK => ?_)
                  obtain ⟨j9, z9, s9, b9⟩ := I9.out
                  refine wp_append_lies Y27 (.tmp 93) (.tmp 95) 27 rfl f.M 55 i9 (.agg #[.int .i64 0, .int .i64 0, .int .i64 0, .int .i64 0, .bool false, .int .i64 0, .int .i64 0, .int .i64 0, .int .i64 0]) 9 72 Try.underlying27 j9 z9 s9 b9 rfl (by decide) vs ss.length (ss.flatMap starC) (by rfl) hr27.rs ⟨gS, 0, none⟩ 1 1 (starC s) (by rfl) rfl nS_27.nw (by intro u hu; simp [starC, St.cells] at hu; rcases hu with rfl | rfl | rfl | rfl | rfl | rfl | rfl | rfl | rfl <;> rfl) (by omega) (by unfold maxLen; omega) (by omega) hk27.sz _ rfl ?_
                  intro gnS capS Y28 hrow hgr hfr _
                  have hk28 := hk27.by ok hgr (fun b hb => (hr27.rs.lt b hb).1)
                  have sb28 := sb27.appS (n := ss.length + 1) (cap := capS) ok hgr (fun b hb => (hr27.rs.lt b hb).1) hfr
                  have hr28 := hr27.pushS hgr hrow
                  have nI_28 := nI_27.appS (n := ss.length + 1) (cap := capS) hgr hfr
                  have nK_28 := nK_27.appS (n := ss.length + 1) (cap := capS) hgr hfr
                  refine hK _ _ sb28.all ?_
                  clear hK K hrow hgr hfr j9 z9 s9 b9 hk27 hr27 sb27 nS_27 nI_27 nK_27
                  (try simp only [Act.put, List.setIfInBounds_toArray, List.set_cons_zero, List.set_cons_succ])
                  repeat (first | (refine trF_read5 rfl (by rfl) _ (fun w' hS => by (try replace hS := hS (by decide)); (try dsimp only at hS); go_simp; (try with_reducible rfl)) ?_; (try simp only [Act.put, List.setIfInBounds_toArray, List.set_cons_zero, List.set_cons_succ])) | (refine trF_skip5 rfl (by rfl) ?_; (try simp only [Act.put, List.setIfInBounds_toArray, List.set_cons_zero, List.set_cons_succ])))
                  refine trF_step5 rfl (by rfl) (fun K hK => ?_)
                  obtain ⟨j2, z2, s2, b2⟩ := I2.out
                  refine wp_append_lies Y28 (.tmp 97) (.tmp 99) 40 rfl f.M 39 i2 (.agg #[.int .i64 0, .int .i64 0]) 2 16 Try.underlying40 j2 z2 s2 b2 rfl (by decide) u5 is.length (is.flatMap spotV) (by rfl) hr28.ri ⟨gI, 0, none⟩ 1 1 (spotV (xa, xb)) (by rfl) rfl nI_28.nw (by intro u hu; simp [spotV] at hu; rcases hu with rfl | rfl <;> rfl) (by omega) (by unfold maxLen; omega) (by omega) hk28.sz _ rfl ?_
                  intro gnI capI Y29 hrow hgr hfr _
                  have hk29 := hk28.by ok hgr (fun b hb => (hr28.ri.lt b hb).1)
                  have sb29 := sb28.appI (n := is.length + 1) (cap := capI) ok hgr (fun b hb => (hr28.ri.lt b hb).1) hfr
                  have hr29 := hr28.pushI hgr hrow hfr
                  have nK_29 := nK_28.appI (n := is.length + 1) (cap := capI) hgr hfr
                  refine hK _ _ sb29.all ?_
                  clear hK K hrow hgr hfr j2 z2 s2 b2 hk28 hr28 sb28 nI_28 nK_28
                  (try simp only [Act.put, List.setIfInBounds_toArray, List.set_cons_zero, List.set_cons_succ])
                  refine trF_step5 rfl (by rfl) (fun K hK => ?_)
                  obtain ⟨j2, z2, s2, b2⟩ := I2.out
                  refine wp_append_lies Y29 (.tmp 101) (.tmp 103) 40 rfl f.M 39 i2 (.agg #[.int .i64 0, .int .i64 0]) 2 16 Try.underlying40 j2 z2 s2 b2 rfl (by decide) u6 ks.length (ks.flatMap spotV) (by rfl) hr29.rk ⟨gK, 0, none⟩ 1 1 (spotV (ua, ub)) (by rfl) rfl nK_29.nw (by intro u hu; simp [spotV] at hu; rcases hu with rfl | rfl <;> rfl) (by omega) (by unfold maxLen; omega) (by omega) hk29.sz _ rfl ?_
                  intro gnK capK Y30 hrow hgr hfr _
                  have hk30 := hk29.by ok hgr (fun b hb => (hr29.rk.lt b hb).1)
                  have sb30 := sb29.appK (n := ks.length + 1) (cap := capK) ok hgr (fun b hb => (hr29.rk.lt b hb).1) hfr
                  have hr30 := hr29.pushK hgr hrow hfr
                  refine hK _ _ sb30.all ?_
                  clear hK K hrow hgr hfr j2 z2 s2 b2 hk29 hr29 sb29 nK_29
                  (try simp only [Act.put, List.setIfInBounds_toArray, List.set_cons_zero, List.set_cons_succ])
                  refine trF_late5 rfl (by rfl) (by kernel_rfl) (fun K hK => ?_)
                  obtain ⟨v2, p2, f2⟩ := hk30.sp.get 2 (by omega)
                  have hk31 := hk30.put2 ok (.slice (some ⟨gnS, 0, none⟩) (ss.length + 1) capS)
                  have hr31 := hr30.low ok.mB (BX.set f.B 2 Y30 (.slice (some ⟨gnS, 0, none⟩) (ss.length + 1) capS))
                  go_simp
                  refine hK _ _ ?_
                  clear hK K v2 p2 f2 hk30 hr30 sb30
                  generalize Y30.setCell ⟨f.B, 2, none⟩ (.slice (some ⟨gnS, 0, none⟩) (ss.length + 1) capS) = Y31 at *
                  (try simp only [Act.put, List.setIfInBounds_toArray, List.set_cons_zero, List.set_cons_succ])
                  repeat (first | (refine trF_read5 rfl (by rfl) _ (fun w' hS => by (try replace hS := hS (by decide)); (try dsimp only at hS); go_simp; (try with_reducible rfl)) ?_; (try simp only [Act.put, List.setIfInBounds_toArray, List.set_cons_zero, List.set_cons_succ])) | (refine trF_skip5 rfl (by rfl) ?_; (try simp only [Act.put, List.setIfInBounds_toArray, List.set_cons_zero, List.set_cons_succ])))
                  have HK12 := Lib.hid hk31
                  have HR12 := Lib.hid hr31
                  clear hk31 hr31
                  show Exit.inBlock _ _ Exit.normal _ _
                  go_wp2_with fail
                  go_roundw
                  case rel => exact ⟨k + 1, c', _, _, _, _, by omega, by go_num, HL.out, by omega, HK12, HR12, hTL2⟩
                  case measure => simp [intOf]; omega
              · skip
                refine trF_step5 rfl (by rfl) (fun K hK => ?_)
                have hx := newB Y1 (.cells #[.int .i64 ua, .int .i64 ub] 39)
                have hk32 := hk1.grown ok hx
                have hr32 := hr1.grown hx
                have sb32 := sb1.grown ok hx
                have nK_32 : NB f (Y1.alloc (.cells #[.int .i64 ua, .int .i64 ub] 39)) Y1.heap.size (spotV (ua, ub)) vs u5 u6 := NB.new (xs := spotV (ua, ub)) 39 hk1 hr1
                have nS_32 := nS_1.grown hx
                go_simp
                refine hK _ _ sb32.all ?_
                clear hK K hx hk1 hr1 sb1 nS_1
                generalize Y1.heap.size = gK at *
                generalize Y1.alloc (.cells #[.int .i64 ua, .int .i64 ub] 39) = Y32 at *
                (try simp only [Act.put, List.setIfInBounds_toArray, List.set_cons_zero, List.set_cons_succ])
                refine ⟨?_, ?_⟩
                · skip
                  refine trF_step5 rfl (by rfl) (fun K hK => ?_)
                  obtain ⟨j9, z9, s9, b9⟩ := I9.out
                  refine wp_append_lies Y32 (.tmp 93) (.tmp 95) 27 rfl f.M 55 i9 (.agg #[.int .i64 0, .int .i64 0, .int .i64 0, .int .i64 0, .bool false, .int .i64 0, .int .i64 0, .int .i64 0, .int .i64 0]) 9 72 Try.underlying27 j9 z9 s9 b9 rfl (by decide) vs ss.length (ss.flatMap starC) (by rfl) hr32.rs ⟨gS, 0, none⟩ 1 1 (starC s) (by rfl) rfl nS_32.nw (by intro u hu; simp [starC, St.cells] at hu; rcases hu with rfl | rfl | rfl | rfl | rfl | rfl | rfl | rfl | rfl <;> rfl) (by omega) (by unfold maxLen; omega) (by omega) hk32.sz _ rfl ?_
                  intro gnS capS Y33 hrow hgr hfr _
                  have hk33 := hk32.by ok hgr (fun b hb => (hr32.rs.lt b hb).1)
                  have sb33 := sb32.appS (n := ss.length + 1) (cap := capS) ok hgr (fun b hb => (hr32.rs.lt b hb).1) hfr
                  have hr33 := hr32.pushS hgr hrow
                  have nK_33 := nK_32.appS (n := ss.length + 1) (cap := capS) hgr hfr
                  refine hK _ _ sb33.all ?_
                  clear hK K hrow hgr hfr j9 z9 s9 b9 hk32 hr32 sb32 nS_32 nK_32
                  (try simp only [Act.put, List.setIfInBounds_toArray, List.set_cons_zero, List.set_cons_succ])
                  repeat (first | (refine trF_read5 rfl (by rfl) _ (fun w' hS => by (try replace hS := hS (by decide)); (try dsimp only at hS); go_simp; (try with_reducible rfl)) ?_; (try simp only [Act.put, List.setIfInBounds_toArray, List.set_cons_zero, List.set_cons_succ])) | (refine trF_skip5 rfl (by rfl) ?_; (try simp only [Act.put, List.setIfInBounds_toArray, List.set_cons_zero, List.set_cons_succ])))
                  refine trF_step5 rfl (by rfl) (fun K hK => ?_)
                  have hx := newB Y33 (.cells #[.int .i64 xa, .int .i64 xb] 39)
                  have hk34 := hk33.grown ok hx
                  have hr34 := hr33.grown hx
                  have sb34 := sb33.grown ok hx
                  have nI_34 : NB f (Y33.alloc (.cells #[.int .i64 xa, .int .i64 xb] 39)) Y33.heap.size (spotV (xa, xb)) (.slice (some ⟨gnS, 0, none⟩) (ss.length + 1) capS) u5 u6 := NB.new (xs := spotV (xa, xb)) 39 hk33 hr33
                  have nK_34 := nK_33.grown hx
                  go_simp
                  refine hK _ _ sb34.all ?_
                  clear hK K hx hk33 hr33 sb33 nK_33
                  generalize Y33.heap.size = gI at *
                  generalize Y33.alloc (.cells #[.int .i64 xa, .int .i64 xb] 39) = Y34 at *
                  (try simp only [Act.put, List.setIfInBounds_toArray, List.set_cons_zero, List.set_cons_succ])
                  refine trF_step5 rfl (by rfl) (fun K hK => ?_)
                  obtain ⟨j2, z2, s2, b2⟩ := I2.out
                  refine wp_append_lies Y34 (.tmp 97) (.tmp 99) 40 rfl f.M 39 i2 (.agg #[.int .i64 0, .int .i64 0]) 2 16 Try.underlying40 j2 z2 s2 b2 rfl (by decide) u5 is.length (is.flatMap spotV) (by rfl) hr34.ri ⟨gI, 0, none⟩ 1 1 (spotV (xa, xb)) (by rfl) rfl nI_34.nw (by intro u hu; simp [spotV] at hu; rcases hu with rfl | rfl <;> rfl) (by omega) (by unfold maxLen; omega) (by omega) hk34.sz _ rfl ?_
                  intro gnI capI Y35 hrow hgr hfr _
                  have hk35 := hk34.by ok hgr (fun b hb => (hr34.ri.lt b hb).1)
                  have sb35 := sb34.appI (n := is.length + 1) (cap := capI) ok hgr (fun b hb => (hr34.ri.lt b hb).1) hfr
                  have hr35 := hr34.pushI hgr hrow hfr
                  have nK_35 := nK_34.appI (n := is.length + 1) (cap := capI) hgr hfr
                  refine hK _ _ sb35.all ?_
                  clear hK K hrow hgr hfr j2 z2 s2 b2 hk34 hr34 sb34 nK_34 nI_34
                  (try simp only [Act.put, List.setIfInBounds_toArray, List.set_cons_zero, List.set_cons_succ])
                  refine trF_step5 rfl (by rfl) (fun K hK => ?_)
                  obtain ⟨j2, z2, s2, b2⟩ := I2.out
                  refine wp_append_lies Y35 (.tmp 101) (.tmp 103) 40 rfl f.M 39 i2 (.agg #[.int .i64 0, .int .i64 0]) 2 16 Try.underlying40 j2 z2 s2 b2 rfl (by decide) u6 ks.length (ks.flatMap spotV) (by rfl) hr35.rk ⟨gK, 0, none⟩ 1 1 (spotV (ua, ub)) (by rfl) rfl nK_35.nw (by intro u hu; simp [spotV] at hu; rcases hu with rfl | rfl <;> rfl) (by omega) (by unfold maxLen; omega) (by omega) hk35.sz _ rfl ?_
                  intro gnK capK Y36 hrow hgr hfr _
                  have hk36 := hk35.by ok hgr (fun b hb => (hr35.rk.lt b hb).1)
                  have sb36 := sb35.appK (n := ks.length + 1) (cap := capK) ok hgr (fun b hb => (hr35.rk.lt b hb).1) hfr
                  have hr36 := hr35.pushK hgr hrow hfr
                  refine hK _ _ sb36.all ?_
                  clear hK K hrow hgr hfr j2 z2 s2 b2 hk35 hr35 sb35 nK_35
                  (try simp only [Act.put, List.setIfInBounds_toArray, List.set_cons_zero, List.set_cons_succ])
                  refine trF_late5 rfl (by rfl) (by kernel_rfl) (fun K hK => ?_)
                  obtain ⟨v2, p2, f2⟩ := hk36.sp.get 2 (by omega)
                  have hk37 := hk36.put2 ok (.slice (some ⟨gnS, 0, none⟩) (ss.length + 1) capS)
                  have hr37 := hr36.low ok.mB (BX.set f.B 2 Y36 (.slice (some ⟨gnS, 0, none⟩) (ss.length + 1) capS))
                  go_simp
                  refine hK _ _ ?_
                  clear hK K v2 p2 f2 hk36 hr36 sb36
                  generalize Y36.setCell ⟨f.B, 2, none⟩ (.slice (some ⟨gnS, 0, none⟩) (ss.length + 1) capS) = Y37 at *
                  (try simp only [Act.put, List.setIfInBounds_toArray, List.set_cons_zero, List.set_cons_succ])
                  repeat (first | (refine trF_read5 rfl (by rfl) _ (fun w' hS => by (try replace hS := hS (by decide)); (try dsimp only at hS); go_simp; (try with_reducible rfl)) ?_; (try simp only [Act.put, List.setIfInBounds_toArray, List.set_cons_zero, List.set_cons_succ])) | (refine trF_skip5 rfl (by rfl) ?_; (try simp only [Act.put, List.setIfInBounds_toArray, List.set_cons_zero, List.set_cons_succ])))
                  have HK12 := Lib.hid hk37
                  have HR12 := Lib.hid hr37
                  clear hk37 hr37
                  show Exit.inBlock _ _ Exit.normal _ _
                  go_wp2_with fail
                  go_roundw
                  case rel => exact ⟨k + 1, c', _, _, _, _, by omega, by go_num, HL.out, by omega, HK12, HR12, hTL2⟩
                  case measure => simp [intOf]; omega
                · skip
                  refine trF_step5 rfl (by rfl) (fun K hK => ?_)
                  have hx := newB Y32 (.cells #[.int .i64 xa, .int .i64 xb] 39)
                  have hk38 := hk32.grown ok hx
                  have hr38 := hr32.grown hx
                  have sb38 := sb32.grown ok hx
                  have nI_38 : NB f (Y32.alloc (.cells #[.int .i64 xa, .int .i64 xb] 39)) Y32.heap.size (spotV (xa, xb)) vs u5 u6 := NB.new (xs := spotV (xa, xb)) 39 hk32 hr32
                  have nS_38 := nS_32.grown hx
                  have nK_38 := nK_32.grown hx
                  go_simp
                  refine hK _ _ sb38.all ?_
                  clear hK K hx hk32 hr32 sb32 nS_32 nK_32
                  generalize Y32.heap.size = gI at *
                  generalize Y32.alloc (.cells #[.int .i64 xa, .int .i64 xb] 39) = Y38 at *
                  (try simp only [Act.put, List.setIfInBounds_toArray, List.set_cons_zero, List.set_cons_succ])
                  refine trF_step5 rfl (by rfl) (fun K hK => ?_)
                  obtain ⟨j9, z9, s9, b9⟩ := I9.out
                  refine wp_append_lies Y38 (.tmp 93) (.tmp 95) 27 rfl f.M 55 i9 (.agg #[.int .i64 0, .int .i64 0, .int .i64 0, .int .i64 0, .bool false, .int .i64 0, .int .i64 0, .int .i64 0, .int .i64 0]) 9 72 Try.underlying27 j9 z9 s9 b9 rfl (by decide) vs ss.length (ss.flatMap starC) (by rfl) hr38.rs ⟨gS, 0, none⟩ 1 1 (starC s) (by rfl) rfl nS_38.nw (by intro u hu; simp [starC, St.cells] at hu; rcases hu with rfl | rfl | rfl | rfl | rfl | rfl | rfl | rfl | rfl <;> rfl) (by omega) (by unfold maxLen; omega) (by omega) hk38.sz _ rfl ?_
                  intro gnS capS Y39 hrow hgr hfr _
                  have hk39 := hk38.by ok hgr (fun b hb => (hr38.rs.lt b hb).1)
                  have sb39 := sb38.appS (n := ss.length + 1) (cap := capS) ok hgr (fun b hb => (hr38.rs.lt b hb).1) hfr
                  have hr39 := hr38.pushS hgr hrow
                  have nK_39 := nK_38.appS (n := ss.length + 1) (cap := capS) hgr hfr
                  have nI_39 := nI_38.appS (n := ss.length + 1) (cap := capS) hgr hfr
                  refine hK _ _ sb39.all ?_
                  clear hK K hrow hgr hfr j9 z9 s9 b9 hk38 hr38 sb38 nS_38 nK_38 nI_38
                  (try simp only [Act.put, List.setIfInBounds_toArray, List.set_cons_zero, List.set_cons_succ])
                  repeat (first | (refine trF_read5 rfl (by rfl) _ (fun w' hS => by (try replace hS := hS (by decide)); (try dsimp only at hS); go_simp; (try with_reducible rfl)) ?_; (try simp only [Act.put, List.setIfInBounds_toArray, List.set_cons_zero, List.set_cons_succ])) | (refine trF_skip5 rfl (by rfl) ?_; (try simp only [Act.put, List.setIfInBounds_toArray, List.set_cons_zero, List.set_cons_succ])))
                  refine trF_step5 rfl (by rfl) (fun K hK => ?_)
                  obtain ⟨j2, z2, s2, b2⟩ := I2.out
                  refine wp_append_lies Y39 (.tmp 97) (.tmp 99) 40 rfl f.M 39 i2 (.agg #[.int .i64 0, .int .i64 0]) 2 16 Try.underlying40 j2 z2 s2 b2 rfl (by decide) u5 is.length (is.flatMap spotV) (by rfl) hr39.ri ⟨gI, 0, none⟩ 1 1 (spotV (xa, xb)) (by rfl) rfl nI_39.nw (by intro u hu; simp [spotV] at hu; rcases hu with rfl | rfl <;> rfl) (by omega) (by unfold maxLen; omega) (by omega) hk39.sz _ rfl ?_
                  intro gnI capI Y40 hrow hgr hfr _
                  have hk40 := hk39.by ok hgr (fun b hb => (hr39.ri.lt b hb).1)
                  have sb40 := sb39.appI (n := is.length + 1) (cap := capI) ok hgr (fun b hb => (hr39.ri.lt b hb).1) hfr
                  have hr40 := hr39.pushI hgr hrow hfr
                  have nK_40 := nK_39.appI (n := is.length + 1) (cap := capI) hgr hfr
                  refine hK _ _ sb40.all ?_
                  clear hK K hrow hgr hfr j2 z2 s2 b2 hk39 hr39 sb39 nK_39 nI_39
                  (try simp only [Act.put, List.setIfInBounds_toArray, List.set_cons_zero, List.set_cons_succ])
                  refine trF_step5 rfl (by rfl) (fun K hK => ?_)
                  obtain ⟨j2, z2, s2, b2⟩ := I2.out
                  refine wp_append_lies Y40 (.tmp 101) (.tmp 103) 40 rfl f.M 39 i2 (.agg #[.int .i64 0, .int .i64 0]) 2 16 Try.underlying40 j2 z2 s2 b2 rfl (by decide) u6 ks.length (ks.flatMap spotV) (by rfl) hr40.rk ⟨gK, 0, none⟩ 1 1 (spotV (ua, ub)) (by rfl) rfl nK_40.nw (by intro u hu; simp [spotV] at hu; rcases hu with rfl | rfl <;> rfl) (by omega) (by unfold maxLen; omega) (by omega) hk40.sz _ rfl ?_
                  intro gnK capK Y41 hrow hgr hfr _
                  have hk41 := hk40.by ok hgr (fun b hb => (hr40.rk.lt b hb).1)
                  have sb41 := sb40.appK (n := ks.length + 1) (cap := capK) ok hgr (fun b hb => (hr40.rk.lt b hb).1) hfr
                  have hr41 := hr40.pushK hgr hrow hfr
                  refine hK _ _ sb41.all ?_
                  clear hK K hrow hgr hfr j2 z2 s2 b2 hk40 hr40 sb40 nK_40
                  (try simp only [Act.put, List.setIfInBounds_toArray, List.set_cons_zero, List.set_cons_succ])
                  refine trF_late5 rfl (by rfl) (by kernel_rfl) (fun K hK => ?_)
                  obtain ⟨v2, p2, f2⟩ := hk41.sp.get 2 (by omega)
                  have hk42 := hk41.put2 ok (.slice (some ⟨gnS, 0, none⟩) (ss.length + 1) capS)
                  have hr42 := hr41.low ok.mB (BX.set f.B 2 Y41 (.slice (some ⟨gnS, 0, none⟩) (ss.length + 1) capS))
                  go_simp
                  refine hK _ _ ?_
                  clear hK K v2 p2 f2 hk41 hr41 sb41
                  generalize Y41.setCell ⟨f.B, 2, none⟩ (.slice (some ⟨gnS, 0, none⟩) (ss.length + 1) capS) = Y42 at *
                  (try simp only [Act.put, List.setIfInBounds_toArray, List.set_cons_zero, List.set_cons_succ])
                  repeat (first | (refine trF_read5 rfl (by rfl) _ (fun w' hS => by (try replace hS := hS (by decide)); (try dsimp only at hS); go_simp; (try with_reducible rfl)) ?_; (try simp only [Act.put, List.setIfInBounds_toArray, List.set_cons_zero, List.set_cons_succ])) | (refine trF_skip5 rfl (by rfl) ?_; (try simp only [Act.put, List.setIfInBounds_toArray, List.set_cons_zero, List.set_cons_succ])))
                  have HK12 := Lib.hid hk42
                  have HR12 := Lib.hid hr42
                  clear hk42 hr42
                  show Exit.inBlock _ _ Exit.normal _ _
                  go_wp2_with fail
                  go_roundw
                  case rel => exact ⟨k + 1, c', _, _, _, _, by omega, by go_num, HL.out, by omega, HK12, HR12, hTL2⟩
                  case measure => simp [intOf]; omega
            · skip
              refine trF_step5 rfl (by rfl) (fun K hK => ?_)
              have hx := newB Y0 (.cells #[.int .i64 xa, .int .i64 xb] 39)
              have hk43 := hk0.grown ok hx
              have hr43 := hr0.grown hx
              have sb43 := hb0.grown ok hx
              have nI_43 : NB f (Y0.alloc (.cells #[.int .i64 xa, .int .i64 xb] 39)) Y0.heap.size (spotV (xa, xb)) vs u5 u6 := NB.new (xs := spotV (xa, xb)) 39 hk0 hr0
              go_simp
              refine hK _ _ sb43.all ?_
              clear hK K hx hk0 hr0 hb0 
              generalize Y0.heap.size = gI at *
              generalize Y0.alloc (.cells #[.int .i64 xa, .int .i64 xb] 39) = Y43 at *
              (try simp only [Act.put, List.setIfInBounds_toArray, List.set_cons_zero, List.set_cons_succ])
              refine ⟨?_, ?_⟩
              · skip
                refine trF_step5 rfl (by rfl) (fun K hK => ?_)
                have hx := newB Y43 (.cells #[.int .i64 s.x0, .int .i64 s.x1, .int .i64 s.y0, .int .i64 s.y1, .bool s.k, .int .i64 s.e0, .int .i64 s.e1, .int .i64 s.n0, .int .i64 s.n1] 55)
                have hk44 := hk43.grown ok hx
                have hr44 := hr43.grown hx
                have sb44 := sb43.grown ok hx
                have nS_44 : NB f (Y43.alloc (.cells #[.int .i64 s.x0, .int .i64 s.x1, .int .i64 s.y0, .int .i64 s.y1, .bool s.k, .int .i64 s.e0, .int .i64 s.e1, .int .i64 s.n0, .int .i64 s.n1] 55)) Y43.heap.size (starC s) vs u5 u6 := NB.new (xs := starC s) 55 hk43 hr43
                have nI_44 := nI_43.grown hx
                go_simp
                refine hK _ _ sb44.all ?_
                clear hK K hx hk43 hr43 sb43 nI_43
                generalize Y43.heap.size = gS at *
                generalize Y43.alloc (.cells #[.int .i64 s.x0, .int .i64 s.x1, .int .i64 s.y0, .int .i64 s.y1, .bool s.k, .int .i64 s.e0, .int .i64 s.e1, .int .i64 s.n0, .int .i64 s.n1] 55) = Y44 at *
                (try simp only [Act.put, List.setIfInBounds_toArray, List.set_cons_zero, List.set_cons_succ])
                refine ⟨?_, ?_⟩
                · skip
                  refine trF_step5 rfl (by rfl) (fun K hK => ?_)
                  obtain ⟨j9, z9, s9, b9⟩ := I9.out
                  refine wp_append_lies Y44 (.tmp 93) (.tmp 95) 27 rfl f.M 55 i9 (.agg #[.int .i64 0, .int .i64 0, .int .i64 0, .int .i64 0, .bool false, .int .i64 0, .int .i64 0, .int .i64 0, .int .i64 0]) 9 72 Try.underlying27 j9 z9 s9 b9 rfl (by decide) vs ss.length (ss.flatMap starC) (by rfl) hr44.rs ⟨gS, 0, none⟩ 1 1 (starC s) (by rfl) rfl nS_44.nw (by intro u hu; simp [starC, St.cells] at hu; rcases hu with rfl | rfl | rfl | rfl | rfl | rfl | rfl | rfl | rfl <;> rfl) (by omega) (by unfold maxLen; omega) (by omega) hk44.sz _ rfl ?_
                  intro gnS capS Y45 hrow hgr hfr _
                  have hk45 := hk44.by ok hgr (fun b hb => (hr44.rs.lt b hb).1)
                  have sb45 := sb44.appS (n := ss.length + 1) (cap := capS) ok hgr (fun b hb => (hr44.rs.lt b hb).1) hfr
                  have hr45 := hr44.pushS hgr hrow
                  have nI_45 := nI_44.appS (n := ss.length + 1) (cap := capS) hgr hfr
                  refine hK _ _ sb45.all ?_
                  clear hK K hrow hgr hfr j9 z9 s9 b9 hk44 hr44 sb44 nI_44 nS_44
                  (try simp only [Act.put, List.setIfInBounds_toArray, List.set_cons_zero, List.set_cons_succ])
                  repeat (first | (refine trF_read5 rfl (by rfl) _ (fun w' hS => by (try replace hS := hS (by decide)); (try dsimp only at hS); go_simp; (try with_reducible rfl)) ?_; (try simp only [Act.put, List.setIfInBounds_toArray, List.set_cons_zero, List.set_cons_succ])) | (refine trF_skip5 rfl (by rfl) ?_; (try simp only [Act.put, List.setIfInBounds_toArray, List.set_cons_zero, List.set_cons_succ])))
                  refine ⟨?_, ?_⟩
                  · skip
                    refine trF_step5 rfl (by rfl) (fun K hK => ?_)
                    obtain ⟨j2, z2, s2, b2⟩ := I2.out
                    refine wp_append_lies Y45 (.tmp 97) (.tmp 99) 40 rfl f.M 39 i2 (.agg #[.int .i64 0, .int .i64 0]) 2 16 Try.underlying40 j2 z2 s2 b2 rfl (by decide) u5 is.length (is.flatMap spotV) (by rfl) hr45.ri ⟨gI, 0, none⟩ 1 1 (spotV (xa, xb)) (by rfl) rfl nI_45.nw (by intro u hu; simp [spotV] at hu; rcases hu with rfl | rfl <;> rfl) (by omega) (by unfold maxLen; omega) (by omega) hk45.sz _ rfl ?_
                    intro gnI capI Y46 hrow hgr hfr _
                    have hk46 := hk45.by ok hgr (fun b hb => (hr45.ri.lt b hb).1)
                    have sb46 := sb45.appI (n := is.length + 1) (cap := capI) ok hgr (fun b hb => (hr45.ri.lt b hb).1) hfr
                    have hr46 := hr45.pushI hgr hrow hfr
                    refine hK _ _ sb46.all ?_
                    clear hK K hrow hgr hfr j2 z2 s2 b2 hk45 hr45 sb45 nI_45
                    (try simp only [Act.put, List.setIfInBounds_toArray, List.set_cons_zero, List.set_cons_succ])
                    refine trF_step5 rfl (by rfl) (fun K hK => ?_)
                    have hx := newB Y46 (.cells #[.int .i64 ua, .int .i64 ub] 39)
                    have hk47 := hk46.grown ok hx
                    have hr47 := hr46.grown hx
                    have sb47 := sb46.grown ok hx
                    have nK_47 : NB f (Y46.alloc (.cells #[.int .i64 ua, .int .i64 ub] 39)) Y46.heap.size (spotV (ua, ub)) (.slice (some ⟨gnS, 0, none⟩) (ss.length + 1) capS) (.slice (some ⟨gnI, 0, none⟩) (is.length + 1) capI) u6 := NB.new (xs := spotV (ua, ub)) 39 hk46 hr46
                    go_simp
                    refine hK _ _ sb47.all ?_
                    clear hK K hx hk46 hr46 sb46 
                    generalize Y46.heap.size = gK at *
                    generalize Y46.alloc (.cells #[.int .i64 ua, .int .i64 ub] 39) = Y47 at *
                    (try simp only [Act.put, List.setIfInBounds_toArray, List.set_cons_zero, List.set_cons_succ])
                    refine trF_step5 rfl (by rfl) (fun K hK => ?_)
                    obtain ⟨j2, z2, s2, b2⟩ := I2.out
                    refine wp_append_lies Y47 (.tmp 101) (.tmp 103) 40 rfl f.M 39 i2 (.agg #[.int .i64 0, .int .i64 0]) 2 16 Try.underlying40 j2 z2 s2 b2 rfl (by decide) u6 ks.length (ks.flatMap spotV) (by rfl) hr47.rk ⟨gK, 0, none⟩ 1 1 (spotV (ua, ub)) (by rfl) rfl nK_47.nw (by intro u hu; simp [spotV] at hu; rcases hu with rfl | rfl <;> rfl) (by omega) (by unfold maxLen; omega) (by omega) hk47.sz _ rfl ?_
                    intro gnK capK Y48 hrow hgr hfr _
                    have hk48 := hk47.by ok hgr (fun b hb => (hr47.rk.lt b hb).1)
                    have sb48 := sb47.appK (n := ks.length + 1) (cap := capK) ok hgr (fun b hb => (hr47.rk.lt b hb).1) hfr
                    have hr48 := hr47.pushK hgr hrow hfr
                    refine hK _ _ sb48.all ?_
                    clear hK K hrow hgr hfr j2 z2 s2 b2 hk47 hr47 sb47 nK_47
                    (try simp only [Act.put, List.setIfInBounds_toArray, List.set_cons_zero, List.set_cons_succ])
                    refine trF_late5 rfl (by rfl) (by kernel_rfl) (fun K hK => ?_)
                    obtain ⟨v2, p2, f2⟩ := hk48.sp.get 2 (by omega)
                    have hk49 := hk48.put2 ok (.slice (some ⟨gnS, 0, none⟩) (ss.length + 1) capS)
                    have hr49 := hr48.low ok.mB (BX.set f.B 2 Y48 (.slice (some ⟨gnS, 0, none⟩) (ss.length + 1) capS))
                    go_simp
                    refine hK _ _ ?_
                    clear hK K v2 p2 f2 hk48 hr48 sb48
                    generalize Y48.setCell ⟨f.B, 2, none⟩ (.slice (some ⟨gnS, 0, none⟩) (ss.length + 1) capS) = Y49 at *
                    (try simp only [Act.put, List.setIfInBounds_toArray, List.set_cons_zero, List.set_cons_succ])
                    repeat (first | (refine trF_read5 rfl (by rfl) _ (fun w' hS => by (try replace hS := hS (by decide)); (try dsimp only at hS); go_simp; (try with_reducible rfl)) ?_; (try simp only [Act.put, List.setIfInBounds_toArray, List.set_cons_zero, List.set_cons_succ])) | (refine trF_skip5 rfl (by rfl) ?_; (try simp only [Act.put, List.setIfInBounds_toArray, List.set_cons_zero, List.set_cons_succ])))
                    have HK12 := Lib.hid hk49
                    have HR12 := Lib.hid hr49
                    clear hk49 hr49
                    show Exit.inBlock _ _ Exit.normal _ _
                    go_wp2_with fail
                    go_roundw
                    case rel => exact ⟨k + 1, c', _, _, _, _, by omega, by go_num, HL.out, by omega, HK12, HR12, hTL2⟩
                    case measure => simp [intOf]; omega
                  · skip
                    refine trF_step5 rfl (by rfl) (fun K hK => ?_)
                    have hx := newB Y45 (.cells #[.int .i64 ua, .int .i64 ub] 39)
                    have hk50 := hk45.grown ok hx
                    have hr50 := hr45.grown hx
                    have sb50 := sb45.grown ok hx
                    have nK_50 : NB f (Y45.alloc (.cells #[.int .i64 ua, .int .i64 ub] 39)) Y45.heap.size (spotV (ua, ub)) (.slice (some ⟨gnS, 0, none⟩) (ss.length + 1) capS) u5 u6 := NB.new (xs := spotV (ua, ub)) 39 hk45 hr45
                    have nI_50 := nI_45.grown hx
                    go_simp
                    refine hK _ _ sb50.all ?_
                    clear hK K hx hk45 hr45 sb45 nI_45
                    generalize Y45.heap.size = gK at *
                    generalize Y45.alloc (.cells #[.int .i64 ua, .int .i64 ub] 39) = Y50 at *
                    (try simp only [Act.put, List.setIfInBounds_toArray, List.set_cons_zero, List.set_cons_succ])
                    refine trF_step5 rfl (by rfl) (fun K hK => ?_)
                    obtain ⟨j2, z2, s2, b2⟩ := I2.out
                    refine wp_append_lies Y50 (.tmp 97) (.tmp 99) 40 rfl f.M 39 i2 (.agg #[.int .i64 0, .int .i64 0]) 2 16 Try.underlying40 j2 z2 s2 b2 rfl (by decide) u5 is.length (is.flatMap spotV) (by rfl) hr50.ri ⟨gI, 0, none⟩ 1 1 (spotV (xa, xb)) (by rfl) rfl nI_50.nw (by intro u hu; simp [spotV] at hu; rcases hu with rfl | rfl <;> rfl) (by omega) (by unfold maxLen; omega) (by omega) hk50.sz _ rfl ?_
                    intro gnI capI Y51 hrow hgr hfr _
                    have hk51 := hk50.by ok hgr (fun b hb => (hr50.ri.lt b hb).1)
                    have sb51 := sb50.appI (n := is.length + 1) (cap := capI) ok hgr (fun b hb => (hr50.ri.lt b hb).1) hfr
                    have hr51 := hr50.pushI hgr hrow hfr
                    have nK_51 := nK_50.appI (n := is.length + 1) (cap := capI) hgr hfr
                    refine hK _ _ sb51.all ?_
                    clear hK K hrow hgr hfr j2 z2 s2 b2 hk50 hr50 sb50 nI_50 nK_50
                    (try simp only [Act.put, List.setIfInBounds_toArray, List.set_cons_zero, List.set_cons_succ])
                    refine trF_step5 rfl (by rfl) (fun K hK => ?_)
                    obtain ⟨j2, z2, s2, b2⟩ := I2.out
                    refine wp_append_lies Y51 (.tmp 101) (.tmp 103) 40 rfl f.M 39 i2 (.agg #[.int .i64 0, .int .i64 0]) 2 16 Try.underlying40 j2 z2 s2 b2 rfl (by decide) u6 ks.length (ks.flatMap spotV) (by rfl) hr51.rk ⟨gK, 0, none⟩ 1 1 (spotV (ua, ub)) (by rfl) rfl nK_51.nw (by intro u hu; simp [spotV] at hu; rcases hu with rfl | rfl <;> rfl) (by omega) (by unfold maxLen; omega) (by omega) hk51.sz _ rfl ?_
                    intro gnK capK Y52 hrow hgr hfr _
                    have hk52 := hk51.by ok hgr (fun b hb => (hr51.rk.lt b hb).1)
                    have sb52 := sb51.appK (n := ks.length + 1) (cap := capK) ok hgr (fun b hb => (hr51.rk.lt b hb).1) hfr
                    have hr52 := hr51.pushK hgr hrow hfr
                    refine hK _ _ sb52.all ?_
                    clear hK K hrow hgr hfr j2 z2 s2 b2 hk51 hr51 sb51 nK_51
                    (try simp only [Act.put, List.setIfInBounds_toArray, List.set_cons_zero, List.set_cons_succ])
                    refine trF_late5 rfl (by rfl) (by kernel_rfl) (fun K hK => ?_)
                    obtain ⟨v2, p2, f2⟩ := hk52.sp.get 2 (by omega)
                    have hk53 := hk52.put2 ok (.slice (some ⟨gnS, 0, none⟩) (ss.length + 1) capS)
                    have hr53 := hr52.low ok.mB (BX.set f.B 2 Y52 (.slice (some ⟨gnS, 0, none⟩) (ss.length + 1) capS))
                    go_simp
                    refine hK _ _ ?_
                    clear hK K v2 p2 f2 hk52 hr52 sb52
                    generalize Y52.setCell ⟨f.B, 2, none⟩ (.slice (some ⟨gnS, 0, none⟩) (ss.length + 1) capS) = Y53 at *
                    (try simp only [Act.put, List.setIfInBounds_toArray, List.set_cons_zero, List.set_cons_succ])
                    repeat (first | (refine trF_read5 rfl (by rfl) _ (fun w' hS => by (try replace hS := hS (by decide)); (try dsimp only at hS); go_simp; (try with_reducible rfl)) ?_; (try simp only [Act.put, List.setIfInBounds_toArray, List.set_cons_zero, List.set_cons_succ])) | (refine trF_skip5 rfl (by rfl) ?_; (try simp only [Act.put, List.setIfInBounds_toArray, List.set_cons_zero, List.set_cons_succ])))
                    have HK12 := Lib.hid hk53
                    have HR12 := Lib.hid hr53
                    clear hk53 hr53
                    show Exit.inBlock _ _ Exit.normal _ _
                    go_wp2_with fail
                    go_roundw
                    case rel => exact ⟨k + 1, c', _, _, _, _, by omega, by go_num, HL.out, by omega, HK12, HR12, hTL2⟩
                    case measure => simp [intOf]; omega
                · skip
                  refine trF_step5 rfl (by rfl) (fun K hK => ?_)
                  have hx := newB Y44 (.cells #[.int .i64 ua, .int .i64 ub] 39)
                  have hk54 := hk44.grown ok hx
                  have hr54 := hr44.grown hx
                  have sb54 := sb44.grown ok hx
                  have nK_54 : NB f (Y44.alloc (.cells #[.int .i64 ua, .int .i64 ub] 39)) Y44.heap.size (spotV (ua, ub)) vs u5 u6 := NB.new (xs := spotV (ua, ub)) 39 hk44 hr44
                  have nI_54 := nI_44.grown hx
                  have nS_54 := nS_44.grown hx
                  go_simp
                  refine hK _ _ sb54.all ?_
                  clear hK K hx hk44 hr44 sb44 nI_44 nS_44
                  generalize Y44.heap.size = gK at *
                  generalize Y44.alloc (.cells #[.int .i64 ua, .int .i64 ub] 39) = Y54 at *
                  (try simp only [Act.put, List.setIfInBounds_toArray, List.set_cons_zero, List.set_cons_succ])
                  refine trF_step5 rfl (by rfl) (fun K hK => ?_)
                  obtain ⟨j9, z9, s9, b9⟩ := I9.out
                  refine wp_append_lies Y54 (.tmp 93) (.tmp 95) 27 rfl f.M 55 i9 (.agg #[.int .i64 0, .int .i64 0, .int .i64 0, .int .i64 0, .bool false, .int .i64 0, .int .i64 0, .int .i64 0, .int .i64 0]) 9 72 Try.underlying27 j9 z9 s9 b9 rfl (by decide) vs ss.length (ss.flatMap starC) (by rfl) hr54.rs ⟨gS, 0, none⟩ 1 1 (starC s) (by rfl) rfl nS_54.nw (by intro u hu; simp [starC, St.cells] at hu; rcases hu with rfl | rfl | rfl | rfl | rfl | rfl | rfl | rfl | rfl <;> rfl) (by omega) (by unfold maxLen; omega) (by omega) hk54.sz _ rfl ?_
                  intro gnS capS Y55 hrow hgr hfr _
                  have hk55 := hk54.by ok hgr (fun b hb => (hr54.rs.lt b hb).1)
                  have sb55 := sb54.appS (n := ss.length + 1) (cap := capS) ok hgr (fun b hb => (hr54.rs.lt b hb).1) hfr
                  have hr55 := hr54.pushS hgr hrow
                  have nI_55 := nI_54.appS (n := ss.length + 1) (cap := capS) hgr hfr
                  have nK_55 := nK_54.appS (n := ss.length + 1) (cap := capS) hgr hfr
                  refine hK _ _ sb55.all ?_
                  clear hK K hrow hgr hfr j9 z9 s9 b9 hk54 hr54 sb54 nI_54 nS_54 nK_54
                  (try simp only [Act.put, List.setIfInBounds_toArray, List.set_cons_zero, List.set_cons_succ])
                  repeat (first | (refine trF_read5 rfl (by rfl) _ (fun w' hS => by (try replace hS := hS (by decide)); (try dsimp only at hS); go_simp; (try with_reducible rfl)) ?_; (try simp only [Act.put, List.setIfInBounds_toArray, List.set_cons_zero, List.set_cons_succ])) | (refine trF_skip5 rfl (by rfl) ?_; (try simp only [Act.put, List.setIfInBounds_toArray, List.set_cons_zero, List.set_cons_succ])))
                  refine trF_step5 rfl (by rfl) (fun K hK => ?_)
                  obtain ⟨j2, z2, s2, b2⟩ := I2.out
                  refine wp_append_lies Y55 (.tmp 97) (.tmp 99) 40 rfl f.M 39 i2 (.agg #[.int .i64 0, .int .i64 0]) 2 16 Try.underlying40 j2 z2 s2 b2 rfl (by decide) u5 is.length (is.flatMap spotV) (by rfl) hr55.ri ⟨gI, 0, none⟩ 1 1 (spotV (xa, xb)) (by rfl) rfl nI_55.nw (by intro u hu; simp [spotV] at hu; rcases hu with rfl | rfl <;> rfl) (by omega) (by unfold maxLen; omega) (by omega) hk55.sz _ rfl ?_
                  intro gnI capI Y56 hrow hgr hfr _
                  have hk56 := hk55.by ok hgr (fun b hb => (hr55.ri.lt b hb).1)
                  have sb56 := sb55.appI (n := is.length + 1) (cap := capI) ok hgr (fun b hb => (hr55.ri.lt b hb).1) hfr
                  have hr56 := hr55.pushI hgr hrow hfr
                  have nK_56 := nK_55.appI (n := is.length + 1) (cap := capI) hgr hfr
                  refine hK _ _ sb56.all ?_
                  clear hK K hrow hgr hfr j2 z2 s2 b2 hk55 hr55 sb55 nI_55 nK_55
                  (try simp only [Act.put, List.setIfInBounds_toArray, List.set_cons_zero, List.set_cons_succ])
                  refine trF_step5 rfl (by rfl) (fun K hK => ?_)
                  obtain ⟨j2, z2, s2, b2⟩ := I2.out
                  refine wp_append_lies Y56 (.tmp 101) (.tmp 103) 40 rfl f.M 39 i2 (.agg #[.int .i64 0, .int .i64 0]) 2 16 Try.underlying40 j2 z2 s2 b2 rfl (by decide) u6 ks.length (ks.flatMap spotV) (by rfl) hr56.rk ⟨gK, 0, none⟩ 1 1 (spotV (ua, ub)) (by rfl) rfl nK_56.nw (by intro u hu; simp [spotV] at hu; rcases hu with rfl | rfl <;> rfl) (by omega) (by unfold maxLen; omega) (by omega) hk56.sz _ rfl ?_
                  intro gnK capK Y57 hrow hgr hfr _
                  have hk57 := hk56.by ok hgr (fun b hb => (hr56.rk.lt b hb).1)
                  have sb57 := sb56.appK (n := ks.length + 1) (cap := capK) ok hgr (fun b hb => (hr56.rk.lt b hb).1) hfr
                  have hr57 := hr56.pushK hgr hrow hfr
                  refine hK _ _ sb57.all ?_
                  clear hK K hrow hgr hfr j2 z2 s2 b2 hk56 hr56 sb56 nK_56
                  (try simp only [Act.put, List.setIfInBounds_toArray, List.set_cons_zero, List.set_cons_succ])
                  refine trF_late5 rfl (by rfl) (by kernel_rfl) (fun K hK => ?_)
                  obtain ⟨v2, p2, f2⟩ := hk57.sp.get 2 (by omega)
                  have hk58 := hk57.put2 ok (.slice (some ⟨gnS, 0, none⟩) (ss.length + 1) capS)
                  have hr58 := hr57.low ok.mB (BX.set f.B 2 Y57 (.slice (some ⟨gnS, 0, none⟩) (ss.length + 1) capS))
                  go_simp
                  refine hK _ _ ?_
                  clear hK K v2 p2 f2 hk57 hr57 sb57
                  generalize Y57.setCell ⟨f.B, 2, none⟩ (.slice (some ⟨gnS, 0, none⟩) (ss.length + 1) capS) = Y58 at *
                  (try simp only [Act.put, List.setIfInBounds_toArray, List.set_cons_zero, List.set_cons_succ])
                  repeat (first | (refine trF_read5 rfl (by rfl) _ (fun w' hS => by (try replace hS := hS (by decide)); (try dsimp only at hS); go_simp; (try with_reducible rfl)) ?_; (try simp only [Act.put, List.setIfInBounds_toArray, List.set_cons_zero, List.set_cons_succ])) | (refine trF_skip5 rfl (by rfl) ?_; (try simp only [Act.put, List.setIfInBounds_toArray, List.set_cons_zero, List.set_cons_succ])))
                  have HK12 := Lib.hid hk58
                  have HR12 := Lib.hid hr58
                  clear hk58 hr58
                  show Exit.inBlock _ _ Exit.normal _ _
                  go_wp2_with fail
                  go_roundw
                  case rel => exact ⟨k + 1, c', _, _, _, _, by omega, by go_num, HL.out, by omega, HK12, HR12, hTL2⟩
                  case measure => simp [intOf]; omega
              · skip
                refine trF_step5 rfl (by rfl) (fun K hK => ?_)
                have hx := newB Y43 (.cells #[.int .i64 ua, .int .i64 ub] 39)
                have hk59 := hk43.grown ok hx
                have hr59 := hr43.grown hx
                have sb59 := sb43.grown ok hx
                have nK_59 : NB f (Y43.alloc (.cells #[.int .i64 ua, .int .i64 ub] 39)) Y43.heap.size (spotV (ua, ub)) vs u5 u6 := NB.new (xs := spotV (ua, ub)) 39 hk43 hr43
                have nI_59 := nI_43.grown hx
                go_simp
                refine hK _ _ sb59.all ?_
                clear hK K hx hk43 hr43 sb43 nI_43
                generalize Y43.heap.size = gK at *
                generalize Y43.alloc (.cells #[.int .i64 ua, .int .i64 ub] 39) = Y59 at *
                (try simp only [Act.put, List.setIfInBounds_toArray, List.set_cons_zero, List.set_cons_succ])
                refine trF_step5 rfl (by rfl) (fun K hK => ?_)
                have hx := newB Y59 (.cells #[.int .i64 s.x0, .int .i64 s.x1, .int .i64 s.y0, .int .i64 s.y1, .bool s.k, .int .i64 s.e0, .int .i64 s.e1, .int .i64 s.n0, .int .i64 s.n1] 55)
                have hk60 := hk59.grown ok hx
                have hr60 := hr59.grown hx
                have sb60 := sb59.grown ok hx
                have nS_60 : NB f (Y59.alloc (.cells #[.int .i64 s.x0, .int .i64 s.x1, .int .i64 s.y0, .int .i64 s.y1, .bool s.k, .int .i64 s.e0, .int .i64 s.e1, .int .i64 s.n0, .int .i64 s.n1] 55)) Y59.heap.size (starC s) vs u5 u6 := NB.new (xs := starC s) 55 hk59 hr59
                have nI_60 := nI_59.grown hx
                have nK_60 := nK_59.grown hx
                go_simp
                refine hK _ _ sb60.all ?_
                clear hK K hx hk59 hr59 sb59 nI_59 nK_59
                generalize Y59.heap.size = gS at *
                generalize Y59.alloc (.cells #[.int .i64 s.x0, .int .i64 s.x1, .int .i64 s.y0, .int .i64 s.y1, .bool s.k, .int .i64 s.e0, .int .i64 s.e1, .int .i64 s.n0, .int .i64 s.n1] 55) = Y60 at *
                (try simp only [Act.put, List.setIfInBounds_toArray, List.set_cons_zero, List.set_cons_succ])
                refine trF_step5 rfl (by rfl) (fun K hK => ?_)
                obtain ⟨j9, z9, s9, b9⟩ := I9.out
                refine wp_append_lies Y60 (.tmp 93) (.tmp 95) 27 rfl f.M 55 i9 (.agg #[.int .i64 0, .int .i64 0, .int .i64 0, .int .i64 0, .bool false, .int .i64 0, .int .i64 0, .int .i64 0, .int .i64 0]) 9 72 Try.underlying27 j9 z9 s9 b9 rfl (by decide) vs ss.length (ss.flatMap starC) (by rfl) hr60.rs ⟨gS, 0, none⟩ 1 1 (starC s) (by rfl) rfl nS_60.nw (by intro u hu; simp [starC, St.cells] at hu; rcases hu with rfl | rfl | rfl | rfl | rfl | rfl | rfl | rfl | rfl <;> rfl) (by omega) (by unfold maxLen; omega) (by omega) hk60.sz _ rfl ?_
                intro gnS capS Y61 hrow hgr hfr _
                have hk61 := hk60.by ok hgr (fun b hb => (hr60.rs.lt b hb).1)
                have sb61 := sb60.appS (n := ss.length + 1) (cap := capS) ok hgr (fun b hb => (hr60.rs.lt b hb).1) hfr
                have hr61 := hr60.pushS hgr hrow
                have nI_61 := nI_60.appS (n := ss.length + 1) (cap := capS) hgr hfr
                have nK_61 := nK_60.appS (n := ss.length + 1) (cap := capS) hgr hfr
                refine hK _ _ sb61.all ?_
                clear hK K hrow hgr hfr j9 z9 s9 b9 hk60 hr60 sb60 nI_60 nK_60 nS_60
                (try simp only [Act.put, List.setIfInBounds_toArray, List.set_cons_zero, List.set_cons_succ])
                repeat (first | (refine trF_read5 rfl (by rfl) _ (fun w' hS => by (try replace hS := hS (by decide)); (try dsimp only at hS); go_simp; (try with_reducible rfl)) ?_; (try simp only [Act.put, List.setIfInBounds_toArray, List.set_cons_zero, List.set_cons_succ])) | (refine trF_skip5 rfl (by rfl) ?_; (try simp only [Act.put, List.setIfInBounds_toArray, List.set_cons_zero, List.set_cons_succ])))
                refine trF_step5 rfl (by rfl) (fun K hK => ?_)
                obtain ⟨j2, z2, s2, b2⟩ := I2.out
                refine wp_append_lies Y61 (.tmp 97) (.tmp 99) 40 rfl f.M 39 i2 (.agg #[.int .i64 0, .int .i64 0]) 2 16 Try.underlying40 j2 z2 s2 b2 rfl (by decide) u5 is.length (is.flatMap spotV) (by rfl) hr61.ri ⟨gI, 0, none⟩ 1 1 (spotV (xa, xb)) (by rfl) rfl nI_61.nw (by intro u hu; simp [spotV] at hu; rcases hu with rfl | rfl <;> rfl) (by omega) (by unfold maxLen; omega) (by omega) hk61.sz _ rfl ?_
                intro gnI capI Y62 hrow hgr hfr _
                have hk62 := hk61.by ok hgr (fun b hb => (hr61.ri.lt b hb).1)
                have sb62 := sb61.appI (n := is.length + 1) (cap := capI) ok hgr (fun b hb => (hr61.ri.lt b hb).1) hfr
                have hr62 := hr61.pushI hgr hrow hfr
                have nK_62 := nK_61.appI (n := is.length + 1) (cap := capI) hgr hfr
                refine hK _ _ sb62.all ?_
                clear hK K hrow hgr hfr j2 z2 s2 b2 hk61 hr61 sb61 nI_61 nK_61
                (try simp only [Act.put, List.setIfInBounds_toArray, List.set_cons_zero, List.set_cons_succ])
                refine trF_step5 rfl (by rfl) (fun K hK => ?_)
                obtain ⟨j2, z2, s2, b2⟩ := I2.out
                refine wp_append_lies Y62 (.tmp 101) (.tmp 103) 40 rfl f.M 39 i2 (.agg #[.int .i64 0, .int .i64 0]) 2 16 Try.underlying40 j2 z2 s2 b2 rfl (by decide) u6 ks.length (ks.flatMap spotV) (by rfl) hr62.rk ⟨gK, 0, none⟩ 1 1 (spotV (ua, ub)) (by rfl) rfl nK_62.nw (by intro u hu; simp [spotV] at hu; rcases hu with rfl | rfl <;> rfl) (by omega) (by unfold maxLen; omega) (by omega) hk62.sz _ rfl ?_
                intro gnK capK Y63 hrow hgr hfr _
                have hk63 := hk62.by ok hgr (fun b hb => (hr62.rk.lt b hb).1)
                have sb63 := sb62.appK (n := ks.length + 1) (cap := capK) ok hgr (fun b hb => (hr62.rk.lt b hb).1) hfr
                have hr63 := hr62.pushK hgr hrow hfr
                refine hK _ _ sb63.all ?_
                clear hK K hrow hgr hfr j2 z2 s2 b2 hk62 hr62 sb62 nK_62
                (try simp only [Act.put, List.setIfInBounds_toArray, List.set_cons_zero, List.set_cons_succ])
                refine trF_late5 rfl (by rfl) (by kernel_rfl) (fun K hK => ?_)
                obtain ⟨v2, p2, f2⟩ := hk63.sp.get 2 (by omega)
                have hk64 := hk63.put2 ok (.slice (some ⟨gnS, 0, none⟩) (ss.length + 1) capS)
                have hr64 := hr63.low ok.mB (BX.set f.B 2 Y63 (.slice (some ⟨gnS, 0, none⟩) (ss.length + 1) capS))
                go_simp
                refine hK _ _ ?_
                clear hK K v2 p2 f2 hk63 hr63 sb63
                generalize Y63.setCell ⟨f.B, 2, none⟩ (.slice (some ⟨gnS, 0, none⟩) (ss.length + 1) capS) = Y64 at *
                (try simp only [Act.put, List.setIfInBounds_toArray, List.set_cons_zero, List.set_cons_succ])
                repeat (first | (refine trF_read5 rfl (by rfl) _ (fun w' hS => by (try replace hS := hS (by decide)); (try dsimp only at hS); go_simp; (try with_reducible rfl)) ?_; (try simp only [Act.put, List.setIfInBounds_toArray, List.set_cons_zero, List.set_cons_succ])) | (refine trF_skip5 rfl (by rfl) ?_; (try simp only [Act.put, List.setIfInBounds_toArray, List.set_cons_zero, List.set_cons_succ])))
                have HK12 := Lib.hid hk64
                have HR12 := Lib.hid hr64
                clear hk64 hr64
                show Exit.inBlock _ _ Exit.normal _ _
                go_wp2_with fail
                go_roundw
                case rel => exact ⟨k + 1, c', _, _, _, _, by omega, by go_num, HL.out, by omega, HK12, HR12, hTL2⟩
                case measure => simp [intOf]; omega
            · skip
              refine trF_step5 rfl (by rfl) (fun K hK => ?_)
              have hx := newB Y0 (.cells #[.int .i64 ua, .int .i64 ub] 39)
              have hk65 := hk0.grown ok hx
              have hr65 := hr0.grown hx
              have sb65 := hb0.grown ok hx
              have nK_65 : NB f (Y0.alloc (.cells #[.int .i64 ua, .int .i64 ub] 39)) Y0.heap.size (spotV (ua, ub)) vs u5 u6 := NB.new (xs := spotV (ua, ub)) 39 hk0 hr0
              go_simp
              refine hK _ _ sb65.all ?_
              clear hK K hx hk0 hr0 hb0 
              generalize Y0.heap.size = gK at *
              generalize Y0.alloc (.cells #[.int .i64 ua, .int .i64 ub] 39) = Y65 at *
              (try simp only [Act.put, List.setIfInBounds_toArray, List.set_cons_zero, List.set_cons_succ])
              refine ⟨?_, ?_⟩
              · skip
                refine trF_step5 rfl (by rfl) (fun K hK => ?_)
                have hx := newB Y65 (.cells #[.int .i64 s.x0, .int .i64 s.x1, .int .i64 s.y0, .int .i64 s.y1, .bool s.k, .int .i64 s.e0, .int .i64 s.e1, .int .i64 s.n0, .int .i64 s.n1] 55)
                have hk66 := hk65.grown ok hx
                have hr66 := hr65.grown hx
                have sb66 := sb65.grown ok hx
                have nS_66 : NB f (Y65.alloc (.cells #[.int .i64 s.x0, .int .i64 s.x1, .int .i64 s.y0, .int .i64 s.y1, .bool s.k, .int .i64 s.e0, .int .i64 s.e1, .int .i64 s.n0, .int .i64 s.n1] 55)) Y65.heap.size (starC s) vs u5 u6 := NB.new (xs := starC s) 55 hk65 hr65
                have nK_66 := nK_65.grown hx
                go_simp
                refine hK _ _ sb66.all ?_
                clear hK K hx hk65 hr65 sb65 nK_65
                generalize Y65.heap.size = gS at *
                generalize Y65.alloc (.cells #[.int .i64 s.x0, .int .i64 s.x1, .int .i64 s.y0, .int .i64 s.y1, .bool s.k, .int .i64 s.e0, .int .i64 s.e1, .int .i64 s.n0, .int .i64 s.n1] 55) = Y66 at *
                (try simp only [Act.put, List.setIfInBounds_toArray, List.set_cons_zero, List.set_cons_succ])
                refine ⟨?_, ?_⟩
                · skip
                  refine trF_step5 rfl (by rfl) (fun K hK => ?_)
                  obtain ⟨j9, z9, s9, b9⟩ := I9.out
                  refine wp_append_lies Y66 (.tmp 93) (.tmp 95) 27 rfl f.M 55 i9 (.agg #[.int .i64 0, .int .i64 0, .int .i64 0, .int .i64 0, .bool false, .int .i64 0, .int .i64 0, .int .i64 0, .int .i64 0]) 9 72 Try.underlying27 j9 z9 s9 b9 rfl (by decide) vs ss.length (ss.flatMap starC) (by rfl) hr66.rs ⟨gS, 0, none⟩ 1 1 (starC s) (by rfl) rfl nS_66.nw (by intro u hu; simp [starC, St.cells] at hu; rcases hu with rfl | rfl | rfl | rfl | rfl | rfl | rfl | rfl | rfl <;> rfl) (by omega) (by unfold maxLen; omega) (by omega) hk66.sz _ rfl ?_
                  intro gnS capS Y67 hrow hgr hfr _
                  have hk67 := hk66.by ok hgr (fun b hb => (hr66.rs.lt b hb).1)
                  have sb67 := sb66.appS (n := ss.length + 1) (cap := capS) ok hgr (fun b hb => (hr66.rs.lt b hb).1) hfr
                  have hr67 := hr66.pushS hgr hrow
                  have nK_67 := nK_66.appS (n := ss.length + 1) (cap := capS) hgr hfr
                  refine hK _ _ sb67.all ?_
                  clear hK K hrow hgr hfr j9 z9 s9 b9 hk66 hr66 sb66 nK_66 nS_66
                  (try simp only [Act.put, List.setIfInBounds_toArray, List.set_cons_zero, List.set_cons_succ])
                  repeat (first | (refine trF_read5 rfl (by rfl) _ (fun w' hS => by (try replace hS := hS (by decide)); (try dsimp only at hS); go_simp; (try with_reducible rfl)) ?_; (try simp only [Act.put, List.setIfInBounds_toArray, List.set_cons_zero, List.set_cons_succ])) | (refine trF_skip5 rfl (by rfl) ?_; (try simp only [Act.put, List.setIfInBounds_toArray, List.set_cons_zero, List.set_cons_succ])))
                  refine trF_step5 rfl (by rfl) (fun K hK => ?_)
                  have hx := newB Y67 (.cells #[.int .i64 xa, .int .i64 xb] 39)
                  have hk68 := hk67.grown ok hx
                  have hr68 := hr67.grown hx
                  have sb68 := sb67.grown ok hx
                  have nI_68 : NB f (Y67.alloc (.cells #[.int .i64 xa, .int .i64 xb] 39)) Y67.heap.size (spotV (xa, xb)) (.slice (some ⟨gnS, 0, none⟩) (ss.length + 1) capS) u5 u6 := NB.new (xs := spotV (xa, xb)) 39 hk67 hr67
                  have nK_68 := nK_67.grown hx
                  go_simp
                  refine hK _ _ sb68.all ?_
                  clear hK K hx hk67 hr67 sb67 nK_67
                  generalize Y67.heap.size = gI at *
                  generalize Y67.alloc (.cells #[.int .i64 xa, .int .i64 xb] 39) = Y68 at *
                  (try simp only [Act.put, List.setIfInBounds_toArray, List.set_cons_zero, List.set_cons_succ])
                  refine trF_step5 rfl (by rfl) (fun K hK => ?_)
                  obtain ⟨j2, z2, s2, b2⟩ := I2.out
                  refine wp_append_lies Y68 (.tmp 97) (.tmp 99) 40 rfl f.M 39 i2 (.agg #[.int .i64 0, .int .i64 0]) 2 16 Try.underlying40 j2 z2 s2 b2 rfl (by decide) u5 is.length (is.flatMap spotV) (by rfl) hr68.ri ⟨gI, 0, none⟩ 1 1 (spotV (xa, xb)) (by rfl) rfl nI_68.nw (by intro u hu; simp [spotV] at hu; rcases hu with rfl | rfl <;> rfl) (by omega) (by unfold maxLen; omega) (by omega) hk68.sz _ rfl ?_
                  intro gnI capI Y69 hrow hgr hfr _
                  have hk69 := hk68.by ok hgr (fun b hb => (hr68.ri.lt b hb).1)
                  have sb69 := sb68.appI (n := is.length + 1) (cap := capI) ok hgr (fun b hb => (hr68.ri.lt b hb).1) hfr
                  have hr69 := hr68.pushI hgr hrow hfr
                  have nK_69 := nK_68.appI (n := is.length + 1) (cap := capI) hgr hfr
                  refine hK _ _ sb69.all ?_
                  clear hK K hrow hgr hfr j2 z2 s2 b2 hk68 hr68 sb68 nK_68 nI_68
                  (try simp only [Act.put, List.setIfInBounds_toArray, List.set_cons_zero, List.set_cons_succ])
                  refine trF_step5 rfl (by rfl) (fun K hK => ?_)
                  obtain ⟨j2, z2, s2, b2⟩ := I2.out
                  refine wp_append_lies Y69 (.tmp 101) (.tmp 103) 40 rfl f.M 39 i2 (.agg #[.int .i64 0, .int .i64 0]) 2 16 Try.underlying40 j2 z2 s2 b2 rfl (by decide) u6 ks.length (ks.flatMap spotV) (by rfl) hr69.rk ⟨gK, 0, none⟩ 1 1 (spotV (ua, ub)) (by rfl) rfl nK_69.nw (by intro u hu; simp [spotV] at hu; rcases hu with rfl | rfl <;> rfl) (by omega) (by unfold maxLen; omega) (by omega) hk69.sz _ rfl ?_
                  intro gnK capK Y70 hrow hgr hfr _
                  have hk70 := hk69.by ok hgr (fun b hb => (hr69.rk.lt b hb).1)
                  have sb70 := sb69.appK (n := ks.length + 1) (cap := capK) ok hgr (fun b hb => (hr69.rk.lt b hb).1) hfr
                  have hr70 := hr69.pushK hgr hrow hfr
                  refine hK _ _ sb70.all ?_
                  clear hK K hrow hgr hfr j2 z2 s2 b2 hk69 hr69 sb69 nK_69
                  (try simp only [Act.put, List.setIfInBounds_toArray, List.set_cons_zero, List.set_cons_succ])
                  refine trF_late5 rfl (by rfl) (by kernel_rfl) (fun K hK => ?_)
                  obtain ⟨v2, p2, f2⟩ := hk70.sp.get 2 (by omega)
                  have hk71 := hk70.put2 ok (.slice (some ⟨gnS, 0, none⟩) (ss.length + 1) capS)
                  have hr71 := hr70.low ok.mB (BX.set f.B 2 Y70 (.slice (some ⟨gnS, 0, none⟩) (ss.length + 1) capS))
                  go_simp
                  refine hK _ _ ?_
                  clear hK K v2 p2 f2 hk70 hr70 sb70
                  generalize Y70.setCell ⟨f.B, 2, none⟩ (.slice (some ⟨gnS, 0, none⟩) (ss.length + 1) capS) = Y71 at *
                  (try simp only [Act.put, List.setIfInBounds_toArray, List.set_cons_zero, List.set_cons_succ])
                  repeat (first | (refine trF_read5 rfl (by rfl) _ (fun w' hS => by (try replace hS := hS (by decide)); (try dsimp only at hS); go_simp; (try with_reducible rfl)) ?_; (try simp only [Act.put, List.setIfInBounds_toArray, List.set_cons_zero, List.set_cons_succ])) | (refine trF_skip5 rfl (by rfl) ?_; (try simp only [Act.put, List.setIfInBounds_toArray, List.set_cons_zero, List.set_cons_succ])))
                  have HK12 := Lib.hid hk71
                  have HR12 := Lib.hid hr71
                  clear hk71 hr71
                  show Exit.inBlock _ _ Exit.normal _ _
                  go_wp2_with fail
                  go_roundw
                  case rel => exact ⟨k + 1, c', _, _, _, _, by omega, by go_num, HL.out, by omega, HK12, HR12, hTL2⟩
                  case measure => simp [intOf]; omega
                · skip
                  refine trF_step5 rfl (by rfl) (fun K hK => ?_)
                  have hx := newB Y66 (.cells #[.int .i64 xa, .int .i64 xb] 39)
                  have hk72 := hk66.grown ok hx
                  have hr72 := hr66.grown hx
                  have sb72 := sb66.grown ok hx
                  have nI_72 : NB f (Y66.alloc (.cells #[.int .i64 xa, .int .i64 xb] 39)) Y66.heap.size (spotV (xa, xb)) vs u5 u6 := NB.new (xs := spotV (xa, xb)) 39 hk66 hr66
                  have nK_72 := nK_66.grown hx
                  have nS_72 := nS_66.grown hx
                  go_simp
                  refine hK _ _ sb72.all ?_
                  clear hK K hx hk66 hr66 sb66 nK_66 nS_66
                  generalize Y66.heap.size = gI at *
                  generalize Y66.alloc (.cells #[.int .i64 xa, .int .i64 xb] 39) = Y72 at *
                  (try simp only [Act.put, List.setIfInBounds_toArray, List.set_cons_zero, List.set_cons_succ])
                  refine trF_step5 rfl (by rfl) (fun K hK => ?_)
                  obtain ⟨j9, z9, s9, b9⟩ := I9.out
                  refine wp_append_lies Y72 (.tmp 93) (.tmp 95) 27 rfl f.M 55 i9 (.agg #[.int .i64 0, .int .i64 0, .int .i64 0, .int .i64 0, .bool false, .int .i64 0, .int .i64 0, .int .i64 0, .int .i64 0]) 9 72 Try.underlying27 j9 z9 s9 b9 rfl (by decide) vs ss.length (ss.flatMap starC) (by rfl) hr72.rs ⟨gS, 0, none⟩ 1 1 (starC s) (by rfl) rfl nS_72.nw (by intro u hu; simp [starC, St.cells] at hu; rcases hu with rfl | rfl | rfl | rfl | rfl | rfl | rfl | rfl | rfl <;> rfl) (by omega) (by unfold maxLen; omega) (by omega) hk72.sz _ rfl ?_
                  intro gnS capS Y73 hrow hgr hfr _
                  have hk73 := hk72.by ok hgr (fun b hb => (hr72.rs.lt b hb).1)
                  have sb73 := sb72.appS (n := ss.length + 1) (cap := capS) ok hgr (fun b hb => (hr72.rs.lt b hb).1) hfr
                  have hr73 := hr72.pushS hgr hrow
                  have nK_73 := nK_72.appS (n := ss.length + 1) (cap := capS) hgr hfr
                  have nI_73 := nI_72.appS (n := ss.length + 1) (cap := capS) hgr hfr
                  refine hK _ _ sb73.all ?_
                  clear hK K hrow hgr hfr j9 z9 s9 b9 hk72 hr72 sb72 nK_72 nS_72 nI_72
                  (try simp only [Act.put, List.setIfInBounds_toArray, List.set_cons_zero, List.set_cons_succ])
                  repeat (first | (refine trF_read5 rfl (by rfl) _ (fun w' hS => by (try replace hS := hS (by decide)); (try dsimp only at hS); go_simp; (try with_reducible rfl)) ?_; (try simp only [Act.put, List.setIfInBounds_toArray, List.set_cons_zero, List.set_cons_succ])) | (refine trF_skip5 rfl (by rfl) ?_; (try simp only [Act.put, List.setIfInBounds_toArray, List.set_cons_zero, List.set_cons_succ])))
                  refine trF_step5 rfl (by rfl) (fun K hK => ?_)
                  obtain ⟨j2, z2, s2, b2⟩ := I2.out
                  refine wp_append_lies Y73 (.tmp 97) (.tmp 99) 40 rfl f.M 39 i2 (.agg #[.int .i64 0, .int .i64 0]) 2 16 Try.underlying40 j2 z2 s2 b2 rfl (by decide) u5 is.length (is.flatMap spotV) (by rfl) hr73.ri ⟨gI, 0, none⟩ 1 1 (spotV (xa, xb)) (by rfl) rfl nI_73.nw (by intro u hu; simp [spotV] at hu; rcases hu with rfl | rfl <;> rfl) (by omega) (by unfold maxLen; omega) (by omega) hk73.sz _ rfl ?_
                  intro gnI capI Y74 hrow hgr hfr _
                  have hk74 := hk73.by ok hgr (fun b hb => (hr73.ri.lt b hb).1)
                  have sb74 := sb73.appI (n := is.length + 1) (cap := capI) ok hgr (fun b hb => (hr73.ri.lt b hb).1) hfr
                  have hr74 := hr73.pushI hgr hrow hfr
                  have nK_74 := nK_73.appI (n := is.length + 1) (cap := capI) hgr hfr
                  refine hK _ _ sb74.all ?_
                  clear hK K hrow hgr hfr j2 z2 s2 b2 hk73 hr73 sb73 nK_73 nI_73
                  (try simp only [Act.put, List.setIfInBounds_toArray, List.set_cons_zero, List.set_cons_succ])
                  refine trF_step5 rfl (by rfl) (fun K hK => ?_)
                  obtain ⟨j2, z2, s2, b2⟩ := I2.out
                  refine wp_append_lies Y74 (.tmp 101) (.tmp 103) 40 rfl f.M 39 i2 (.agg #[.int .i64 0, .int .i64 0]) 2 16 Try.underlying40 j2 z2 s2 b2 rfl (by decide) u6 ks.length (ks.flatMap spotV) (by rfl) hr74.rk ⟨gK, 0, none⟩ 1 1 (spotV (ua, ub)) (by rfl) rfl nK_74.nw (by intro u hu; simp [spotV] at hu; rcases hu with rfl | rfl <;> rfl) (by omega) (by unfold maxLen; omega) (by omega) hk74.sz _ rfl ?_
                  intro gnK capK Y75 hrow hgr hfr _
                  have hk75 := hk74.by ok hgr (fun b hb => (hr74.rk.lt b hb).1)
                  have sb75 := sb74.appK (n := ks.length + 1) (cap := capK) ok hgr (fun b hb => (hr74.rk.lt b hb).1) hfr
                  have hr75 := hr74.pushK hgr hrow hfr
                  refine hK _ _ sb75.all ?_
                  clear hK K hrow hgr hfr j2 z2 s2 b2 hk74 hr74 sb74 nK_74
                  (try simp only [Act.put, List.setIfInBounds_toArray, List.set_cons_zero, List.set_cons_succ])
                  refine trF_late5 rfl (by rfl) (by kernel_rfl) (fun K hK => ?_)
                  obtain ⟨v2, p2, f2⟩ := hk75.sp.get 2 (by omega)
                  have hk76 := hk75.put2 ok (.slice (some ⟨gnS, 0, none⟩) (ss.length + 1) capS)
                  have hr76 := hr75.low ok.mB (BX.set f.B 2 Y75 (.slice (some ⟨gnS, 0, none⟩) (ss.length + 1) capS))
                  go_simp
                  refine hK _ _ ?_
                  clear hK K v2 p2 f2 hk75 hr75 sb75
                  generalize Y75.setCell ⟨f.B, 2, none⟩ (.slice (some ⟨gnS, 0, none⟩) (ss.length + 1) capS) = Y76 at *
                  (try simp only [Act.put, List.setIfInBounds_toArray, List.set_cons_zero, List.set_cons_succ])
                  repeat (first | (refine trF_read5 rfl (by rfl) _ (fun w' hS => by (try replace hS := hS (by decide)); (try dsimp only at hS); go_simp; (try with_reducible rfl)) ?_; (try simp only [Act.put, List.setIfInBounds_toArray, List.set_cons_zero, List.set_cons_succ])) | (refine trF_skip5 rfl (by rfl) ?_; (try simp only [Act.put, List.setIfInBounds_toArray, List.set_cons_zero, List.set_cons_succ])))
                  have HK12 := Lib.hid hk76
                  have HR12 := Lib.hid hr76
                  clear hk76 hr76
                  show Exit.inBlock _ _ Exit.normal _ _
                  go_wp2_with fail
                  go_roundw
                  case rel => exact ⟨k + 1, c', _, _, _, _, by omega, by go_num, HL.out, by omega, HK12, HR12, hTL2⟩
                  case measure => simp [intOf]; omega
              · skip
                refine trF_step5 rfl (by rfl) (fun K hK => ?_)
                have hx := newB Y65 (.cells #[.int .i64 xa, .int .i64 xb] 39)
                have hk77 := hk65.grown ok hx
                have hr77 := hr65.grown hx
                have sb77 := sb65.grown ok hx
                have nI_77 : NB f (Y65.alloc (.cells #[.int .i64 xa, .int .i64 xb] 39)) Y65.heap.size (spotV (xa, xb)) vs u5 u6 := NB.new (xs := spotV (xa, xb)) 39 hk65 hr65
                have nK_77 := nK_65.grown hx
                go_simp
                refine hK _ _ sb77.all ?_
                clear hK K hx hk65 hr65 sb65 nK_65
                generalize Y65.heap.size = gI at *
                generalize Y65.alloc (.cells #[.int .i64 xa, .int .i64 xb] 39) = Y77 at *
                (try simp only [Act.put, List.setIfInBounds_toArray, List.set_cons_zero, List.set_cons_succ])
                refine trF_step5 rfl (by rfl) (fun K hK => ?_)
                have hx := newB Y77 (.cells #[.int .i64 s.x0, .int .i64 s.x1, .int .i64 s.y0, .int .i64 s.y1, .bool s.k, .int .i64 s.e0, .int .i64 s.e1, .int .i64 s.n0, .int .i64 s.n1] 55)
                have hk78 := hk77.grown ok hx
                have hr78 := hr77.grown hx
                have sb78 := sb77.grown ok hx
                have nS_78 : NB f (Y77.alloc (.cells #[.int .i64 s.x0, .int .i64 s.x1, .int .i64 s.y0, .int .i64 s.y1, .bool s.k, .int .i64 s.e0, .int .i64 s.e1, .int .i64 s.n0, .int .i64 s.n1] 55)) Y77.heap.size (starC s) vs u5 u6 := NB.new (xs := starC s) 55 hk77 hr77
                have nK_78 := nK_77.grown hx
                have nI_78 := nI_77.grown hx
                go_simp
                refine hK _ _ sb78.all ?_
                clear hK K hx hk77 hr77 sb77 nK_77 nI_77
                generalize Y77.heap.size = gS at *
                generalize Y77.alloc (.cells #[.int .i64 s.x0, .int .i64 s.x1, .int .i64 s.y0, .int .i64 s.y1, .bool s.k, .int .i64 s.e0, .int .i64 s.e1, .int .i64 s.n0, .int .i64 s.n1] 55) = Y78 at *
                (try simp only [Act.put, List.setIfInBounds_toArray, List.set_cons_zero, List.set_cons_succ])
                refine trF_step5 rfl (by rfl) (fun K hK => ?_)
                obtain ⟨j9, z9, s9, b9⟩ := I9.out
                refine wp_append_lies Y78 (.tmp 93) (.tmp 95) 27 rfl f.M 55 i9 (.agg #[.int .i64 0, .int .i64 0, .int .i64 0, .int .i64 0, .bool false, .int .i64 0, .int .i64 0, .int .i64 0, .int .i64 0]) 9 72 Try.underlying27 j9 z9 s9 b9 rfl (by decide) vs ss.length (ss.flatMap starC) (by rfl) hr78.rs ⟨gS, 0, none⟩ 1 1 (starC s) (by rfl) rfl nS_78.nw (by intro u hu; simp [starC, St.cells] at hu; rcases hu with rfl | rfl | rfl | rfl | rfl | rfl | rfl | rfl | rfl <;> rfl) (by omega) (by unfold maxLen; omega) (by omega) hk78.sz _ rfl ?_
                intro gnS capS Y79 hrow hgr hfr _
                have hk79 := hk78.by ok hgr (fun b hb => (hr78.rs.lt b hb).1)
                have sb79 := sb78.appS (n := ss.length + 1) (cap := capS) ok hgr (fun b hb => (hr78.rs.lt b hb).1) hfr
                have hr79 := hr78.pushS hgr hrow
                have nK_79 := nK_78.appS (n := ss.length + 1) (cap := capS) hgr hfr
                have nI_79 := nI_78.appS (n := ss.length + 1) (cap := capS) hgr hfr
                refine hK _ _ sb79.all ?_
                clear hK K hrow hgr hfr j9 z9 s9 b9 hk78 hr78 sb78 nK_78 nI_78 nS_78
                (try simp only [Act.put, List.setIfInBounds_toArray, List.set_cons_zero, List.set_cons_succ])
                repeat (first | (refine trF_read5 rfl (by rfl) _ (fun w' hS => by (try replace hS := hS (by decide)); (try dsimp only at hS); go_simp; (try with_reducible rfl)) ?_; (try simp only [Act.put, List.setIfInBounds_toArray, List.set_cons_zero, List.set_cons_succ])) | (refine trF_skip5 rfl (by rfl) ?_; (try simp only [Act.put, List.setIfInBounds_toArray, List.set_cons_zero, List.set_cons_succ])))
                refine trF_step5 rfl (by rfl) (fun K hK => ?_)
                obtain ⟨j2, z2, s2, b2⟩ := I2.out
                refine wp_append_lies Y79 (.tmp 97) (.tmp 99) 40 rfl f.M 39 i2 (.agg #[.int .i64 0, .int .i64 0]) 2 16 Try.underlying40 j2 z2 s2 b2 rfl (by decide) u5 is.length (is.flatMap spotV) (by rfl) hr79.ri ⟨gI, 0, none⟩ 1 1 (spotV (xa, xb)) (by rfl) rfl nI_79.nw (by intro u hu; simp [spotV] at hu; rcases hu with rfl | rfl <;> rfl) (by omega) (by unfold maxLen; omega) (by omega) hk79.sz _ rfl ?_
                intro gnI capI Y80 hrow hgr hfr _
                have hk80 := hk79.by ok hgr (fun b hb => (hr79.ri.lt b hb).1)
                have sb80 := sb79.appI (n := is.length + 1) (cap := capI) ok hgr (fun b hb => (hr79.ri.lt b hb).1) hfr
                have hr80 := hr79.pushI hgr hrow hfr
                have nK_80 := nK_79.appI (n := is.length + 1) (cap := capI) hgr hfr
                refine hK _ _ sb80.all ?_
                clear hK K hrow hgr hfr j2 z2 s2 b2 hk79 hr79 sb79 nK_79 nI_79
                (try simp only [Act.put, List.setIfInBounds_toArray, List.set_cons_zero, List.set_cons_succ])
                refine trF_step5 rfl (by rfl) (fun K hK => ?_)
                obtain ⟨j2, z2, s2, b2⟩ := I2.out
                refine wp_append_lies Y80 (.tmp 101) (.tmp 103) 40 rfl f.M 39 i2 (.agg #[.int .i64 0, .int .i64 0]) 2 16 Try.underlying40 j2 z2 s2 b2 rfl (by decide) u6 ks.length (ks.flatMap spotV) (by rfl) hr80.rk ⟨gK, 0, none⟩ 1 1 (spotV (ua, ub)) (by rfl) rfl nK_80.nw (by intro u hu; simp [spotV] at hu; rcases hu with rfl | rfl <;> rfl) (by omega) (by unfold maxLen; omega) (by omega) hk80.sz _ rfl ?_
                intro gnK capK Y81 hrow hgr hfr _
                have hk81 := hk80.by ok hgr (fun b hb => (hr80.rk.lt b hb).1)
                have sb81 := sb80.appK (n := ks.length + 1) (cap := capK) ok hgr (fun b hb => (hr80.rk.lt b hb).1) hfr
                have hr81 := hr80.pushK hgr hrow hfr
                refine hK _ _ sb81.all ?_
                clear hK K hrow hgr hfr j2 z2 s2 b2 hk80 hr80 sb80 nK_80
                (try simp only [Act.put, List.setIfInBounds_toArray, List.set_cons_zero, List.set_cons_succ])
                refine trF_late5 rfl (by rfl) (by kernel_rfl) (fun K hK => ?_)
                obtain ⟨v2, p2, f2⟩ := hk81.sp.get 2 (by omega)
                have hk82 := hk81.put2 ok (.slice (some ⟨gnS, 0, none⟩) (ss.length + 1) capS)
                have hr82 := hr81.low ok.mB (BX.set f.B 2 Y81 (.slice (some ⟨gnS, 0, none⟩) (ss.length + 1) capS))
                go_simp
                refine hK _ _ ?_
                clear hK K v2 p2 f2 hk81 hr81 sb81
                generalize Y81.setCell ⟨f.B, 2, none⟩ (.slice (some ⟨gnS, 0, none⟩) (ss.length + 1) capS) = Y82 at *
                (try simp only [Act.put, List.setIfInBounds_toArray, List.set_cons_zero, List.set_cons_succ])
                repeat (first | (refine trF_read5 rfl (by rfl) _ (fun w' hS => by (try replace hS := hS (by decide)); (try dsimp only at hS); go_simp; (try with_reducible rfl)) ?_; (try simp only [Act.put, List.setIfInBounds_toArray, List.set_cons_zero, List.set_cons_succ])) | (refine trF_skip5 rfl (by rfl) ?_; (try simp only [Act.put, List.setIfInBounds_toArray, List.set_cons_zero, List.set_cons_succ])))
                have HK12 := Lib.hid hk82
                have HR12 := Lib.hid hr82
                clear hk82 hr82
                show Exit.inBlock _ _ Exit.normal _ _
                go_wp2_with fail
                go_roundw
                case rel => exact ⟨k + 1, c', _, _, _, _, by omega, by go_num, HL.out, by omega, HK12, HR12, hTL2⟩
                case measure => simp [intOf]; omega
    · obtain rfl : k = n := by omega
      have hr00 := hkr.out
      obtain ⟨sa, sc1, rfl, -⟩ := stars_of_row hr00.rs
      clear hr00
      have hbD : Below wo.heap.size wo wo.drew := Below.drew (Below.refl _ _)
      have hk0 := hkc.out.grown ok hbD
      have hr0 := hkr.out.grown hbD
      have hH := Lib.hid (And.intro hl1 (And.intro hl2 hl3))
      clear hbD hkc hkr hl1 hl2 hl3
      go_upto_region 14 with fail
      refine wp_region_seq [(0, true), (1, true), (2, true), (3, true), (4, true), (5, false), (6, true), (7, false), (8, true), (9, true)] (fun Y => Y.cell? ⟨f.B, 0, none⟩ = some (.int .i64 lo) ∧ Y.cell? ⟨f.B, 1, none⟩ = some (.int .i64 hi) ∧ Y.cell? ⟨f.B, 2, none⟩ = some (.slice sa ss.length sc1) ∧ Y.cell? ⟨f.C, 0, none⟩ = some (.int .i64 ce) ∧ Y.cell? ⟨f.C, 1, none⟩ = some (.int .i64 cn)) (by kernel_rfl) (by kernel_rfl) (fun _ _ d _ _ h => by cases d <;> exact h) ⟨hk0.p0, hk0.p1, hk0.p2, hk0.q0, hk0.q1⟩ ?_
      generalize wo.drew = Y0 at *
      repeat (first | (refine seq_read rfl (by rfl) _ (fun w' hS => by (try dsimp only at hS); go_simp; (try with_reducible rfl)) ?_; (try simp only [Act.put, List.setIfInBounds_toArray, List.set_cons_zero, List.set_cons_succ])) | (refine seq_skip rfl (by rfl) ?_; (try simp only [Act.put, List.setIfInBounds_toArray, List.set_cons_zero, List.set_cons_succ])))
      refine seq_do rfl (by rfl) (fun K hK => ?_)
      obtain ⟨u0, q0, f0⟩ := hk0.sp.get 0 (by omega)
      obtain ⟨u1, q1, f1⟩ := hk0.sp.get 1 (by omega)
      obtain ⟨u2, q2, f2⟩ := hk0.sp.get 2 (by omega)
      have hk1 := (hk0.span ok lo hi).put2 ok (.slice sa ss.length sc1)
      have hr1 := hr0.low ok.mB (((BX.set f.B 0 Y0 (.int .i64 lo)).trans (BX.set f.B 1 _ (.int .i64 hi))).trans (BX.set f.B 2 _ (.slice sa ss.length sc1)))
      go_simp
      refine hK _ _ ⟨hk1.p0, hk1.p1, hk1.p2, hk1.q0, hk1.q1⟩ ?_
      clear hK K u0 q0 f0 u1 q1 f1 u2 q2 f2 hk0 hr0
      generalize ((Y0.setCell ⟨f.B, 0, none⟩ (.int .i64 lo)).setCell ⟨f.B, 1, none⟩ (.int .i64 hi)).setCell ⟨f.B, 2, none⟩ (.slice sa ss.length sc1) = Y1 at *
      (try simp only [Act.put, List.setIfInBounds_toArray, List.set_cons_zero, List.set_cons_succ])
      repeat (first | (refine seq_read rfl (by rfl) _ (fun w' hS => by (try dsimp only at hS); go_simp; (try with_reducible rfl)) ?_; (try simp only [Act.put, List.setIfInBounds_toArray, List.set_cons_zero, List.set_cons_succ])) | (refine seq_skip rfl (by rfl) ?_; (try simp only [Act.put, List.setIfInBounds_toArray, List.set_cons_zero, List.set_cons_succ])))
      refine seq_do rfl (by rfl) (fun K hK => ?_)
      obtain ⟨u0, q0, f0⟩ := hk1.sq.get 0 (by omega)
      obtain ⟨u1, q1, f1⟩ := hk1.sq.get 1 (by omega)
      have hk2 := hk1.corn ok ce cn
      have hr2 := hr1.low ok.mC ((BX.set f.C 0 Y1 (.int .i64 ce)).trans (BX.set f.C 1 _ (.int .i64 cn)))
      go_simp
      refine hK _ _ ⟨hk2.p0, hk2.p1, hk2.p2, hk2.q0, hk2.q1⟩ ?_
      clear hK K u0 q0 f0 u1 q1 f1 hk1 hr1
      generalize (Y1.setCell ⟨f.C, 0, none⟩ (.int .i64 ce)).setCell ⟨f.C, 1, none⟩ (.int .i64 cn) = Y2 at *
      (try simp only [Act.put, List.setIfInBounds_toArray, List.set_cons_zero, List.set_cons_succ])
      repeat (first | (refine seq_read rfl (by rfl) _ (fun w' hS => by (try dsimp only at hS); go_simp; (try with_reducible rfl)) ?_; (try simp only [Act.put, List.setIfInBounds_toArray, List.set_cons_zero, List.set_cons_succ])) | (refine seq_skip rfl (by rfl) ?_; (try simp only [Act.put, List.setIfInBounds_toArray, List.set_cons_zero, List.set_cons_succ])))
      apply seq_end
      first | show Exit.then _ _ Exit.normal _ _ | skip
      go_wp2_with fail
      obtain ⟨hl1, hl2, hl3⟩ := hH.out
      obtain ⟨sa2, sc2, e2, hS⟩ := stars_of_row hr2.rs
      injection e2 with e3 e4 e5
      subst e3
      clear e4 e5
      obtain ⟨ia, ic, rfl, hSi⟩ := spots_of_row hr2.ri
      obtain ⟨ka, kc, rfl, hSk⟩ := spots_of_row hr2.rk
      rw [hl1] at hk2
      rw [hl2, hl3]
      rw [hl1]
      have p0 := hk2.p0
      have p1 := hk2.p1
      have p2 := hk2.p2
      have c0 := hk2.q0
      have c1 := hk2.q1
      have hco : ∀ d, -10000 ≤ dir (ce, cn) d ∧ dir (ce, cn) d ≤ 10000 := fun | false => hce0 | true => hcn0
      have hfin : MadeO f.wb (.returned (.tuple #[.agg #[.int .i64 lo, .int .i64 hi, .slice sa k sc1], .int .i64 sc, .agg #[.int .i64 ce, .int .i64 cn], .slice ia k ic, .slice ka k kc])) Y2 :=
        ⟨⟨lo, hi, sa, k, sc1⟩, ss, sc, (ce, cn), is, ks, ia, ka, ic, kc, rfl, hk2.bel, ⟨hl1, by show k ≤ 1000000000; omega, hS⟩, ⟨hSi, hSk⟩, ⟨hlo0.1, hlo0.2, hhi0.1, hhi0.2, hn10, hl1, hco, fun i hi => (hTL.out i (by rw [hl1]; exact hi)).1⟩, ⟨hl2, hl3⟩, fun i hi => (hTL.out i (by rw [hl1]; exact hi)).2⟩
      exact bodyPost_ret (v := .tuple #[.agg #[.int .i64 lo, .int .i64 hi, .slice sa k sc1], .int .i64 sc, .agg #[.int .i64 ce, .int .i64 cn], .slice ia k ic, .slice ka k kc]) (by simp [results, Try.results18, go_sem, p0, p1, p2, c0, c1]) rfl hfin
end Go.Proofs.Ytdkegkacpdkjgaa
