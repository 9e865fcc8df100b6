/- 'ScrewTrue': for every slice of numbers, in whatever memory, on every order of evaluation that Go leaves open: the call returns true, and what came in reads as before. No condition. -/
import Derived.Test.YtmfbkgdlfackcaaMo2
import Derived.Test.YtmfbkgdlfackcaaSev
import Derived.Test.YtmfbkgdlfackcaaMex
import Derived.Deep.CutRange
import Derived.Test.YtmfbkgdlfackcaaArg
import Derived.OpenShut
import Derived.Test.YtmfbkgdlfackcaaPar
namespace Go.Proofs.Ytmfbkgdlfackcaa
open Fw Go.RowKit

def spanV (s : Int × Int) : List Value := [.int .i64 s.1, .int .i64 s.2]
theorem spans_len (xs : List (Int × Int)) : (xs.flatMap spanV).length = xs.length * 2 := by
  induction xs with
  | nil => rfl
  | cons s xs ih => rw [List.flatMap_cons, List.length_append, ih]; simp [spanV]; omega
theorem flat_span (xs : List (Int × Int)) : ∀ k, k < xs.length → (xs.flatMap spanV)[k * 2]? = some (.int .i64 (xs.getD k (0, 0)).1) ∧ (xs.flatMap spanV)[k * 2 + 1]? = some (.int .i64 (xs.getD k (0, 0)).2) := by
  induction xs with
  | nil => intro k hk; simp at hk
  | cons s xs ih =>
    intro k hk
    cases k with
    | zero => simp [spanV]
    | succ k =>
      have h := ih k (by simpa using hk)
      have e1 : (k + 1) * 2 = k * 2 + 2 := by omega
      rw [e1, List.flatMap_cons]
      constructor
      · rw [List.getElem?_append_right (by simp [spanV])]; simpa [spanV] using h.1
      · rw [List.getElem?_append_right (by simp [spanV])]
        have e2 : k * 2 + 2 + 1 - (spanV s).length = k * 2 + 1 := by simp [spanV]
        rw [e2]; simpa using h.2
theorem info24 : (Try.prog.info? 24).map (fun i => (i.zero, i.size, i.bytes)) = some (some (.agg #[.int .i64 0, .int .i64 0]), 2, 16) := by kernel_rfl
theorem info24p : ∃ i, Try.prog.info? 24 = some i ∧ i.zero = some (.agg #[.int .i64 0, .int .i64 0]) ∧ i.size = 2 ∧ i.bytes = 16 := by
  have h := info24
  cases hi : Try.prog.info? 24 with
  | none => rw [hi] at h; simp at h
  | some i => rw [hi] at h; simp at h; exact ⟨i, rfl, h.1, h.2.1, h.2.2⟩
end Go.Proofs.Ytmfbkgdlfackcaa

namespace Go.Proofs.Ytmfbkgdlfackcaa
open Fw Go.RowKit

/-- The true numbers: the zero, the sum, and the places from 2 on. -/
def truX (sum : Int) (ps : List Int) : Nat → Int := fun i => if i = 0 then 0 else if i = 1 then sum else ps.getD (i - 2) 0
theorem truX_at (sum : Int) (ps : List Int) (k : Nat) : truX sum ps (2 + k) = ps.getD k 0 := by
  unfold truX
  rw [if_neg (by omega), if_neg (by omega)]
  congr 1; omega
structure MadeR (h : Hd) (xs : List (Int × Int)) (ss : List Sett) (sum : Int) (ps : List Int) : Prop where
  v : validH h xs ss = true
  t : Tru h.sLo h.sHi (tellsOf xs h.eLo h.eHi ss) (truX sum ps)
  l : (ps.length : Int) = h.images
section
variable {h : Hd} {xs : List (Int × Int)} {ss : List Sett} {sum : Int} {ps : List Int}
theorem true_sum (k : MadeR h xs ss sum ps) : ∃ s1 s2 : Int, reply (sumA h xs ss) = .tuple #[.agg #[.int .i64 s1, .int .i64 s2], .int .i64 0] ∧ s1 ≤ sum ∧ sum ≤ s2 := by
  obtain ⟨lo, hi, e, ex⟩ := sum_ok k.v ⟨_, k.t⟩
  have := ex.1 _ k.t
  have e1 : truX sum ps 1 - truX sum ps 0 = sum := by simp [truX]
  rw [e1] at this
  exact ⟨lo, hi, by rw [e]; rfl, this.1, this.2⟩
theorem true_can (k : MadeR h xs ss sum ps) : canB h xs ss (allS ss) = true := by
  obtain ⟨a, b, c, d, e, f, g⟩ := valid_has k.v
  refine (canB_iff k.v _).2 ⟨truX sum ps, ?_⟩
  obtain ⟨h1, h2⟩ := k.t
  refine ⟨h1, fun j hj _ => ?_⟩
  exact h2 _ (by rw [List.getD_eq_getElem?_getD, List.getElem?_eq_getElem hj]; exact List.getElem_mem hj)
theorem true_clash (k : MadeR h xs ss sum ps) : replyI (clashA h xs ss) = .tuple #[.int .i64 0, .int .i64 0] := by
  unfold clashA; rw [if_pos k.v, clash_zero k.v (true_can k)]; rfl
theorem true_drop (k : MadeR h xs ss sum ps) : replyI (dropA h xs ss) = .tuple #[.int .i64 0, .int .i64 0] := by
  unfold dropA; rw [if_pos k.v, (drop_zero_iff k.v).2 (true_can k)]; rfl
theorem true_place (k : MadeR h xs ss sum ps) {i : Nat} (hi : i < ps.length) : ∃ p1 p2 e : Int, reply (placeA h xs ss i) = .tuple #[.agg #[.int .i64 p1, .int .i64 p2], .int .i64 e] ∧ (e = 12 ∨ (e = 0 ∧ p1 ≤ ps.getD i 0 ∧ ps.getD i 0 ≤ p2)) := by
  have hl := k.l
  have him : isImg h.images i = true := by simp [isImg]; omega
  cases hc : hasC i (cntsOf ss)
  · exact ⟨0, 0, 12, by rw [place_doubt k.v him ⟨_, k.t⟩ hc]; rfl, .inl rfl⟩
  · obtain ⟨lo, hi', e, ex⟩ := place_ok k.v him ⟨_, k.t⟩ hc
    have := ex.1 _ k.t
    have e1 : truX sum ps (2 + (i : Int).toNat) - truX sum ps 0 = ps.getD i 0 := by rw [truX_at]; simp [truX]
    rw [e1] at this
    exact ⟨lo, hi', 0, by rw [e]; rfl, .inr ⟨rfl, this.1, this.2⟩⟩
theorem true_apart (k : MadeR h xs ss sum ps) {i j : Nat} (hi : i < ps.length) (hj : j < ps.length) : ∃ p1 p2 e : Int, reply (apartA h xs ss i j) = .tuple #[.agg #[.int .i64 p1, .int .i64 p2], .int .i64 e] ∧
    (e = 12 ∨ (e = 0 ∧ p1 ≤ ps.getD j 0 - ps.getD i 0 ∧ ps.getD j 0 - ps.getD i 0 ≤ p2)) := by
  have hl := k.l
  have him : isImg h.images i = true := by simp [isImg]; omega
  have hjm : isImg h.images j = true := by simp [isImg]; omega
  by_cases hc : (i : Int) = j ∨ (hasC i (cntsOf ss) = true ∧ hasC j (cntsOf ss) = true)
  · obtain ⟨lo, hi', e, ex⟩ := apart_ok k.v him hjm ⟨_, k.t⟩ hc
    have := ex.1 _ k.t
    rw [truX_at, truX_at] at this
    exact ⟨lo, hi', 0, by rw [e]; rfl, .inr ⟨rfl, this.1, this.2⟩⟩
  · exact ⟨0, 0, 12, by rw [apart_doubt k.v him hjm ⟨_, k.t⟩ (fun e => hc (.inl e)) (fun e => hc (.inr e))]; rfl, .inl rfl⟩
/-- What a setting makes of its place. -/
def turnP (sum p : Int) (r : Bool) : Int := if r then sum - p else p
theorem true_travel (k : MadeR h xs ss sum ps) {j : Nat} (hj : j < ss.length) : ∃ t1 t2 : Int, reply (travelR xs h.eLo h.eHi (ss.getD j (0, 0, false)).2.1) = .tuple #[.agg #[.int .i64 t1, .int .i64 t2], .int .i64 0] ∧
    t1 ≤ turnP sum (ps.getD (ss.getD j (0, 0, false)).1.toNat 0) (ss.getD j (0, 0, false)).2.2 ∧ turnP sum (ps.getD (ss.getD j (0, 0, false)).1.toNat 0) (ss.getD j (0, 0, false)).2.2 ≤ t2 := by
  obtain ⟨va, vb, vc, vd, ve, vf, vg⟩ := valid_has k.v
  have hmem : ss.getD j (0, 0, false) ∈ ss := by rw [List.getD_eq_getElem?_getD, List.getElem?_eq_getElem hj]; exact List.getElem_mem hj
  obtain ⟨g1, g2, g3⟩ := vg _ hmem
  have hk := k.t.2 (tellOf xs h.eLo h.eHi (ss.getD j (0, 0, false))) (List.mem_map.2 ⟨_, hmem, rfl⟩)
  generalize ss.getD j (0, 0, false) = s at *
  unfold Keeps tellOf at hk
  dsimp only at hk
  refine ⟨trav s.2.1 (xs.getD (s.2.1 / 1000).toNat (0, 0)).1 h.eLo, trav s.2.1 (xs.getD (s.2.1 / 1000).toNat (0, 0)).2 h.eHi, ?_, ?_⟩
  · unfold travelR
    rw [if_pos (by unfold validB; simp [vb, holdB]; omega), if_pos (by simp [hasTrn]; omega)]
    rfl
  · unfold turnP
    rw [truX_at] at hk
    have e1 : truX sum ps 1 = sum := by simp [truX]
    have e0 : truX sum ps 0 = 0 := by simp [truX]
    rw [e1, e0] at hk
    cases hs : s.2.2 <;> rw [hs] at hk <;> simp at hk ⊢ <;> omega
end
end Go.Proofs.Ytmfbkgdlfackcaa

namespace Go.Proofs.Ytmfbkgdlfackcaa
open Fw Go.RowKit

structure DS (X : World) (gA gY c yb yo yn yc : Nat) : Prop where
  ca : X.cell? ⟨gA, 0, none⟩ = some (.int .i64 c)
  sa : Slots gA 1 X
  cy : X.cell? ⟨gY, 0, none⟩ = some (.slice (some ⟨yb, yo, none⟩) yn yc)
  el : ∀ k, k < yn → ∃ v : Int, X.cell? ⟨yb, yo + k, none⟩ = some (.int .u16 v) ∧ 0 ≤ v ∧ v ≤ 65535
def DrawR (w : World) (gA c : Nat) (m : Int) (e : Ending) (w' : World) : Prop :=
  ∃ d : Int, (e = .returned (.int .i64 d) ∧ w' = (w.setCell ⟨gA, 0, none⟩ (.int .i64 ((c : Int) + 1))).drew) ∧ 0 ≤ d ∧ d < m
set_option maxRecDepth 100000 in
set_option maxHeartbeats 4000000 in
theorem draw_any (gA gY c yb yo yn yc : Nat) (m : Int) (w : World) (hd : DS w gA gY c yb yo yn yc) (hc : c ≤ 1000) (hy : 1 ≤ yn) (hyn : yn ≤ 9223372036854775807) (hm : 1 ≤ m ∧ m ≤ 1000000) (hne : gA ≠ gY) (hnb : yb ≠ gA) :
    Calls Try.prog 86 #[.int .i64 m, .pointer (some ⟨gA, 0, none⟩), .pointer (some ⟨gY, 0, none⟩)] w (DrawR w gA c m) := by
  obtain ⟨u0, p0, f0⟩ := hd.sa.get 0 (by omega)
  have hca := hd.ca
  obtain ⟨j, hj⟩ : ∃ j : Nat, (c + 1) % yn = j := ⟨_, rfl⟩
  have hjn : j < yn := by rw [← hj]; exact Nat.mod_lt _ (by omega)
  obtain ⟨v, hv, v0, v1⟩ := hd.el j hjn
  have hx0 : (w.setCell ⟨gA, 0, none⟩ (.int .i64 ((c : Int) + 1))).cell? ⟨gA, 0, none⟩ = some (.int .i64 ((c : Int) + 1)) := World.cell?_setCell_same _ _ _ hca
  have hx1 : (w.setCell ⟨gA, 0, none⟩ (.int .i64 ((c : Int) + 1))).cell? ⟨gY, 0, none⟩ = some (.slice (some ⟨yb, yo, none⟩) yn yc) := by
    rw [World.cell?_setCell_other _ _ _ _ (by intro he; injection he; omega)]; exact hd.cy
  have hx2 : (w.setCell ⟨gA, 0, none⟩ (.int .i64 ((c : Int) + 1))).cell? ⟨yb, yo + j, none⟩ = some (.int .u16 v) := by
    rw [World.cell?_setCell_other _ _ _ _ (by intro he; injection he; omega)]; exact hv
  have e1 : Int.tmod ((c : Int) + 1) (yn : Int) = (j : Int) := by
    have e : (c : Int) + 1 = ((c + 1 : Nat) : Int) := by omega
    rw [e, ← Int.ofNat_tmod, hj]
  have e2 : IntKind.i64.wrap (23 * ((c : Int) + 1)) = 23 * ((c : Int) + 1) := IntWalk.i64_in _ (by omega)
  have e3 : IntKind.i64.wrap v = v := IntWalk.i64_in _ (by omega)
  have e4 : IntKind.i64.wrap (v + 23 * ((c : Int) + 1)) = v + 23 * ((c : Int) + 1) := IntWalk.i64_in _ (by omega)
  have hnn : 0 ≤ v + 23 * ((c : Int) + 1) := by omega
  have e5 : Int.tmod (v + 23 * ((c : Int) + 1)) m = (v + 23 * ((c : Int) + 1)) % m := Int.tmod_eq_emod_of_nonneg hnn
  have hd0 : 0 ≤ (v + 23 * ((c : Int) + 1)) % m := Int.emod_nonneg _ (by omega)
  have hd1 : (v + 23 * ((c : Int) + 1)) % m < m := Int.emod_lt_of_pos _ (by omega)
  have hyn0 : ¬ (yn : Int) = 0 := by omega
  have hm0 : ¬ m = 0 := by omega
  have hyn1 : ¬ yn = 0 := by omega
  have hj0 : (0 : Int) ≤ (j : Int) := by omega
  have hjI : (j : Int) < (yn : Int) := by omega
  have hc1 : ((c : Int) + 1) ≤ 1001 := by omega
  have E := Lib.hid (And.intro e1 (And.intro e2 (And.intro e3 (And.intro e4 e5))))
  clear hd hj e1 e2 e3 e4 e5 p0 hv
  go_enter Try.func86, Try.ntmps86
  go_upto_region 2 with fail
  refine wp_region_seq [(0, true), (1, true), (2, true), (3, true), (4, true), (5, true), (6, true), (7, true), (8, true), (9, true), (10, true), (11, true), (12, true), (13, true)] (fun w' => w'.cell? ⟨gA, 0, none⟩ = some (.int .i64 ((c : Int) + 1)) ∧ w'.cell? ⟨gY, 0, none⟩ = some (.slice (some ⟨yb, yo, none⟩) yn yc) ∧ w'.cell? ⟨yb, yo + j, none⟩ = some (.int .u16 v)) (by kernel_rfl) (by kernel_rfl) (fun _ _ d _ _ h => by cases d <;> exact h) ⟨hx0, hx1, hx2⟩ ?_
  obtain ⟨e1, e2, e3, e4, e5⟩ := E.out
  repeat (first | (refine seq_read rfl (by rfl) _ (fun w' hS => by (try dsimp only at hS); go_simp; (try with_reducible rfl)) ?_; (try simp only [Act.put, List.setIfInBounds_toArray, List.set_cons_zero, List.set_cons_succ])) | (refine seq_skip rfl (by rfl) ?_; (try simp only [Act.put, List.setIfInBounds_toArray, List.set_cons_zero, List.set_cons_succ])))
  refine seq_end ?_
  generalize (v + 23 * ((c : Int) + 1)) % m = d at *
  show Exit.then _ _ Exit.normal _ _
  go_wp2
  go_ret
  exact ⟨d, ⟨rfl, rfl⟩, hd0, hd1⟩

def DrawsR (w : World) (yb yo yn yc : Nat) (e : Ending) (w' : World) : Prop :=
  ∃ gA gY : Nat, e = .returned (.func (.func 86) #[] #[.pointer (some ⟨gA, 0, none⟩), .pointer (some ⟨gY, 0, none⟩)]) ∧ Below w.heap.size w w' ∧ DS w' gA gY 0 yb yo yn yc ∧
    (w.heap.size ≤ gA ∧ gA < w'.heap.size) ∧ (w.heap.size ≤ gY ∧ gY < w'.heap.size) ∧ gA ≠ gY
set_option maxRecDepth 100000 in
theorem draws_any (yb yo yn yc : Nat) (w : World) (hb : yb < w.heap.size) (hel : ∀ k, k < yn → ∃ v : Int, w.cell? ⟨yb, yo + k, none⟩ = some (.int .u16 v) ∧ 0 ≤ v ∧ v ≤ 65535) :
    Calls Try.prog 36 #[.slice (some ⟨yb, yo, none⟩) yn yc] w (DrawsR w yb yo yn yc) := by
  have hmf : ∀ (fn : Fn) (first cap : Array Value) (w : World), (Instr.makeFunc fn first cap).run Try.prog w = .ok (.func fn first cap) w := fun _ _ _ _ => rfl
  have hB : Below w.heap.size w ((w.alloc (.cells #[.slice (some ⟨yb, yo, none⟩) yn yc] 47)).alloc (.cells #[.int .i64 0] 3)) := by (repeat (first | assumption | exact Below.refl _ _ | refine BA ?_ _ | refine BC ?_ _ _ (by omega) _ | refine Below.drew ?_ | refine BT ?_ (by assumption)))
  have hD : Hid (DS ((w.alloc (.cells #[.slice (some ⟨yb, yo, none⟩) yn yc] 47)).alloc (.cells #[.int .i64 0] 3)) (w.heap.size + 1) w.heap.size 0 yb yo yn yc) := by
    refine ⟨by simp [go_sem], ?_, by simp [go_sem], fun k hk => ?_⟩
    · intro o ho
      obtain rfl : o = 0 := by omega
      simp [go_sem]
    · obtain ⟨v, hv, h1⟩ := hel k hk
      exact ⟨v, (hB.cell (p := ⟨yb, yo + k, none⟩) hb).trans hv, h1⟩
  go_enter Try.func36, Try.ntmps36
  go_wp2
  go_ret
  exact ⟨w.heap.size + 1, w.heap.size, rfl, hB, hD.out, ⟨by omega, by simp⟩, ⟨by omega, by simp; omega⟩, by omega⟩

structure MF where
  gA : Nat
  gY : Nat
  B : Nat
  M : Nat
  yb : Nat
  yo : Nat
  yn : Nat
  yc : Nat
  wb : World
structure MFok (f : MF) : Prop where
  a1 : f.wb.heap.size ≤ f.gA
  a2 : f.gA < f.M
  y1 : f.wb.heap.size ≤ f.gY
  y2 : f.gY < f.M
  b1 : f.wb.heap.size ≤ f.B
  b2 : f.B < f.M
  yl : f.yb < f.wb.heap.size
  n1 : f.gA ≠ f.gY
  n2 : f.gA ≠ f.B
  n3 : f.gY ≠ f.B
  p1 : 1 ≤ f.yn
  p2 : f.yn ≤ 9223372036854775807
/-- What stands in memory while a measure is made. -/
structure MC (f : MF) (X : World) (c : Nat) (ve vs : Value) (e1 e2 im s1 s2 : Int) : Prop where
  ds : DS X f.gA f.gY c f.yb f.yo f.yn f.yc
  c0 : X.cell? ⟨f.B, 0, none⟩ = some ve
  c1 : X.cell? ⟨f.B, 1, none⟩ = some (.int .i64 e1)
  c2 : X.cell? ⟨f.B, 2, none⟩ = some (.int .i64 e2)
  c3 : X.cell? ⟨f.B, 3, none⟩ = some (.int .i64 im)
  c4 : X.cell? ⟨f.B, 4, none⟩ = some (.int .i64 s1)
  c5 : X.cell? ⟨f.B, 5, none⟩ = some (.int .i64 s2)
  c6 : X.cell? ⟨f.B, 6, none⟩ = some vs
  sl : Slots f.B 7 X
  bel : Below f.wb.heap.size f.wb X
  sz : f.M ≤ X.heap.size
structure MR (f : MF) (X : World) (ve vs vp : Value) (xs : List (Int × Int)) (ss : List Sett) (ps : List Int) : Prop where
  re : X.ownsRow f.M 24 2 ve xs.length (xs.flatMap spanV)
  rs : X.ownsRow f.M 44 3 vs ss.length (ss.flatMap settV)
  rp : X.ownsRow f.M 3 1 vp ps.length (ps.map fun p => .int .i64 p)
theorem grownBy_set (X : World) (g o : Nat) (v : Value) : X.grownBy (X.setCell ⟨g, o, none⟩ v) (some g) := by
  have hx := BX.set g o X v
  exact ⟨hx.os, hx.tape, hx.output, hx.size, fun k hk hn => hx.block k hk (by simpa using hn)⟩
theorem grown_below {X X' : World} (hb : Below X.heap.size X X') (row : Option Nat) : X.grownBy X' row := ⟨hb.os, hb.tape, hb.output, hb.size, fun i hi _ => hb.block i hi⟩
section
variable {f : MF} {X X' : World} {c : Nat} {ve vs vp : Value} {e1 e2 im s1 s2 : Int} {xs : List (Int × Int)} {ss : List Sett} {ps : List Int}
theorem slots_by {B n : Nat} {X X' : World} {row : Option Nat} (h : Slots B n X) (hg : X.grownBy X' row) (hn : some B ≠ row) : Slots B n X' := slots_grownBy h hg hn
theorem MC.by (ok : MFok f) (k : MC f X c ve vs e1 e2 im s1 s2) {row : Option Nat} (hg : X.grownBy X' row) (hr : ∀ b, row = some b → f.M ≤ b) : MC f X' c ve vs e1 e2 im s1 s2 := by
  have hne : ∀ b, b < f.M → some b ≠ row := fun b hb e => by have := hr b e.symm; omega
  have hA := hne _ ok.a2
  have hY := hne _ ok.y2
  have hB := hne _ ok.b2
  have hyb := hne f.yb (by have := ok.yl; have := ok.a1; have := ok.a2; omega)
  have hw : f.wb.heap.size ≤ f.M := by have := ok.a1; have := ok.a2; omega
  refine ⟨⟨hg.cell k.ds.ca hA, slots_by k.ds.sa hg hA, hg.cell k.ds.cy hY, fun j hj => ?_⟩, hg.cell k.c0 hB, hg.cell k.c1 hB, hg.cell k.c2 hB, hg.cell k.c3 hB, hg.cell k.c4 hB, hg.cell k.c5 hB, hg.cell k.c6 hB, slots_by k.sl hg hB, ?_, Nat.le_trans k.sz hg.size⟩
  · obtain ⟨v, hv, h1⟩ := k.ds.el j hj
    exact ⟨v, hg.cell hv hyb, h1⟩
  · exact k.bel.grown hg (Nat.le_trans hw k.sz) (fun b hb => Nat.le_trans hw (hr b hb))
theorem MC.grown (ok : MFok f) (k : MC f X c ve vs e1 e2 im s1 s2) (hb : Below X.heap.size X X') : MC f X' c ve vs e1 e2 im s1 s2 := k.by ok (grown_below hb none) (fun b e => by cases e)
theorem MC.far (ok : MFok f) (k : MC f X c ve vs e1 e2 im s1 s2) {g : Nat} (hg : f.M ≤ g) (o : Nat) (v : Value) : MC f (X.setCell ⟨g, o, none⟩ v) c ve vs e1 e2 im s1 s2 :=
  k.by ok (grownBy_set X g o v) (fun b e => by injection e with e; omega)
theorem MR.by (k : MR f X ve vs vp xs ss ps) {row : Option Nat} (hg : X.grownBy X' row) (h1 : ve.ownBlock = none ∨ ve.ownBlock ≠ row) (h2 : vs.ownBlock = none ∨ vs.ownBlock ≠ row) (h3 : vp.ownBlock = none ∨ vp.ownBlock ≠ row) : MR f X' ve vs vp xs ss ps :=
  ⟨k.re.kept hg h1, k.rs.kept hg h2, k.rp.kept hg h3⟩
theorem MR.grown (k : MR f X ve vs vp xs ss ps) (hb : Below X.heap.size X X') : MR f X' ve vs vp xs ss ps :=
  k.by (grown_below hb none) (by cases ve.ownBlock <;> simp) (by cases vs.ownBlock <;> simp) (by cases vp.ownBlock <;> simp)
/-- A cell of a block that is no row. -/
theorem MR.set (k : MR f X ve vs vp xs ss ps) (g o : Nat) (v : Value) (h1 : ve.ownBlock ≠ some g) (h2 : vs.ownBlock ≠ some g) (h3 : vp.ownBlock ≠ some g) : MR f (X.setCell ⟨g, o, none⟩ v) ve vs vp xs ss ps :=
  k.by (grownBy_set X g o v) (.inr h1) (.inr h2) (.inr h3)
theorem MR.low (k : MR f X ve vs vp xs ss ps) (g o : Nat) (v : Value) (h : g < f.M) : MR f (X.setCell ⟨g, o, none⟩ v) ve vs vp xs ss ps :=
  k.set g o v (fun e => by have := (k.re.lt g e).1; omega) (fun e => by have := (k.rs.lt g e).1; omega) (fun e => by have := (k.rp.lt g e).1; omega)
theorem MC.draw (ok : MFok f) (k : MC f X c ve vs e1 e2 im s1 s2) : MC f (X.setCell ⟨f.gA, 0, none⟩ (.int .i64 ((c : Int) + 1))).drew (c + 1) ve vs e1 e2 im s1 s2 := by
  have n2 := ok.n2
  have n1 := ok.n1
  have h1 := ok.yl
  have h2 := ok.a1
  have ho : ∀ (b o : Nat) (u : Value), b ≠ f.gA → X.cell? ⟨b, o, none⟩ = some u → (X.setCell ⟨f.gA, 0, none⟩ (.int .i64 ((c : Int) + 1))).cell? ⟨b, o, none⟩ = some u := fun b o u hb hu => by
    rw [World.cell?_setCell_other _ _ _ _ (by intro he; injection he; omega)]; exact hu
  refine ⟨⟨?_, ((k.ds.sa).set _ _).drew, ho _ _ _ (Ne.symm n1) k.ds.cy, fun j hj => ?_⟩, ho _ _ _ (Ne.symm n2) k.c0, ho _ _ _ (Ne.symm n2) k.c1, ho _ _ _ (Ne.symm n2) k.c2, ho _ _ _ (Ne.symm n2) k.c3, ho _ _ _ (Ne.symm n2) k.c4, ho _ _ _ (Ne.symm n2) k.c5, ho _ _ _ (Ne.symm n2) k.c6, (k.sl.set _ _).drew, ?_, ?_⟩
  · have e : ((c + 1 : Nat) : Int) = (c : Int) + 1 := by omega
    rw [e]
    exact World.cell?_setCell_same _ _ _ k.ds.ca
  · obtain ⟨v, hv, h3⟩ := k.ds.el j hj
    exact ⟨v, ho _ _ _ (by omega) hv, h3⟩
  · exact Below.drew (BC k.bel f.gA 0 ok.a1 _)
  · have := k.sz; simpa using this
theorem MR.draw (ok : MFok f) (k : MR f X ve vs vp xs ss ps) (v : Value) : MR f (X.setCell ⟨f.gA, 0, none⟩ v).drew ve vs vp xs ss ps := (k.low f.gA 0 v ok.a2).grown (Below.drew (Below.refl _ _))
theorem MC.put (ok : MFok f) (k : MC f X c ve vs e1 e2 im s1 s2) (o : Nat) (v : Value) : DS (X.setCell ⟨f.B, o, none⟩ v) f.gA f.gY c f.yb f.yo f.yn f.yc ∧ Slots f.B 7 (X.setCell ⟨f.B, o, none⟩ v) ∧ Below f.wb.heap.size f.wb (X.setCell ⟨f.B, o, none⟩ v) ∧ f.M ≤ (X.setCell ⟨f.B, o, none⟩ v).heap.size := by
  have n2 := ok.n2
  have n3 := ok.n3
  have h1 := ok.yl
  have h2 := ok.b1
  have ho : ∀ (b q : Nat) (u : Value), b ≠ f.B → X.cell? ⟨b, q, none⟩ = some u → (X.setCell ⟨f.B, o, none⟩ v).cell? ⟨b, q, none⟩ = some u := fun b q u hb hu => by
    rw [World.cell?_setCell_other _ _ _ _ (by intro he; injection he; omega)]; exact hu
  refine ⟨⟨ho _ _ _ n2 k.ds.ca, k.ds.sa.set _ _, ho _ _ _ n3 k.ds.cy, fun j hj => ?_⟩, k.sl.set _ _, BC k.bel f.B o ok.b1 _, by have := k.sz; simpa using this⟩
  obtain ⟨u, hu, h3⟩ := k.ds.el j hj
  exact ⟨u, ho _ _ _ (by omega) hu, h3⟩
theorem cell_else {X : World} {B o o' : Nat} {u v : Value} (h : X.cell? ⟨B, o', none⟩ = some u) (hne : o' ≠ o) : (X.setCell ⟨B, o, none⟩ v).cell? ⟨B, o', none⟩ = some u := by
  rw [World.cell?_setCell_other _ _ _ _ (by intro he; injection he; omega)]; exact h
theorem MC.put0 (ok : MFok f) (k : MC f X c ve vs e1 e2 im s1 s2) (v : Value) : MC f (X.setCell ⟨f.B, 0, none⟩ v) c v vs e1 e2 im s1 s2 := by
  obtain ⟨h1, h2, h3, h4⟩ := k.put ok 0 v
  exact ⟨h1, World.cell?_setCell_same _ _ _ k.c0, cell_else k.c1 (by omega), cell_else k.c2 (by omega), cell_else k.c3 (by omega), cell_else k.c4 (by omega), cell_else k.c5 (by omega), cell_else k.c6 (by omega), h2, h3, h4⟩
theorem MC.put1 (ok : MFok f) (k : MC f X c ve vs e1 e2 im s1 s2) (v : Int) : MC f (X.setCell ⟨f.B, 1, none⟩ (.int .i64 v)) c ve vs v e2 im s1 s2 := by
  obtain ⟨h1, h2, h3, h4⟩ := k.put ok 1 (.int .i64 v)
  exact ⟨h1, cell_else k.c0 (by omega), World.cell?_setCell_same _ _ _ k.c1, cell_else k.c2 (by omega), cell_else k.c3 (by omega), cell_else k.c4 (by omega), cell_else k.c5 (by omega), cell_else k.c6 (by omega), h2, h3, h4⟩
theorem MC.put2 (ok : MFok f) (k : MC f X c ve vs e1 e2 im s1 s2) (v : Int) : MC f (X.setCell ⟨f.B, 2, none⟩ (.int .i64 v)) c ve vs e1 v im s1 s2 := by
  obtain ⟨h1, h2, h3, h4⟩ := k.put ok 2 (.int .i64 v)
  exact ⟨h1, cell_else k.c0 (by omega), cell_else k.c1 (by omega), World.cell?_setCell_same _ _ _ k.c2, cell_else k.c3 (by omega), cell_else k.c4 (by omega), cell_else k.c5 (by omega), cell_else k.c6 (by omega), h2, h3, h4⟩
theorem MC.put3 (ok : MFok f) (k : MC f X c ve vs e1 e2 im s1 s2) (v : Int) : MC f (X.setCell ⟨f.B, 3, none⟩ (.int .i64 v)) c ve vs e1 e2 v s1 s2 := by
  obtain ⟨h1, h2, h3, h4⟩ := k.put ok 3 (.int .i64 v)
  exact ⟨h1, cell_else k.c0 (by omega), cell_else k.c1 (by omega), cell_else k.c2 (by omega), World.cell?_setCell_same _ _ _ k.c3, cell_else k.c4 (by omega), cell_else k.c5 (by omega), cell_else k.c6 (by omega), h2, h3, h4⟩
theorem MC.put4 (ok : MFok f) (k : MC f X c ve vs e1 e2 im s1 s2) (v : Int) : MC f (X.setCell ⟨f.B, 4, none⟩ (.int .i64 v)) c ve vs e1 e2 im v s2 := by
  obtain ⟨h1, h2, h3, h4⟩ := k.put ok 4 (.int .i64 v)
  exact ⟨h1, cell_else k.c0 (by omega), cell_else k.c1 (by omega), cell_else k.c2 (by omega), cell_else k.c3 (by omega), World.cell?_setCell_same _ _ _ k.c4, cell_else k.c5 (by omega), cell_else k.c6 (by omega), h2, h3, h4⟩
theorem MC.put5 (ok : MFok f) (k : MC f X c ve vs e1 e2 im s1 s2) (v : Int) : MC f (X.setCell ⟨f.B, 5, none⟩ (.int .i64 v)) c ve vs e1 e2 im s1 v := by
  obtain ⟨h1, h2, h3, h4⟩ := k.put ok 5 (.int .i64 v)
  exact ⟨h1, cell_else k.c0 (by omega), cell_else k.c1 (by omega), cell_else k.c2 (by omega), cell_else k.c3 (by omega), cell_else k.c4 (by omega), World.cell?_setCell_same _ _ _ k.c5, cell_else k.c6 (by omega), h2, h3, h4⟩
theorem MC.put6 (ok : MFok f) (k : MC f X c ve vs e1 e2 im s1 s2) (v : Value) : MC f (X.setCell ⟨f.B, 6, none⟩ v) c ve v e1 e2 im s1 s2 := by
  obtain ⟨h1, h2, h3, h4⟩ := k.put ok 6 v
  exact ⟨h1, cell_else k.c0 (by omega), cell_else k.c1 (by omega), cell_else k.c2 (by omega), cell_else k.c3 (by omega), cell_else k.c4 (by omega), cell_else k.c5 (by omega), World.cell?_setCell_same _ _ _ k.c6, h2, h3, h4⟩
theorem own_apart {w : World} {b1 b2 n1 n2 t1 t2 z1 z2 : Nat} {v1 v2 : Value} {l1 l2 : List Value} (ht : t1 ≠ t2) (h1 : w.ownsRow b1 t1 z1 v1 n1 l1) (h2 : w.ownsRow b2 t2 z2 v2 n2 l2) : v1.ownBlock = none ∨ v1.ownBlock ≠ v2.ownBlock := by
  rcases h1.2 with ⟨r1, _⟩ | ⟨g1, c1, u1, r1, _, k1, _⟩
  · subst r1; exact .inl rfl
  · rcases h2.2 with ⟨r2, _⟩ | ⟨g2, c2, u2, r2, _, k2, _⟩
    · subst r1; subst r2; exact .inr (fun e => by cases e)
    · subst r1; subst r2
      refine .inr (fun e => ?_)
      have e : g1 = g2 := by simpa [Value.ownBlock] using e
      subst e
      rw [k1] at k2
      injection k2 with k2
      injection k2 with _ k3
      exact ht k3
/-- One more of a row, the field not yet set. -/
theorem MR.puse (k : MR f X ve vs vp xs ss ps) (hg : X.grownBy X' ve.ownBlock) {g cap : Nat} {s : Int × Int} (hr : X'.ownsRow f.M 24 2 (.slice (some ⟨g, 0, none⟩) (xs.length + 1) cap) (xs.length + 1) (xs.flatMap spanV ++ spanV s)) :
    MR f X' (.slice (some ⟨g, 0, none⟩) (xs.length + 1) cap) vs vp (xs ++ [s]) ss ps :=
  ⟨by simpa [List.flatMap_append] using hr, k.rs.kept hg (own_apart (by decide) k.rs k.re), k.rp.kept hg (own_apart (by decide) k.rp k.re)⟩
theorem MR.puss (k : MR f X ve vs vp xs ss ps) (hg : X.grownBy X' vs.ownBlock) {g cap : Nat} {s : Sett} (hr : X'.ownsRow f.M 44 3 (.slice (some ⟨g, 0, none⟩) (ss.length + 1) cap) (ss.length + 1) (ss.flatMap settV ++ settV s)) :
    MR f X' ve (.slice (some ⟨g, 0, none⟩) (ss.length + 1) cap) vp xs (ss ++ [s]) ps :=
  ⟨k.re.kept hg (own_apart (by decide) k.re k.rs), by simpa [List.flatMap_append] using hr, k.rp.kept hg (own_apart (by decide) k.rp k.rs)⟩
theorem MR.pusp (k : MR f X ve vs vp xs ss ps) (hg : X.grownBy X' vp.ownBlock) {g cap : Nat} {s : Int} (hr : X'.ownsRow f.M 3 1 (.slice (some ⟨g, 0, none⟩) (ps.length + 1) cap) (ps.length + 1) ((ps.map fun p => .int .i64 p) ++ [.int .i64 s])) :
    MR f X' ve vs (.slice (some ⟨g, 0, none⟩) (ps.length + 1) cap) xs ss (ps ++ [s]) :=
  ⟨k.re.kept hg (own_apart (by decide) k.re k.rp), k.rs.kept hg (own_apart (by decide) k.rs k.rp), by simpa using hr⟩
theorem MR.rows (k : MR f X ve vs vp xs ss ps) : (∀ b, ve.ownBlock = some b → f.M ≤ b ∧ b < X.heap.size) ∧ (∀ b, vs.ownBlock = some b → f.M ≤ b ∧ b < X.heap.size) ∧ (∀ b, vp.ownBlock = some b → f.M ≤ b ∧ b < X.heap.size) := ⟨k.re.lt, k.rs.lt, k.rp.lt⟩
end
theorem info3 : (Try.prog.info? 3).map (fun i => (i.zero, i.size, i.bytes)) = some (some (.int .i64 0), 1, 8) := by kernel_rfl
theorem info3p : ∃ i, Try.prog.info? 3 = some i ∧ i.zero = some (.int .i64 0) ∧ i.size = 1 ∧ i.bytes = 8 := by
  have h := info3
  cases hi : Try.prog.info? 3 with
  | none => rw [hi] at h; cases h
  | some i =>
    rw [hi] at h
    simp at h
    exact ⟨i, rfl, h.1, h.2.1, h.2.2⟩
end Go.Proofs.Ytmfbkgdlfackcaa

namespace Go.Proofs.Ytmfbkgdlfackcaa
open Fw Go.RowKit

def DrawM (f : MF) (X : World) (c : Nat) (m : Int) (ve vs : Value) (e1 e2 im s1 s2 : Int) (e : Ending) (w' : World) : Prop :=
  ∃ d : Int, e = .returned (.int .i64 d) ∧ (0 ≤ d ∧ d < m) ∧ MC f w' (c + 1) ve vs e1 e2 im s1 s2 ∧ BX f.gA X w'
section
variable {f : MF} {X X' : World} {c : Nat} {ve vs vp : Value} {e1 e2 im s1 s2 : Int} {xs : List (Int × Int)} {ss : List Sett} {ps : List Int}
theorem draw_mc (ok : MFok f) (k : MC f X c ve vs e1 e2 im s1 s2) (m : Int) (hc : c ≤ 1000) (hm : 1 ≤ m ∧ m ≤ 1000000) :
    Calls Try.prog 86 #[.int .i64 m, .pointer (some ⟨f.gA, 0, none⟩), .pointer (some ⟨f.gY, 0, none⟩)] X (DrawM f X c m ve vs e1 e2 im s1 s2) := by
  refine (draw_any f.gA f.gY c f.yb f.yo f.yn f.yc m X k.ds hc ok.p1 ok.p2 hm ok.n1 (by have := ok.yl; have := ok.a1; omega)).mono ?_
  rintro e w' ⟨d, ⟨rfl, rfl⟩, h0, h1⟩
  exact ⟨d, rfl, ⟨h0, h1⟩, k.draw ok, (BX.set f.gA 0 X _).trans (BX.drew _ _)⟩
theorem MR.bx (k : MR f X ve vs vp xs ss ps) {g : Nat} (hg : g < f.M) (hx : BX g X X') : MR f X' ve vs vp xs ss ps := by
  have hby : X.grownBy X' (some g) := ⟨hx.os, hx.tape, hx.output, hx.size, fun k hk hn => hx.block k hk (by simpa using hn)⟩
  exact k.by hby (.inr fun e => by have := (k.re.lt g e).1; omega) (.inr fun e => by have := (k.rs.lt g e).1; omega) (.inr fun e => by have := (k.rp.lt g e).1; omega)
end
def ErrOk (xs : List (Int × Int)) : Prop := ∀ e ∈ xs, -10 ≤ e.1 ∧ e.1 ≤ e.2 ∧ e.2 ≤ 20
def PlaOk (sum : Int) (ps : List Int) : Prop := ∀ p ∈ ps, sum / 2 - 400 ≤ p ∧ p ≤ sum / 2 + 400
def SetOk (xs : List (Int × Int)) (ps : List Int) (sum e1 e2 : Int) (s : Sett) : Prop :=
  (0 ≤ s.1 ∧ s.1 < ps.length) ∧ (0 ≤ s.2.1 ∧ s.2.1 / 1000 < xs.length) ∧ s.2.1 + (xs.getD (s.2.1 / 1000).toNat (0, 0)).1 + e1 ≤ turnP sum (ps.getD s.1.toNat 0) s.2.2 ∧ turnP sum (ps.getD s.1.toNat 0) s.2.2 ≤ s.2.1 + (xs.getD (s.2.1 / 1000).toNat (0, 0)).2 + e2
theorem err_at {xs : List (Int × Int)} (h : ErrOk xs) {q : Nat} (hq : q < xs.length) : -10 ≤ (xs.getD q (0, 0)).1 ∧ (xs.getD q (0, 0)).1 ≤ (xs.getD q (0, 0)).2 ∧ (xs.getD q (0, 0)).2 ≤ 20 :=
  h _ (by simp [List.getD, hq])
theorem pla_at {ps : List Int} {sum : Int} (h : PlaOk sum ps) {q : Nat} (hq : q < ps.length) : sum / 2 - 400 ≤ ps.getD q 0 ∧ ps.getD q 0 ≤ sum / 2 + 400 :=
  h _ (by simp [List.getD, hq])
theorem made_of {h : Hd} {xs : List (Int × Int)} {ss : List Sett} {sum : Int} {ps : List Int} (hx : ErrOk xs) (hn : 5 ≤ xs.length ∧ xs.length ≤ 14) (he : -5 ≤ h.eLo ∧ h.eLo ≤ 0 ∧ 0 ≤ h.eHi ∧ h.eHi ≤ 5) (hi : 1 ≤ h.images ∧ h.images ≤ 6)
    (hl : (ps.length : Int) = h.images) (hs : 0 ≤ h.sLo ∧ h.sLo ≤ sum ∧ sum ≤ h.sHi ∧ h.sHi ≤ 131072) (h12 : ss.length ≤ 12) (hS : ∀ s ∈ ss, SetOk xs ps sum h.eLo h.eHi s) : MadeR h xs ss sum ps := by
  have hev : evB (-100) 100 xs = true := by
    unfold evB
    rw [List.all_eq_true]
    intro e hm
    have := hx e hm
    simp [holdB]; omega
  have hv : validH h xs ss = true := valid_iff.2 ⟨by omega, hev, by omega, hi, by omega, h12, fun s hs => by
    have := hS s hs
    exact ⟨⟨this.1.1, by have := this.1.2; omega⟩, this.2.1⟩⟩
  refine ⟨hv, ⟨?_, fun t ht => ?_⟩, hl⟩
  · simp [truX]; omega
  · obtain ⟨s, hm, rfl⟩ := List.mem_map.1 ht
    obtain ⟨⟨g1, g2⟩, ⟨g3, g4⟩, g5, g6⟩ := hS s hm
    have hb := err_at hx (show (s.2.1 / 1000).toNat < xs.length by omega)
    have t1 := trav_eq (r := s.2.1) (lo := (xs.getD (s.2.1 / 1000).toNat (0, 0)).1) (e := h.eLo) (by omega) (by omega) (by omega)
    have t2 := trav_eq (r := s.2.1) (lo := (xs.getD (s.2.1 / 1000).toNat (0, 0)).2) (e := h.eHi) (by omega) (by omega) (by omega)
    have e1 : truX sum ps 1 = sum := by simp [truX]
    have e0 : truX sum ps 0 = 0 := by simp [truX]
    unfold Keeps tellOf
    dsimp only
    rw [t1, t2, truX_at, e1, e0]
    unfold turnP at g5 g6
    cases hs2 : s.2.2 <;> rw [hs2] at g5 g6 <;> simp at g5 g6 ⊢ <;> omega
def Ints (X : World) (a : Option Addr) (ps : List Int) : Prop := ∃ g, a = some ⟨g, 0, none⟩ ∧ g < X.heap.size ∧ ∀ k, k < ps.length → X.cell? ⟨g, k, none⟩ = some (.int .i64 (ps.getD k 0))
theorem Ints.below {X X' : World} {a : Option Addr} {ps : List Int} (k : Ints X a ps) (hb : Below X.heap.size X X') : Ints X' a ps := by
  obtain ⟨g, h1, h2, h3⟩ := k
  exact ⟨g, h1, Nat.lt_of_lt_of_le h2 hb.size, fun j hj => cellB (h3 j hj) hb⟩
theorem ints_row {X : World} {base g n cap : Nat} {ps : List Int} (h : X.ownsRow base 3 1 (.slice (some ⟨g, 0, none⟩) n cap) n (ps.map fun p => .int .i64 p)) (hn : ps.length = n) : ∀ k, k < ps.length → X.cell? ⟨g, k, none⟩ = some (.int .i64 (ps.getD k 0)) := fun k hk => by
  rw [h.cellAt _ (by omega)]
  simp [List.getD, hk]
theorem spans_at {X : World} {base g n cap : Nat} {xs : List (Int × Int)} (h : X.ownsRow base 24 2 (.slice (some ⟨g, 0, none⟩) n cap) n (xs.flatMap spanV)) (hn : xs.length = n) {k : Nat} (hk : k < xs.length) :
    X.cell? ⟨g, k * 2, none⟩ = some (.int .i64 (xs.getD k (0, 0)).1) ∧ X.cell? ⟨g, k * 2 + 1, none⟩ = some (.int .i64 (xs.getD k (0, 0)).2) := by
  obtain ⟨f0, f1⟩ := flat_span xs k hk
  exact ⟨by rw [h.cellAt _ (by omega), f0], by rw [h.cellAt _ (by omega), f1]⟩
end Go.Proofs.Ytmfbkgdlfackcaa

namespace Go.Proofs.Ytmfbkgdlfackcaa
open Fw Go.RowKit

structure MadeO (wb : World) (e : Ending) (w' : World) : Prop where
  out : ∃ (h : Hd) (xs : List (Int × Int)) (ss : List Sett) (sum : Int) (ps : List Int) (pa : Option Addr) (pc : Nat),
    e = .returned (.tuple #[h.val, .int .i64 sum, .slice pa ps.length pc]) ∧ Below wb.heap.size wb w' ∧ HasM w' h xs ss ∧ Ints w' pa ps ∧ MadeR h xs ss sum ps ∧ (0 ≤ sum ∧ sum ≤ 100000) ∧ PlaOk sum ps ∧ ss.length ≤ 12 ∧ xs.length ≤ 14
theorem three_nw (w : World) (a b : Int) (c : Bool) : Slots w.heap.size 3 (w.alloc (.cells #[.int .i64 a, .int .i64 b, .bool c] 44)) := by
  intro o ho
  have : o = 0 ∨ o = 1 ∨ o = 2 := by omega
  rcases this with rfl | rfl | rfl <;> simp [go_sem]
theorem set_new {xs : List (Int × Int)} {ps : List Int} {sum e1 e2 z eye nn lo hi d rd : Int} {i q : Nat} {r : Bool} (hi0 : i < ps.length) (hz : turnP sum (ps.getD i 0) r = z) (he : xs.getD q (0, 0) = (lo, hi)) (hq : q < xs.length)
    (hey : e1 ≤ eye ∧ eye ≤ e2) (hn : z - eye = nn) (hd : 0 ≤ d ∧ d ≤ hi - lo) (hrd : nn - lo - d = rd) (hr0 : 0 ≤ rd) (hrq : rd / 1000 = (q : Int)) : SetOk xs ps sum e1 e2 ((i : Int), rd, r) := by
  unfold SetOk
  dsimp only
  rw [hrq]
  have e1' : ((q : Int)).toNat = q := by omega
  have e2' : ((i : Int)).toNat = i := by omega
  rw [e1', e2', he, hz]
  dsimp only
  omega
theorem turn_rng {sum p : Int} {r : Bool} (hs : 5000 ≤ sum ∧ sum ≤ 21000) (hp : sum / 2 - 400 ≤ p ∧ p ≤ sum / 2 + 400) : 0 ≤ turnP sum p r ∧ turnP sum p r ≤ 21000 := by
  unfold turnP
  cases r <;> simp <;> omega

set_option maxRecDepth 100000 in
set_option maxHeartbeats 16000000 in
theorem made_any (gA gY yb yo yn yc : Nat) (wb w : World) (hwb : Below wb.heap.size wb w) (hd : DS w gA gY 0 yb yo yn yc) (hA : wb.heap.size ≤ gA) (hY : wb.heap.size ≤ gY) (hne : gA ≠ gY) (hyb : yb < wb.heap.size) (hp : 1 ≤ yn) (hp2 : yn ≤ 9223372036854775807) :
    Calls Try.prog 35 #[.func (.func 86) #[] #[.pointer (some ⟨gA, 0, none⟩), .pointer (some ⟨gY, 0, none⟩)]] w (MadeO wb) := by
  obtain ⟨f, hf⟩ : ∃ f : MF, f = ⟨gA, gY, w.heap.size, w.heap.size + 1, yb, yo, yn, yc, wb⟩ := ⟨_, rfl⟩
  have lA : gA < w.heap.size := World.block_lt_of_cell? _ _ hd.ca
  have lY : gY < w.heap.size := World.block_lt_of_cell? _ _ hd.cy
  have ok : MFok f := by
    subst hf
    exact ⟨hA, by show gA < w.heap.size + 1; omega, hY, by show gY < w.heap.size + 1; omega, hwb.size, by show w.heap.size < w.heap.size + 1; omega, hyb, hne, by show gA ≠ w.heap.size; omega, by show gY ≠ w.heap.size; omega, hp, hp2⟩
  have hW := newB w (.cells #[.slice none 0 0, .int .i64 0, .int .i64 0, .int .i64 0, .int .i64 0, .int .i64 0, .slice none 0 0] 29)
  have hk0 : MC f (w.alloc (.cells #[.slice none 0 0, .int .i64 0, .int .i64 0, .int .i64 0, .int .i64 0, .int .i64 0, .slice none 0 0] 29)) 0 (.slice none 0 0) (.slice none 0 0) 0 0 0 0 0 := by
    subst hf
    refine ⟨⟨cellB hd.ca hW, hd.sa.below hW lA, cellB hd.cy hW, fun j hj => ?_⟩, by simp [go_sem], by simp [go_sem], by simp [go_sem], by simp [go_sem], by simp [go_sem], by simp [go_sem], by simp [go_sem], slots_new7 w 29, BT hwb hW, by show w.heap.size + 1 ≤ _; simp⟩
    obtain ⟨v, hv, h1⟩ := hd.el j hj
    exact ⟨v, cellB hv hW, h1⟩
  have hr0 : MR f (w.alloc (.cells #[.slice none 0 0, .int .i64 0, .int .i64 0, .int .i64 0, .int .i64 0, .int .i64 0, .slice none 0 0] 29)) (.slice none 0 0) (.slice none 0 0) (.slice none 0 0) [] [] [] := ⟨World.ownsRow_nil _ _ _ _, World.ownsRow_nil _ _ _ _, World.ownsRow_nil _ _ _ _⟩
  have eA : f.gA = gA := by rw [hf]
  have eY : f.gY = gY := by rw [hf]
  have eB : f.B = w.heap.size := by rw [hf]
  have eW : f.wb = wb := by rw [hf]
  clear hd hW hwb hA hY hne hyb hp hp2 lA lY
  rw [← eA, ← eY, ← eW]
  clear hf eA eY eW
  go_enter Try.func35, Try.ntmps35
  go_wp2_with fail
  rw [← eB] at *
  clear eB
  generalize w.alloc (.cells #[.slice none 0 0, .int .i64 0, .int .i64 0, .int .i64 0, .int .i64 0, .int .i64 0, .slice none 0 0] 29) = w0 at hk0 hr0 ⊢
  refine (draw_mc ok hk0 10 (by omega) (by omega)).mono ?_
  rintro e w1 ⟨d, rfl, ⟨hd0, hd1⟩, hk1, hx1⟩
  have hr1 := hr0.bx ok.a2 hx1
  clear hk0 hr0 hx1
  obtain ⟨n, rfl⟩ : ∃ n : Nat, d = (n : Int) := ⟨d.toNat, by omega⟩
  obtain ⟨i24, j24, z24, s24, b24⟩ := info24p
  obtain ⟨i44, j44, z44, s44, b44⟩ := info44p
  obtain ⟨i3, j3, z3, s3, b3⟩ := info3p
  have I24 := Lib.hid (And.intro j24 (And.intro z24 (And.intro s24 b24)))
  have I44 := Lib.hid (And.intro j44 (And.intro z44 (And.intro s44 b44)))
  have I3 := Lib.hid (And.intro j3 (And.intro z3 (And.intro s3 b3)))
  clear j24 z24 s24 b24 j44 z44 s44 b44 j3 z3 s3 b3
  go_upto_region 2 with fail
  obtain ⟨n5, hn5⟩ : ∃ n5 : Int, 5 + (n : Int) = n5 := ⟨_, rfl⟩
  rw [hn5]
  have HN5 := Lib.hid hn5
  have hn5a : 5 ≤ n5 ∧ n5 ≤ 14 := by omega
  clear hn5
  go_loopw [15] (fun i wr => ∃ (k c : Nat) (ve : Value) (xs : List (Int × Int)), (k : Int) ≤ n5 ∧ i = .int .i64 k ∧ xs.length = k ∧ c ≤ 1 + 2 * k ∧ Hid (MC f wr c ve (.slice none 0 0) 0 0 0 0 0) ∧ Hid (MR f wr ve (.slice none 0 0) (.slice none 0 0) xs [] []) ∧ ErrOk xs) (fun i _ => n5.toNat - (intOf i).toNat)
  case atStart => exact ⟨0, 1, _, [], by omega, rfl, rfl, by omega, hk1, hr1, fun e he => by cases he⟩
  case round =>
    clear hk1 hr1
    obtain ⟨k, c, ve, xs, hk, rfl, hxl, hc, hkc, hkr, hE⟩ := hrel
    subst hxl
    have hk0 : (0 : Int) ≤ (xs.length : Int) := by omega
    by_cases hlt : (xs.length : Int) < n5
    · go_wp2_with fail
      refine (draw_mc ok hkc.out 20 (by omega) (by omega)).mono ?_
      rintro e w2 ⟨d, rfl, ⟨hd0, hd1⟩, hk2, hx2⟩
      have hr2 := hkr.out.bx ok.a2 hx2
      clear hkc hkr hx2
      go_upto_region 4 with fail
      obtain ⟨lo, hlo⟩ : ∃ lo : Int, d - 10 = lo := ⟨_, rfl⟩
      rw [hlo]
      have hlo0 : -10 ≤ lo ∧ lo ≤ 9 := by omega
      clear hlo hd0 hd1
      have hk3 := hk2.grown ok (Below.drew (Below.refl _ _))
      have hr3 := hr2.grown (Below.drew (Below.refl _ _))
      clear hk2 hr2
      refine wp_region_seq [(0, true), (1, true), (2, true), (3, true), (4, true), (5, true), (6, false), (7, true), (8, false), (9, false), (10, false), (11, true), (12, true), (13, false)] (fun w' => w'.cell? ⟨f.B, 0, none⟩ = some ve) (by kernel_rfl) (by kernel_rfl) (fun _ _ d _ _ h => by cases d <;> exact h) hk3.c0 ?_
      generalize w2.drew = X0 at hk3 hr3 ⊢
      repeat (first | (refine seq_read rfl (by rfl) _ (fun w' hS => by (try dsimp only at hS); go_simp; (try with_reducible rfl)) ?_; (try simp only [Act.put, List.setIfInBounds_toArray, List.set_cons_zero, List.set_cons_succ])) | (refine seq_skip rfl (by rfl) ?_; (try simp only [Act.put, List.setIfInBounds_toArray, List.set_cons_zero, List.set_cons_succ])))
      refine seq_do rfl (by rfl) (fun K hK => ?_)
      go_simp
      refine (draw_mc ok hk3 8 (by omega) (by omega)).mono ?_
      rintro e X1 ⟨d, rfl, ⟨hd0, hd1⟩, hk4, hx4⟩
      have hr4 := hr3.bx ok.a2 hx4
      clear hk3 hr3 hx4
      refine hK _ _ hk4.c0 ?_
      clear hK K
      (try simp only [Act.put, List.setIfInBounds_toArray, List.set_cons_zero, List.set_cons_succ])
      have ehi : IntKind.i64.wrap (lo + d) = lo + d := IntWalk.i64_in _ (by omega)
      repeat (first | (refine seq_read rfl (by rfl) _ (fun w' hS => by (try dsimp only at hS); go_simp; (try with_reducible rfl)) ?_; (try simp only [Act.put, List.setIfInBounds_toArray, List.set_cons_zero, List.set_cons_succ])) | (refine seq_skip rfl (by rfl) ?_; (try simp only [Act.put, List.setIfInBounds_toArray, List.set_cons_zero, List.set_cons_succ])))
      obtain ⟨hi, hhi⟩ : ∃ hi : Int, lo + d = hi := ⟨_, rfl⟩
      have hhi0 : lo ≤ hi ∧ hi ≤ 20 := by omega
      clear ehi
      rw [hhi]
      clear hhi hd0 hd1
      refine seq_do rfl (by rfl) (fun K hK => ?_)
      go_simp
      refine (spanL_any _ _ _).mono ?_
      rintro e X2 ⟨rfl, hx2⟩
      have hk5 := hk4.grown ok hx2
      have hr5 := hr4.grown hx2
      clear hk4 hr4 hx2
      refine hK _ _ hk5.c0 ?_
      clear hK K
      (try simp only [Act.put, List.setIfInBounds_toArray, List.set_cons_zero, List.set_cons_succ])
      refine seq_do rfl (by rfl) (fun K hK => ?_)
      have hk6 := hk5.grown ok (newB X2 (.cells #[.int .i64 lo, .int .i64 hi] 24))
      have hr6 := hr5.grown (newB X2 (.cells #[.int .i64 lo, .int .i64 hi] 24))
      have hnw : ∀ j u, (spanV (lo, hi))[j]? = some u → (X2.alloc (.cells #[.int .i64 lo, .int .i64 hi] 24)).cell? ((⟨X2.heap.size, 0, none⟩ : Addr).add j) = some u := World.news_of_block (heap_alloc_new X2 _)
      clear hk5 hr5
      go_simp
      generalize X2.heap.size = gs at hnw ⊢
      generalize X2.alloc (.cells #[.int .i64 lo, .int .i64 hi] 24) = X3 at hk6 hr6 hnw ⊢
      refine hK _ _ hk6.c0 ?_
      clear hK K
      (try simp only [Act.put, List.setIfInBounds_toArray, List.set_cons_zero, List.set_cons_succ])
      refine seq_do rfl (by rfl) (fun K hK => ?_)
      obtain ⟨j24, z24, s24, b24⟩ := I24.out
      refine wp_append_lies X3 (.tmp 22) (.tmp 29) 22 rfl f.M 24 i24 (.agg #[.int .i64 0, .int .i64 0]) 2 16 Try.underlying22 j24 z24 s24 b24 rfl (by decide) ve xs.length (xs.flatMap spanV) (by rfl) hr6.re ⟨gs, 0, none⟩ 1 1 (spanV (lo, hi)) (by rfl) rfl hnw (by intro u hu; simp [spanV] at hu; rcases hu with rfl | rfl <;> rfl) (by omega) (by unfold maxLen; omega) (by omega) hk6.sz _ rfl ?_
      intro g cap X4 hrow hgr _ _
      have hk7 := hk6.by ok hgr (fun b hb => (hr6.re.lt b hb).1)
      have hr7 := hr6.puse hgr hrow
      clear hk6 hr6 hnw hrow hgr j24 z24 s24 b24
      refine hK _ _ hk7.c0 ?_
      clear hK K
      (try simp only [Act.put, List.setIfInBounds_toArray, List.set_cons_zero, List.set_cons_succ])
      repeat (first | (refine seq_read rfl (by rfl) _ (fun w' hS => by (try dsimp only at hS); go_simp; (try with_reducible rfl)) ?_; (try simp only [Act.put, List.setIfInBounds_toArray, List.set_cons_zero, List.set_cons_succ])) | (refine seq_skip rfl (by rfl) ?_; (try simp only [Act.put, List.setIfInBounds_toArray, List.set_cons_zero, List.set_cons_succ])))
      refine seq_last rfl (by rfl) (by kernel_rfl) (fun K hK => ?_)
      obtain ⟨u6, q6, f6⟩ := hk7.sl.get 0 (by omega)
      go_simp
      refine hK _ _ ?_
      clear hK K
      (try simp only [Act.put, List.setIfInBounds_toArray, List.set_cons_zero, List.set_cons_succ])
      have hk8 := Lib.hid (hk7.put0 ok (.slice (some ⟨g, 0, none⟩) (xs.length + 1) cap))
      have hr8 := Lib.hid (hr7.low f.B 0 (.slice (some ⟨g, 0, none⟩) (xs.length + 1) cap) ok.b2)
      clear hk7 hr7 q6 f6
      generalize X4.setCell ⟨f.B, 0, none⟩ (.slice (some ⟨g, 0, none⟩) (xs.length + 1) cap) = X5 at hk8 hr8 ⊢
      first | show Exit.inBlock _ _ Exit.normal _ _ | show Exit.then _ _ Exit.normal _ _
      go_wp2_with fail
      go_roundw
      case rel => exact ⟨xs.length + 1, _, _, _, by omega, by go_num, by simp, by omega, hk8, hr8, fun e he => by
        rcases List.mem_append.1 he with h1 | h1
        · exact hE e h1
        · rw [List.mem_singleton.1 h1]; exact ⟨hlo0.1, hhi0.1, hhi0.2⟩⟩
      case measure => simp [intOf]; omega
    · have hke : (xs.length : Int) = n5 := by omega
      have hc30 : c ≤ 30 := by omega
      have hxb : 5 ≤ xs.length ∧ xs.length ≤ 14 := by omega
      clear hk hk0 hlt HN5
      have hk1 := hkc.out
      have hr1 := hkr.out
      obtain ⟨ge, ce, rfl, _, _⟩ := hr1.re.form (by omega)
      clear hkc hkr hc
      go_wp2_with fail
      refine (draw_mc ok hk1 6 (by omega) (by omega)).mono ?_
      rintro e w2 ⟨a1, rfl, ⟨hqa10, hqa11⟩, hk2, hx⟩
      have hr2 := hr1.bx ok.a2 hx
      clear hk1 hr1 hx
      go_wp2_with fail
      refine (draw_mc ok hk2 6 (by omega) (by omega)).mono ?_
      rintro e w3 ⟨a2, rfl, ⟨hqa20, hqa21⟩, hk3, hx⟩
      have hr3 := hr2.bx ok.a2 hx
      clear hk2 hr2 hx
      go_wp2_with fail
      refine (spanL_any _ _ _).mono ?_
      rintro e w4 ⟨rfl, hx4⟩
      have hk4 := hk3.grown ok hx4
      have hr4 := hr3.grown hx4
      obtain ⟨u1, p1, f1⟩ := hk4.sl.get 1 (by omega)
      obtain ⟨u2, p2, f2⟩ := hk4.sl.get 2 (by omega)
      have hk5 := (hk4.put1 ok (-a1)).put2 ok a2
      have hr5 := (hr4.low f.B 1 (.int .i64 (-a1)) ok.b2).low f.B 2 (.int .i64 a2) ok.b2
      clear hk3 hr3 hx4 hk4 hr4
      go_upto_region 7 with fail
      clear p1 f1 p2 f2
      generalize (w4.setCell ⟨f.B, 1, none⟩ (.int .i64 (-a1))).setCell ⟨f.B, 2, none⟩ (.int .i64 a2) = w5 at hk5 hr5 ⊢
      obtain ⟨e1, he1⟩ : ∃ e1 : Int, -a1 = e1 := ⟨_, rfl⟩
      rw [he1] at hk5
      have he10 : -5 ≤ e1 ∧ e1 ≤ 0 := by omega
      have he20 : 0 ≤ a2 ∧ a2 ≤ 5 := by omega
      clear he1 hqa10 hqa11 hqa20 hqa21
      have c0 := hk5.c0
      go_upto_region 8 with fail
      clear c0
      obtain ⟨mo, hmo⟩ : ∃ mo : Int, n5 * 1000 = mo := ⟨_, rfl⟩
      rw [hmo]
      have HMO := Lib.hid hmo
      have hmo0 : 5000 ≤ mo ∧ mo ≤ 14000 := by omega
      clear hmo
      go_wp2_with fail
      refine (draw_mc ok hk5 6 (by omega) (by omega)).mono ?_
      rintro e w6 ⟨a3, rfl, ⟨hqa30, hqa31⟩, hk6, hx⟩
      have hr6 := hr5.bx ok.a2 hx
      clear hk5 hr5 hx
      go_wp2_with fail
      refine (draw_mc ok hk6 mo (by omega) (by omega)).mono ?_
      rintro e w7 ⟨a4, rfl, ⟨hqa40, hqa41⟩, hk7, hx⟩
      have hr7 := hr6.bx ok.a2 hx
      clear hk6 hr6 hx
      obtain ⟨u3, p3, f3⟩ := hk7.sl.get 3 (by omega)
      have hk8 := hk7.put3 ok (1 + a3)
      have hr8 := hr7.low f.B 3 (.int .i64 (1 + a3)) ok.b2
      clear hk7 hr7
      go_upto_region 9 with fail
      clear p3 f3
      generalize w7.setCell ⟨f.B, 3, none⟩ (.int .i64 (1 + a3)) = w8 at hk8 hr8 ⊢
      obtain ⟨im, him⟩ : ∃ im : Int, 1 + a3 = im := ⟨_, rfl⟩
      rw [him] at hk8
      have him0 : 1 ≤ im ∧ im ≤ 6 := by omega
      clear him hqa30 hqa31
      obtain ⟨sum, hsum⟩ : ∃ sum : Int, mo + a4 / 2 = sum := ⟨_, rfl⟩
      rw [hsum]
      have hsum0 : mo ≤ sum ∧ sum ≤ 21000 := by omega
      clear hsum hqa40 hqa41
      go_wp2_with fail
      refine (draw_mc ok hk8 60 (by omega) (by omega)).mono ?_
      rintro e w9 ⟨a5, rfl, ⟨hqa50, hqa51⟩, hk9, hx⟩
      have hr9 := hr8.bx ok.a2 hx
      clear hk8 hr8 hx
      go_wp2_with fail
      refine (draw_mc ok hk9 60 (by omega) (by omega)).mono ?_
      rintro e w10 ⟨a6, rfl, ⟨hqa60, hqa61⟩, hk10, hx⟩
      have hr10 := hr9.bx ok.a2 hx
      clear hk9 hr9 hx
      go_wp2_with fail
      refine (spanL_any _ _ _).mono ?_
      rintro e w11 ⟨rfl, hx4⟩
      have hk11 := hk10.grown ok hx4
      have hr11 := hr10.grown hx4
      obtain ⟨u1, p1, f1⟩ := hk11.sl.get 4 (by omega)
      obtain ⟨u2, p2, f2⟩ := hk11.sl.get 5 (by omega)
      have hk12 := (hk11.put4 ok (sum - a5)).put5 ok (sum + a6)
      have hr12 := (hr11.low f.B 4 (.int .i64 (sum - a5)) ok.b2).low f.B 5 (.int .i64 (sum + a6)) ok.b2
      clear hk10 hr10 hx4 hk11 hr11
      go_upto_region 10 with fail
      clear p1 f1 p2 f2
      generalize (w11.setCell ⟨f.B, 4, none⟩ (.int .i64 (sum - a5))).setCell ⟨f.B, 5, none⟩ (.int .i64 (sum + a6)) = w12 at hk12 hr12 ⊢
      obtain ⟨slo, hslo⟩ : ∃ slo : Int, sum - a5 = slo := ⟨_, rfl⟩
      obtain ⟨shi, hshi⟩ : ∃ shi : Int, sum + a6 = shi := ⟨_, rfl⟩
      rw [hslo, hshi] at hk12
      have hs0 : 0 ≤ slo ∧ slo ≤ sum ∧ sum ≤ shi ∧ shi ≤ 131072 := by omega
      clear hslo hshi hqa50 hqa51 hqa60 hqa61
      obtain ⟨cd, hcd, hk13⟩ : ∃ cd, cd ≤ 40 ∧ MC f w12 cd (.slice (some ⟨ge, 0, none⟩) xs.length ce) (.slice none 0 0) e1 a2 im slo shi := ⟨_, by omega, hk12⟩
      clear hk12 hc30
      have c3 := hk13.c3
      go_upto_region 11 with fail
      clear c3
      go_loopw [71, 4] (fun i v wr => ∃ (k c : Nat) (ps : List Int), (k : Int) ≤ im ∧ i = .int .i64 k ∧ ps.length = k ∧ c ≤ 40 + k ∧ Hid (MC f wr c (.slice (some ⟨ge, 0, none⟩) xs.length ce) (.slice none 0 0) e1 a2 im slo shi) ∧ Hid (MR f wr (.slice (some ⟨ge, 0, none⟩) xs.length ce) (.slice none 0 0) v xs [] ps) ∧ PlaOk sum ps) (fun i _ _ => im.toNat - (intOf i).toNat)
      case atStart => exact ⟨0, _, [], by omega, rfl, rfl, by omega, hk13, hr12, fun p hp => by cases hp⟩
      case round =>
        clear hk13 hr12
        obtain ⟨k, c, ps, hk, rfl, hpl, hc, hkc, hkr, hP⟩ := hrel
        subst hpl
        have hk0 : (0 : Int) ≤ (ps.length : Int) := by omega
        by_cases hlt : (ps.length : Int) < im
        · skip
          go_wp2_with fail
          refine (draw_mc ok hkc.out 800 (by omega) (by omega)).mono ?_
          rintro e w2 ⟨d, rfl, ⟨hqd0, hqd1⟩, hk2, hx⟩
          have hr2 := hkr.out.bx ok.a2 hx
          clear hkc hkr hx
          have hkn := hk2.grown ok (newB w2 (.cells #[.int .i64 (sum / 2 + d - 400)] 3))
          have hrn := hr2.grown (newB w2 (.cells #[.int .i64 (sum / 2 + d - 400)] 3))
          have hnw : ∀ j u, ([.int .i64 (sum / 2 + d - 400)] : List Value)[j]? = some u → (w2.alloc (.cells #[.int .i64 (sum / 2 + d - 400)] 3)).cell? ((⟨w2.heap.size, 0, none⟩ : Addr).add j) = some u := World.news_of_block (heap_alloc_new w2 _)
          have HKN := Lib.hid hkn
          have HRN := Lib.hid hrn
          have HNW := Lib.hid hnw
          have hP2 : PlaOk sum (ps ++ [sum / 2 + d - 400]) := fun p hp => by
            rcases List.mem_append.1 hp with h1 | h1
            · exact hP p h1
            · rw [List.mem_singleton.1 h1]; omega
          have HP2 := Lib.hid hP2
          clear hk2 hr2 hkn hrn hnw hP2
          obtain ⟨j3, z3, s3, b3⟩ := I3.out
          go_wp2_with (at_builtin; refine wpList_append_lies _ rfl _ _ 48 rfl f.M 3 i3 (.int .i64 0) 1 8 Try.underlying48 j3 z3 s3 b3 rfl (by decide) _ _ _ rfl HRN.out.rp ⟨w2.heap.size, 0, none⟩ 1 1 [.int .i64 (sum / 2 + d - 400)] rfl rfl HNW.out ?c2 (by decide) ?c3 ?c4 HKN.out.sz _ rfl ?_)
          case c2 => intro u hu; simp at hu; rcases hu with rfl; rfl
          case c3 => unfold maxLen; omega
          case c4 => omega
          · intro g cap w4 hrow hgr _ _
            have hk5 := Lib.hid (HKN.out.by ok hgr (fun b hb => (HRN.out.rp.lt b hb).1))
            have hr5 := Lib.hid (HRN.out.pusp hgr hrow)
            clear HKN HRN HNW hrow hgr
            go_wp2_with fail
            go_roundw
            case rel => exact ⟨ps.length + 1, _, _, by omega, by go_num, by simp, by omega, hk5, hr5, HP2.out⟩
            case measure => simp [intOf]; omega
        · have hpe : (ps.length : Int) = im := by omega
          have hc46 : c ≤ 46 := by omega
          obtain ⟨gp, cp, rfl, _, _⟩ := hkr.out.rp.form (by omega)
          have HPE := Lib.hid hpe
          have hpb : 1 ≤ ps.length ∧ ps.length ≤ 6 := by omega
          clear hpe hk hk0 hc
          go_wp2_with fail
          refine (draw_mc ok hkc.out 13 (by omega) (by omega)).mono ?_
          rintro e w13 ⟨dn, rfl, ⟨hqdn0, hqdn1⟩, hk14, hx⟩
          have hr14 := hkr.out.bx ok.a2 hx
          clear hkc hkr hx
          obtain ⟨nd, rfl⟩ : ∃ nd : Nat, dn = (nd : Int) := ⟨dn.toNat, by omega⟩
          have hnd : nd ≤ 12 := by omega
          clear hqdn0 hqdn1 hlt
          go_upto_region 15 with fail
          go_loopw [85] (fun i wr => ∃ (k c : Nat) (vs : Value) (ss : List Sett), k ≤ nd ∧ i = .int .i64 k ∧ ss.length ≤ k ∧ c ≤ 50 + 4 * k ∧ Hid (MC f wr c (.slice (some ⟨ge, 0, none⟩) xs.length ce) vs e1 a2 im slo shi) ∧ Hid (MR f wr (.slice (some ⟨ge, 0, none⟩) xs.length ce) vs (.slice (some ⟨gp, 0, none⟩) ps.length cp) xs ss ps) ∧ Hid (∀ s ∈ ss, SetOk xs ps sum e1 a2 s)) (fun i _ => nd - (intOf i).toNat)
          case atStart => exact ⟨0, _, _, [], by omega, rfl, by simp, by omega, hk14, hr14, fun s hs => by cases hs⟩
          case round =>
            clear hk14 hr14
            obtain ⟨k, c, vs, ss, hk, rfl, hsl, hc, hkc, hkr, hS⟩ := hrel
            have hk0 : (0 : Int) ≤ (k : Int) := by omega
            by_cases hlt : k < nd
            · have c3 := hkc.out.c3
              go_wp2_with fail
              refine (draw_mc ok hkc.out im (by omega) (by omega)).mono ?_
              rintro e w2 ⟨d1, rfl, ⟨hqd10, hqd11⟩, hk2, hx⟩
              have hr2 := hkr.out.bx ok.a2 hx
              clear hkc hkr hx
              obtain ⟨i, rfl⟩ : ∃ i : Nat, d1 = (i : Int) := ⟨d1.toNat, by omega⟩
              have hi0 : i < ps.length := by have := HPE.out; omega
              clear c3
              go_wp2_with fail
              refine (draw_mc ok hk2 2 (by omega) (by omega)).mono ?_
              rintro e w3 ⟨d2, rfl, ⟨hqd20, hqd21⟩, hk3, hx⟩
              have hr3 := hr2.bx ok.a2 hx
              clear hk2 hr2 hx
              go_upto_region 17 with fail
              obtain ⟨r, hr⟩ : ∃ r : Bool, (d2 == 0) = r := ⟨_, rfl⟩
              rw [hr]
              clear hr hqd20 hqd21 hqd10 hqd11
              have hkx := hk3.grown ok (newB w3 (.cells #[.int .i64 i, .int .i64 0, .bool r] 44))
              have hrx := hr3.grown (newB w3 (.cells #[.int .i64 i, .int .i64 0, .bool r] 44))
              have x7 := three_nw w3 i 0 r
              have x0 : (w3.alloc (.cells #[.int .i64 i, .int .i64 0, .bool r] 44)).cell? ⟨w3.heap.size, 0, none⟩ = some (.int .i64 i) := by simp [go_sem]
              have x1 : (w3.alloc (.cells #[.int .i64 i, .int .i64 0, .bool r] 44)).cell? ⟨w3.heap.size, 1, none⟩ = some (.int .i64 0) := by simp [go_sem]
              have x2 : (w3.alloc (.cells #[.int .i64 i, .int .i64 0, .bool r] 44)).cell? ⟨w3.heap.size, 2, none⟩ = some (.bool r) := by simp [go_sem]
              have m7 := hk3.sz
              obtain ⟨rw1, rw2, rw3⟩ := hr3.rows
              have q1 : Value.ownBlock (.slice (some ⟨ge, 0, none⟩) xs.length ce) ≠ some w3.heap.size := fun e => by have := (rw1 _ e).2; omega
              have q2 : vs.ownBlock ≠ some w3.heap.size := fun e => by have := (rw2 _ e).2; omega
              have q3 : Value.ownBlock (.slice (some ⟨gp, 0, none⟩) ps.length cp) ≠ some w3.heap.size := fun e => by have := (rw3 _ e).2; omega
              have l7 : w3.heap.size < (w3.alloc (.cells #[.int .i64 i, .int .i64 0, .bool r] 44)).heap.size := by simp
              clear rw1 rw2 rw3 hk3 hr3
              generalize w3.heap.size = g7 at x7 x0 x1 x2 m7 q1 q2 q3 l7 ⊢
              generalize w3.alloc (.cells #[.int .i64 i, .int .i64 0, .bool r] 44) = X0 at hkx hrx x7 x0 x1 x2 l7 ⊢
              have hp7 := ints_row hrx.rp rfl i hi0
              have hpr := pla_at hP hi0
              obtain ⟨p, hp⟩ : ∃ p : Int, ps.getD i 0 = p := ⟨_, rfl⟩
              have HPI := Lib.hid hp
              rw [hp] at hp7 hpr
              clear hp
              have hiI : (i : Int) < (ps.length : Int) := by omega
              have hi00 : (0 : Int) ≤ (i : Int) := by omega
              have hsm : 5000 ≤ sum ∧ sum ≤ 21000 := by omega
              go_upto_region 18 with fail
              clear hp7
              have HTR : Hid (∀ b : Bool, 0 ≤ turnP sum p b ∧ turnP sum p b ≤ 21000) := fun b => turn_rng hsm hpr
              cases r
              · obtain ⟨z, hz⟩ : ∃ z : Int, p = z := ⟨_, rfl⟩
                have htz : 0 ≤ z ∧ z ≤ 21000 := by rw [← hz]; exact HTR.out false
                have HZ : Hid (turnP sum (ps.getD i 0) false = z) := by show _ = _; rw [HPI.out, ← hz]; rfl
                clear HTR
                try rw [hz]
                clear hz HPI hpr
                go_upto_region 20 with fail
                have hkd := hkx.grown ok (Below.drew (Below.refl _ _))
                have hrd := hrx.grown (Below.drew (Below.refl _ _))
                have hxd := Below.drew (Below.refl X0.heap.size X0)
                have x7d := x7.below hxd l7
                have x0d := cellB x0 hxd
                have x1d := cellB x1 hxd
                have x2d := cellB x2 hxd
                have l7d : g7 < X0.drew.heap.size := l7
                clear hkx hrx hxd x7 x0 x1 x2 l7
                have k1 : IntKind.i64.wrap (a2 - e1) = a2 - e1 := IntWalk.i64_in _ (by omega)
                have k2 : IntKind.i64.wrap (a2 - e1 + 1) = a2 - e1 + 1 := IntWalk.i64_in _ (by omega)
                have hqs : 1 ≤ a2 - e1 + 1 ∧ a2 - e1 + 1 ≤ 1000000 := by omega
                refine wp_region_seq [(0, true), (1, true), (2, true), (3, true), (4, true), (5, true), (6, true), (7, true), (8, true), (9, true), (10, true), (11, true), (12, true), (13, true), (14, true), (15, false), (16, true), (17, true)] (fun w' => w'.cell? ⟨f.B, 1, none⟩ = some (.int .i64 e1) ∧ w'.cell? ⟨f.B, 2, none⟩ = some (.int .i64 a2)) (by kernel_rfl) (by kernel_rfl) (fun _ _ d _ _ h => by cases d <;> exact h) ⟨hkd.c1, hkd.c2⟩ ?_
                generalize X0.drew = X1 at hkd hrd x7d x0d x1d x2d l7d ⊢
                repeat (first | (refine seq_read rfl (by rfl) _ (fun w' hS => by (try dsimp only at hS); go_simp; (try with_reducible rfl)) ?_; (try simp only [Act.put, List.setIfInBounds_toArray, List.set_cons_zero, List.set_cons_succ])) | (refine seq_skip rfl (by rfl) ?_; (try simp only [Act.put, List.setIfInBounds_toArray, List.set_cons_zero, List.set_cons_succ])))
                clear k1 k2
                refine seq_do rfl (by rfl) (fun K hK => ?_)
                go_simp
                refine (draw_mc ok hkd (a2 - e1 + 1) (by omega) hqs).mono ?_
                rintro e X2 ⟨d, rfl, ⟨hd0, hd1⟩, hk4, hx⟩
                have hr4 := hrd.bx ok.a2 hx
                have n7 : g7 ≠ f.gA := by have := ok.a2; omega
                have x7 := hx.slots x7d l7d n7
                have x0 := (hx.cell g7 0 l7d n7).trans x0d
                have x1 := (hx.cell g7 1 l7d n7).trans x1d
                have x2 := (hx.cell g7 2 l7d n7).trans x2d
                have l7 : g7 < X2.heap.size := Nat.lt_of_lt_of_le l7d hx.size
                refine hK _ _ ⟨hk4.c1, hk4.c2⟩ ?_
                clear hK K hkd hrd hx x7d x0d x1d x2d l7d hqs
                (try simp only [Act.put, List.setIfInBounds_toArray, List.set_cons_zero, List.set_cons_succ])
                have k3 : IntKind.i64.wrap (e1 + d) = e1 + d := IntWalk.i64_in _ (by omega)
                repeat (first | (refine seq_read rfl (by rfl) _ (fun w' hS => by (try dsimp only at hS); go_simp; (try with_reducible rfl)) ?_; (try simp only [Act.put, List.setIfInBounds_toArray, List.set_cons_zero, List.set_cons_succ])) | (refine seq_skip rfl (by rfl) ?_; (try simp only [Act.put, List.setIfInBounds_toArray, List.set_cons_zero, List.set_cons_succ])))
                clear k3
                obtain ⟨ey, hey⟩ : ∃ ey : Int, e1 + d = ey := ⟨_, rfl⟩
                try rw [hey]
                have hey0 : e1 ≤ ey ∧ ey ≤ a2 := by omega
                clear hey hd0 hd1
                refine seq_end ?_
                first | show Exit.inBlock _ _ Exit.normal _ _ | show Exit.then _ _ Exit.normal _ _
                go_upto_region 22 with fail
                obtain ⟨nn, hnn⟩ : ∃ nn : Int, z - ey = nn := ⟨_, rfl⟩
                try rw [hnn]
                have HNN := Lib.hid hnn
                have hnn0 : -100 ≤ nn ∧ nn ≤ 30000 := by omega
                clear hnn
                by_cases h20 : nn < 20
                · skip
                  go_wp2_with fail
                  go_roundw
                  case rel => exact ⟨k + 1, _, vs, ss, by omega, by go_num, by omega, by omega, Lib.hid hk4, Lib.hid hr4, hS⟩
                  case measure => simp [intOf]; omega
                by_cases hmx : nn ≥ mo - 20
                · skip
                  go_wp2_with fail
                  go_roundw
                  case rel => exact ⟨k + 1, _, vs, ss, by omega, by go_num, by omega, by omega, Lib.hid hk4, Lib.hid hr4, hS⟩
                  case measure => simp [intOf]; omega
                obtain ⟨q, hq⟩ : ∃ q : Nat, nn / 1000 = (q : Int) := ⟨(nn / 1000).toNat, by omega⟩
                have hql : q < xs.length := by have := HMO.out; omega
                have hq0 : (0 : Int) ≤ (q : Int) := by omega
                have hqI : (q : Int) < n5 := by omega
                obtain ⟨d0, d1⟩ := spans_at hr4.re rfl hql
                have heb := err_at hE hql
                generalize hxe : xs.getD q (0, 0) = el at d0 d1 heb
                obtain ⟨lo, hi⟩ := el
                dsimp only at d0 d1 heb
                have HXE := Lib.hid hxe
                clear hxe
                have c0 := hk4.c0
                go_upto_region 24 with fail
                clear c0 d0 d1 hnn0
                have hZ := newB X2 (.cells #[.int .i64 lo, .int .i64 hi] 24)
                have hkn := (hk4.grown ok hZ).grown ok (Below.drew (Below.refl _ _))
                have hrn := (hr4.grown hZ).grown (Below.drew (Below.refl _ _))
                have hZd : Below X2.heap.size X2 (X2.alloc (.cells #[.int .i64 lo, .int .i64 hi] 24)).drew := Below.drew hZ
                have y7 := x7.below hZd l7
                have y0 := cellB x0 hZd
                have y1 := cellB x1 hZd
                have y2 := cellB x2 hZd
                have w0e : (X2.alloc (.cells #[.int .i64 lo, .int .i64 hi] 24)).drew.cell? ⟨X2.heap.size, 0, none⟩ = some (.int .i64 lo) := by simp [go_sem]
                have w1e : (X2.alloc (.cells #[.int .i64 lo, .int .i64 hi] 24)).drew.cell? ⟨X2.heap.size, 1, none⟩ = some (.int .i64 hi) := by simp [go_sem]
                have l7e : g7 < (X2.alloc (.cells #[.int .i64 lo, .int .i64 hi] 24)).drew.heap.size := Nat.lt_of_lt_of_le l7 hZd.size
                have lEe : X2.heap.size < (X2.alloc (.cells #[.int .i64 lo, .int .i64 hi] 24)).drew.heap.size := World.block_lt_of_cell? _ _ w0e
                have mE : f.M ≤ X2.heap.size := hk4.sz
                clear hk4 hr4 hZ hZd x7 x0 x1 x2 l7
                have k1 : IntKind.i64.wrap (nn - lo) = nn - lo := IntWalk.i64_in _ (by omega)
                have k2 : IntKind.i64.wrap (hi - lo) = hi - lo := IntWalk.i64_in _ (by omega)
                have k3 : IntKind.i64.wrap (hi - lo + 1) = hi - lo + 1 := IntWalk.i64_in _ (by omega)
                have hqs : 1 ≤ hi - lo + 1 ∧ hi - lo + 1 ≤ 1000000 := by omega
                generalize X2.heap.size = gE at w0e w1e lEe mE ⊢
                refine wp_region_seq [(0, true), (1, true), (2, true), (3, true), (4, true), (5, true), (6, true), (7, true), (8, true), (9, true), (10, true), (11, false), (12, true), (13, true), (14, false)] (fun w' => w'.cell? ⟨gE, 0, none⟩ = some (.int .i64 lo) ∧ w'.cell? ⟨gE, 1, none⟩ = some (.int .i64 hi)) (by kernel_rfl) (by kernel_rfl) (fun _ _ d _ _ h => by cases d <;> exact h) ⟨w0e, w1e⟩ ?_
                generalize (X2.alloc (.cells #[.int .i64 lo, .int .i64 hi] 24)).drew = X3 at hkn hrn y7 y0 y1 y2 w0e w1e l7e lEe ⊢
                repeat (first | (refine seq_read rfl (by rfl) _ (fun w' hS => by (try dsimp only at hS); go_simp; (try with_reducible rfl)) ?_; (try simp only [Act.put, List.setIfInBounds_toArray, List.set_cons_zero, List.set_cons_succ])) | (refine seq_skip rfl (by rfl) ?_; (try simp only [Act.put, List.setIfInBounds_toArray, List.set_cons_zero, List.set_cons_succ])))
                clear k1 k2 k3
                refine seq_do rfl (by rfl) (fun K hK => ?_)
                go_simp
                refine (draw_mc ok hkn (hi - lo + 1) (by omega) hqs).mono ?_
                rintro e X4 ⟨d, rfl, ⟨hd0, hd1⟩, hk5, hx⟩
                have hr5 := hrn.bx ok.a2 hx
                have n7 : g7 ≠ f.gA := by have := ok.a2; omega
                have nE : gE ≠ f.gA := by have := ok.a2; omega
                have z7 := hx.slots y7 l7e n7
                have z0 := (hx.cell g7 0 l7e n7).trans y0
                have z1 := (hx.cell g7 1 l7e n7).trans y1
                have z2 := (hx.cell g7 2 l7e n7).trans y2
                refine hK _ _ ⟨(hx.cell gE 0 lEe nE).trans w0e, (hx.cell gE 1 lEe nE).trans w1e⟩ ?_
                clear hK K hkn hrn hx y7 y0 y1 y2 w0e w1e l7e lEe hqs n7 nE
                (try simp only [Act.put, List.setIfInBounds_toArray, List.set_cons_zero, List.set_cons_succ])
                have k3 : IntKind.i64.wrap (nn - lo - d) = nn - lo - d := IntWalk.i64_in _ (by omega)
                repeat (first | (refine seq_read rfl (by rfl) _ (fun w' hS => by (try dsimp only at hS); go_simp; (try with_reducible rfl)) ?_; (try simp only [Act.put, List.setIfInBounds_toArray, List.set_cons_zero, List.set_cons_succ])) | (refine seq_skip rfl (by rfl) ?_; (try simp only [Act.put, List.setIfInBounds_toArray, List.set_cons_zero, List.set_cons_succ])))
                clear k3
                obtain ⟨rd, hrd⟩ : ∃ rd : Int, nn - lo - d = rd := ⟨_, rfl⟩
                try rw [hrd]
                have HRD := Lib.hid hrd
                have hrd0 : -1000 ≤ rd ∧ rd ≤ 30000 := by omega
                clear hrd
                have HD := Lib.hid (show 0 ≤ d ∧ d ≤ hi - lo by omega)
                clear hd0 hd1
                refine seq_last rfl (by rfl) (by kernel_rfl) (fun K hK => ?_)
                obtain ⟨u6, q6, f6⟩ := z7.get 1 (by omega)
                go_simp
                refine hK _ _ ?_
                clear hK K
                (try simp only [Act.put, List.setIfInBounds_toArray, List.set_cons_zero, List.set_cons_succ])
                have hk6 := hk5.far ok m7 1 (.int .i64 rd)
                have hr6 := hr5.set g7 1 (.int .i64 rd) q1 q2 q3
                have x7 := z7.set ⟨g7, 1, none⟩ (.int .i64 rd)
                have x0 := cell_else (v := .int .i64 rd) z0 (show 0 ≠ 1 by omega)
                have x1 : (X4.setCell ⟨g7, 1, none⟩ (.int .i64 rd)).cell? ⟨g7, 1, none⟩ = some (.int .i64 rd) := World.cell?_setCell_same _ _ _ z1
                have x2 := cell_else (v := .int .i64 rd) z2 (show 2 ≠ 1 by omega)
                clear hk5 hr5 z7 z0 z1 z2 q6 f6
                generalize X4.setCell ⟨g7, 1, none⟩ (.int .i64 rd) = X5 at hk6 hr6 x7 x0 x1 x2 ⊢
                first | show Exit.inBlock _ _ Exit.normal _ _ | show Exit.then _ _ Exit.normal _ _
                by_cases h0 : rd ≥ 0
                case neg =>
                  go_wp2_with fail
                  go_roundw
                  case rel => exact ⟨k + 1, _, vs, ss, by omega, by go_num, by omega, by omega, Lib.hid hk6, Lib.hid hr6, hS⟩
                  case measure => simp [intOf]; omega
                by_cases h1 : rd < mo
                case neg =>
                  go_wp2_with fail
                  go_roundw
                  case rel => exact ⟨k + 1, _, vs, ss, by omega, by go_num, by omega, by omega, Lib.hid hk6, Lib.hid hr6, hS⟩
                  case measure => simp [intOf]; omega
                by_cases h2 : rd / 1000 = (q : Int)
                case neg =>
                  go_wp2_with fail
                  go_roundw
                  case rel => exact ⟨k + 1, _, vs, ss, by omega, by go_num, by omega, by omega, Lib.hid hk6, Lib.hid hr6, hS⟩
                  case measure => simp [intOf]; omega
                have hS2 : Hid (∀ s ∈ ss ++ [((i : Int), rd, false)], SetOk xs ps sum e1 a2 s) := fun s hs => by
                  rcases List.mem_append.1 hs with h1 | h1
                  · exact hS.out s h1
                  · rw [List.mem_singleton.1 h1]
                    exact set_new hi0 HZ.out HXE.out hql hey0 HNN.out HD.out HRD.out (by omega) h2
                have HKN := Lib.hid (hk6.grown ok (newB X5 (.cells #[.int .i64 i, .int .i64 rd, .bool false] 44)))
                have HRN := Lib.hid (hr6.grown (newB X5 (.cells #[.int .i64 i, .int .i64 rd, .bool false] 44)))
                have HNW : Hid (∀ j u, (settV ((i : Int), rd, false))[j]? = some u → (X5.alloc (.cells #[.int .i64 i, .int .i64 rd, .bool false] 44)).cell? ((⟨X5.heap.size, 0, none⟩ : Addr).add j) = some u) := World.news_of_block (heap_alloc_new X5 _)
                have c6 := hk6.c6
                have HSS := Lib.hid hsl
                clear hk6 hr6 hsl hS
                obtain ⟨j44, z44, s44, b44⟩ := I44.out
                go_wp2_with (at_builtin; refine wpList_append_lies _ rfl _ _ 27 rfl f.M 44 i44 (.agg #[.int .i64 0, .int .i64 0, .bool false]) 3 24 Try.underlying27 j44 z44 s44 b44 rfl (by decide) _ _ _ rfl HRN.out.rs ⟨X5.heap.size, 0, none⟩ 1 1 (settV ((i : Int), rd, false)) rfl rfl HNW.out ?c2 (by decide) ?c3 ?c4 HKN.out.sz _ rfl ?_)
                case c2 => intro u hu; simp [settV] at hu; rcases hu with rfl | rfl | rfl <;> rfl
                case c3 => have := HSS.out; unfold maxLen; omega
                case c4 => have := HSS.out; omega
                · intro g cap w4 hrow hgr _ _
                  have hk7 := HKN.out.by ok hgr (fun b hb => (HRN.out.rs.lt b hb).1)
                  have hr7 := HRN.out.puss hgr hrow
                  obtain ⟨u6, q6, f6⟩ := hk7.sl.get 6 (by omega)
                  have hk8 := Lib.hid (hk7.put6 ok (.slice (some ⟨g, 0, none⟩) (ss.length + 1) cap))
                  have hr8 := Lib.hid (hr7.low f.B 6 (.slice (some ⟨g, 0, none⟩) (ss.length + 1) cap) ok.b2)
                  clear HKN HRN HNW hrow hgr hk7 hr7 c6
                  go_wp2_with fail
                  go_roundw
                  case rel => exact ⟨k + 1, _, _, ss ++ [((i : Int), rd, false)], by omega, by go_num, by have := HSS.out; simp; omega, by omega, hk8, hr8, hS2⟩
                  case measure => simp [intOf]; omega
              · obtain ⟨z, hz⟩ : ∃ z : Int, sum - p = z := ⟨_, rfl⟩
                have htz : 0 ≤ z ∧ z ≤ 21000 := by rw [← hz]; exact HTR.out true
                have HZ : Hid (turnP sum (ps.getD i 0) true = z) := by show _ = _; rw [HPI.out, ← hz]; rfl
                clear HTR
                go_upto_region 20 with fail
                try rw [hz]
                clear hz HPI hpr
                have hkd := hkx.grown ok (Below.drew (Below.refl _ _))
                have hrd := hrx.grown (Below.drew (Below.refl _ _))
                have hxd := Below.drew (Below.refl X0.heap.size X0)
                have x7d := x7.below hxd l7
                have x0d := cellB x0 hxd
                have x1d := cellB x1 hxd
                have x2d := cellB x2 hxd
                have l7d : g7 < X0.drew.heap.size := l7
                clear hkx hrx hxd x7 x0 x1 x2 l7
                have k1 : IntKind.i64.wrap (a2 - e1) = a2 - e1 := IntWalk.i64_in _ (by omega)
                have k2 : IntKind.i64.wrap (a2 - e1 + 1) = a2 - e1 + 1 := IntWalk.i64_in _ (by omega)
                have hqs : 1 ≤ a2 - e1 + 1 ∧ a2 - e1 + 1 ≤ 1000000 := by omega
                refine wp_region_seq [(0, true), (1, true), (2, true), (3, true), (4, true), (5, true), (6, true), (7, true), (8, true), (9, true), (10, true), (11, true), (12, true), (13, true), (14, true), (15, false), (16, true), (17, true)] (fun w' => w'.cell? ⟨f.B, 1, none⟩ = some (.int .i64 e1) ∧ w'.cell? ⟨f.B, 2, none⟩ = some (.int .i64 a2)) (by kernel_rfl) (by kernel_rfl) (fun _ _ d _ _ h => by cases d <;> exact h) ⟨hkd.c1, hkd.c2⟩ ?_
                generalize X0.drew = X1 at hkd hrd x7d x0d x1d x2d l7d ⊢
                repeat (first | (refine seq_read rfl (by rfl) _ (fun w' hS => by (try dsimp only at hS); go_simp; (try with_reducible rfl)) ?_; (try simp only [Act.put, List.setIfInBounds_toArray, List.set_cons_zero, List.set_cons_succ])) | (refine seq_skip rfl (by rfl) ?_; (try simp only [Act.put, List.setIfInBounds_toArray, List.set_cons_zero, List.set_cons_succ])))
                clear k1 k2
                refine seq_do rfl (by rfl) (fun K hK => ?_)
                go_simp
                refine (draw_mc ok hkd (a2 - e1 + 1) (by omega) hqs).mono ?_
                rintro e X2 ⟨d, rfl, ⟨hd0, hd1⟩, hk4, hx⟩
                have hr4 := hrd.bx ok.a2 hx
                have n7 : g7 ≠ f.gA := by have := ok.a2; omega
                have x7 := hx.slots x7d l7d n7
                have x0 := (hx.cell g7 0 l7d n7).trans x0d
                have x1 := (hx.cell g7 1 l7d n7).trans x1d
                have x2 := (hx.cell g7 2 l7d n7).trans x2d
                have l7 : g7 < X2.heap.size := Nat.lt_of_lt_of_le l7d hx.size
                refine hK _ _ ⟨hk4.c1, hk4.c2⟩ ?_
                clear hK K hkd hrd hx x7d x0d x1d x2d l7d hqs
                (try simp only [Act.put, List.setIfInBounds_toArray, List.set_cons_zero, List.set_cons_succ])
                have k3 : IntKind.i64.wrap (e1 + d) = e1 + d := IntWalk.i64_in _ (by omega)
                repeat (first | (refine seq_read rfl (by rfl) _ (fun w' hS => by (try dsimp only at hS); go_simp; (try with_reducible rfl)) ?_; (try simp only [Act.put, List.setIfInBounds_toArray, List.set_cons_zero, List.set_cons_succ])) | (refine seq_skip rfl (by rfl) ?_; (try simp only [Act.put, List.setIfInBounds_toArray, List.set_cons_zero, List.set_cons_succ])))
                clear k3
                obtain ⟨ey, hey⟩ : ∃ ey : Int, e1 + d = ey := ⟨_, rfl⟩
                try rw [hey]
                have hey0 : e1 ≤ ey ∧ ey ≤ a2 := by omega
                clear hey hd0 hd1
                refine seq_end ?_
                first | show Exit.inBlock _ _ Exit.normal _ _ | show Exit.then _ _ Exit.normal _ _
                go_upto_region 22 with fail
                obtain ⟨nn, hnn⟩ : ∃ nn : Int, z - ey = nn := ⟨_, rfl⟩
                try rw [hnn]
                have HNN := Lib.hid hnn
                have hnn0 : -100 ≤ nn ∧ nn ≤ 30000 := by omega
                clear hnn
                by_cases h20 : nn < 20
                · skip
                  go_wp2_with fail
                  go_roundw
                  case rel => exact ⟨k + 1, _, vs, ss, by omega, by go_num, by omega, by omega, Lib.hid hk4, Lib.hid hr4, hS⟩
                  case measure => simp [intOf]; omega
                by_cases hmx : nn ≥ mo - 20
                · skip
                  go_wp2_with fail
                  go_roundw
                  case rel => exact ⟨k + 1, _, vs, ss, by omega, by go_num, by omega, by omega, Lib.hid hk4, Lib.hid hr4, hS⟩
                  case measure => simp [intOf]; omega
                obtain ⟨q, hq⟩ : ∃ q : Nat, nn / 1000 = (q : Int) := ⟨(nn / 1000).toNat, by omega⟩
                have hql : q < xs.length := by have := HMO.out; omega
                have hq0 : (0 : Int) ≤ (q : Int) := by omega
                have hqI : (q : Int) < n5 := by omega
                obtain ⟨d0, d1⟩ := spans_at hr4.re rfl hql
                have heb := err_at hE hql
                generalize hxe : xs.getD q (0, 0) = el at d0 d1 heb
                obtain ⟨lo, hi⟩ := el
                dsimp only at d0 d1 heb
                have HXE := Lib.hid hxe
                clear hxe
                have c0 := hk4.c0
                go_upto_region 24 with fail
                clear c0 d0 d1 hnn0
                have hZ := newB X2 (.cells #[.int .i64 lo, .int .i64 hi] 24)
                have hkn := (hk4.grown ok hZ).grown ok (Below.drew (Below.refl _ _))
                have hrn := (hr4.grown hZ).grown (Below.drew (Below.refl _ _))
                have hZd : Below X2.heap.size X2 (X2.alloc (.cells #[.int .i64 lo, .int .i64 hi] 24)).drew := Below.drew hZ
                have y7 := x7.below hZd l7
                have y0 := cellB x0 hZd
                have y1 := cellB x1 hZd
                have y2 := cellB x2 hZd
                have w0e : (X2.alloc (.cells #[.int .i64 lo, .int .i64 hi] 24)).drew.cell? ⟨X2.heap.size, 0, none⟩ = some (.int .i64 lo) := by simp [go_sem]
                have w1e : (X2.alloc (.cells #[.int .i64 lo, .int .i64 hi] 24)).drew.cell? ⟨X2.heap.size, 1, none⟩ = some (.int .i64 hi) := by simp [go_sem]
                have l7e : g7 < (X2.alloc (.cells #[.int .i64 lo, .int .i64 hi] 24)).drew.heap.size := Nat.lt_of_lt_of_le l7 hZd.size
                have lEe : X2.heap.size < (X2.alloc (.cells #[.int .i64 lo, .int .i64 hi] 24)).drew.heap.size := World.block_lt_of_cell? _ _ w0e
                have mE : f.M ≤ X2.heap.size := hk4.sz
                clear hk4 hr4 hZ hZd x7 x0 x1 x2 l7
                have k1 : IntKind.i64.wrap (nn - lo) = nn - lo := IntWalk.i64_in _ (by omega)
                have k2 : IntKind.i64.wrap (hi - lo) = hi - lo := IntWalk.i64_in _ (by omega)
                have k3 : IntKind.i64.wrap (hi - lo + 1) = hi - lo + 1 := IntWalk.i64_in _ (by omega)
                have hqs : 1 ≤ hi - lo + 1 ∧ hi - lo + 1 ≤ 1000000 := by omega
                generalize X2.heap.size = gE at w0e w1e lEe mE ⊢
                refine wp_region_seq [(0, true), (1, true), (2, true), (3, true), (4, true), (5, true), (6, true), (7, true), (8, true), (9, true), (10, true), (11, false), (12, true), (13, true), (14, false)] (fun w' => w'.cell? ⟨gE, 0, none⟩ = some (.int .i64 lo) ∧ w'.cell? ⟨gE, 1, none⟩ = some (.int .i64 hi)) (by kernel_rfl) (by kernel_rfl) (fun _ _ d _ _ h => by cases d <;> exact h) ⟨w0e, w1e⟩ ?_
                generalize (X2.alloc (.cells #[.int .i64 lo, .int .i64 hi] 24)).drew = X3 at hkn hrn y7 y0 y1 y2 w0e w1e l7e lEe ⊢
                repeat (first | (refine seq_read rfl (by rfl) _ (fun w' hS => by (try dsimp only at hS); go_simp; (try with_reducible rfl)) ?_; (try simp only [Act.put, List.setIfInBounds_toArray, List.set_cons_zero, List.set_cons_succ])) | (refine seq_skip rfl (by rfl) ?_; (try simp only [Act.put, List.setIfInBounds_toArray, List.set_cons_zero, List.set_cons_succ])))
                clear k1 k2 k3
                refine seq_do rfl (by rfl) (fun K hK => ?_)
                go_simp
                refine (draw_mc ok hkn (hi - lo + 1) (by omega) hqs).mono ?_
                rintro e X4 ⟨d, rfl, ⟨hd0, hd1⟩, hk5, hx⟩
                have hr5 := hrn.bx ok.a2 hx
                have n7 : g7 ≠ f.gA := by have := ok.a2; omega
                have nE : gE ≠ f.gA := by have := ok.a2; omega
                have z7 := hx.slots y7 l7e n7
                have z0 := (hx.cell g7 0 l7e n7).trans y0
                have z1 := (hx.cell g7 1 l7e n7).trans y1
                have z2 := (hx.cell g7 2 l7e n7).trans y2
                refine hK _ _ ⟨(hx.cell gE 0 lEe nE).trans w0e, (hx.cell gE 1 lEe nE).trans w1e⟩ ?_
                clear hK K hkn hrn hx y7 y0 y1 y2 w0e w1e l7e lEe hqs n7 nE
                (try simp only [Act.put, List.setIfInBounds_toArray, List.set_cons_zero, List.set_cons_succ])
                have k3 : IntKind.i64.wrap (nn - lo - d) = nn - lo - d := IntWalk.i64_in _ (by omega)
                repeat (first | (refine seq_read rfl (by rfl) _ (fun w' hS => by (try dsimp only at hS); go_simp; (try with_reducible rfl)) ?_; (try simp only [Act.put, List.setIfInBounds_toArray, List.set_cons_zero, List.set_cons_succ])) | (refine seq_skip rfl (by rfl) ?_; (try simp only [Act.put, List.setIfInBounds_toArray, List.set_cons_zero, List.set_cons_succ])))
                clear k3
                obtain ⟨rd, hrd⟩ : ∃ rd : Int, nn - lo - d = rd := ⟨_, rfl⟩
                try rw [hrd]
                have HRD := Lib.hid hrd
                have hrd0 : -1000 ≤ rd ∧ rd ≤ 30000 := by omega
                clear hrd
                have HD := Lib.hid (show 0 ≤ d ∧ d ≤ hi - lo by omega)
                clear hd0 hd1
                refine seq_last rfl (by rfl) (by kernel_rfl) (fun K hK => ?_)
                obtain ⟨u6, q6, f6⟩ := z7.get 1 (by omega)
                go_simp
                refine hK _ _ ?_
                clear hK K
                (try simp only [Act.put, List.setIfInBounds_toArray, List.set_cons_zero, List.set_cons_succ])
                have hk6 := hk5.far ok m7 1 (.int .i64 rd)
                have hr6 := hr5.set g7 1 (.int .i64 rd) q1 q2 q3
                have x7 := z7.set ⟨g7, 1, none⟩ (.int .i64 rd)
                have x0 := cell_else (v := .int .i64 rd) z0 (show 0 ≠ 1 by omega)
                have x1 : (X4.setCell ⟨g7, 1, none⟩ (.int .i64 rd)).cell? ⟨g7, 1, none⟩ = some (.int .i64 rd) := World.cell?_setCell_same _ _ _ z1
                have x2 := cell_else (v := .int .i64 rd) z2 (show 2 ≠ 1 by omega)
                clear hk5 hr5 z7 z0 z1 z2 q6 f6
                generalize X4.setCell ⟨g7, 1, none⟩ (.int .i64 rd) = X5 at hk6 hr6 x7 x0 x1 x2 ⊢
                first | show Exit.inBlock _ _ Exit.normal _ _ | show Exit.then _ _ Exit.normal _ _
                by_cases h0 : rd ≥ 0
                case neg =>
                  go_wp2_with fail
                  go_roundw
                  case rel => exact ⟨k + 1, _, vs, ss, by omega, by go_num, by omega, by omega, Lib.hid hk6, Lib.hid hr6, hS⟩
                  case measure => simp [intOf]; omega
                by_cases h1 : rd < mo
                case neg =>
                  go_wp2_with fail
                  go_roundw
                  case rel => exact ⟨k + 1, _, vs, ss, by omega, by go_num, by omega, by omega, Lib.hid hk6, Lib.hid hr6, hS⟩
                  case measure => simp [intOf]; omega
                by_cases h2 : rd / 1000 = (q : Int)
                case neg =>
                  go_wp2_with fail
                  go_roundw
                  case rel => exact ⟨k + 1, _, vs, ss, by omega, by go_num, by omega, by omega, Lib.hid hk6, Lib.hid hr6, hS⟩
                  case measure => simp [intOf]; omega
                have hS2 : Hid (∀ s ∈ ss ++ [((i : Int), rd, true)], SetOk xs ps sum e1 a2 s) := fun s hs => by
                  rcases List.mem_append.1 hs with h1 | h1
                  · exact hS.out s h1
                  · rw [List.mem_singleton.1 h1]
                    exact set_new hi0 HZ.out HXE.out hql hey0 HNN.out HD.out HRD.out (by omega) h2
                have HKN := Lib.hid (hk6.grown ok (newB X5 (.cells #[.int .i64 i, .int .i64 rd, .bool true] 44)))
                have HRN := Lib.hid (hr6.grown (newB X5 (.cells #[.int .i64 i, .int .i64 rd, .bool true] 44)))
                have HNW : Hid (∀ j u, (settV ((i : Int), rd, true))[j]? = some u → (X5.alloc (.cells #[.int .i64 i, .int .i64 rd, .bool true] 44)).cell? ((⟨X5.heap.size, 0, none⟩ : Addr).add j) = some u) := World.news_of_block (heap_alloc_new X5 _)
                have c6 := hk6.c6
                have HSS := Lib.hid hsl
                clear hk6 hr6 hsl hS
                obtain ⟨j44, z44, s44, b44⟩ := I44.out
                go_wp2_with (at_builtin; refine wpList_append_lies _ rfl _ _ 27 rfl f.M 44 i44 (.agg #[.int .i64 0, .int .i64 0, .bool false]) 3 24 Try.underlying27 j44 z44 s44 b44 rfl (by decide) _ _ _ rfl HRN.out.rs ⟨X5.heap.size, 0, none⟩ 1 1 (settV ((i : Int), rd, true)) rfl rfl HNW.out ?c2 (by decide) ?c3 ?c4 HKN.out.sz _ rfl ?_)
                case c2 => intro u hu; simp [settV] at hu; rcases hu with rfl | rfl | rfl <;> rfl
                case c3 => have := HSS.out; unfold maxLen; omega
                case c4 => have := HSS.out; omega
                · intro g cap w4 hrow hgr _ _
                  have hk7 := HKN.out.by ok hgr (fun b hb => (HRN.out.rs.lt b hb).1)
                  have hr7 := HRN.out.puss hgr hrow
                  obtain ⟨u6, q6, f6⟩ := hk7.sl.get 6 (by omega)
                  have hk8 := Lib.hid (hk7.put6 ok (.slice (some ⟨g, 0, none⟩) (ss.length + 1) cap))
                  have hr8 := Lib.hid (hr7.low f.B 6 (.slice (some ⟨g, 0, none⟩) (ss.length + 1) cap) ok.b2)
                  clear HKN HRN HNW hrow hgr hk7 hr7 c6
                  go_wp2_with fail
                  go_roundw
                  case rel => exact ⟨k + 1, _, _, ss ++ [((i : Int), rd, true)], by omega, by go_num, by have := HSS.out; simp; omega, by omega, hk8, hr8, hS2⟩
                  case measure => simp [intOf]; omega
            · obtain hke : k = nd := by omega
              have hk := hkc.out
              have hr := hkr.out
              have hrd : ∀ s ∈ ss, s.2.1 ≤ 9223372036854775807 := fun s hs => by
                have := (hS.out s hs).2.1
                omega
              obtain ⟨sa, cs, rfl, hss, _⟩ := row_setts hr.rs rfl hrd
              have hxs : Spans wr (some ⟨ge, 0, none⟩) xs := .inr ⟨ge, 0, rfl, (hr.re.lt ge rfl).2, fun j hj => by have := spans_at hr.re rfl hj; simpa using this⟩
              have hps : Ints wr (some ⟨gp, 0, none⟩) ps := ⟨gp, rfl, (hr.rp.lt gp rfl).2, ints_row hr.rp rfl⟩
              have hmd : MadeR ⟨some ⟨ge, 0, none⟩, xs.length, ce, e1, a2, im, slo, shi, sa, ss.length, cs⟩ xs ss sum ps := made_of hE hxb ⟨he10.1, he10.2, he20.1, he20.2⟩ him0 HPE.out hs0 (by omega) hS.out
              have HF : Hid (MC f (((((((wr.setCell ⟨f.B, 0, none⟩ (.slice (some ⟨ge, 0, none⟩) xs.length ce)).setCell ⟨f.B, 1, none⟩ (.int .i64 e1)).setCell ⟨f.B, 2, none⟩ (.int .i64 a2)).setCell ⟨f.B, 3, none⟩ (.int .i64 im)).setCell ⟨f.B, 4, none⟩ (.int .i64 slo)).setCell ⟨f.B, 5, none⟩ (.int .i64 shi)).setCell ⟨f.B, 6, none⟩ (.slice sa ss.length cs)) c (.slice (some ⟨ge, 0, none⟩) xs.length ce) (.slice sa ss.length cs) e1 a2 im slo shi) :=
                ((((((hk.put0 ok (.slice (some ⟨ge, 0, none⟩) xs.length ce)).put1 ok e1).put2 ok a2).put3 ok im).put4 ok slo).put5 ok shi).put6 ok (.slice sa ss.length cs)
              have HR : Hid (MR f (((((((wr.setCell ⟨f.B, 0, none⟩ (.slice (some ⟨ge, 0, none⟩) xs.length ce)).setCell ⟨f.B, 1, none⟩ (.int .i64 e1)).setCell ⟨f.B, 2, none⟩ (.int .i64 a2)).setCell ⟨f.B, 3, none⟩ (.int .i64 im)).setCell ⟨f.B, 4, none⟩ (.int .i64 slo)).setCell ⟨f.B, 5, none⟩ (.int .i64 shi)).setCell ⟨f.B, 6, none⟩ (.slice sa ss.length cs)) (.slice (some ⟨ge, 0, none⟩) xs.length ce) (.slice sa ss.length cs) (.slice (some ⟨gp, 0, none⟩) ps.length cp) xs ss ps) :=
                ((((((hr.low f.B 0 _ ok.b2).low f.B 1 _ ok.b2).low f.B 2 _ ok.b2).low f.B 3 _ ok.b2).low f.B 4 _ ok.b2).low f.B 5 _ ok.b2).low f.B 6 _ ok.b2
              obtain ⟨u0, p0, f0⟩ := hk.sl.get 0 (by omega)
              obtain ⟨u1, p1, f1⟩ := hk.sl.get 1 (by omega)
              obtain ⟨u2, p2, f2⟩ := hk.sl.get 2 (by omega)
              obtain ⟨u3, p3, f3⟩ := hk.sl.get 3 (by omega)
              obtain ⟨u4, p4, f4⟩ := hk.sl.get 4 (by omega)
              obtain ⟨u5', p5, f5⟩ := hk.sl.get 5 (by omega)
              obtain ⟨u6, p6, f6⟩ := hk.sl.get 6 (by omega)
              have c0 := hk.c0
              have c1 := hk.c1
              have c2 := hk.c2
              have c3 := hk.c3
              have c4 := hk.c4
              have c5 := hk.c5
              have c6 := hk.c6
              have HRD := Lib.hid hrd
              clear p0 p1 p2 p3 p4 p5 p6 hkc hkr hS hk hr hss hxs hps hrd
              have HMD := Lib.hid hmd
              clear hmd
              go_wp2_with fail
              clear f0 f1 f2 f3 f4 f5 f6 c0 c1 c2 c3 c4 c5 c6
              generalize (((((((wr.setCell ⟨f.B, 0, none⟩ (.slice (some ⟨ge, 0, none⟩) xs.length ce)).setCell ⟨f.B, 1, none⟩ (.int .i64 e1)).setCell ⟨f.B, 2, none⟩ (.int .i64 a2)).setCell ⟨f.B, 3, none⟩ (.int .i64 im)).setCell ⟨f.B, 4, none⟩ (.int .i64 slo)).setCell ⟨f.B, 5, none⟩ (.int .i64 shi)).setCell ⟨f.B, 6, none⟩ (.slice sa ss.length cs)) = WF at HF HR ⊢
              have d0 := HF.out.c0
              have d1 := HF.out.c1
              have d2 := HF.out.c2
              have d3 := HF.out.c3
              have d4 := HF.out.c4
              have d5 := HF.out.c5
              have d6 := HF.out.c6
              obtain ⟨sa', cs', he, hss, _⟩ := row_setts HR.out.rs rfl HRD.out
              injection he with he1 _ he3
              subst he1
              have hxs : Spans WF (some ⟨ge, 0, none⟩) xs := .inr ⟨ge, 0, rfl, (HR.out.re.lt ge rfl).2, fun j hj => by have := spans_at HR.out.re rfl hj; simpa using this⟩
              have hps : Ints WF (some ⟨gp, 0, none⟩) ps := ⟨gp, rfl, (HR.out.rp.lt gp rfl).2, ints_row HR.out.rp rfl⟩
              exact bodyPost_ret (v := .tuple #[Hd.val ⟨some ⟨ge, 0, none⟩, xs.length, ce, e1, a2, im, slo, shi, sa, ss.length, cs⟩, .int .i64 sum, .slice (some ⟨gp, 0, none⟩) ps.length cp]) (by unfold Hd.val; simp [results, Try.results35, go_sem, d0, d1, d2, d3, d4, d5, d6]) rfl
                ⟨_, xs, ss, sum, ps, _, cp, rfl, HF.out.bel, ⟨hxs, hss, rfl, rfl, by omega, by omega⟩, hps, HMD.out, ⟨by omega, by omega⟩, hP, by omega, by omega⟩
end Go.Proofs.Ytmfbkgdlfackcaa

namespace Go.Proofs.Ytmfbkgdlfackcaa
open Fw Go.RowKit

set_option maxRecDepth 100000 in
set_option maxHeartbeats 16000000 in
theorem trueL_any (a : Option Addr) (n cap : Nat) (w : World) (hn : n ≤ 9223372036854775807)
    (hy : n = 0 ∨ ∃ yb yo, a = some ⟨yb, yo, none⟩ ∧ yb < w.heap.size ∧ ∀ k, k < n → ∃ v : Int, w.cell? ⟨yb, yo + k, none⟩ = some (.int .u16 v) ∧ 0 ≤ v ∧ v ≤ 65535) :
    Calls Try.prog 7 #[.slice a n cap] w (Ret (.bool true) w) := by
  have hnI : (n : Int) ≤ 9223372036854775807 := by omega
  go_enter Try.func7, Try.ntmps7
  by_cases h0 : n = 0
  case pos =>
    subst h0
    clear hy hnI
    go_wp2_with fail
    refine (alive_any _).mono ?_
    rintro e w1 ⟨rfl, hb⟩
    go_wp2
    go_ret
    exact ⟨rfl, hb⟩
  obtain ⟨yb, yo, rfl, hyb, hel⟩ := hy.resolve_left h0
  clear hy
  have h0I : ¬ (n : Int) = 0 := by omega
  go_wp2_with fail
  refine (draws_any yb yo n cap w hyb hel).mono ?_
  rintro e w1 ⟨gA, gY, rfl, hB1, hd, ⟨hA1, hA2⟩, ⟨hY1, hY2⟩, hne⟩
  go_wp2_with fail
  refine (made_any gA gY yb yo n cap w w1 hB1 hd hA1 hY1 hne hyb (by omega) hn).mono ?_
  rintro e w2 ⟨h, xs, ss, sum, ps, pa, pc, rfl, hB2, hM, hI, hR, hsum, hP, h12, h14⟩
  clear hd hA1 hA2 hY1 hY2 hne hB1 hel hyb h0 h0I hn hnI
  unfold Hd.val
  have hZ := newB w2 (.cells #[.slice h.a h.n h.cap, .int .i64 h.eLo, .int .i64 h.eHi, .int .i64 h.images, .int .i64 h.sLo, .int .i64 h.sHi, .slice h.sa h.ns h.scap] 29)
  have hbox := boxM_new hM
  obtain ⟨gp, rfl, hgp, hIc⟩ := hI
  have hI2 : ∀ k, k < ps.length → (w2.alloc (.cells #[.slice h.a h.n h.cap, .int .i64 h.eLo, .int .i64 h.eHi, .int .i64 h.images, .int .i64 h.sLo, .int .i64 h.sHi, .slice h.sa h.ns h.scap] 29)).cell? ⟨gp, k, none⟩ = some (.int .i64 (ps.getD k 0)) := fun k hk => cellB (hIc k hk) hZ
  have hB3 := BT hB2 hZ
  go_upto_region 4 with fail
  generalize w2.heap.size = B at hbox ⊢
  generalize w2.alloc (.cells #[.slice h.a h.n h.cap, .int .i64 h.eLo, .int .i64 h.eHi, .int .i64 h.images, .int .i64 h.sLo, .int .i64 h.sHi, .slice h.sa h.ns h.scap] 29) = w3 at hZ hbox hI2 hB3 ⊢
  have HA : Hid (∀ Y, Below w3.heap.size w3 Y → BoxM Y B h xs ss ∧ ∀ k, k < ps.length → Y.cell? ⟨gp, k, none⟩ = some (.int .i64 (ps.getD k 0))) := fun Y hY => ⟨hbox.grown hY, fun k hk => cellB (hI2 k hk) hY⟩
  have HR := Lib.hid hR
  have HP := Lib.hid hP
  have HB3 := Lib.hid hB3
  have HNX := Lib.hid hM.nx
  have HNS := Lib.hid hM.ns
  have hns12 : h.ns ≤ 12 := by rw [← HNS.out]; exact h12
  have HIM : Hid ((ps.length : Int) = h.images ∧ h.images ≤ 6) := ⟨hR.l, (valid_has hR.v).2.2.2.1.2⟩
  have hp6 : ps.length ≤ 6 := by have := HIM.out; omega
  clear hZ hbox hI2 hB3 hR hP hM hB2 hIc hgp h12
  obtain ⟨s1, s2, qs, hs1, hs2⟩ := true_sum HR.out
  have HC18 : Hid (∀ Y, HasM Y h xs ss → Calls Try.prog 18 #[.agg #[.slice h.a h.n h.cap, .int .i64 h.eLo, .int .i64 h.eHi, .int .i64 h.images, .int .i64 h.sLo, .int .i64 h.sHi, .slice h.sa h.ns h.scap]] Y (Ret (.tuple #[.agg #[.int .i64 s1, .int .i64 s2], .int .i64 0]) Y)) := fun Y hY => by
    have := sum_any h xs ss Y hY
    rw [qs] at this; exact this
  have HC24 : Hid (∀ Y, HasM Y h xs ss → Calls Try.prog 24 #[.agg #[.slice h.a h.n h.cap, .int .i64 h.eLo, .int .i64 h.eHi, .int .i64 h.images, .int .i64 h.sLo, .int .i64 h.sHi, .slice h.sa h.ns h.scap]] Y (Ret (.tuple #[.int .i64 0, .int .i64 0]) Y)) := fun Y hY => by
    have := clash_any h xs ss Y hY
    rw [true_clash HR.out] at this; exact this
  have HC26 : Hid (∀ Y, HasM Y h xs ss → Calls Try.prog 26 #[.agg #[.slice h.a h.n h.cap, .int .i64 h.eLo, .int .i64 h.eHi, .int .i64 h.images, .int .i64 h.sLo, .int .i64 h.sHi, .slice h.sa h.ns h.scap]] Y (Ret (.tuple #[.int .i64 0, .int .i64 0]) Y)) := fun Y hY => by
    have := drop_any h xs ss Y hY
    rw [true_drop HR.out] at this; exact this
  clear qs
  obtain ⟨⟨c0, c1, c2, c3, c4, c5, c6, hh⟩, _⟩ := HA.out w3 (Below.refl _ _)
  go_wp2_with fail
  refine (HC18.out _ hh).mono ?_
  rintro e x1 ⟨rfl, hx1⟩
  clear c0 c1 c2 c3 c4 c5 c6 hh HC18
  have hZ := BT hx1 (newB x1 (.cells #[.int .i64 s1, .int .i64 s2] 24))
  have HT6 := Lib.hid (show Two x1.heap.size s1 s2 (x1.alloc (.cells #[.int .i64 s1, .int .i64 s2] 24)) from two_newT x1 s1 s2 24)
  go_upto_region 5 with fail
  generalize x1.heap.size = g6 at HT6 ⊢
  generalize x1.alloc (.cells #[.int .i64 s1, .int .i64 s2] 24) = W1 at hZ HT6 ⊢
  have hW1 := hZ
  clear hZ hx1
  obtain ⟨⟨c0, c1, c2, c3, c4, c5, c6, hh⟩, _⟩ := HA.out _ hW1
  go_wp2_with fail
  refine (HC24.out _ hh).mono ?_
  rintro e x2 ⟨rfl, hx2⟩
  clear c0 c1 c2 c3 c4 c5 c6 hh HC24
  have hW2 := BT hW1 hx2
  obtain ⟨⟨c0, c1, c2, c3, c4, c5, c6, hh⟩, _⟩ := HA.out _ hW2
  go_wp2_with fail
  refine (HC26.out _ hh).mono ?_
  rintro e x3 ⟨rfl, hx3⟩
  clear c0 c1 c2 c3 c4 c5 c6 hh HC26
  have hW3 := BT hW2 hx3
  obtain ⟨t0, t1⟩ := HT6.out.grown (BT hx2 hx3)
  have n1 : ¬ sum < s1 := by omega
  have n2 : ¬ sum > s2 := by omega
  obtain ⟨⟨c0, c1, c2, c3, c4, c5, c6, hh⟩, _⟩ := HA.out _ hW3
  clear hh
  go_upto_region 10 with fail
  clear t0 t1 n1 n2 HT6 hs1 hs2 c0 c1 c2 c3 c4 c5 c6 hx2 hx3 hW1 hW2
  obtain ⟨wa, rfl⟩ : ∃ wa : World, wa = x3 := ⟨_, rfl⟩
  go_loopw [84] (fun i wr => ∃ k : Nat, k ≤ h.ns ∧ i = .int .i64 k ∧ Below wa.heap.size wa wr) (fun i _ => h.ns - (intOf i).toNat)
  case atStart => exact ⟨0, by omega, rfl, Below.refl _ _⟩
  case round =>
    obtain ⟨k, hk, rfl, hB⟩ := hrel
    have hk0 : (0 : Int) ≤ (k : Int) := by omega
    have hBw := BT hW3 hB
    by_cases hlt : k < h.ns
    · skip
      have hkl : k < ss.length := by rw [HNS.out]; exact hlt
      obtain ⟨hbx, hip⟩ := HA.out wr hBw
      rcases hbx.has.st with hnil | ⟨b, o, hsa, hb, hc⟩
      · exfalso; rw [hnil] at hkl; simp at hkl
      obtain ⟨d0, d1, d2, d3⟩ := hc k hkl
      obtain ⟨t1, t2, qt, ht1, ht2⟩ := true_travel HR.out hkl
      have hvg := (valid_has HR.out.v).2.2.2.2.2.2 (ss.getD k (0, 0, false)) (by simp [List.getD, hkl])
      have hTR : Hid (∀ Y, Below wr.heap.size wr Y → Calls Try.prog 16 #[.agg #[.slice h.a h.n h.cap, .int .i64 h.eLo, .int .i64 h.eHi], .int .i64 (ss.getD k (0, 0, false)).2.1] Y (Ret (.tuple #[.agg #[.int .i64 t1, .int .i64 t2], .int .i64 0]) Y)) := fun Y hY => by
        have hm := (HA.out Y (BT hBw hY)).1.has
        have := travel_any16 h.a h.cap h.eLo h.eHi (ss.getD k (0, 0, false)).2.1 xs Y hm.sp hm.lx d3
        rw [qt, HNX.out] at this; exact this
      clear hc qt d3
      generalize ss.getD k (0, 0, false) = s at d0 d1 d2 ht1 ht2 hvg hTR
      obtain ⟨im, rd, rv⟩ := s
      dsimp only at d0 d1 d2 ht1 ht2 hvg hTR
      obtain ⟨⟨v0, v1⟩, _⟩ := hvg
      obtain ⟨i, rfl⟩ : ∃ i : Nat, im = (i : Int) := ⟨im.toNat, by omega⟩
      have hip0 : i < ps.length := by have := HIM.out; omega
      have e1 : ((i : Int)).toNat = i := by omega
      rw [e1] at ht1 ht2
      have hpp := hip i hip0
      have hpr := pla_at HP.out hip0
      generalize ps.getD i 0 = p at ht1 ht2 hpp hpr
      have hiI : (i : Int) < (ps.length : Int) := by omega
      have hi00 : (0 : Int) ≤ (i : Int) := by omega
      clear e1 v0 v1
      obtain ⟨c0, c1, c2, c3, c4, c5, c6, hh⟩ := hbx
      clear hh hip
      rw [hsa] at c6 ⊢
      clear hsa hb
      cases rv
      · skip
        go_upto_region 12 with fail
        have hZ := newB wr (.cells #[.int .i64 i, .int .i64 rd, .bool false] 44)
        have x0 : (wr.alloc (.cells #[.int .i64 i, .int .i64 rd, .bool false] 44)).cell? ⟨wr.heap.size, 0, none⟩ = some (.int .i64 i) := by simp [go_sem]
        have x1 : (wr.alloc (.cells #[.int .i64 i, .int .i64 rd, .bool false] 44)).cell? ⟨wr.heap.size, 1, none⟩ = some (.int .i64 rd) := by simp [go_sem]
        have x2 : (wr.alloc (.cells #[.int .i64 i, .int .i64 rd, .bool false] 44)).cell? ⟨wr.heap.size, 2, none⟩ = some (.bool false) := by simp [go_sem]
        have c0 := cellB c0 hZ
        have c1 := cellB c1 hZ
        have c2 := cellB c2 hZ
        have hpp := cellB hpp hZ
        generalize wr.heap.size = g13 at x0 x1 x2 ⊢
        generalize wr.alloc (.cells #[.int .i64 i, .int .i64 rd, .bool false] 44) = Y0 at hZ x0 x1 x2 c0 c1 c2 hpp ⊢
        go_wp2_with fail
        refine (hTR.out Y0 hZ).mono ?_
        rintro e Y1 ⟨rfl, hy1⟩
        have hZ2 := newB Y1 (.cells #[.int .i64 t1, .int .i64 t2] 24)
        have hT14 := two_newT Y1 t1 t2 24
        have hY := BT hy1 hZ2
        have x0 := cellB x0 hY
        have x2 := cellB x2 hY
        have hpp := cellB hpp hY
        have hYY := BT hB (BT hZ hY)
        go_upto_region 13 with fail
        generalize Y1.heap.size = g14 at hT14 ⊢
        generalize Y1.alloc (.cells #[.int .i64 t1, .int .i64 t2] 24) = Y2 at hT14 x0 x2 hpp hYY ⊢
        obtain ⟨y0, y1⟩ := hT14
        clear hTR hy1 hZ2 hY hZ x1 c0 c1 c2
        have hz1 : t1 ≤ p := ht1
        have hz2 : p ≤ t2 := ht2
        have n1 : ¬ p < t1 := by omega
        have n2 : ¬ p > t2 := by omega
        clear ht1 ht2
        go_wp2_with fail
        go_roundw
        case rel => exact ⟨k + 1, by omega, by go_num, hYY⟩
        case measure => simp [intOf]; omega
      · skip
        go_upto_region 12 with fail
        have hZ := newB wr (.cells #[.int .i64 i, .int .i64 rd, .bool true] 44)
        have x0 : (wr.alloc (.cells #[.int .i64 i, .int .i64 rd, .bool true] 44)).cell? ⟨wr.heap.size, 0, none⟩ = some (.int .i64 i) := by simp [go_sem]
        have x1 : (wr.alloc (.cells #[.int .i64 i, .int .i64 rd, .bool true] 44)).cell? ⟨wr.heap.size, 1, none⟩ = some (.int .i64 rd) := by simp [go_sem]
        have x2 : (wr.alloc (.cells #[.int .i64 i, .int .i64 rd, .bool true] 44)).cell? ⟨wr.heap.size, 2, none⟩ = some (.bool true) := by simp [go_sem]
        have c0 := cellB c0 hZ
        have c1 := cellB c1 hZ
        have c2 := cellB c2 hZ
        have hpp := cellB hpp hZ
        generalize wr.heap.size = g13 at x0 x1 x2 ⊢
        generalize wr.alloc (.cells #[.int .i64 i, .int .i64 rd, .bool true] 44) = Y0 at hZ x0 x1 x2 c0 c1 c2 hpp ⊢
        go_wp2_with fail
        refine (hTR.out Y0 hZ).mono ?_
        rintro e Y1 ⟨rfl, hy1⟩
        have hZ2 := newB Y1 (.cells #[.int .i64 t1, .int .i64 t2] 24)
        have hT14 := two_newT Y1 t1 t2 24
        have hY := BT hy1 hZ2
        have x0 := cellB x0 hY
        have x2 := cellB x2 hY
        have hpp := cellB hpp hY
        have hYY := BT hB (BT hZ hY)
        go_upto_region 13 with fail
        generalize Y1.heap.size = g14 at hT14 ⊢
        generalize Y1.alloc (.cells #[.int .i64 t1, .int .i64 t2] 24) = Y2 at hT14 x0 x2 hpp hYY ⊢
        obtain ⟨y0, y1⟩ := hT14
        clear hTR hy1 hZ2 hY hZ x1 c0 c1 c2
        have hz1 : t1 ≤ (sum - p) := ht1
        have hz2 : (sum - p) ≤ t2 := ht2
        have n1 : ¬ (sum - p) < t1 := by omega
        have n2 : ¬ (sum - p) > t2 := by omega
        clear ht1 ht2
        go_wp2_with fail
        go_roundw
        case rel => exact ⟨k + 1, by omega, by go_num, hYY⟩
        case measure => simp [intOf]; omega
    · obtain rfl : k = h.ns := by omega
      go_upto_region 20 with fail
      clear hk hk0 hlt
      obtain ⟨wb, rfl⟩ : ∃ wb : World, wb = wr := ⟨_, rfl⟩
      have hp6I : (ps.length : Int) ≤ 6 := by omega
      go_loopw [123] (fun i wr => ∃ k : Nat, k ≤ ps.length ∧ i = .int .i64 k ∧ Below wb.heap.size wb wr) (fun i _ => ps.length - (intOf i).toNat)
      case atStart => exact ⟨0, by omega, rfl, Below.refl _ _⟩
      case round =>
        obtain ⟨k, hk, rfl, hB2⟩ := hrel
        have hk0 : (0 : Int) ≤ (k : Int) := by omega
        have hBx := BT hBw hB2
        by_cases hlt : k < ps.length
        · skip
          obtain ⟨hbx, hip⟩ := HA.out wr hBx
          have hpp := hip k hlt
          have hpr := pla_at HP.out hlt
          obtain ⟨p1, p2, e, qp, hpe⟩ := true_place HR.out hlt
          have hPL := place_any k h xs ss wr hbx.has
          rw [qp] at hPL
          unfold Hd.val at hPL
          have hxv : ps.getD k 0 = ps.getD k 0 := rfl
          clear qp hip
          obtain ⟨p, hpx⟩ : ∃ p : Int, ps.getD k 0 = p := ⟨_, rfl⟩
          rw [hpx] at hpp hpr hpe
          have HPX := Lib.hid hpx
          have hltI : (k : Int) < (ps.length : Int) := by omega
          clear hpx hxv
          obtain ⟨c0, c1, c2, c3, c4, c5, c6, hh⟩ := hbx
          clear hh
          go_wp2_with fail
          refine hPL.mono ?_
          rintro e x1 ⟨rfl, hx1⟩
          clear hPL c0 c1 c2 c3 c4 c5 c6 hpp
          have hZ := BT hx1 (newB x1 (.cells #[.int .i64 p1, .int .i64 p2] 24))
          have HT19 := Lib.hid (show Two x1.heap.size p1 p2 (x1.alloc (.cells #[.int .i64 p1, .int .i64 p2] 24)) from two_newT x1 p1 p2 24)
          go_upto_region 23 with fail
          generalize x1.heap.size = g19 at HT19 ⊢
          generalize x1.alloc (.cells #[.int .i64 p1, .int .i64 p2] 24) = Y1 at hZ HT19 ⊢
          have hY1 := BT hB2 hZ
          obtain ⟨t0, t1⟩ := HT19.out
          clear hZ hx1 HT19
          obtain ⟨Yc, hYc⟩ : ∃ Yc : World, Yc = Y1 := ⟨_, rfl⟩
          go_cut [155] from 134 to 155 (fun v X => v = .bool false ∧ X = Yc)
          case first =>
            subst hYc
            rcases hpe with rfl | ⟨rfl, h1, h2⟩
            · go_wp2_with fail
              go_meet
              exact ⟨rfl, rfl⟩
            · have n1 : ¬ p < p1 := by omega
              have n2 : ¬ p > p2 := by omega
              clear h1 h2
              go_wp2_with fail
              go_meet
              exact ⟨rfl, rfl⟩
          case rest =>
          obtain ⟨rfl, rfl⟩ := hcut
          subst hYc
          clear t0 t1 hpe
          go_upto_region 26 with fail
          obtain ⟨wi, rfl⟩ : ∃ wi : World, wi = wc := ⟨_, rfl⟩
          have hBi := BT hBw hY1
          go_loopw [158] (fun i wr => ∃ j : Nat, j ≤ ps.length ∧ i = .int .i64 j ∧ Below wi.heap.size wi wr) (fun i _ => ps.length - (intOf i).toNat)
          case atStart => exact ⟨0, by omega, rfl, Below.refl _ _⟩
          case round =>
            obtain ⟨j, hj, rfl, hB3⟩ := hrel
            have hj0 : (0 : Int) ≤ (j : Int) := by omega
            have hBj := BT hBi hB3
            by_cases hjl : j < ps.length
            · skip
              obtain ⟨hbx, hip⟩ := HA.out wr hBj
              have hpp := hip j hjl
              have hpr2 := pla_at HP.out hjl
              obtain ⟨p1, p2, e, qp, hpe⟩ := true_apart HR.out hlt hjl
              have hPL := apart_any k j h xs ss wr hbx.has
              rw [qp] at hPL
              rw [HPX.out] at hpe
              unfold Hd.val at hPL
              clear qp hip
              generalize ps.getD j 0 = y at hpp hpr2 hpe
              have hjI : (j : Int) < (ps.length : Int) := by omega
              obtain ⟨c0, c1, c2, c3, c4, c5, c6, hh⟩ := hbx
              clear hh
              go_wp2_with fail
              refine hPL.mono ?_
              rintro e x1 ⟨rfl, hx1⟩
              clear hPL c0 c1 c2 c3 c4 c5 c6 hpp
              have hZ := BT hx1 (newB x1 (.cells #[.int .i64 p1, .int .i64 p2] 24))
              have HT23 := Lib.hid (show Two x1.heap.size p1 p2 (x1.alloc (.cells #[.int .i64 p1, .int .i64 p2] 24)) from two_newT x1 p1 p2 24)
              go_upto_region 29 with fail
              generalize x1.heap.size = g23 at HT23 ⊢
              generalize x1.alloc (.cells #[.int .i64 p1, .int .i64 p2] 24) = Y1 at hZ HT23 ⊢
              have hYj := BT hB3 hZ
              obtain ⟨t0, t1⟩ := HT23.out
              clear hZ hx1 HT23
              obtain ⟨Yc, hYc⟩ : ∃ Yc : World, Yc = Y1 := ⟨_, rfl⟩
              go_cut [195] from 170 to 195 (fun v X => v = .bool false ∧ X = Yc)
              case first =>
                subst hYc
                rcases hpe with rfl | ⟨rfl, h1, h2⟩
                · go_wp2_with fail
                  go_meet
                  exact ⟨rfl, rfl⟩
                · have n1 : ¬ y - p < p1 := by omega
                  have n2 : ¬ y - p > p2 := by omega
                  clear h1 h2
                  go_wp2_with fail
                  go_meet
                  exact ⟨rfl, rfl⟩
              case rest =>
              obtain ⟨rfl, rfl⟩ := hcut
              subst hYc
              clear t0 t1 hpe
              go_wp2_with fail
              go_roundw
              case rel => exact ⟨j + 1, by omega, by go_num, hYj⟩
              case measure => simp [intOf]; omega
            · obtain rfl : j = ps.length := by omega
              have hfin := BT hY1 hB3
              go_wp2_with fail
              go_roundw
              case rel => exact ⟨k + 1, by omega, by go_num, hfin⟩
              case measure => simp [intOf]; omega
        · obtain rfl : k = ps.length := by omega
          go_wp2_with fail
          refine (alive_any _).mono ?_
          rintro e xe ⟨rfl, hxe⟩
          go_wp2
          go_ret
          exact ⟨rfl, BT (BT HB3.out hBx) hxe⟩
end Go.Proofs.Ytmfbkgdlfackcaa

namespace Go.Proofs.Ytmfbkgdlfackcaa.ScrewTrueRow
open Go.ChangeShapes Go.WideShapes Go.ChangeAt Go.RowKit

theorem own : ownKnob Try.prog.godebug = none := by kernel_rfl
theorem c54 : Try.prog.cellsOf 54 = 1 := by kernel_rfl
theorem maxE : IntKind.u16.max = 65535 := by decide
theorem minE : IntKind.u16.min = 0 := by decide
set_option maxRecDepth 100000 in
/-- A slice of numbers that came in. -/
theorem open_by {H : Type} {enc : TypeId × Value → H} {w : World} {base : Nat} {spare : Nat → Bool} {held : Bool} {r : Reach} {b0 : Nat} {v : Value} {d : DataW H} {p : List MemPlace} (hval : Value.okWide Try.prog w r b0 47 v) (h : DataW.Trod enc Try.prog w base spare held 47 v d p) :
    ∃ (a : Option Addr) (n cap : Nat), v = .slice a n cap ∧ n ≤ 9223372036854775807 ∧ (n = 0 ∨ ∃ yb yo, a = some ⟨yb, yo, none⟩ ∧ yb < w.heap.size ∧ ∀ k, k < n → ∃ u : Int, w.cell? ⟨yb, yo + k, none⟩ = some (.int .u16 u) ∧ 0 ≤ u ∧ u ≤ 65535) := by
  obtain ⟨a0, len, cap, rfl⟩ := okWide_slice Try.underlying47 hval
  obtain ⟨fuel, hf⟩ := h
  refine ⟨a0, len, cap, rfl, ?_⟩
  rcases open_ints Try.underlying47 Try.underlying54 c54 hf with ⟨hcs, hx⟩ | ⟨a, len', cap', zs, hcs, _, hl, hm, hz, hx, hcell, hwz⟩
  · simp [Value.cells] at hcs
    obtain ⟨_, h1, _⟩ := hcs
    exact ⟨by omega, .inl (by omega)⟩
  · simp [Value.cells] at hcs
    obtain ⟨h1, h2, h3⟩ := hcs
    subst h1; subst h2; subst h3
    unfold maxLen at hm
    refine ⟨by omega, ?_⟩
    by_cases h0 : len = 0
    · exact .inl h0
    · right
      have hzl : len ≤ zs.length := by rw [hz]; split <;> omega
      obtain ⟨b, off, e, hc⟩ := ints_at hcell (by omega)
      subst e
      have hb : b < w.heap.size := World.block_lt_of_cell? _ _ (hc 0 (by omega))
      refine ⟨b, off, rfl, hb, fun k hk => ⟨zs.getD k 0, hc k (by omega), ?_⟩⟩
      have hw := hwz (zs.getD k 0) (by rw [List.getD_eq_getElem?_getD, List.getElem?_eq_getElem (show k < zs.length by omega)]; exact List.getElem_mem _)
      simp only [Lit.wf, minE, maxE, Bool.and_eq_true, decide_eq_true_eq] at hw
      exact hw

set_option maxRecDepth 100000 in
theorem lifted (os : Os) (started : os.Started) (H : Type) (enc : TypeId × Value → H) :
    ReturnsInHanded {} Try.checked os 7 .any (Rows.screwTrueSpec.pre6 enc Try.prog Try.f7 Rows.screwTrueRow.domain false) (Rows.screwTrueSpec.post enc Try.prog Try.f7 false true false false) := by
  refine returnsInHanded_of_change (C := Try.checked) own started (by kernel_rfl) Try.func7
    (ChangeSpec.witness6 (enc := enc) (C := Try.checked) false ⟨#[], #[.slice none 0 0], []⟩ 8 (by kernel_rfl) (by kernel_rfl) (by kernel_rfl) (by kernel_rfl)) ?_
  intro W base args ds gs before hval0 hW hcnd _
  have hval : ∀ (j : Nat) t v, Try.f7.params[j]? = some t → args[j]? = some v → Value.okWide Try.prog W .any base t v := hval0
  have hW' := hW
  obtain ⟨p, q, hA0, hV, rfl, hfz, hnd⟩ := hW
  have hA : DataW.TrodAll enc Try.prog W 0 (fun _ => true) true Try.f7.params.toList args.toList ds p := hA0
  rw [Try.params7] at hA hval
  obtain ⟨v0, vs0, d0, ds0, p0, q0, hargs, rfl, rfl, h0, r0⟩ := trodAll_cons hA
  obtain ⟨rfl, rfl, rfl⟩ := trodAll_nil r0
  obtain rfl : args = #[v0] := Array.toList_inj.1 (by simpa using hargs)
  obtain ⟨a, n, cap, rfl, hn, hy⟩ := open_by (hval 0 47 v0 rfl rfl) h0
  obtain ⟨rfl, rfl⟩ := trodVars_none hV
  refine (trueL_any a n cap W hn hy).mono fun e W' ⟨he, hb⟩ => ?_
  subst he
  refine ⟨_, rfl, law_last rfl (by decide +kernel) (fun _ _ _ => trodAll_cons_mk (shut_bool Try.underlying4 _) trodAll_mk0) (ok_one (by kernel_rfl) rfl (okWide_bool_mk Try.underlying4 _)) hW' rfl rfl rfl hb⟩

theorem over : Rows.screwTrueRow.holds Try.pinned (OpenSpec.ofChange Rows.screwTrueSpec) :=
  OpenClaim.holds_of_wide 7 Try.f7 rfl rfl rfl rfl rfl rfl rfl ⟨rfl, rfl, rfl, rfl, rfl⟩ rfl rfl rfl rfl rfl (by kernel_rfl) Try.func7 (by kernel_rfl)
    (of_decide_eq_true (by kernel_rfl)) (by unfold Func.isWrapper; first | (rw [if_pos (by decide +kernel)]; kernel_rfl) | (rw [if_neg (by decide +kernel)]; exact ⟨rfl, rfl⟩))
    (fun os started H enc _ => lifted os started H enc)

theorem screwTrue_holds : Rows.ScrewTrueSaid := over
#print axioms screwTrue_holds
end Go.Proofs.Ytmfbkgdlfackcaa.ScrewTrueRow
