/- Plate: what PlateEnds asks of plates. -/
import Derived.Test.YtdkegkacpdkjgaaPas
import Derived.Test.YtdkegkacpdkjgaaPpp
import Derived.Test.YtdkegkacpdkjgaaPpa
import Derived.Test.YtdkegkacpdkjgaaPis
import Derived.Deep.AppendLies
import Derived.Deep.CutRange
import Derived.Test.YtdkegkacpdkjgaaPcl
import Derived.Test.YtdkegkacpdkjgaaPbt
import Derived.Test.YtdkegkacpdkjgaaPrk
import Derived.Test.YtdkegkacpdkjgaaPfw
import Derived.Test.YtdkegkacpdkjgaaTr
import Derived.Test.YtdkegkacpdkjgaaPsr
namespace Go.Proofs.Ytdkegkacpdkjgaa
open Go.RowKit

def AsNew (p : Pl) (ss : List St) (w : World) (e : Ending) (w' : World) : Prop :=
  ∃ g cap, e = .returned (.agg #[.int .i64 p.lo, .int .i64 p.hi, .slice (some ⟨g, 0, none⟩) p.n cap]) ∧ PlAt ⟨p.lo, p.hi, some ⟨g, 0, none⟩, p.n, cap⟩ ss w' ∧ w.heap.size ≤ g ∧ Below w.heap.size w w'
theorem BoxP.put {X : World} {B D : Nat} {p : Pl} (h : BoxP X B p) (hn : B ≠ D) (o : Nat) (v : Value) : BoxP (X.setCell ⟨D, o, none⟩ v) B p := by
  have e : ∀ k, (⟨D, o, none⟩ : Addr) ≠ ⟨B, k, none⟩ := fun k he => by injection he with h1; exact hn h1.symm
  exact ⟨by rw [World.cell?_setCell_other _ _ _ _ (e 0)]; exact h.c0, by rw [World.cell?_setCell_other _ _ _ _ (e 1)]; exact h.c1, by rw [World.cell?_setCell_other _ _ _ _ (e 2)]; exact h.c2⟩
theorem PlAt.put2 {X : World} {D b o : Nat} {p : Pl} {ss : List St} (h : PlAt p ss X) (ha : p.a = some ⟨b, o, none⟩) (hn : b ≠ D) (o' : Nat) (v : Value) : PlAt p ss (X.setCell ⟨D, o', none⟩ v) :=
  ⟨h.nl, h.big, h.lk.elim .inl fun ⟨b', q, h1, h2, h3⟩ => by
    rw [ha] at h1; injection h1 with h1; injection h1 with h1 h4; subst h1
    exact .inr ⟨b, q, by rw [ha, h4], by rw [World.size_setCell]; exact h2, fun i hi => (h3 i hi).put hn v⟩⟩
theorem slots_new3 (X : World) (a b c : Value) (T : TypeId) : Slots X.heap.size 3 (X.alloc (.cells #[a, b, c] T)) := by
  intro o ho
  have : o = 0 ∨ o = 1 ∨ o = 2 := by omega
  rcases this with rfl | rfl | rfl <;> simp [go_sem]
theorem PlAt.put3 {X : World} {D b o : Nat} {p : Pl} {ss : List St} (h : PlAt p ss X) (ha : p.a = some ⟨b, o, none⟩) (hn : b ≠ D ∨ ss = []) (o' : Nat) (v : Value) : PlAt p ss (X.setCell ⟨D, o', none⟩ v) :=
  hn.elim (fun hn => h.put2 ha hn o' v) fun hn => ⟨h.nl, h.big, .inl hn⟩
theorem pl_eta {p : Pl} {a : Option Addr} (h : p.a = a) : (⟨p.lo, p.hi, a, p.n, p.cap⟩ : Pl) = p := by subst h; rfl
/-- A plate is stored. -/
theorem set_three {X : World} {B : Nat} (h : Slots B 3 X) (p : Pl) :
    BoxP (((X.setCell ⟨B, 0, none⟩ (.int .i64 p.lo)).setCell ⟨B, 1, none⟩ (.int .i64 p.hi)).setCell ⟨B, 2, none⟩ (.slice p.a p.n p.cap)) B p := by
  obtain ⟨u0, q0, -⟩ := h.get 0 (by omega)
  obtain ⟨u1, q1, -⟩ := h.get 1 (by omega)
  obtain ⟨u2, q2, -⟩ := h.get 2 (by omega)
  exact ⟨by simp [go_sem, q0], by simp [go_sem, q1], by simp [go_sem, q2]⟩
set_option maxRecDepth 100000 in
set_option maxHeartbeats 4000000 in
theorem as_new (p : Pl) (ss : List St) (n : Nat) (a b c d : Int) (w : World) (h : PlAt p ss w) (hn : n < ss.length) (hl : p.n ≤ 30) :
    Calls Try.prog 27 #[p.val, .int .i64 n, .agg #[.int .i64 a, .int .i64 b], .agg #[.int .i64 c, .int .i64 d]] w (AsNew p (ss.set n (knowS (ss.getD n default) a b c d)) w) := by
  have hst0 : StarsIn w p.a ss := h.lk
  have hnl := h.nl
  clear h
  unfold Pl.val
  obtain ⟨W0, hW0⟩ : ∃ X, (((w.alloc (.cells #[.int .i64 p.lo, .int .i64 p.hi, .slice p.a p.n p.cap] 29)).alloc (.cells #[.int .i64 a, .int .i64 b] 23)).alloc (.cells #[.int .i64 c, .int .i64 d] 23)).alloc (.cells #[.int .i64 0, .int .i64 0, .slice none 0 0] 29) = X := ⟨_, rfl⟩
  have hB0 : Below w.heap.size w W0 := by rw [← hW0]; exact BA (BA (BA (newB _ _) _) _) _
  have b0 : W0.cell? ⟨w.heap.size, 0, none⟩ = some (.int .i64 p.lo) := by rw [← hW0]; simp [go_sem]
  have b1 : W0.cell? ⟨w.heap.size, 1, none⟩ = some (.int .i64 p.hi) := by rw [← hW0]; simp [go_sem]
  have b2 : W0.cell? ⟨w.heap.size, 2, none⟩ = some (.slice p.a p.n p.cap) := by rw [← hW0]; simp [go_sem]
  have hsp : Slots w.heap.size 3 W0 := by
    rw [← hW0]
    intro o ho
    have : o = 0 ∨ o = 1 ∨ o = 2 := by omega
    rcases this with rfl | rfl | rfl <;> simp [go_sem]
  have e0 : W0.cell? ⟨w.heap.size + 1, 0, none⟩ = some (.int .i64 a) := by rw [← hW0]; simp [go_sem]
  have e1 : W0.cell? ⟨w.heap.size + 1, 1, none⟩ = some (.int .i64 b) := by rw [← hW0]; simp [go_sem]
  have f0 : W0.cell? ⟨w.heap.size + 1 + 1, 0, none⟩ = some (.int .i64 c) := by rw [← hW0]; simp [go_sem]
  have f1 : W0.cell? ⟨w.heap.size + 1 + 1, 1, none⟩ = some (.int .i64 d) := by rw [← hW0]; simp [go_sem]
  have hs : Slots (w.heap.size + 1 + 1 + 1) 3 W0 := by
    rw [← hW0]
    intro o ho
    have : o = 0 ∨ o = 1 ∨ o = 2 := by omega
    rcases this with rfl | rfl | rfl <;> simp [go_sem]
  have hsz : w.heap.size + 1 + 1 + 1 < W0.heap.size := by rw [← hW0]; simp
  have hst := hst0.below hB0
  obtain ⟨XE, hXE⟩ : ∃ X, W0.alloc (.cells #[] 55) = X := ⟨_, rfl⟩
  have hr0 : XE.ownsRow W0.heap.size 55 9 (.slice (some ⟨W0.heap.size, 0, none⟩) 0 0) 0 [] := by rw [← hXE]; exact World.ownsRow_lit (base := W0.heap.size) (e := 55) (size := 9) W0 #[] 0 (Nat.le_refl _) (by unfold maxLen; omega) (by rfl)
  have hE : Below W0.heap.size W0 XE := by rw [← hXE]; exact newB _ _
  have hst1 := hst.below hE
  have b2' := cellB b2 hE
  go_enter Try.func27, Try.ntmps27
  go_wp2_with (at_builtin; refine wpList_append_stars rfl (.tmp 9) (.tmp 11) rfl W0.heap.size (.slice (some ⟨W0.heap.size, 0, none⟩) 0 0) (by rfl) hr0 p.a p.n p.cap ss (by rfl) hst1 hnl (by omega) hE.size ?_)
  intro v' w' hr hg
  have hB1 : Below W0.heap.size W0 w' := hE.grown hg hE.size (fun k e => by simp [Value.ownBlock] at e; omega)
  clear hg hr0 hst1 hXE hE b2' hst
  obtain ⟨g, cap, rfl⟩ : ∃ g cap, v' = .slice (some ⟨g, 0, none⟩) p.n cap := by
    rcases hr.2 with ⟨h1, h2⟩ | ⟨g, cap, cur, h1, _⟩
    · omega
    · exact ⟨g, cap, h1⟩
  have hgl := hr.lt g rfl
  have b0 := cellB b0 hB1
  have b1 := cellB b1 hB1
  have b2 := cellB b2 hB1
  have e0 := cellB e0 hB1
  have e1 := cellB e1 hB1
  have f0 := cellB f0 hB1
  have f1 := cellB f1 hB1
  have hs := hs.below hB1 hsz
  have hsp := hsp.below hB1 (by omega)
  obtain ⟨_, _, z2⟩ := hsp.get 2 (by omega)
  have hB2 := BT hB0 hB1
  obtain ⟨X1, hX1⟩ : ∃ X, w'.setCell ⟨w.heap.size, 2, none⟩ (.slice (some ⟨g, 0, none⟩) p.n cap) = X := ⟨_, rfl⟩
  have hr := ownsRow_setCell_below hr (a := ⟨w.heap.size, 2, none⟩) (by show w.heap.size < W0.heap.size; omega) (.slice (some ⟨g, 0, none⟩) p.n cap)
  have c0 : X1.cell? ⟨w.heap.size, 0, none⟩ = some (.int .i64 p.lo) := by rw [← hX1]; simp [go_sem, b0]
  have c1 : X1.cell? ⟨w.heap.size, 1, none⟩ = some (.int .i64 p.hi) := by rw [← hX1]; simp [go_sem, b1]
  have c2 : X1.cell? ⟨w.heap.size, 2, none⟩ = some (.slice (some ⟨g, 0, none⟩) p.n cap) := by rw [← hX1]; exact World.cell?_setCell_same _ _ _ b2
  have e0 : X1.cell? ⟨w.heap.size + 1, 0, none⟩ = some (.int .i64 a) := by rw [← hX1]; simp [go_sem, e0]
  have e1 : X1.cell? ⟨w.heap.size + 1, 1, none⟩ = some (.int .i64 b) := by rw [← hX1]; simp [go_sem, e1]
  have f0 : X1.cell? ⟨w.heap.size + 1 + 1, 0, none⟩ = some (.int .i64 c) := by rw [← hX1]; simp [go_sem, f0]
  have f1 : X1.cell? ⟨w.heap.size + 1 + 1, 1, none⟩ = some (.int .i64 d) := by rw [← hX1]; simp [go_sem, f1]
  have hs : Slots (w.heap.size + 1 + 1 + 1) 3 X1 := by rw [← hX1]; exact hs.set _ _
  have hB3 : Below w.heap.size w X1 := by rw [← hX1]; exact BC hB2 w.heap.size 2 (Nat.le_refl _) _
  rw [hX1] at hr
  have hn0 : (0 : Int) ≤ (n : Int) := by omega
  have hki : (n : Int) < (p.n : Int) := by omega
  go_wp2_with fail
  clear hX1 hB1 hB2 b0 b1 b2 hsp z2
  have hI : Hid (∀ Y, Below W0.heap.size X1 Y → Y.cell? ⟨w.heap.size, 2, none⟩ = some (.slice (some ⟨g, 0, none⟩) p.n cap) ∧ Y.cell? ⟨w.heap.size + 1, 0, none⟩ = some (.int .i64 a) ∧ Y.cell? ⟨w.heap.size + 1, 1, none⟩ = some (.int .i64 b) ∧ Y.cell? ⟨w.heap.size + 1 + 1, 0, none⟩ = some (.int .i64 c) ∧ Y.cell? ⟨w.heap.size + 1 + 1, 1, none⟩ = some (.int .i64 d)) := fun Y hY => ⟨(hY.cell (p := ⟨_, _, none⟩) (by show w.heap.size < _; omega)).trans c2, (hY.cell (p := ⟨_, _, none⟩) (by show w.heap.size + 1 < _; omega)).trans e0, (hY.cell (p := ⟨_, _, none⟩) (by show w.heap.size + 1 < _; omega)).trans e1, (hY.cell (p := ⟨_, _, none⟩) (by show w.heap.size + 1 + 1 < _; omega)).trans f0, (hY.cell (p := ⟨_, _, none⟩) (by show w.heap.size + 1 + 1 < _; omega)).trans f1⟩
  have hbD : Below W0.heap.size X1 X1.drew := Below.drew (Below.refl _ X1)
  have hr := hr.drew
  have hxl : (ss.flatMap starC).length = p.n * 9 := by rw [flat_len9, hnl]
  refine wp_region_seq [(0, true), (1, true), (2, true), (3, true), (4, true), (5, true), (6, true), (7, true), (8, true), (9, true), (10, true), (11, true), (12, true), (13, false), (14, true), (15, true), (16, false), (17, true), (18, true), (19, false)] (fun Y => Y.cell? ⟨w.heap.size, 2, none⟩ = some (.slice (some ⟨g, 0, none⟩) p.n cap) ∧ Y.cell? ⟨w.heap.size + 1, 0, none⟩ = some (.int .i64 a) ∧ Y.cell? ⟨w.heap.size + 1, 1, none⟩ = some (.int .i64 b) ∧ Y.cell? ⟨w.heap.size + 1 + 1, 0, none⟩ = some (.int .i64 c) ∧ Y.cell? ⟨w.heap.size + 1 + 1, 1, none⟩ = some (.int .i64 d)) (by kernel_rfl) (by kernel_rfl) (fun _ _ d _ _ h => by cases d <;> exact h) (hI.out _ hbD) ?_
  generalize X1.drew = Y0 at *
  repeat (first | (refine seq_read rfl (by rfl) _ (fun w' hS => by (try dsimp only at hS); go_simp; (try with_reducible rfl)) ?_; (try simp only [Act.put, List.setIfInBounds_toArray, List.set_cons_zero, List.set_cons_succ])) | (refine seq_skip rfl (by rfl) ?_; (try simp only [Act.put, List.setIfInBounds_toArray, List.set_cons_zero, List.set_cons_succ])))
  refine seq_do rfl (by rfl) (fun K hK => ?_)
  obtain ⟨x4, q4⟩ := row_cell hr (n * 9 + 4) (by omega) hxl
  have z4 := hr.frozenAt (n * 9 + 4)
  have hr1 := (hr.stored (n * 9 + 4) (.bool true)).1
  have hb1 := hbD.setCell (p := ⟨g, n * 9 + 4, none⟩) hgl.1 (.bool true)
  go_simp
  refine hK _ _ (hI.out _ hb1) ?_
  clear hK K q4 z4 hr hbD
  generalize Y0.setCell ⟨g, n * 9 + 4, none⟩ (.bool true) = Y1 at *
  (try simp only [Act.put, List.setIfInBounds_toArray, List.set_cons_zero, List.set_cons_succ])
  repeat (first | (refine seq_read rfl (by rfl) _ (fun w' hS => by (try dsimp only at hS); go_simp; (try with_reducible rfl)) ?_; (try simp only [Act.put, List.setIfInBounds_toArray, List.set_cons_zero, List.set_cons_succ])) | (refine seq_skip rfl (by rfl) ?_; (try simp only [Act.put, List.setIfInBounds_toArray, List.set_cons_zero, List.set_cons_succ])))
  refine seq_do rfl (by rfl) (fun K hK => ?_)
  obtain ⟨x5, q5⟩ := row_cell hr1 (n * 9 + 5) (by omega) (by simpa using hxl)
  obtain ⟨x6, q6⟩ := row_cell hr1 (n * 9 + 5 + 1) (by omega) (by simpa using hxl)
  have z5 := hr1.frozenAt (n * 9 + 5)
  have z6 := hr1.frozenAt (n * 9 + 5 + 1)
  have hr2 := ((hr1.stored (n * 9 + 5) (.int .i64 a)).1.stored (n * 9 + 5 + 1) (.int .i64 b)).1
  have hb2 := (hb1.setCell (p := ⟨g, n * 9 + 5, none⟩) hgl.1 (.int .i64 a)).setCell (p := ⟨g, n * 9 + 5 + 1, none⟩) hgl.1 (.int .i64 b)
  go_simp
  refine hK _ _ (hI.out _ hb2) ?_
  clear hK K q5 z5 q6 z6 hr1 hb1
  generalize (Y1.setCell ⟨g, n * 9 + 5, none⟩ (.int .i64 a)).setCell ⟨g, n * 9 + 5 + 1, none⟩ (.int .i64 b) = Y2 at *
  (try simp only [Act.put, List.setIfInBounds_toArray, List.set_cons_zero, List.set_cons_succ])
  repeat (first | (refine seq_read rfl (by rfl) _ (fun w' hS => by (try dsimp only at hS); go_simp; (try with_reducible rfl)) ?_; (try simp only [Act.put, List.setIfInBounds_toArray, List.set_cons_zero, List.set_cons_succ])) | (refine seq_skip rfl (by rfl) ?_; (try simp only [Act.put, List.setIfInBounds_toArray, List.set_cons_zero, List.set_cons_succ])))
  refine seq_last rfl (by rfl) (by kernel_rfl) (fun K hK => ?_)
  obtain ⟨x7, q7⟩ := row_cell hr2 (n * 9 + 7) (by omega) (by simpa using hxl)
  obtain ⟨x8, q8⟩ := row_cell hr2 (n * 9 + 7 + 1) (by omega) (by simpa using hxl)
  have z7 := hr2.frozenAt (n * 9 + 7)
  have z8 := hr2.frozenAt (n * 9 + 7 + 1)
  have hr3 := ((hr2.stored (n * 9 + 7) (.int .i64 c)).1.stored (n * 9 + 7 + 1) (.int .i64 d)).1
  have hb3 := (hb2.setCell (p := ⟨g, n * 9 + 7, none⟩) hgl.1 (.int .i64 c)).setCell (p := ⟨g, n * 9 + 7 + 1, none⟩) hgl.1 (.int .i64 d)
  go_simp
  refine hK _ _ ?_
  clear hK K q7 z7 q8 z8 hr2 hb2
  first | show Exit.inBlock _ _ Exit.normal _ _ | show Exit.then _ _ Exit.normal _ _ | skip
  generalize (Y2.setCell ⟨g, n * 9 + 7, none⟩ (.int .i64 c)).setCell ⟨g, n * 9 + 7 + 1, none⟩ (.int .i64 d) = Y3 at *
  have hgx : W0.heap.size ≤ g := hgl.1
  have k0 := (hb3.cell (p := ⟨w.heap.size, 0, none⟩) (by show w.heap.size < _; omega)).trans c0
  have k1 := (hb3.cell (p := ⟨w.heap.size, 1, none⟩) (by show w.heap.size < _; omega)).trans c1
  have k2 := (hb3.cell (p := ⟨w.heap.size, 2, none⟩) (by show w.heap.size < _; omega)).trans c2
  have hs := hs.below hb3 hsz
  obtain ⟨x0, q0, z0⟩ := hs.get 0 (by omega)
  obtain ⟨x1, q1, z1⟩ := hs.get 1 (by omega)
  obtain ⟨x2, q2, z2⟩ := hs.get 2 (by omega)
  have hgl3 := (hr3.lt g rfl).2
  have hS3 : StarsIn Y3 (some ⟨g, 0, none⟩) (ss.set n (knowS (ss.getD n default) a b c d)) := by
    rw [← hnl] at hr3
    exact know_row hn hgl3 hr3
  have hB4 : Below w.heap.size w Y3 := hB3.trans (hb3.mono (by omega))
  clear hb3 hr3 hI hst0 hs
  have hpl : PlAt ⟨p.lo, p.hi, some ⟨g, 0, none⟩, p.n, cap⟩ (ss.set n (knowS (ss.getD n default) a b c d)) Y3 := ⟨by rw [List.length_set]; exact hnl, by show p.n ≤ 1000000000; omega, hS3⟩
  have hne : g ≠ w.heap.size + 1 + 1 + 1 := by omega
  have hp1 := ((hpl.put rfl hne (o := 0) (.int .i64 p.lo)).put rfl hne (o := 1) (.int .i64 p.hi)).put rfl hne (o := 2) (.slice (some ⟨g, 0, none⟩) p.n cap)
  have hfin := (BC (BC (BC hB4 (w.heap.size + 1 + 1 + 1) 0 (by omega) (.int .i64 p.lo)) (w.heap.size + 1 + 1 + 1) 1 (by omega) (.int .i64 p.hi)) (w.heap.size + 1 + 1 + 1) 2 (by omega) (.slice (some ⟨g, 0, none⟩) p.n cap))
  have hgg := hgl.1
  clear hpl hS3 hB4 hB3 hB0
  go_wp2_with fail
  exact bodyPost_ret (v := .agg #[.int .i64 p.lo, .int .i64 p.hi, .slice (some ⟨g, 0, none⟩) p.n cap]) (by simp [results, Try.results27, go_sem, q0, q1, q2]) rfl ⟨g, cap, rfl, hp1, by omega, hfin⟩
end Go.Proofs.Ytdkegkacpdkjgaa

namespace Go.Proofs.Ytdkegkacpdkjgaa
open Go.RowKit Go.Maps

/-- Two plates in variables. -/
structure Mv2 (Y : World) (B G : Nat) (p px : Pl) (ss xs : List St) : Prop where
  bp : BoxP Y B p
  bx : BoxP Y G px
  mp : PlAt p ss Y
  mx : PlAt px xs Y
theorem Mv2.grown {Y Y' : World} {B G : Nat} {p px : Pl} {ss xs : List St} (h : Mv2 Y B G p px ss xs) (hb : Below Y.heap.size Y Y') : Mv2 Y' B G p px ss xs :=
  ⟨h.bp.grown hb, h.bx.grown hb, h.mp.below hb (Nat.le_refl _), h.mx.below hb (Nat.le_refl _)⟩
theorem BoxP.under {X X' : World} {B M : Nat} {p : Pl} (k : BoxP X B p) (hb : Below M X X') (hB : B < M) : BoxP X' B p :=
  ⟨(hb.cell (p := ⟨B, 0, none⟩) hB).trans k.c0, (hb.cell (p := ⟨B, 1, none⟩) hB).trans k.c1, (hb.cell (p := ⟨B, 2, none⟩) hB).trans k.c2⟩
theorem Worst.put {X : World} {P B : Nat} {s x : Int} (h : Worst X P s x) (hn : P ≠ B) (o : Nat) (v : Value) : Worst (X.setCell ⟨B, o, none⟩ v) P s x := by
  obtain ⟨c0, c1, f0, f1⟩ := h
  have e : ∀ k, (⟨B, o, none⟩ : Addr) ≠ ⟨P, k, none⟩ := fun k he => by injection he with h1; exact hn h1.symm
  exact ⟨by rw [World.cell?_setCell_other _ _ _ _ (e 0)]; exact c0, by rw [World.cell?_setCell_other _ _ _ _ (e 1)]; exact c1, by simpa using f0, by simpa using f1⟩
/-- Two spans are stored. -/
theorem set_two {X : World} {C D : Nat} {a b c d : Int} (hC : Worst X C a b) (hD : Worst X D c d) (hne : C ≠ D) (a' b' c' d' : Int) {Z : World}
    (hZ : (((X.setCell ⟨C, 0, none⟩ (.int .i64 a')).setCell ⟨C, 1, none⟩ (.int .i64 b')).setCell ⟨D, 0, none⟩ (.int .i64 c')).setCell ⟨D, 1, none⟩ (.int .i64 d') = Z) :
    Worst Z C a' b' ∧ Worst Z D c' d' ∧ (∀ P s x, Worst X P s x → P ≠ C → P ≠ D → Worst Z P s x) ∧ (∀ (M : Nat) (X0 : World), M ≤ C → M ≤ D → Below M X0 X → Below M X0 Z) := by
  subst hZ
  refine ⟨((hC.set a' b').put hne 0 _).put hne 1 _, (((hD.put hne.symm 0 _).put hne.symm 1 _)).set c' d', fun P s x h h1 h2 => (((h.put h1 0 _).put h1 1 _).put h2 0 _).put h2 1 _, fun M X0 h1 h2 h => ?_⟩
  exact (((h.setCell (p := ⟨C, 0, none⟩) h1 _).setCell (p := ⟨C, 1, none⟩) h1 _).setCell (p := ⟨D, 0, none⟩) h2 _).setCell (p := ⟨D, 1, none⟩) h2 _
/-- Where something lies that a walk asks for. -/
theorem Worst.cells {X : World} {P : Nat} {s x : Int} (h : Worst X P s x) : X.cell? ⟨P, 0, none⟩ = some (.int .i64 s) ∧ X.cell? ⟨P, 1, none⟩ = some (.int .i64 x) := ⟨h.c0, h.c1⟩
end Go.Proofs.Ytdkegkacpdkjgaa

namespace Go.Proofs.Ytdkegkacpdkjgaa
open Go.RowKit

/-- One block alone has changed. -/
structure BX (B : Nat) (w w' : World) : Prop where
  os : w'.os = w.os
  tape : w'.tape = w.tape
  output : w'.output = w.output
  size : w.heap.size ≤ w'.heap.size
  block : ∀ k, k < w.heap.size → k ≠ B → w'.heap[k]? = w.heap[k]?
theorem BX.refl (B : Nat) (w : World) : BX B w w := ⟨rfl, rfl, rfl, Nat.le_refl _, fun _ _ _ => rfl⟩
theorem BX.set (B o : Nat) (w : World) (v : Value) : BX B w (w.setCell ⟨B, o, none⟩ v) := ⟨rfl, rfl, rfl, by simp, fun k _ hn => Below.heap_setCell _ _ _ _ hn⟩
theorem BX.drew (B : Nat) (w : World) : BX B w w.drew := ⟨rfl, rfl, rfl, Nat.le_refl _, fun _ _ _ => rfl⟩
theorem BX.trans {B : Nat} {u v w : World} (h : BX B u v) (k : BX B v w) : BX B u w :=
  ⟨k.os.trans h.os, k.tape.trans h.tape, k.output.trans h.output, Nat.le_trans h.size k.size, fun i hi hn => (k.block i (Nat.lt_of_lt_of_le hi h.size) hn).trans (h.block i hi hn)⟩
theorem BX.then {B : Nat} {w X X' : World} (h : BX B w X) (hb : Below X.heap.size X X') : BX B w X' :=
  h.trans ⟨hb.os, hb.tape, hb.output, hb.size, fun i hi _ => hb.block i hi⟩
theorem BX.by {B : Nat} {w w' : World} (h : BX B w w') : w.grownBy w' (some B) := ⟨h.os, h.tape, h.output, h.size, fun k hk hn => h.block k hk (by simpa using hn)⟩
theorem BX.keep {B : Nat} {w w' : World} (h : BX B w w') {b o : Nat} {v : Value} (hn : b ≠ B) (hc : w.cell? ⟨b, o, none⟩ = some v) : w'.cell? ⟨b, o, none⟩ = some v :=
  (World.cell?_of_block (a := ⟨b, o, none⟩) (h.block b (World.block_lt_of_cell? _ _ hc) hn)).trans hc
theorem BX.slots {B n b : Nat} {w w' : World} (h : BX B w w') (hn : b ≠ B) (hs : Slots b n w) : Slots b n w' := fun o ho => by
  obtain ⟨v, hv, hf⟩ := hs.get o ho
  have hb := h.block b (World.block_lt_of_cell? _ _ hv) hn
  rw [World.cell?_of_block (a := ⟨b, o, none⟩) hb, World.frozen?_of_block (a := ⟨b, o, none⟩) hb]; exact hs o ho
theorem grownBy_set (X : World) (g o : Nat) (v : Value) : X.grownBy (X.setCell ⟨g, o, none⟩ v) (some g) := (BX.set g o X v).by

/-- The drawing of numbers stands so. -/
structure DS (X : World) (gA gY c yb yo yn yc : Nat) : Prop where
  ca : X.cell? ⟨gA, 0, none⟩ = some (.int .i64 c)
  sa : Slots gA 1 X
  cy : X.cell? ⟨gY, 0, none⟩ = some (.slice (some ⟨yb, yo, none⟩) yn yc)
  el : ∀ k, k < yn → ∃ v : Int, X.cell? ⟨yb, yo + k, none⟩ = some (.int .u16 v) ∧ 0 ≤ v ∧ v ≤ 65535
structure DOk (gA gY yb yn : Nat) : Prop where
  n1 : gA ≠ gY
  n2 : yb ≠ gA
  p1 : 1 ≤ yn
  p2 : yn ≤ 9223372036854775807
theorem DS.below {X X' : World} {gA gY c yb yo yn yc : Nat} (k : DS X gA gY c yb yo yn yc) (hb : Below X.heap.size X X') : DS X' gA gY c yb yo yn yc :=
  ⟨cellB k.ca hb, k.sa.below hb (World.block_lt_of_cell? _ _ k.ca), cellB k.cy hb, fun j hj => by obtain ⟨v, hv, h⟩ := k.el j hj; exact ⟨v, cellB hv hb, h⟩⟩
theorem DS.bx {X X' : World} {B gA gY c yb yo yn yc : Nat} (k : DS X gA gY c yb yo yn yc) (hx : BX B X X') (h1 : gA ≠ B) (h2 : gY ≠ B) (h3 : yb ≠ B) : DS X' gA gY c yb yo yn yc :=
  ⟨hx.keep h1 k.ca, hx.slots h1 k.sa, hx.keep h2 k.cy, fun j hj => by obtain ⟨v, hv, h⟩ := k.el j hj; exact ⟨v, hx.keep h3 hv, h⟩⟩
def DrawR (w : World) (gA gY c yb yo yn yc : Nat) (m : Int) (e : Ending) (w' : World) : Prop :=
  ∃ d : Int, e = .returned (.int .i64 d) ∧ (0 ≤ d ∧ d < m) ∧ BX gA w w' ∧ DS w' gA gY (c + 1) yb yo yn yc
set_option maxRecDepth 100000 in
set_option maxHeartbeats 4000000 in
theorem draw_any (gA gY c yb yo yn yc : Nat) (m : Int) (w : World) (ok : DOk gA gY yb yn) (hd : DS w gA gY c yb yo yn yc) (hc : c ≤ 1000) (hm : 1 ≤ m ∧ m ≤ 1000000) :
    Calls Try.prog 57 #[.int .i64 m, .pointer (some ⟨gA, 0, none⟩), .pointer (some ⟨gY, 0, none⟩)] w (DrawR w gA gY c yb yo yn yc m) := by
  obtain ⟨hne, hnb, hy, hyn⟩ := ok
  obtain ⟨u0, p0, f0⟩ := hd.sa.get 0 (by omega)
  have hca := hd.ca
  obtain ⟨j, hj⟩ : ∃ j : Nat, (c + 1) % yn = j := ⟨_, rfl⟩
  have hjn : j < yn := by rw [← hj]; exact Nat.mod_lt _ (by omega)
  obtain ⟨v, hv, v0, v1⟩ := hd.el j hjn
  have hx0 : (w.setCell ⟨gA, 0, none⟩ (.int .i64 ((c : Int) + 1))).cell? ⟨gA, 0, none⟩ = some (.int .i64 ((c : Int) + 1)) := World.cell?_setCell_same _ _ _ hca
  have hx1 : (w.setCell ⟨gA, 0, none⟩ (.int .i64 ((c : Int) + 1))).cell? ⟨gY, 0, none⟩ = some (.slice (some ⟨yb, yo, none⟩) yn yc) := by
    rw [World.cell?_setCell_other _ _ _ _ (by intro he; injection he; omega)]; exact hd.cy
  have hx2 : (w.setCell ⟨gA, 0, none⟩ (.int .i64 ((c : Int) + 1))).cell? ⟨yb, yo + j, none⟩ = some (.int .u16 v) := by
    rw [World.cell?_setCell_other _ _ _ _ (by intro he; injection he; omega)]; exact hv
  have e1 : Int.tmod ((c : Int) + 1) (yn : Int) = (j : Int) := by
    have e : (c : Int) + 1 = ((c + 1 : Nat) : Int) := by omega
    rw [e, ← Int.ofNat_tmod, hj]
  have e2 : IntKind.i64.wrap (31 * ((c : Int) + 1)) = 31 * ((c : Int) + 1) := IntWalk.i64_in _ (by omega)
  have e3 : IntKind.i64.wrap v = v := IntWalk.i64_in _ (by omega)
  have e4 : IntKind.i64.wrap (v + 31 * ((c : Int) + 1)) = v + 31 * ((c : Int) + 1) := IntWalk.i64_in _ (by omega)
  have hnn : 0 ≤ v + 31 * ((c : Int) + 1) := by omega
  have e5 : Int.tmod (v + 31 * ((c : Int) + 1)) m = (v + 31 * ((c : Int) + 1)) % m := Int.tmod_eq_emod_of_nonneg hnn
  have hd0 : 0 ≤ (v + 31 * ((c : Int) + 1)) % m := Int.emod_nonneg _ (by omega)
  have hd1 : (v + 31 * ((c : Int) + 1)) % m < m := Int.emod_lt_of_pos _ (by omega)
  have hyn0 : ¬ (yn : Int) = 0 := by omega
  have hm0 : ¬ m = 0 := by omega
  have hyn1 : ¬ yn = 0 := by omega
  have hj0 : (0 : Int) ≤ (j : Int) := by omega
  have hjI : (j : Int) < (yn : Int) := by omega
  have hc1 : ((c : Int) + 1) ≤ 1001 := by omega
  have hfin : Hid (DS (w.setCell ⟨gA, 0, none⟩ (.int .i64 ((c : Int) + 1))).drew gA gY (c + 1) yb yo yn yc) := by
    refine ⟨?_, (hd.sa.set _ _).drew, hx1, fun i hi => ?_⟩
    · have e : ((c + 1 : Nat) : Int) = (c : Int) + 1 := by omega
      rw [e]; exact hx0
    · obtain ⟨v, hv, h⟩ := hd.el i hi
      exact ⟨v, (BX.set gA 0 w _).keep hnb hv, h⟩
  have E := Lib.hid (And.intro e1 (And.intro e2 (And.intro e3 (And.intro e4 e5))))
  clear hd hj e1 e2 e3 e4 e5 p0 hv
  go_enter Try.func57, Try.ntmps57
  go_upto_region 2 with fail
  refine wp_region_seq [(0, true), (1, true), (2, true), (3, true), (4, true), (5, true), (6, true), (7, true), (8, true), (9, true), (10, true), (11, true), (12, true), (13, true)] (fun w' => w'.cell? ⟨gA, 0, none⟩ = some (.int .i64 ((c : Int) + 1)) ∧ w'.cell? ⟨gY, 0, none⟩ = some (.slice (some ⟨yb, yo, none⟩) yn yc) ∧ w'.cell? ⟨yb, yo + j, none⟩ = some (.int .u16 v)) (by kernel_rfl) (by kernel_rfl) (fun _ _ d _ _ h => by cases d <;> exact h) ⟨hx0, hx1, hx2⟩ ?_
  obtain ⟨e1, e2, e3, e4, e5⟩ := E.out
  repeat (first | (refine seq_read rfl (by rfl) _ (fun w' hS => by (try dsimp only at hS); go_simp; (try with_reducible rfl)) ?_; (try simp only [Act.put, List.setIfInBounds_toArray, List.set_cons_zero, List.set_cons_succ])) | (refine seq_skip rfl (by rfl) ?_; (try simp only [Act.put, List.setIfInBounds_toArray, List.set_cons_zero, List.set_cons_succ])))
  refine seq_end ?_
  generalize (v + 31 * ((c : Int) + 1)) % m = d at *
  show Exit.then _ _ Exit.normal _ _
  go_wp2
  go_ret
  exact ⟨d, rfl, ⟨hd0, hd1⟩, (BX.set gA 0 w _).trans (BX.drew _ _), hfin.out⟩
def DrawsR (w : World) (yb yo yn yc : Nat) (e : Ending) (w' : World) : Prop :=
  ∃ gA gY : Nat, e = .returned (.func (.func 57) #[] #[.pointer (some ⟨gA, 0, none⟩), .pointer (some ⟨gY, 0, none⟩)]) ∧ Below w.heap.size w w' ∧ DS w' gA gY 0 yb yo yn yc ∧
    (w.heap.size ≤ gA ∧ gA < w'.heap.size) ∧ (w.heap.size ≤ gY ∧ gY < w'.heap.size) ∧ gA ≠ gY
set_option maxRecDepth 100000 in
theorem draws_any (yb yo yn yc : Nat) (w : World) (hb : yb < w.heap.size) (hel : ∀ k, k < yn → ∃ v : Int, w.cell? ⟨yb, yo + k, none⟩ = some (.int .u16 v) ∧ 0 ≤ v ∧ v ≤ 65535) :
    Calls Try.prog 19 #[.slice (some ⟨yb, yo, none⟩) yn yc] w (DrawsR w yb yo yn yc) := by
  have hmf : ∀ (fn : Fn) (first cap : Array Value) (w : World), (Instr.makeFunc fn first cap).run Try.prog w = .ok (.func fn first cap) w := fun _ _ _ _ => rfl
  have hB : Below w.heap.size w ((w.alloc (.cells #[.slice (some ⟨yb, yo, none⟩) yn yc] 37)).alloc (.cells #[.int .i64 0] 3)) := BA (newB _ _) _
  have hD : Hid (DS ((w.alloc (.cells #[.slice (some ⟨yb, yo, none⟩) yn yc] 37)).alloc (.cells #[.int .i64 0] 3)) (w.heap.size + 1) w.heap.size 0 yb yo yn yc) := by
    refine ⟨by simp [go_sem], ?_, by simp [go_sem], fun k hk => ?_⟩
    · intro o ho
      obtain rfl : o = 0 := by omega
      simp [go_sem]
    · obtain ⟨v, hv, h1⟩ := hel k hk
      exact ⟨v, (hB.cell (p := ⟨yb, yo + k, none⟩) hb).trans hv, h1⟩
  go_enter Try.func19, Try.ntmps19
  go_wp2
  go_ret
  exact ⟨w.heap.size + 1, w.heap.size, rfl, hB, hD.out, ⟨by omega, by simp⟩, ⟨by omega, by simp; omega⟩, by omega⟩
/-- The call through the variable that holds the drawing. -/
abbrev drawV (gA gY : Nat) : Value := .func (.func 57) #[] #[.pointer (some ⟨gA, 0, none⟩), .pointer (some ⟨gY, 0, none⟩)]
def AroundR (n wd : Int) (w : World) (gA gY c yb yo yn yc : Nat) (e : Ending) (w' : World) : Prop :=
  ∃ a b : Int, e = .returned (.agg #[.int .i64 a, .int .i64 b]) ∧ ((0 ≤ a ∧ a ≤ n) ∧ n ≤ b ∧ b < n + wd) ∧ BX gA w w' ∧ DS w' gA gY (c + 2) yb yo yn yc
set_option maxRecDepth 100000 in
set_option maxHeartbeats 4000000 in
theorem around_any (F gA gY c yb yo yn yc : Nat) (n : Int) (w : World) (ok : DOk gA gY yb yn) (hF : w.cell? ⟨F, 0, none⟩ = some (.func (.func 57) #[] #[.pointer (some ⟨gA, 0, none⟩), .pointer (some ⟨gY, 0, none⟩)])) (hFA : F ≠ gA) (hd : DS w gA gY c yb yo yn yc) (hc : c ≤ 998) (hn : 0 ≤ n ∧ n ≤ 30000) :
    Calls Try.prog 56 #[.int .i64 n, .int .i64 8, .pointer (some ⟨F, 0, none⟩)] w (AroundR n 8 w gA gY c yb yo yn yc) := by
  have hOK := Lib.hid ok
  obtain ⟨w0, hw0⟩ : ∃ X, w.alloc (.cells #[.int .i64 0, .int .i64 0] 23) = X := ⟨_, rfl⟩
  have hb0 : Below w.heap.size w w0 := by rw [← hw0]; exact newB _ _
  have hsl : Slots w.heap.size 2 w0 := by
    rw [← hw0]; intro o ho
    have : o = 0 ∨ o = 1 := by omega
    rcases this with rfl | rfl <;> simp [go_sem]
  have hlt : w.heap.size < w0.heap.size := by rw [← hw0]; simp
  have hAl : gA < w.heap.size := World.block_lt_of_cell? _ _ hd.ca
  have hYW : gY < w.heap.size := World.block_lt_of_cell? _ _ hd.cy
  have hBW : yb < w.heap.size := by
    obtain ⟨v, hv, _⟩ := hd.el 0 (by have := ok.p1; omega)
    exact World.block_lt_of_cell? _ _ hv
  have hF0 := cellB hF hb0
  have hd0 := hd.below hb0
  have hI : Hid (∀ Y, BX gA w0 Y → Y.cell? ⟨F, 0, none⟩ = some (.func (.func 57) #[] #[.pointer (some ⟨gA, 0, none⟩), .pointer (some ⟨gY, 0, none⟩)])) := fun Y hY => hY.keep hFA hF0
  clear hF hd hF0
  go_enter Try.func56, Try.ntmps56
  go_upto_region 1 with fail
  have hx0 := BX.drew gA w0
  have hd1 := hd0.below (Below.drew (Below.refl _ w0))
  have hw0' := Lib.hid hw0
  clear hw0 hd0
  refine wp_region_seq [(0, true), (1, true), (2, true), (6, true), (7, true), (8, true), (3, false), (4, true), (5, true), (9, false), (10, true), (11, false), (12, false)] (fun Y => Y.cell? ⟨F, 0, none⟩ = some (.func (.func 57) #[] #[.pointer (some ⟨gA, 0, none⟩), .pointer (some ⟨gY, 0, none⟩)])) (by kernel_rfl) (by kernel_rfl) (fun _ _ d _ _ h => by cases d <;> exact h) (hI.out _ hx0) ?_
  generalize w0.drew = Y0 at *
  repeat (first | (refine seq_read rfl (by rfl) _ (fun w' hS => by (try dsimp only at hS); go_simp; (try with_reducible rfl)) ?_; (try simp only [Act.put, List.setIfInBounds_toArray, List.set_cons_zero, List.set_cons_succ])) | (refine seq_skip rfl (by rfl) ?_; (try simp only [Act.put, List.setIfInBounds_toArray, List.set_cons_zero, List.set_cons_succ])))
  refine seq_do rfl (by rfl) (fun K hK => ?_)
  go_simp
  refine (draw_any gA gY c yb yo yn yc 8 Y0 hOK.out hd1 (by omega) (by omega)).mono ?_
  rintro e Y1 ⟨d, rfl, ⟨q0, q1⟩, hx1, hd2⟩
  have hx2 := hx0.trans hx1
  refine hK _ _ (hI.out _ hx2) ?_
  clear hK K hx1 hx0 hd1
  (try simp only [Act.put, List.setIfInBounds_toArray, List.set_cons_zero, List.set_cons_succ])
  have elo : IntKind.i64.wrap (n - d) = n - d := IntWalk.i64_in _ (by omega)
  obtain ⟨a, ha⟩ : ∃ a, (if d < n then n - d else 0) = a := ⟨_, rfl⟩
  have ha0 : 0 ≤ a ∧ a ≤ n := by rw [← ha]; split <;> omega
  repeat (first | (refine seq_read rfl (by rfl) _ (fun w' hS => by (try dsimp only at hS); go_simp; (try with_reducible rfl)) ?_; (try simp only [Act.put, List.setIfInBounds_toArray, List.set_cons_zero, List.set_cons_succ])) | (refine seq_skip rfl (by rfl) ?_; (try simp only [Act.put, List.setIfInBounds_toArray, List.set_cons_zero, List.set_cons_succ])))
  clear elo ha q0 q1
  refine seq_do rfl (by rfl) (fun K hK => ?_)
  go_simp
  refine (draw_any gA gY (c + 1) yb yo yn yc 8 Y1 hOK.out hd2 (by omega) (by omega)).mono ?_
  rintro e Y2 ⟨d2, rfl, ⟨q0, q1⟩, hx1, hd3⟩
  have hx3 := hx2.trans hx1
  refine hK _ _ (hI.out _ hx3) ?_
  clear hK K hx1 hx2 hd2
  (try simp only [Act.put, List.setIfInBounds_toArray, List.set_cons_zero, List.set_cons_succ])
  have ehi : IntKind.i64.wrap (n + d2) = n + d2 := IntWalk.i64_in _ (by omega)
  repeat (first | (refine seq_read rfl (by rfl) _ (fun w' hS => by (try dsimp only at hS); go_simp; (try with_reducible rfl)) ?_; (try simp only [Act.put, List.setIfInBounds_toArray, List.set_cons_zero, List.set_cons_succ])) | (refine seq_skip rfl (by rfl) ?_; (try simp only [Act.put, List.setIfInBounds_toArray, List.set_cons_zero, List.set_cons_succ])))
  obtain ⟨b, hb⟩ : ∃ b, n + d2 = b := ⟨_, rfl⟩
  have hbr : n ≤ b ∧ b < n + 8 := by omega
  clear ehi
  rw [hb]
  clear hb q0 q1
  refine seq_do rfl (by rfl) (fun K hK => ?_)
  go_simp
  refine (spanL_any a b Y2).mono ?_
  rintro e Y3 ⟨rfl, hx1⟩
  have hx4 := hx3.then hx1
  have hd4 := hd3.below hx1
  refine hK _ _ (hI.out _ hx4) ?_
  clear hK K hx1 hx3 hd3
  (try simp only [Act.put, List.setIfInBounds_toArray, List.set_cons_zero, List.set_cons_succ])
  refine seq_last rfl (by rfl) (by kernel_rfl) (fun K hK => ?_)
  have hs4 := hx4.slots (Ne.symm (Nat.ne_of_lt hAl)) hsl
  obtain ⟨u0, q0, f0⟩ := hs4.get 0 (by omega)
  obtain ⟨u1, q1, f1⟩ := hs4.get 1 (by omega)
  have hfx : BX gA w ((Y3.setCell ⟨w.heap.size, 0, none⟩ (.int .i64 a)).setCell ⟨w.heap.size, 1, none⟩ (.int .i64 b)) := by
    have h1 := (BX.refl gA w).then hb0
    have h2 := h1.trans hx4
    refine ⟨h2.os, h2.tape, h2.output, by simp only [World.size_setCell]; exact h2.size, fun i hi hn => ?_⟩
    rw [Below.heap_setCell _ _ _ _ (Nat.ne_of_lt hi), Below.heap_setCell _ _ _ _ (Nat.ne_of_lt hi)]
    exact h2.block i hi hn
  have hYl : gY < w.heap.size := hYW
  have hbl : yb < w.heap.size := hBW
  have hfd : Hid (DS ((Y3.setCell ⟨w.heap.size, 0, none⟩ (.int .i64 a)).setCell ⟨w.heap.size, 1, none⟩ (.int .i64 b)) gA gY (c + 2) yb yo yn yc) :=
    (hd4.bx (BX.set w.heap.size 0 Y3 _) (Nat.ne_of_lt hAl) (Nat.ne_of_lt hYl) (Nat.ne_of_lt hbl)).bx (BX.set w.heap.size 1 _ _) (Nat.ne_of_lt hAl) (Nat.ne_of_lt hYl) (Nat.ne_of_lt hbl)
  clear hd4 hx4
  go_simp
  refine hK _ _ ?_
  clear hK K
  first | show Exit.inBlock _ _ Exit.normal _ _ | show Exit.then _ _ Exit.normal _ _ | skip
  go_wp2_with fail
  exact bodyPost_ret (v := .agg #[.int .i64 a, .int .i64 b]) (by simp [results, Try.results56, go_sem, q0, q1]) rfl ⟨a, b, rfl, ⟨ha0, hbr⟩, hfx, hfd.out⟩

/-- Where things stand while a plate is made. -/
structure MF where
  gA : Nat
  gY : Nat
  F : Nat
  B : Nat
  C : Nat
  M : Nat
  yb : Nat
  yo : Nat
  yn : Nat
  yc : Nat
  wb : World
structure MFok (f : MF) : Prop where
  d : DOk f.gA f.gY f.yb f.yn
  lA : f.wb.heap.size ≤ f.gA
  lY : f.wb.heap.size ≤ f.gY
  lF : f.wb.heap.size ≤ f.F
  lB : f.wb.heap.size ≤ f.B
  lC : f.wb.heap.size ≤ f.C
  mA : f.gA < f.M
  mY : f.gY < f.M
  mF : f.F < f.M
  mB : f.B < f.M
  mC : f.C < f.M
  nFA : f.F ≠ f.gA
  nBA : f.B ≠ f.gA
  nCA : f.C ≠ f.gA
  nYB : f.gY ≠ f.B
  nYC : f.gY ≠ f.C
  nFB : f.F ≠ f.B
  nFC : f.F ≠ f.C
  nBC : f.B ≠ f.C
  yl : f.yb < f.wb.heap.size
def spotV (q : Int × Int) : List Value := [.int .i64 q.1, .int .i64 q.2]
structure MC (f : MF) (X : World) (c : Nat) (lo hi : Int) (v2 : Value) (ce cn : Int) : Prop where
  ds : DS X f.gA f.gY c f.yb f.yo f.yn f.yc
  fn : X.cell? ⟨f.F, 0, none⟩ = some (.func (.func 57) #[] #[.pointer (some ⟨f.gA, 0, none⟩), .pointer (some ⟨f.gY, 0, none⟩)])
  p0 : X.cell? ⟨f.B, 0, none⟩ = some (.int .i64 lo)
  p1 : X.cell? ⟨f.B, 1, none⟩ = some (.int .i64 hi)
  p2 : X.cell? ⟨f.B, 2, none⟩ = some v2
  sp : Slots f.B 3 X
  q0 : X.cell? ⟨f.C, 0, none⟩ = some (.int .i64 ce)
  q1 : X.cell? ⟨f.C, 1, none⟩ = some (.int .i64 cn)
  sq : Slots f.C 2 X
  bel : Below f.wb.heap.size f.wb X
  sz : f.M ≤ X.heap.size
structure MR (f : MF) (X : World) (vs vi vk : Value) (ss : List St) (is ks : List (Int × Int)) : Prop where
  rs : X.ownsRow f.M 55 9 vs ss.length (ss.flatMap starC)
  ri : X.ownsRow f.M 39 2 vi is.length (is.flatMap spotV)
  rk : X.ownsRow f.M 39 2 vk ks.length (ks.flatMap spotV)
  ap : vi.ownBlock = none ∨ vi.ownBlock ≠ vk.ownBlock
section
variable {f : MF} {X X' : World} {c : Nat} {lo hi ce cn : Int} {v2 vs vi vk : Value} {ss : List St} {is ks : List (Int × Int)}
theorem below_by (hb : Below X.heap.size X X') (row : Option Nat) : X.grownBy X' row := ⟨hb.os, hb.tape, hb.output, hb.size, fun i hi _ => hb.block i hi⟩
theorem slots_by {B n : Nat} {row : Option Nat} (h : Slots B n X) (hg : X.grownBy X' row) (hn : some B ≠ row) : Slots B n X' := fun o ho => by
  obtain ⟨v, hv, hf⟩ := h.get o ho
  have hb := hg.block B (World.block_lt_of_cell? _ _ hv) hn
  rw [World.cell?_of_block (a := ⟨B, o, none⟩) hb, World.frozen?_of_block (a := ⟨B, o, none⟩) hb]; exact h o ho
theorem cell_by {b o : Nat} {v : Value} {row : Option Nat} (h : X.cell? ⟨b, o, none⟩ = some v) (hg : X.grownBy X' row) (hn : some b ≠ row) : X'.cell? ⟨b, o, none⟩ = some v :=
  (World.cell?_of_block (a := ⟨b, o, none⟩) (hg.block b (World.block_lt_of_cell? _ _ h) hn)).trans h
theorem MC.by (ok : MFok f) (k : MC f X c lo hi v2 ce cn) {row : Option Nat} (hg : X.grownBy X' row) (hr : ∀ b, row = some b → f.M ≤ b) : MC f X' c lo hi v2 ce cn := by
  have hne : ∀ b, b < f.M → some b ≠ row := fun b hb e => by have := hr b e.symm; omega
  have hw : f.wb.heap.size ≤ f.M := by have := ok.lA; have := ok.mA; omega
  refine ⟨⟨cell_by k.ds.ca hg (hne _ ok.mA), slots_by k.ds.sa hg (hne _ ok.mA), cell_by k.ds.cy hg (hne _ ok.mY), fun j hj => ?_⟩, cell_by k.fn hg (hne _ ok.mF), cell_by k.p0 hg (hne _ ok.mB), cell_by k.p1 hg (hne _ ok.mB), cell_by k.p2 hg (hne _ ok.mB), slots_by k.sp hg (hne _ ok.mB), cell_by k.q0 hg (hne _ ok.mC), cell_by k.q1 hg (hne _ ok.mC), slots_by k.sq hg (hne _ ok.mC),
    k.bel.grown hg (Nat.le_trans hw k.sz) (fun b hb => Nat.le_trans hw (hr b hb)), Nat.le_trans k.sz hg.size⟩
  obtain ⟨v, hv, h1⟩ := k.ds.el j hj
  exact ⟨v, cell_by hv hg (hne f.yb (by have := ok.yl; omega)), h1⟩
theorem MC.grown (ok : MFok f) (k : MC f X c lo hi v2 ce cn) (hb : Below X.heap.size X X') : MC f X' c lo hi v2 ce cn := k.by ok (below_by hb none) (fun b e => by cases e)
theorem MC.far (ok : MFok f) (k : MC f X c lo hi v2 ce cn) {g : Nat} (hg : f.M ≤ g) (o : Nat) (v : Value) : MC f (X.setCell ⟨g, o, none⟩ v) c lo hi v2 ce cn :=
  k.by ok (grownBy_set X g o v) (fun b e => by injection e with e; omega)
theorem BX.under {B N : Nat} {u w w' : World} (hb : Below N u w) (h : BX B w w') (hB : N ≤ B) (hs : N ≤ w.heap.size) : Below N u w' := hb.trans ⟨h.os, h.tape, h.output, h.size, fun k hk => h.block k (by omega) (by omega)⟩
theorem MC.wle (ok : MFok f) (k : MC f X c lo hi v2 ce cn) : f.wb.heap.size ≤ X.heap.size := by have := ok.lA; have := ok.mA; have := k.sz; omega
/-- Numbers were drawn. -/
theorem MC.bx (ok : MFok f) (k : MC f X c lo hi v2 ce cn) {c' : Nat} (hx : BX f.gA X X') (hd : DS X' f.gA f.gY c' f.yb f.yo f.yn f.yc) : MC f X' c' lo hi v2 ce cn :=
  ⟨hd, hx.keep ok.nFA k.fn, hx.keep ok.nBA k.p0, hx.keep ok.nBA k.p1, hx.keep ok.nBA k.p2, hx.slots ok.nBA k.sp, hx.keep ok.nCA k.q0, hx.keep ok.nCA k.q1, hx.slots ok.nCA k.sq, BX.under k.bel hx ok.lA (k.wle ok), Nat.le_trans k.sz hx.size⟩
theorem MC.setB (ok : MFok f) (k : MC f X c lo hi v2 ce cn) {lo' hi' : Int} {v2' : Value} (hx : BX f.B X X') (h0 : X'.cell? ⟨f.B, 0, none⟩ = some (.int .i64 lo')) (h1 : X'.cell? ⟨f.B, 1, none⟩ = some (.int .i64 hi')) (h2 : X'.cell? ⟨f.B, 2, none⟩ = some v2') (h3 : Slots f.B 3 X') : MC f X' c lo' hi' v2' ce cn :=
  ⟨k.ds.bx hx (Ne.symm ok.nBA) ok.nYB (by have := ok.yl; have := ok.lB; omega), hx.keep ok.nFB k.fn, h0, h1, h2, h3, hx.keep (Ne.symm ok.nBC) k.q0, hx.keep (Ne.symm ok.nBC) k.q1, hx.slots (Ne.symm ok.nBC) k.sq, BX.under k.bel hx ok.lB (k.wle ok), Nat.le_trans k.sz hx.size⟩
theorem MC.setC (ok : MFok f) (k : MC f X c lo hi v2 ce cn) {ce' cn' : Int} (hx : BX f.C X X') (h0 : X'.cell? ⟨f.C, 0, none⟩ = some (.int .i64 ce')) (h1 : X'.cell? ⟨f.C, 1, none⟩ = some (.int .i64 cn')) (h3 : Slots f.C 2 X') : MC f X' c lo hi v2 ce' cn' :=
  ⟨k.ds.bx hx (Ne.symm ok.nCA) ok.nYC (by have := ok.yl; have := ok.lC; omega), hx.keep ok.nFC k.fn, hx.keep ok.nBC k.p0, hx.keep ok.nBC k.p1, hx.keep ok.nBC k.p2, hx.slots ok.nBC k.sp, h0, h1, h3, BX.under k.bel hx ok.lC (k.wle ok), Nat.le_trans k.sz hx.size⟩
theorem cell_else {B o o' : Nat} {u v : Value} (h : X.cell? ⟨B, o', none⟩ = some u) (hne : o' ≠ o) : (X.setCell ⟨B, o, none⟩ v).cell? ⟨B, o', none⟩ = some u := by
  rw [World.cell?_setCell_other _ _ _ _ (by intro he; injection he; omega)]; exact h
theorem MC.span (ok : MFok f) (k : MC f X c lo hi v2 ce cn) (a b : Int) : MC f ((X.setCell ⟨f.B, 0, none⟩ (.int .i64 a)).setCell ⟨f.B, 1, none⟩ (.int .i64 b)) c a b v2 ce cn :=
  k.setB ok ((BX.set f.B 0 X _).trans (BX.set f.B 1 _ _)) (cell_else (World.cell?_setCell_same _ _ _ k.p0) (by omega)) (World.cell?_setCell_same _ _ _ (cell_else k.p1 (by omega))) (cell_else (cell_else k.p2 (by omega)) (by omega)) ((k.sp.set _ _).set _ _)
theorem MC.put2 (ok : MFok f) (k : MC f X c lo hi v2 ce cn) (v : Value) : MC f (X.setCell ⟨f.B, 2, none⟩ v) c lo hi v ce cn :=
  k.setB ok (BX.set f.B 2 X _) (cell_else k.p0 (by omega)) (cell_else k.p1 (by omega)) (World.cell?_setCell_same _ _ _ k.p2) (k.sp.set _ _)
theorem MC.corn (ok : MFok f) (k : MC f X c lo hi v2 ce cn) (a b : Int) : MC f ((X.setCell ⟨f.C, 0, none⟩ (.int .i64 a)).setCell ⟨f.C, 1, none⟩ (.int .i64 b)) c lo hi v2 a b :=
  k.setC ok ((BX.set f.C 0 X _).trans (BX.set f.C 1 _ _)) (cell_else (World.cell?_setCell_same _ _ _ k.q0) (by omega)) (World.cell?_setCell_same _ _ _ (cell_else k.q1 (by omega))) ((k.sq.set _ _).set _ _)
theorem MR.by (k : MR f X vs vi vk ss is ks) {row : Option Nat} (hg : X.grownBy X' row) (h1 : vs.ownBlock = none ∨ vs.ownBlock ≠ row) (h2 : vi.ownBlock = none ∨ vi.ownBlock ≠ row) (h3 : vk.ownBlock = none ∨ vk.ownBlock ≠ row) : MR f X' vs vi vk ss is ks :=
  ⟨k.rs.kept hg h1, k.ri.kept hg h2, k.rk.kept hg h3, k.ap⟩
theorem MR.grown (k : MR f X vs vi vk ss is ks) (hb : Below X.heap.size X X') : MR f X' vs vi vk ss is ks :=
  k.by (below_by hb none) (by cases vs.ownBlock <;> simp) (by cases vi.ownBlock <;> simp) (by cases vk.ownBlock <;> simp)
theorem MR.low (k : MR f X vs vi vk ss is ks) {g : Nat} (hg : g < f.M) (hx : BX g X X') : MR f X' vs vi vk ss is ks :=
  k.by hx.by (.inr fun e => by have := (k.rs.lt g e).1; omega) (.inr fun e => by have := (k.ri.lt g e).1; omega) (.inr fun e => by have := (k.rk.lt g e).1; omega)
theorem MR.set (k : MR f X vs vi vk ss is ks) {g : Nat} (hx : BX g X X') (h1 : vs.ownBlock ≠ some g) (h2 : vi.ownBlock ≠ some g) (h3 : vk.ownBlock ≠ some g) : MR f X' vs vi vk ss is ks := k.by hx.by (.inr h1) (.inr h2) (.inr h3)
theorem own_apart {w : World} {b1 b2 n1 n2 t1 t2 z1 z2 : Nat} {v1 v2 : Value} {l1 l2 : List Value} (ht : t1 ≠ t2) (h1 : w.ownsRow b1 t1 z1 v1 n1 l1) (h2 : w.ownsRow b2 t2 z2 v2 n2 l2) : v1.ownBlock = none ∨ v1.ownBlock ≠ v2.ownBlock := by
  rcases h1.2 with ⟨r1, _⟩ | ⟨g1, c1, u1, r1, _, k1, _⟩
  · subst r1; exact .inl rfl
  · rcases h2.2 with ⟨r2, _⟩ | ⟨g2, c2, u2, r2, _, k2, _⟩
    · subst r1; subst r2; exact .inr (fun e => by cases e)
    · subst r1; subst r2
      refine .inr (fun e => ?_)
      have e : g1 = g2 := by simpa [Value.ownBlock] using e
      subst e
      rw [k1] at k2
      injection k2 with k2
      injection k2 with _ k3
      exact ht k3
theorem ap_swap {v1 v2 : Value} (h : v1.ownBlock = none ∨ v1.ownBlock ≠ v2.ownBlock) : v2.ownBlock = none ∨ v2.ownBlock ≠ v1.ownBlock := by
  rcases h with h | h
  · cases h2 : v2.ownBlock with
    | none => exact .inl rfl
    | some b => right; rw [h]; exact fun e => by cases e
  · exact .inr (Ne.symm h)
theorem MR.pushS (k : MR f X vs vi vk ss is ks) (hg : X.grownBy X' vs.ownBlock) {v : Value} {s : St} (hr : X'.ownsRow f.M 55 9 v (ss.length + 1) (ss.flatMap starC ++ starC s)) : MR f X' v vi vk (ss ++ [s]) is ks :=
  ⟨by simpa [List.flatMap_append] using hr, k.ri.kept hg (own_apart (by decide) k.ri k.rs), k.rk.kept hg (own_apart (by decide) k.rk k.rs), k.ap⟩
theorem MR.pushI (k : MR f X vs vi vk ss is ks) (hg : X.grownBy X' vi.ownBlock) {g cap : Nat} {s : Int × Int} (hr : X'.ownsRow f.M 39 2 (.slice (some ⟨g, 0, none⟩) (is.length + 1) cap) (is.length + 1) (is.flatMap spotV ++ spotV s)) (hf : vi.ownBlock = some g ∨ g = X.heap.size) :
    MR f X' vs (.slice (some ⟨g, 0, none⟩) (is.length + 1) cap) vk ss (is ++ [s]) ks :=
  ⟨k.rs.kept hg (own_apart (by decide) k.rs k.ri), by simpa [List.flatMap_append] using hr, k.rk.kept hg (ap_swap k.ap), .inr fun e => by
    have e : some g = vk.ownBlock := e
    rcases hf with h | h
    · rcases k.ap with a | a
      · rw [h] at a; cases a
      · exact a (h.trans e)
    · have := (k.rk.lt g e.symm).2; omega⟩
theorem MR.pushK (k : MR f X vs vi vk ss is ks) (hg : X.grownBy X' vk.ownBlock) {g cap : Nat} {s : Int × Int} (hr : X'.ownsRow f.M 39 2 (.slice (some ⟨g, 0, none⟩) (ks.length + 1) cap) (ks.length + 1) (ks.flatMap spotV ++ spotV s)) (hf : vk.ownBlock = some g ∨ g = X.heap.size) :
    MR f X' vs vi (.slice (some ⟨g, 0, none⟩) (ks.length + 1) cap) ss is (ks ++ [s]) :=
  ⟨k.rs.kept hg (own_apart (by decide) k.rs k.rk), k.ri.kept hg k.ap, by simpa [List.flatMap_append] using hr, by
    cases hv : vi.ownBlock with
    | none => exact .inl rfl
    | some b =>
      refine .inr fun e => ?_
      have e : some b = some g := e
      injection e with e
      subst e
      rcases hf with h | h
      · rcases k.ap with a | a
        · rw [hv] at a; cases a
        · exact a (hv.trans h.symm)
      · have := (k.ri.lt b hv).2; omega⟩
/-- A new block with what is to be appended. -/
structure NB (f : MF) (X : World) (g : Nat) (xs : List Value) (vs vi vk : Value) : Prop where
  nw : ∀ j u, xs[j]? = some u → X.cell? ((⟨g, 0, none⟩ : Addr).add j) = some u
  lt : g < X.heap.size
  m : f.M ≤ g
  n1 : vs.ownBlock ≠ some g
  n2 : vi.ownBlock ≠ some g
  n3 : vk.ownBlock ≠ some g
theorem NB.new {xs : List Value} (T : TypeId) (c : MC f X c lo hi v2 ce cn) (r : MR f X vs vi vk ss is ks) : NB f (X.alloc (.cells xs.toArray T)) X.heap.size xs vs vi vk :=
  ⟨by simpa using World.news_of_block (heap_alloc_new X (.cells xs.toArray T)), by simp, c.sz, fun e => by have := (r.rs.lt _ e).2; omega, fun e => by have := (r.ri.lt _ e).2; omega, fun e => by have := (r.rk.lt _ e).2; omega⟩
end
end Go.Proofs.Ytdkegkacpdkjgaa

namespace Go.Proofs.Ytdkegkacpdkjgaa
open Go.RowKit Go.Maps

/-- What is kept is what some truths have, and bounds what any has. -/
structure KepOf (f : Scl → Int × Int) (xs : List Scl) (k : Int × Int × Bool) : Prop where
  no : k.2.2 = false → k = (0, 0, false)
  lo : k.2.2 = true → ∃ x ∈ xs, (f x).1 ≤ (f x).2 ∧ k.1 = (f x).1
  hi : k.2.2 = true → ∃ x ∈ xs, (f x).1 ≤ (f x).2 ∧ k.2.1 = (f x).2
  all : ∀ x ∈ xs, (f x).1 ≤ (f x).2 → k.2.2 = true ∧ k.1 ≤ (f x).1 ∧ (f x).2 ≤ k.2.1
theorem kepS_of {f : Scl → Int × Int} {xs : List Scl} {k : Int × Int × Bool} (h : KepOf f xs k) (x : Scl) : KepOf f (xs ++ [x]) (kepS k (f x).1 (f x).2) := by
  obtain ⟨a, b, t⟩ := k
  obtain ⟨h1, h2, h3, h4⟩ := h
  have hm : ∀ y, y ∈ xs ++ [x] ↔ y ∈ xs ∨ y = x := fun y => by simp
  unfold kepS
  by_cases hx : (f x).1 ≤ (f x).2
  · rw [if_pos hx]
    cases t
    · rw [if_neg (by simp)]
      have hno : ∀ y ∈ xs, ¬ (f y).1 ≤ (f y).2 := fun y hy hle => by cases (h4 y hy hle).1
      refine ⟨fun h => (by cases h), fun _ => ⟨x, (hm x).2 (.inr rfl), hx, rfl⟩, fun _ => ⟨x, (hm x).2 (.inr rfl), hx, rfl⟩, fun y hy hle => ?_⟩
      rcases (hm y).1 hy with h | rfl
      · exact absurd hle (hno y h)
      · exact ⟨rfl, Int.le_refl _, Int.le_refl _⟩
    · rw [if_pos rfl]
      dsimp only at h2 h3 h4 ⊢
      obtain ⟨y, hy, hyl, rfl⟩ := h2 rfl
      obtain ⟨z, hz, hzl, rfl⟩ := h3 rfl
      refine ⟨fun h => (by cases h), fun _ => ?_, fun _ => ?_, fun u hu hle => ?_⟩
      · rcases Int.le_total (f y).1 (f x).1 with h | h
        · exact ⟨y, (hm y).2 (.inl hy), hyl, by dsimp only; omega⟩
        · exact ⟨x, (hm x).2 (.inr rfl), hx, by dsimp only; omega⟩
      · rcases Int.le_total (f x).2 (f z).2 with h | h
        · exact ⟨z, (hm z).2 (.inl hz), hzl, by dsimp only; omega⟩
        · exact ⟨x, (hm x).2 (.inr rfl), hx, by dsimp only; omega⟩
      · rcases (hm u).1 hu with h | rfl
        · have := (h4 u h hle).2
          exact ⟨rfl, by dsimp only; omega, by dsimp only; omega⟩
        · exact ⟨rfl, by dsimp only; omega, by dsimp only; omega⟩
  · rw [if_neg hx]
    refine ⟨h1, fun h => ?_, fun h => ?_, fun y hy hle => ?_⟩
    · obtain ⟨y, hy, hyl, e⟩ := h2 h; exact ⟨y, (hm y).2 (.inl hy), hyl, e⟩
    · obtain ⟨y, hy, hyl, e⟩ := h3 h; exact ⟨y, (hm y).2 (.inl hy), hyl, e⟩
    · rcases (hm y).1 hy with h | rfl
      · exact h4 y h hle
      · exact absurd hle hx
theorem kepL_of (f : Scl → Int × Int) (xs : List Scl) : KepOf f xs (kepL f xs) := by
  have : ∀ (xs ys : List Scl) (k : Int × Int × Bool), KepOf f ys k → KepOf f (ys ++ xs) (xs.foldl (fun k x => kepS k (f x).1 (f x).2) k) := fun xs => by
    induction xs with
    | nil => intro ys k h; simpa using h
    | cons x xs ih =>
      intro ys k h
      have := ih (ys ++ [x]) _ (kepS_of h x)
      simpa using this
  have h := this xs [] (0, 0, false) ⟨fun _ => rfl, fun h => (by cases h), fun h => (by cases h), fun x hx => (by cases hx)⟩
  rw [List.nil_append] at h
  exact h
/-- What more truths have is no narrower. -/
theorem kep_in {f g : Scl → Int × Int} {xs ys : List Scl} (h : ∀ x ∈ xs, (f x).1 ≤ (f x).2 → ∃ y ∈ ys, (g y).1 ≤ (f x).1 ∧ (f x).2 ≤ (g y).2) (hk : (kepL f xs).2.2 = true) :
    (kepL g ys).2.2 = true ∧ (kepL g ys).1 ≤ (kepL f xs).1 ∧ (kepL f xs).2.1 ≤ (kepL g ys).2.1 := by
  obtain ⟨x, hx, hxl, e1⟩ := (kepL_of f xs).lo hk
  obtain ⟨z, hz, hzl, e2⟩ := (kepL_of f xs).hi hk
  obtain ⟨u, hu, hu1, hu2⟩ := h x hx hxl
  obtain ⟨v, hv, hv1, hv2⟩ := h z hz hzl
  have a := (kepL_of g ys).all u hu (by omega)
  have b := (kepL_of g ys).all v hv (by omega)
  exact ⟨a.1, by omega, by omega⟩
theorem kep_no {f : Scl → Int × Int} {xs : List Scl} (h : ∀ x ∈ xs, ¬ (f x).1 ≤ (f x).2) : kepL f xs = (0, 0, false) := by
  have k := kepL_of f xs
  cases ht : (kepL f xs).2.2
  · exact k.no ht
  · obtain ⟨x, hx, hxl, _⟩ := k.lo ht
    exact absurd hxl (h x hx)
/-- What is farther on by as much is kept so. -/
theorem kep_shift {c : Int} {f g : Scl → Int × Int} {xs ys : List Scl} (h1 : ∀ x ∈ xs, (f x).1 ≤ (f x).2 → ∃ y ∈ ys, (g y).1 = (f x).1 + c ∧ (g y).2 = (f x).2 + c)
    (h2 : ∀ y ∈ ys, (g y).1 ≤ (g y).2 → ∃ x ∈ xs, (g y).1 = (f x).1 + c ∧ (g y).2 = (f x).2 + c) :
    kepL g ys = if (kepL f xs).2.2 then ((kepL f xs).1 + c, (kepL f xs).2.1 + c, true) else (0, 0, false) := by
  have kf := kepL_of f xs
  have kg := kepL_of g ys
  cases ht : (kepL f xs).2.2
  · rw [if_neg (by simp)]
    refine kep_no fun y hy hyl => ?_
    obtain ⟨x, hx, e1, e2⟩ := h2 y hy hyl
    have := (kf.all x hx (by omega)).1
    rw [ht] at this; cases this
  · rw [if_pos rfl]
    obtain ⟨x, hx, hxl, e1⟩ := kf.lo ht
    obtain ⟨z, hz, hzl, e2⟩ := kf.hi ht
    obtain ⟨u, hu, u1, u2⟩ := h1 x hx hxl
    obtain ⟨v, hv, v1, v2⟩ := h1 z hz hzl
    have a := kg.all u hu (by omega)
    have b := kg.all v hv (by omega)
    obtain ⟨p, hp, hpl, q1⟩ := kg.lo a.1
    obtain ⟨q, hq, hql, q2⟩ := kg.hi a.1
    obtain ⟨p', hp', r1, r2⟩ := h2 p hp hpl
    obtain ⟨q', hq', r3, r4⟩ := h2 q hq hql
    have c1 := kf.all p' hp' (by omega)
    have c2 := kf.all q' hq' (by omega)
    have e : ∀ k : Int × Int × Bool, k.1 = (kepL f xs).1 + c → k.2.1 = (kepL f xs).2.1 + c → k.2.2 = true → k = ((kepL f xs).1 + c, (kepL f xs).2.1 + c, true) := fun k h1 h2 h3 => by
      obtain ⟨k1, k2, k3⟩ := k
      dsimp only at h1 h2 h3
      rw [h1, h2, h3]
    exact e _ (by omega) (by omega) a.1
theorem kep_same {f g : Scl → Int × Int} {xs ys : List Scl} (h1 : ∀ x ∈ xs, (f x).1 ≤ (f x).2 → ∃ y ∈ ys, g y = f x) (h2 : ∀ y ∈ ys, (g y).1 ≤ (g y).2 → ∃ x ∈ xs, g y = f x) : kepL g ys = kepL f xs := by
  rw [kep_shift (c := 0) (f := f) (g := g) (xs := xs) (ys := ys) (fun x hx hl => by obtain ⟨y, hy, e⟩ := h1 x hx hl; exact ⟨y, hy, by rw [e]; omega, by rw [e]; omega⟩)
    (fun y hy hl => by obtain ⟨x, hx, e⟩ := h2 y hy hl; exact ⟨x, hx, by rw [e]; omega, by rw [e]; omega⟩)]
  have k := kepL_of f xs
  cases ht : (kepL f xs).2.2
  · rw [if_neg (by simp), k.no ht]
  · rw [if_pos rfl, Int.add_zero, Int.add_zero]
    have e : ∀ k : Int × Int × Bool, k.2.2 = true → (k.1, k.2.1, true) = k := fun k h => by obtain ⟨a, b, c⟩ := k; dsimp only at h; rw [h]
    exact e _ ht

/-- Where the corner can be: what all stars of a set allow. -/
theorem cor_iff {ss : List St} {sc : Int} {R : Nat → Bool} {d : Bool} {c : Int} : ∀ {k : Nat}, ((corS ss sc R d k).1 ≤ c ∧ c ≤ (corS ss sc R d k).2) ↔
    ((-67108864 ≤ c ∧ c ≤ 67108864) ∧ ∀ i, i < k → R i = true → (cbS sc (ss.getD i default) d).1 ≤ c ∧ c ≤ (cbS sc (ss.getD i default) d).2)
  | 0 => by unfold corS; exact ⟨fun h => ⟨h, fun i hi => by omega⟩, fun h => h.1⟩
  | k + 1 => by
    have ih := cor_iff (ss := ss) (sc := sc) (R := R) (d := d) (c := c) (k := k)
    rw [corS]
    split
    · rename_i hR
      dsimp only
      constructor
      · intro h
        have h0 := ih.1 ⟨by omega, by omega⟩
        refine ⟨h0.1, fun i hi hr => ?_⟩
        by_cases he : i = k
        · subst he; omega
        · exact h0.2 i (by omega) hr
      · intro h
        have h0 := ih.2 ⟨h.1, fun i hi => h.2 i (by omega)⟩
        have h1 := h.2 k (by omega) hR
        omega
    · rename_i hR
      rw [ih]
      constructor
      · intro h
        refine ⟨h.1, fun i hi hr => ?_⟩
        by_cases he : i = k
        · subst he; exact absurd hr hR
        · exact h.2 i (by omega) hr
      · exact fun h => ⟨h.1, fun i hi => h.2 i (by omega)⟩
/-- A scale is one of a plate if there is a corner with it. -/
def CornC (ss : List St) (sc : Int) (R : Nat → Bool) (n : Nat) (d : Bool) (c : Int) : Prop :=
  (-67108864 ≤ c ∧ c ≤ 67108864) ∧ ∀ i, i < n → R i = true → (cbS sc (ss.getD i default) d).1 ≤ c ∧ c ≤ (cbS sc (ss.getD i default) d).2
theorem corB_iff {ss : List St} {sc : Int} {R : Nat → Bool} {n : Nat} : corB ss sc R n = true ↔ ∀ d, ∃ c, CornC ss sc R n d c := by
  have h : ∀ d, (corS ss sc R d n).1 ≤ (corS ss sc R d n).2 ↔ ∃ c, CornC ss sc R n d c := fun d =>
    ⟨fun h => ⟨_, cor_iff.1 ⟨Int.le_refl _, h⟩⟩, fun ⟨c, hc⟩ => by have := cor_iff.2 hc; omega⟩
  unfold corB
  rw [Bool.and_eq_true, decide_eq_true_eq, decide_eq_true_eq, h, h]
  exact ⟨fun h d => match d with | false => h.1 | true => h.2, fun h => ⟨h false, h true⟩⟩
theorem trTo_has {ss : List St} {R : Nat → Bool} {n : Nat} {lo sc : Int} (hs : 0 ≤ sc ∧ sc ≤ 1000) (hb : corB ss sc R n = true) (h0 : lo ≤ sc) : ∀ {k : Nat}, sc < lo + k → ∃ x ∈ trTo ss R n lo k, x.sc = sc ∧ ∀ d, (x.lo d, x.hi d) = corS ss sc R d n
  | 0, h => by omega
  | k + 1, h => by
    rw [trTo]
    by_cases he : sc = lo + k
    · subst he
      rw [trOf_yes hs hb]
      exact ⟨_, List.mem_append_right _ (List.mem_singleton.2 rfl), rfl, fun d => by cases d <;> rfl⟩
    · obtain ⟨x, hx, e⟩ := trTo_has hs hb h0 (k := k) (by omega)
      exact ⟨x, List.mem_append_left _ hx, e⟩
theorem trL_iff {p : Pl} {ss : List St} (hlo : 1 ≤ p.lo) (hhi : p.hi ≤ 1000) {set : Int} {sc : Int} : (∃ x ∈ trL p ss set, x.sc = sc) ↔ (p.lo ≤ sc ∧ sc ≤ p.hi) ∧ corB ss sc (setI set) p.n = true := by
  constructor
  · rintro ⟨x, hx, rfl⟩
    obtain ⟨h1, h2, h3, _⟩ := trTo_mem hx
    exact ⟨⟨h1, by omega⟩, h3⟩
  · rintro ⟨⟨h1, h2⟩, h3⟩
    obtain ⟨x, hx, e, _⟩ := trTo_has (lo := p.lo) (k := (p.hi - p.lo + 1).toNat) (by omega) h3 h1 (by omega)
    exact ⟨x, hx, e⟩
theorem trL_of {p : Pl} {ss : List St} {set : Int} {x : Scl} (hx : x ∈ trL p ss set) : (p.lo ≤ x.sc ∧ x.sc ≤ p.hi) ∧ corB ss x.sc (setI set) p.n = true ∧ ∀ d, (x.lo d, x.hi d) = corS ss x.sc (setI set) d p.n := by
  obtain ⟨h1, h2, h3, h4⟩ := trTo_mem hx
  exact ⟨⟨h1, by omega⟩, h3, h4⟩
theorem trL_mk {p : Pl} {ss : List St} (hlo : 1 ≤ p.lo) (hhi : p.hi ≤ 1000) {set : Int} {sc : Int} (h1 : p.lo ≤ sc) (h2 : sc ≤ p.hi) (h3 : corB ss sc (setI set) p.n = true) : ∃ x ∈ trL p ss set, x.sc = sc ∧ ∀ d, (x.lo d, x.hi d) = corS ss sc (setI set) d p.n :=
  trTo_has (lo := p.lo) (k := (p.hi - p.lo + 1).toNat) (by omega) h3 h1 (by omega)
theorem canR_iff {p : Pl} {ss : List St} (hlo : 1 ≤ p.lo) (hhi : p.hi ≤ 1000) {set : Int} : canR p ss set = true ↔ ∃ sc, (p.lo ≤ sc ∧ sc ≤ p.hi) ∧ corB ss sc (setI set) p.n = true := by
  unfold canR
  constructor
  · intro h
    cases hx : trL p ss set with
    | nil => rw [hx] at h; cases h
    | cons x xs => exact ⟨x.sc, (trL_iff hlo hhi).1 ⟨x, by rw [hx]; exact List.mem_cons_self, rfl⟩⟩
  · rintro ⟨sc, h⟩
    obtain ⟨x, hx, _⟩ := (trL_iff hlo hhi).2 h
    cases ht : trL p ss set with
    | nil => rw [ht] at hx; cases hx
    | cons => rfl
theorem tr_nil {p : Pl} {ss : List St} {set : Int} : trL p ss set = [] ↔ canR p ss set = false := by
  unfold canR; cases trL p ss set <;> simp
/-- What is known of a star by bits. -/
theorem bit_nat {n i : Nat} (hn : n < 4096) (hi : i < 12) : setI (n : Int) i = n.testBit i := by
  have hp : wrap64 (2 ^ i) = ((2 ^ i : Nat) : Int) := (by decide +kernel : ∀ k : Fin 12, wrap64 (2 ^ k.val) = ((2 ^ k.val : Nat) : Int)) ⟨i, hi⟩
  have hp2 : 1 ≤ 2 ^ i ∧ 2 ^ i < 4096 := (by decide +kernel : ∀ k : Fin 12, 1 ≤ 2 ^ k.val ∧ 2 ^ k.val < 4096) ⟨i, hi⟩
  have ha : n &&& 2 ^ i = if n.testBit i then 2 ^ i else 0 := by
    apply Nat.eq_of_testBit_eq
    intro j
    rw [Nat.testBit_and, Nat.testBit_two_pow]
    by_cases h : i = j
    · subst h
      cases hb : n.testBit i
      · simp
      · simp
    · rw [decide_eq_false h, Bool.and_false]
      split
      · rw [Nat.testBit_two_pow, decide_eq_false h]
      · simp
  have h1 : setI (n : Int) i = (IntKind.i64.wrap (((if n.testBit i then 2 ^ i else 0) : Nat) : Int) != 0) := by
    unfold setI bits
    rw [hp]
    dsimp only
    rw [BitVec.toNat_and, bv_nat (by omega), bv_nat (by omega), ha]
  rw [h1]
  cases n.testBit i
  · rw [if_neg (by simp), i64_of_nat (by omega)]; rfl
  · rw [if_pos rfl, i64_of_nat (by omega)]
    generalize 2 ^ i = q at *
    simp; omega
theorem known_nat (ss : List St) : ∀ k : Nat, k ≤ 12 → ∃ n : Nat, knownTo ss k = (n : Int) ∧ n < 2 ^ k ∧ ∀ i, n.testBit i = (decide (i < k) && (ss.getD i default).k)
  | 0, _ => ⟨0, rfl, by simp, fun i => by simp⟩
  | k + 1, h => by
    obtain ⟨n, e, h1, h2⟩ := known_nat ss k (by omega)
    have hs := known_rng ss k (by omega)
    have hp : 2 ^ (k + 1) = 2 * 2 ^ k := by rw [Nat.pow_succ, Nat.mul_comm]
    rw [knownTo]
    split
    · rename_i hk
      refine ⟨2 ^ k + n, ?_, by omega, fun i => ?_⟩
      · rw [or_bit12 (by omega) hs.1 hs.2, e]; simp; omega
      · rcases Nat.lt_trichotomy i k with hi | rfl | hi
        · rw [Nat.testBit_two_pow_add_gt hi, h2, decide_eq_true hi, decide_eq_true (show i < k + 1 by omega)]
        · rw [Nat.testBit_two_pow_add_eq, h2, decide_eq_false (by omega), decide_eq_true (by omega), hk]; rfl
        · rw [decide_eq_false (by omega), Bool.false_and]
          exact Nat.testBit_lt_two_pow (Nat.lt_of_lt_of_le (show 2 ^ k + n < 2 ^ (k + 1) by omega) (Nat.pow_le_pow_right (by decide) hi))
    · rename_i hk
      refine ⟨n, e, by omega, fun i => ?_⟩
      rw [h2]
      by_cases he : i = k
      · subst he
        rw [decide_eq_false (by omega), Bool.eq_false_iff.2 hk]; simp
      · rw [decide_eq_decide.2 (show i < k ↔ i < k + 1 by omega)]
theorem known_bit (ss : List St) {k i : Nat} (hk : k ≤ 12) (hi : i < k) : setI (knownTo ss k) i = (ss.getD i default).k := by
  obtain ⟨n, e, h1, h2⟩ := known_nat ss k hk
  have hp : 2 ^ k ≤ 4096 := (by decide +kernel : ∀ k : Fin 13, 2 ^ k.val ≤ 4096) ⟨k, by omega⟩
  rw [e, bit_nat (by omega) (by omega), h2, decide_eq_true hi]; simp
theorem known_none {ss : List St} {k : Nat} (hk : k ≤ 12) : knownTo ss k = 0 ↔ ∀ i, i < k → (ss.getD i default).k = false := by
  obtain ⟨n, e, h1, h2⟩ := known_nat ss k hk
  rw [e]
  constructor
  · intro h i hi
    obtain rfl : n = 0 := by omega
    have := h2 i
    rw [decide_eq_true hi, Nat.zero_testBit] at this
    simpa using this.symm
  · intro h
    have : n = 0 := Nat.eq_of_testBit_eq fun i => by
      rw [h2, Nat.zero_testBit]
      by_cases hi : i < k
      · rw [h i hi]; simp
      · rw [decide_eq_false hi]; rfl
    rw [this]; rfl
theorem known_some {ss : List St} {k : Nat} (hk : k ≤ 12) (h : knownTo ss k ≠ 0) : ∃ i, i < k ∧ (ss.getD i default).k = true := by
  by_cases hx : ∃ i, i < k ∧ (ss.getD i default).k = true
  · exact hx
  · refine absurd ((known_none hk).2 fun i hi => ?_) h
    cases e : (ss.getD i default).k
    · rfl
    · exact absurd ⟨i, hi, e⟩ hx
end Go.Proofs.Ytdkegkacpdkjgaa

namespace Go.Proofs.Ytdkegkacpdkjgaa
open Go.RowKit Go.Maps

def movS (b t : Int) (s : St) : St := if s.k then { s with e0 := s.e0 + b, e1 := s.e1 + b, n0 := s.n0 + t, n1 := s.n1 + t } else s
def dlt (b t : Int) (d : Bool) : Int := if d then t else b
theorem mov_k (b t : Int) (s : St) : (movS b t s).k = s.k := by unfold movS; split <;> rfl
theorem mov_on (b t : Int) (s : St) (d : Bool) : (movS b t s).on d = s.on d := by unfold movS; split <;> rfl
theorem mov_sky {b t : Int} {s : St} (h : s.k = true) (d : Bool) : (movS b t s).sky d = ((s.sky d).1 + dlt b t d, (s.sky d).2 + dlt b t d) := by
  unfold movS; rw [if_pos h]; cases d <;> rfl
theorem mov_bey (b t sc : Int) (s : St) (d : Bool) : beyS sc (movS b t s) d = beyS sc s d := by unfold beyS; rw [mov_on]
theorem mov_cb {b t sc : Int} {s : St} (h : s.k = true) (d : Bool) : (cbS sc (movS b t s) d).1 = (cbS sc s d).1 + dlt b t d ∧ (cbS sc (movS b t s) d).2 = (cbS sc s d).2 + dlt b t d := by
  have hs := mov_sky (b := b) (t := t) h d
  unfold cbS saidS
  rw [mov_bey, mov_k, h, if_pos rfl, if_pos rfl, hs]
  dsimp only
  omega
theorem mov_un {b t : Int} {s : St} (h : s.k = false) : movS b t s = s := by unfold movS; rw [h]; rfl
theorem mov_get (b t : Int) (ss : List St) (i : Nat) : (ss.map (movS b t)).getD i default = movS b t (ss.getD i default) := by
  rw [List.getD_eq_getElem?_getD, List.getD_eq_getElem?_getD, List.getElem?_map]
  cases ss[i]? with
  | none => rfl
  | some s => rfl
theorem known_ext {ss ss' : List St} (h : ∀ i, (ss'.getD i default).k = (ss.getD i default).k) : ∀ n, knownTo ss' n = knownTo ss n
  | 0 => rfl
  | n + 1 => by rw [knownTo, knownTo, known_ext h n, h]
theorem mov_known (b t : Int) (ss : List St) (n : Nat) : knownTo (ss.map (movS b t)) n = knownTo ss n := known_ext (fun i => by rw [mov_get, mov_k]) n
theorem mov_none {b t : Int} {ss : List St} (h : knownTo ss ss.length = 0) (h12 : ss.length ≤ 12) : ss.map (movS b t) = ss := by
  apply List.ext_getElem?
  intro i
  rw [List.getElem?_map]
  cases hi : ss[i]? with
  | none => rfl
  | some s =>
    have hl : i < ss.length := (List.getElem?_eq_some_iff.1 hi).1
    have := (known_none h12).1 h i hl
    rw [List.getD_eq_getElem?_getD, hi] at this
    show some (movS b t s) = some s
    rw [mov_un (show s.k = false from this)]
/-- With a known star the corner is near. -/
theorem near {s : St} {d : Bool} (h : StOk s d) (hk : s.k = true) {sc : Int} (h0 : 0 ≤ sc) (h1 : sc ≤ 1000) : -1081344 ≤ (cbS sc s d).1 ∧ (cbS sc s d).2 ≤ 1048576 ∧ (cbS sc s d).1 ≤ (cbS sc s d).2 := by
  have h2 := bey_rng h h0 h1
  have a := h.e hk; have b := h.f hk; have c := h.g hk
  unfold cbS saidS
  rw [hk, if_pos rfl]
  dsimp only
  omega
theorem corn_near {ss : List St} {sc : Int} {R : Nat → Bool} {n i : Nat} {d : Bool} {c : Int} (h : CornC ss sc R n d c) (hi : i < n) (hR : R i = true) (hok : StOk (ss.getD i default) d) (hk : (ss.getD i default).k = true) (h0 : 0 ≤ sc) (h1 : sc ≤ 1000) : -1081344 ≤ c ∧ c ≤ 1048576 := by
  have := h.2 i hi hR
  have := near hok hk h0 h1
  omega
/-- The same truths, farther on. -/
structure Pair (δ : Bool → Int) (xs ys : List Scl) : Prop where
  fwd : ∀ x ∈ xs, ∃ y ∈ ys, y.sc = x.sc ∧ ∀ d, y.lo d = x.lo d + δ d ∧ y.hi d = x.hi d + δ d
  bwd : ∀ y ∈ ys, ∃ x ∈ xs, y.sc = x.sc ∧ ∀ d, y.lo d = x.lo d + δ d ∧ y.hi d = x.hi d + δ d
theorem corS_shift {ss ss' : List St} {sc : Int} {R R' : Nat → Bool} {n : Nat} {d : Bool} {δ : Int} (h : ∀ c, CornC ss sc R n d c ↔ CornC ss' sc R' n d (c + δ)) :
    ((corS ss sc R d n).1 ≤ (corS ss sc R d n).2 ↔ (corS ss' sc R' d n).1 ≤ (corS ss' sc R' d n).2) ∧ ((corS ss sc R d n).1 ≤ (corS ss sc R d n).2 → (corS ss' sc R' d n).1 = (corS ss sc R d n).1 + δ ∧ (corS ss' sc R' d n).2 = (corS ss sc R d n).2 + δ) := by
  have e : ∀ c, ((corS ss sc R d n).1 ≤ c ∧ c ≤ (corS ss sc R d n).2) ↔ ((corS ss' sc R' d n).1 ≤ c + δ ∧ c + δ ≤ (corS ss' sc R' d n).2) := fun c => by rw [cor_iff, cor_iff]; exact h c
  have a := e (corS ss sc R d n).1
  have b := e (corS ss sc R d n).2
  have c := e ((corS ss' sc R' d n).1 - δ)
  have f := e ((corS ss' sc R' d n).2 - δ)
  omega
theorem corB_ne {ss : List St} {sc : Int} {R : Nat → Bool} {n : Nat} (h : corB ss sc R n = true) (d : Bool) : (corS ss sc R d n).1 ≤ (corS ss sc R d n).2 := by
  unfold corB at h
  simp only [Bool.and_eq_true, decide_eq_true_eq] at h
  cases d
  · exact h.1
  · exact h.2
theorem corB_shift {ss ss' : List St} {sc : Int} {R R' : Nat → Bool} {n : Nat} {δ : Bool → Int} (h : ∀ d c, CornC ss sc R n d c ↔ CornC ss' sc R' n d (c + δ d)) : corB ss sc R n = corB ss' sc R' n := by
  have a := (corS_shift (h false)).1
  have b := (corS_shift (h true)).1
  unfold corB
  rw [decide_eq_decide.2 a, decide_eq_decide.2 b]
theorem can_shift {p p' : Pl} {ss ss' : List St} {set set' : Int} {δ : Bool → Int} (hlo : 1 ≤ p.lo) (hhi : p.hi ≤ 1000) (e1 : p'.lo = p.lo) (e2 : p'.hi = p.hi) (e3 : p'.n = p.n)
    (h : ∀ sc, p.lo ≤ sc → sc ≤ p.hi → ∀ d c, CornC ss sc (setI set) p.n d c ↔ CornC ss' sc (setI set') p.n d (c + δ d)) : canR p' ss' set' = canR p ss set := by
  have hi : canR p' ss' set' = true ↔ canR p ss set = true := by
    rw [canR_iff hlo hhi, canR_iff (by omega) (by omega), e1, e2, e3]
    constructor
    · rintro ⟨sc, h1, h2⟩; exact ⟨sc, h1, by rw [corB_shift (h sc h1.1 h1.2)]; exact h2⟩
    · rintro ⟨sc, h1, h2⟩; exact ⟨sc, h1, by rw [← corB_shift (h sc h1.1 h1.2)]; exact h2⟩
  cases ha : canR p ss set
  · cases hb : canR p' ss' set'
    · rfl
    · rw [hi.1 hb] at ha; cases ha
  · exact hi.2 ha
theorem pair_of {p p' : Pl} {ss ss' : List St} {set set' : Int} {δ : Bool → Int} (hlo : 1 ≤ p.lo) (hhi : p.hi ≤ 1000) (e1 : p'.lo = p.lo) (e2 : p'.hi = p.hi) (e3 : p'.n = p.n)
    (h : ∀ sc, p.lo ≤ sc → sc ≤ p.hi → ∀ d c, CornC ss sc (setI set) p.n d c ↔ CornC ss' sc (setI set') p.n d (c + δ d)) : Pair δ (trL p ss set) (trL p' ss' set') := by
  have hl : ∀ (x : Scl) (q : Int × Int) (d : Bool), (x.lo d, x.hi d) = q → x.lo d = q.1 ∧ x.hi d = q.2 := fun x q d h => by rw [← h]; exact ⟨rfl, rfl⟩
  constructor
  · intro x hx
    obtain ⟨⟨h1, h2⟩, h3, h4⟩ := trL_of hx
    obtain ⟨y, hy, y1, y2⟩ := trL_mk (p := p') (ss := ss') (set := set') (by omega) (by omega) (sc := x.sc) (by omega) (by omega) (by rw [e3, ← corB_shift (h _ h1 h2)]; exact h3)
    refine ⟨y, hy, y1, fun d => ?_⟩
    have a := hl _ _ _ (h4 d)
    have b := hl _ _ _ (y2 d)
    rw [e3] at b
    have c := (corS_shift (h x.sc h1 h2 d)).2 (corB_ne h3 d)
    omega
  · intro y hy
    obtain ⟨⟨h1, h2⟩, h3, h4⟩ := trL_of hy
    rw [e3] at h3 h4
    have h3' := h3
    rw [← corB_shift (h y.sc (by omega) (by omega))] at h3'
    obtain ⟨x, hx, x1, x2⟩ := trL_mk (p := p) (ss := ss) (set := set) hlo hhi (sc := y.sc) (by omega) (by omega) h3'
    refine ⟨x, hx, x1.symm, fun d => ?_⟩
    have a := hl _ _ _ (h4 d)
    have b := hl _ _ _ (x2 d)
    have c := (corS_shift (h y.sc (by omega) (by omega) d)).2 (corB_ne h3' d)
    omega
theorem pair_nil {δ : Bool → Int} {xs ys : List Scl} (h : Pair δ xs ys) : xs = [] ↔ ys = [] := by
  constructor
  · rintro rfl
    cases ys with
    | nil => rfl
    | cons y ys => obtain ⟨x, hx, _⟩ := h.bwd y List.mem_cons_self; cases hx
  · rintro rfl
    cases xs with
    | nil => rfl
    | cons x xs => obtain ⟨x, hx, _⟩ := h.fwd x List.mem_cons_self; cases hx
end Go.Proofs.Ytdkegkacpdkjgaa

namespace Go.Proofs.Ytdkegkacpdkjgaa
open Go.RowKit Go.Maps

theorem test_add {b v : Nat} (hv : v < 2 ^ b) (i : Nat) : (2 ^ b + v).testBit i = (decide (i = b) || v.testBit i) := by
  rcases Nat.lt_trichotomy i b with hi | rfl | hi
  · rw [Nat.testBit_two_pow_add_gt hi, decide_eq_false (by omega), Bool.false_or]
  · rw [Nat.testBit_two_pow_add_eq, Nat.testBit_lt_two_pow hv, decide_eq_true rfl]; rfl
  · have hp : 2 ^ (b + 1) ≤ 2 ^ i := Nat.pow_le_pow_right (by decide) hi
    have hq : 2 ^ (b + 1) = 2 * 2 ^ b := by rw [Nat.pow_succ, Nat.mul_comm]
    rw [Nat.testBit_lt_two_pow (show 2 ^ b + v < 2 ^ i by omega), Nat.testBit_lt_two_pow (show v < 2 ^ i by omega), decide_eq_false (by omega)]; rfl
theorem sizeF_add : ∀ (b k v : Nat), b < k → v < 2 ^ b → sizeF k ((2 ^ b + v : Nat) : Int) = sizeF k (v : Int) + 1
  | b, 0, v, h, _ => by omega
  | 0, k + 1, v, _, hv => by
    obtain rfl : v = 0 := by simpa using hv
    rw [sizeF, sizeF]
    show (1 : Int) % 2 + sizeF k (1 / 2) = (0 : Int) % 2 + sizeF k (0 / 2) + 1
    rw [show (1 : Int) / 2 = 0 from rfl, show (0 : Int) / 2 = 0 from rfl, sizeF_zero]; rfl
  | b + 1, k + 1, v, h, hv => by
    have hp : 2 ^ (b + 1) = 2 * 2 ^ b := by rw [Nat.pow_succ, Nat.mul_comm]
    have ih := sizeF_add b k (v / 2) (by omega) (by omega)
    rw [sizeF, sizeF]
    have e1 : ((2 ^ (b + 1) + v : Nat) : Int) / 2 = ((2 ^ b + v / 2 : Nat) : Int) := by omega
    have e2 : (v : Int) / 2 = ((v / 2 : Nat) : Int) := by omega
    have e3 : ((2 ^ (b + 1) + v : Nat) : Int) % 2 = (v : Int) % 2 := by omega
    rw [e1, e2, e3, ih]; omega
theorem popc_add {b v : Nat} (hb : b < 12) (hv : v < 2 ^ b) : popc ((2 ^ b + v : Nat) : Int) = popc (v : Int) + 1 := by
  have hp : 2 ^ (b + 1) ≤ 4096 := (by decide +kernel : ∀ k : Fin 12, 2 ^ (k.val + 1) ≤ 4096) ⟨b, hb⟩
  have hq : 2 ^ (b + 1) = 2 * 2 ^ b := by rw [Nat.pow_succ, Nat.mul_comm]
  rw [← sizeF_popc (by omega), ← sizeF_popc (by omega), sizeF_add b 12 v hb hv]
theorem popc_zero : popc (0 : Int) = 0 := by decide
theorem popc_le : ∀ (b v : Nat), b ≤ 12 → v < 2 ^ b → 0 ≤ popc (v : Int) ∧ popc (v : Int) ≤ b ∧ (popc (v : Int) = 0 → v = 0)
  | 0, v, _, hv => by
    obtain rfl : v = 0 := by simpa using hv
    exact ⟨by decide, by decide, fun _ => rfl⟩
  | b + 1, v, hb, hv => by
    have hq : 2 ^ (b + 1) = 2 * 2 ^ b := by rw [Nat.pow_succ, Nat.mul_comm]
    by_cases h : v < 2 ^ b
    · have := popc_le b v (by omega) h
      exact ⟨this.1, by omega, this.2.2⟩
    · obtain ⟨u, rfl⟩ : ∃ u, v = 2 ^ b + u := ⟨v - 2 ^ b, by omega⟩
      have := popc_le b u (by omega) (by omega)
      rw [popc_add (by omega) (by omega)]
      exact ⟨by omega, by omega, fun h => by omega⟩
theorem sizeF_mono : ∀ (j x y : Nat), (∀ i, i < j → y.testBit i = true → x.testBit i = true) → sizeF j (y : Int) ≤ sizeF j (x : Int) ∧ ∀ i, i < j → x.testBit i = true → y.testBit i = false → sizeF j (y : Int) < sizeF j (x : Int)
  | 0, x, y, _ => ⟨by rw [sizeF, sizeF]; omega, fun i hi => by omega⟩
  | j + 1, x, y, h => by
    have ih := sizeF_mono j (x / 2) (y / 2) (fun i hi hb => by
      have := h (i + 1) (by omega) (by rw [Nat.testBit_succ]; exact hb)
      rw [Nat.testBit_succ] at this; exact this)
    have h0 := h 0 (by omega)
    have t0 : ∀ x : Nat, x.testBit 0 = true ↔ x % 2 = 1 := fun x => by rw [Nat.testBit_zero, decide_eq_true_eq]
    rw [t0, t0] at h0
    rw [sizeF, sizeF]
    have e1 : (x : Int) / 2 = ((x / 2 : Nat) : Int) := by omega
    have e2 : (y : Int) / 2 = ((y / 2 : Nat) : Int) := by omega
    rw [e1, e2]
    generalize sizeF j ((x / 2 : Nat) : Int) = a at *
    generalize sizeF j ((y / 2 : Nat) : Int) = b at *
    refine ⟨by have := ih.1; omega, fun i hi hx hy => ?_⟩
    cases i with
    | zero =>
      have := ih.1
      rw [t0] at hx
      have : ¬ y % 2 = 1 := fun e => by rw [(t0 y).2 e] at hy; cases hy
      omega
    | succ i =>
      rw [Nat.testBit_succ] at hx hy
      have := ih.2 i (by omega) hx hy
      omega
theorem popc_mono {x y : Nat} (hx : x < 4096) (hy : y < 4096) (h : ∀ i, y.testBit i = true → x.testBit i = true) : popc (y : Int) ≤ popc (x : Int) := by
  have := (sizeF_mono 12 x y (fun i _ => h i)).1
  rwa [sizeF_popc (by omega), sizeF_popc (by omega)] at this
theorem popc_lt {x y : Nat} (hx : x < 4096) (hy : y < 4096) (h : ∀ i, y.testBit i = true → x.testBit i = true) {i : Nat} (hi : i < 12) (h1 : x.testBit i = true) (h2 : y.testBit i = false) : popc (y : Int) < popc (x : Int) := by
  have := (sizeF_mono 12 x y (fun i _ => h i)).2 i hi h1 h2
  rwa [sizeF_popc (by omega), sizeF_popc (by omega)] at this
/-- A set of some of all stars. -/
def Sub (v : Nat) (all : Int) : Prop := ∀ i, v.testBit i = true → setI all i = true
theorem or_above {T b : Nat} (hb : b < 12) (hT : T % 2 ^ (b + 1) = 0) (hT2 : T < 4096) : bits .or .i64 (T : Int) (wrap64 (2 ^ b)) = ((T + 2 ^ b : Nat) : Int) := by
  have hp : wrap64 (2 ^ b) = ((2 ^ b : Nat) : Int) := (by decide +kernel : ∀ k : Fin 12, wrap64 (2 ^ k.val) = ((2 ^ k.val : Nat) : Int)) ⟨b, hb⟩
  have hp2 : 1 ≤ 2 ^ b ∧ 2 ^ b < 4096 := (by decide +kernel : ∀ k : Fin 12, 1 ≤ 2 ^ k.val ∧ 2 ^ k.val < 4096) ⟨b, hb⟩
  unfold bits
  rw [hp]
  dsimp only
  have ho : T ||| 2 ^ b = T + 2 ^ b := by
    have e : T = 2 ^ (b + 1) * (T / 2 ^ (b + 1)) := by have := Nat.div_add_mod T (2 ^ (b + 1)); omega
    have hlt : 2 ^ b < 2 ^ (b + 1) := Nat.pow_lt_pow_right (by decide) (by omega)
    have := Nat.two_pow_add_eq_or_of_lt hlt (T / 2 ^ (b + 1))
    rw [← e] at this
    exact this.symm
  rw [BitVec.toNat_or, bv_nat (by omega), bv_nat (by omega), ho, i64_of_nat (by omega)]
theorem mod_half {T b : Nat} (hT : T % 2 ^ (b + 1) = 0) : T % 2 ^ b = 0 ∧ (T + 2 ^ b) % 2 ^ b = 0 := by
  have h : T % 2 ^ b = 0 := Nat.mod_eq_zero_of_dvd (Nat.dvd_trans (Nat.pow_dvd_pow 2 (by omega)) (Nat.dvd_of_mod_eq_zero hT))
  exact ⟨h, by rw [Nat.add_mod_right]; exact h⟩
theorem try_spec (ask : Int → Bool) (all : Int) : ∀ (b m T : Nat), b ≤ 10 → T % 2 ^ b = 0 → T + 2 ^ b ≤ 1024 →
    (∀ x, tryS ask all b (T : Int) m = some x → ∃ u, u < 2 ^ b ∧ Sub u all ∧ popc (u : Int) = m ∧ x = ((T + u : Nat) : Int) ∧ ask x = true ∧ ∀ v, v < 2 ^ b → Sub v all → popc (v : Int) = m → ask ((T + v : Nat) : Int) = true → u ≤ v) ∧
    (tryS ask all b (T : Int) m = none → ∀ v, v < 2 ^ b → Sub v all → popc (v : Int) = m → ask ((T + v : Nat) : Int) = false)
  | 0, m, T, _, _, _ => by
    have hv0 : ∀ v : Nat, v < 2 ^ 0 → v = 0 := fun v hv => by simpa using hv
    have hs0 : Sub 0 all := fun i h => by rw [Nat.zero_testBit] at h; cases h
    have hp0 : popc ((0 : Nat) : Int) = 0 := popc_zero
    rw [tryS]
    by_cases hm : m = 0
    · subst hm
      rw [if_pos rfl]
      cases ha : ask (T : Int)
      · refine ⟨fun x h => (by cases h), fun _ v hv _ _ => ?_⟩
        rw [hv0 v hv, Nat.add_zero]; exact ha
      · refine ⟨fun x h => ?_, fun h => (by cases h)⟩
        injection h with h
        subst h
        exact ⟨0, by decide, hs0, hp0, by rw [Nat.add_zero], ha, fun v _ _ _ _ => Nat.zero_le _⟩
    · rw [if_neg hm]
      refine ⟨fun x h => (by cases h), fun _ v hv _ hp => ?_⟩
      rw [hv0 v hv, hp0] at hp
      omega
  | b + 1, m, T, hb, hT, hT2 => by
    have hq : 2 ^ (b + 1) = 2 * 2 ^ b := by rw [Nat.pow_succ, Nat.mul_comm]
    have hs0 : Sub 0 all := fun i h => by rw [Nat.zero_testBit] at h; cases h
    have hp0 : popc ((0 : Nat) : Int) = 0 := popc_zero
    obtain ⟨hm1, hm2⟩ := mod_half hT
    have h1 := try_spec ask all b m T (by omega) hm1 (by omega)
    have h2 := try_spec ask all b (m - 1) (T + 2 ^ b) (by omega) hm2 (by omega)
    have hor := or_above (T := T) (b := b) (by omega) hT (by omega)
    rw [tryS]
    by_cases hm : m = 0
    · subst hm
      rw [if_pos rfl]
      have hz : ∀ v : Nat, v < 2 ^ (b + 1) → popc (v : Int) = ((0 : Nat) : Int) → v = 0 := fun v hv hp => (popc_le (b + 1) v (by omega) hv).2.2 hp
      cases ha : ask (T : Int)
      · refine ⟨fun x h => (by cases h), fun _ v hv _ hp => ?_⟩
        rw [hz v hv hp, Nat.add_zero]; exact ha
      · refine ⟨fun x h => ?_, fun h => (by cases h)⟩
        injection h with h
        subst h
        exact ⟨0, Nat.two_pow_pos _, hs0, hp0, by rw [Nat.add_zero], ha, fun v _ _ _ _ => Nat.zero_le _⟩
    rw [if_neg hm]
    by_cases hbm : b + 1 < m
    · rw [if_pos hbm]
      refine ⟨fun x h => (by cases h), fun _ v hv _ hp => ?_⟩
      have := (popc_le (b + 1) v (by omega) hv).2.1
      omega
    rw [if_neg hbm]
    cases h3 : tryS ask all b (T : Int) m with
    | some y =>
      obtain ⟨u, u1, u2, u3, u4, u5, u6⟩ := h1.1 y h3
      refine ⟨fun x h => ?_, fun h => (by cases h)⟩
      injection h with h
      subst h
      refine ⟨u, by omega, u2, u3, u4, u5, fun v hv v2 v3 v4 => ?_⟩
      by_cases hvb : v < 2 ^ b
      · exact u6 v hvb v2 v3 v4
      · omega
    | none =>
      have h1n := h1.2 h3
      dsimp only
      cases hal : setI all b
      · rw [if_neg (by simp)]
        refine ⟨fun x h => (by cases h), fun _ v hv v2 v3 => ?_⟩
        by_cases hvb : v < 2 ^ b
        · exact h1n v hvb v2 v3
        · obtain ⟨u, rfl⟩ : ∃ u, v = 2 ^ b + u := ⟨v - 2 ^ b, by omega⟩
          have := v2 b (by rw [test_add (by omega), decide_eq_true rfl]; rfl)
          rw [hal] at this; cases this
      · rw [if_pos rfl, hor]
        have hsp : ∀ u, u < 2 ^ b → (Sub (2 ^ b + u) all ↔ Sub u all) := fun u hu => by
          constructor
          · intro h i hi; exact h i (by rw [test_add hu, hi, Bool.or_true])
          · intro h i hi
            rw [test_add hu, Bool.or_eq_true, decide_eq_true_eq] at hi
            rcases hi with rfl | hi
            · exact hal
            · exact h i hi
        refine ⟨fun x h => ?_, fun h v hv v2 v3 => ?_⟩
        · obtain ⟨u, u1, u2, u3, u4, u5, u6⟩ := h2.1 x h
          refine ⟨2 ^ b + u, by omega, (hsp u u1).2 u2, by rw [popc_add (by omega) u1, u3]; omega, by rw [u4, Nat.add_assoc], u5, fun v hv v2 v3 v4 => ?_⟩
          by_cases hvb : v < 2 ^ b
          · rw [h1n v hvb v2 v3] at v4; cases v4
          · obtain ⟨z, rfl⟩ : ∃ z, v = 2 ^ b + z := ⟨v - 2 ^ b, by omega⟩
            rw [popc_add (by omega) (by omega)] at v3
            have := u6 z (by omega) ((hsp z (by omega)).1 v2) (by omega) (by rw [Nat.add_assoc]; exact v4)
            omega
        · by_cases hvb : v < 2 ^ b
          · exact h1n v hvb v2 v3
          · obtain ⟨z, rfl⟩ : ∃ z, v = 2 ^ b + z := ⟨v - 2 ^ b, by omega⟩
            rw [popc_add (by omega) (by omega)] at v3
            have := h2.2 h z (by omega) ((hsp z (by omega)).1 v2) (by omega)
            rw [← Nat.add_assoc]; exact this
/-- What the fewest stars that are as asked are. -/
structure Few (ask : Int → Bool) (all : Int) (u : Nat) : Prop where
  lt : u < 1024
  sub : Sub u all
  asks : ask (u : Int) = true
  least : ∀ v, v < 1024 → Sub v all → ask (v : Int) = true → popc (u : Int) < popc (v : Int) ∨ (popc (u : Int) = popc (v : Int) ∧ u ≤ v)
theorem fewTo_spec (ask : Int → Bool) (all : Int) : ∀ n : Nat, (∀ x, fewTo ask all n = some x → ∃ u : Nat, x = (u : Int) ∧ Few ask all u) ∧ (fewTo ask all n = none → ∀ v, v < 1024 → Sub v all → popc (v : Int) < n → ask (v : Int) = false)
  | 0 => ⟨fun x h => (by cases h), fun _ v hv _ hp => by have := (popc_le 10 v (by decide) hv).1; omega⟩
  | n + 1 => by
    have ih := fewTo_spec ask all n
    have ht := try_spec ask all 10 n 0 (by decide) (by decide) (by decide)
    rw [fewTo]
    cases h : fewTo ask all n with
    | some y =>
      refine ⟨fun x hx => ?_, fun hx => (by cases hx)⟩
      injection hx with hx
      subst hx
      exact ih.1 y h
    | none =>
      have hn := ih.2 h
      dsimp only
      refine ⟨fun x hx => ?_, fun hx v hv v2 v3 => ?_⟩
      · obtain ⟨u, u1, u2, u3, u4, u5, u6⟩ := ht.1 x hx
        rw [Nat.zero_add] at u4
        subst u4
        refine ⟨u, rfl, u1, u2, u5, fun v hv v2 v3 => ?_⟩
        rcases Int.lt_trichotomy (popc (u : Int)) (popc (v : Int)) with h1 | h1 | h1
        · exact .inl h1
        · exact .inr ⟨h1, u6 v hv v2 (by omega) (by rw [Nat.zero_add]; exact v3)⟩
        · rw [hn v hv v2 (by omega)] at v3; cases v3
      · by_cases hp : popc (v : Int) < n
        · exact hn v hv v2 hp
        · have := ht.2 hx v hv v2 (by omega)
          rwa [Nat.zero_add] at this
theorem few_is {ask : Int → Bool} {all : Nat} (hall : all < 4096) (h : ∃ v : Nat, v < 1024 ∧ Sub v (all : Int) ∧ ask (v : Int) = true) : ∃ u : Nat, fewS ask (all : Int) = (u : Int) ∧ Few ask (all : Int) u := by
  obtain ⟨v, v1, v2, v3⟩ := h
  have hs := fewTo_spec ask (all : Int) (popc (all : Int) + 1).toNat
  unfold fewS
  cases hf : fewTo ask (all : Int) (popc (all : Int) + 1).toNat with
  | some x =>
    obtain ⟨u, rfl, hu⟩ := hs.1 x hf
    exact ⟨u, rfl, hu⟩
  | none =>
    have hm := popc_mono (x := all) (y := v) hall (by omega) (fun i hi => by
      have h12 : i < 12 := by
        rcases Nat.lt_or_ge i 12 with h | h
        · exact h
        · rw [Nat.testBit_lt_two_pow (Nat.lt_of_lt_of_le v1 (Nat.le_trans (by decide : 1024 ≤ 2 ^ 12) (Nat.pow_le_pow_right (by decide) h)))] at hi; cases hi
      rw [← bit_nat hall h12]; exact v2 i hi)
    have hr := popc_rng (all : Int)
    rw [hs.2 hf v v1 v2 (by omega)] at v3; cases v3
theorem few_not {ask : Int → Bool} {all : Nat} (h : ∀ v : Nat, v < 1024 → Sub v (all : Int) → ask (v : Int) = false) : fewS ask (all : Int) = 0 := by
  have hs := fewTo_spec ask (all : Int) (popc (all : Int) + 1).toNat
  unfold fewS
  cases hf : fewTo ask (all : Int) (popc (all : Int) + 1).toNat with
  | none => rfl
  | some x =>
    obtain ⟨u, rfl, hu⟩ := hs.1 x hf
    exact absurd hu.asks (by rw [h u hu.lt hu.sub]; decide)
/-- Two questions with the same answers. -/
theorem few_same {ask ask' : Int → Bool} {all : Nat} (hall : all < 4096) (h : ∀ v : Nat, v < 1024 → Sub v (all : Int) → ask' (v : Int) = ask (v : Int)) : fewS ask' (all : Int) = fewS ask (all : Int) := by
  by_cases hx : ∃ v : Nat, v < 1024 ∧ Sub v (all : Int) ∧ ask (v : Int) = true
  · obtain ⟨u, e1, hu⟩ := few_is hall hx
    obtain ⟨v, v1, v2, v3⟩ := hx
    obtain ⟨u', e2, hu'⟩ := few_is (ask := ask') hall ⟨v, v1, v2, by rw [h v v1 v2]; exact v3⟩
    have a := hu.least u' hu'.lt hu'.sub (by rw [← h u' hu'.lt hu'.sub]; exact hu'.asks)
    have b := hu'.least u hu.lt hu.sub (by rw [h u hu.lt hu.sub]; exact hu.asks)
    rw [e1, e2]
    omega
  · have hn : ∀ v : Nat, v < 1024 → Sub v (all : Int) → ask (v : Int) = false := fun v v1 v2 => by
      cases e : ask (v : Int)
      · rfl
      · exact absurd ⟨v, v1, v2, e⟩ hx
    rw [few_not hn, few_not fun v v1 v2 => by rw [h v v1 v2]; exact hn v v1 v2]
theorem andNot_nat {a b : Nat} (ha : a < 4096) (hb : b < 1000000) : ∃ y : Nat, bits .andNot .i64 (a : Int) (b : Int) = (y : Int) ∧ y ≤ a ∧ ∀ i, y.testBit i = (a.testBit i && !b.testBit i) := by
  unfold bits
  dsimp only
  have e : (BitVec.ofInt IntKind.i64.bits (a : Int) &&& ~~~ BitVec.ofInt IntKind.i64.bits (b : Int)).toNat = a &&& (2 ^ 64 - (b + 1)) := by
    rw [BitVec.toNat_and, BitVec.toNat_not, bv_nat (by omega), bv_nat (by omega)]
    have h64 : 2 ^ IntKind.i64.bits - 1 - b = 2 ^ 64 - (b + 1) := by show 2 ^ 64 - 1 - b = _; omega
    rw [h64]
  have hle : a &&& (2 ^ 64 - (b + 1)) ≤ a := Nat.and_le_left
  refine ⟨a &&& (2 ^ 64 - (b + 1)), by rw [e, i64_of_nat (by omega)], hle, fun i => ?_⟩
  rw [Nat.testBit_and, Nat.testBit_two_pow_sub_succ (by omega)]
  by_cases hi : i < 64
  · rw [decide_eq_true hi]; simp
  · have : a.testBit i = false := Nat.testBit_lt_two_pow (Nat.lt_of_lt_of_le (show a < 2 ^ 64 by omega) (Nat.pow_le_pow_right (by decide) (by omega)))
    rw [this]; simp
/-- Whether stars can be right is asked of each of them alone. -/
theorem corn_ext {ss : List St} {sc : Int} {R R' : Nat → Bool} {n : Nat} (h : ∀ i, i < n → R i = R' i) (d : Bool) (c : Int) : CornC ss sc R n d c ↔ CornC ss sc R' n d c := by
  unfold CornC
  exact ⟨fun k => ⟨k.1, fun i hi hr => k.2 i hi (by rw [h i hi]; exact hr)⟩, fun k => ⟨k.1, fun i hi hr => k.2 i hi (by rw [← h i hi]; exact hr)⟩⟩
end Go.Proofs.Ytdkegkacpdkjgaa

namespace Go.Proofs.Ytdkegkacpdkjgaa
open Go.RowKit Go.Maps

def shV (δ : Bool → Int) (v : Value) : Value := .agg #[.int .i64 (numB v 0 + δ false), .int .i64 (numB v 1 + δ false), .int .i64 (numB v 2 + δ true), .int .i64 (numB v 3 + δ true)]
def shR (δ : Bool → Int) : Except Int Value → Except Int Value
  | .ok v => .ok (shV δ v)
  | .error c => .error c
theorem along_shift {δ : Bool → Int} {f g : Bool → Scl → Int × Int} {xs ys : List Scl} (h1 : ∀ d, ∀ x ∈ xs, (f d x).1 ≤ (f d x).2 → ∃ y ∈ ys, (g d y).1 = (f d x).1 + δ d ∧ (g d y).2 = (f d x).2 + δ d)
    (h2 : ∀ d, ∀ y ∈ ys, (g d y).1 ≤ (g d y).2 → ∃ x ∈ xs, (g d y).1 = (f d x).1 + δ d ∧ (g d y).2 = (f d x).2 + δ d) :
    alongR (kepL (g false) ys) (kepL (g true) ys) = shR δ (alongR (kepL (f false) xs) (kepL (f true) xs)) := by
  rw [kep_shift (h1 false) (h2 false), kep_shift (h1 true) (h2 true)]
  generalize kepL (f false) xs = k0
  generalize kepL (f true) xs = k1
  obtain ⟨a0, a1, a2⟩ := k0
  obtain ⟨b0, b1, b2⟩ := k1
  unfold alongR shR
  cases a2 <;> cases b2 <;> rfl
theorem along_same {f g : Bool → Scl → Int × Int} {xs ys : List Scl} (h1 : ∀ d, ∀ x ∈ xs, (f d x).1 ≤ (f d x).2 → ∃ y ∈ ys, g d y = f d x)
    (h2 : ∀ d, ∀ y ∈ ys, (g d y).1 ≤ (g d y).2 → ∃ x ∈ xs, g d y = f d x) :
    alongR (kepL (g false) ys) (kepL (g true) ys) = alongR (kepL (f false) xs) (kepL (f true) xs) := by
  rw [kep_same (h1 false) (h2 false), kep_same (h1 true) (h2 true)]
/-- Errors are not zero. -/
def noZ (r : Except Int Value) : Prop := ∀ c, r = .error c → c ≠ 0
theorem noZ_err {c : Int} (h : c ≠ 0) : noZ (.error c) := fun x e => by injection e with e; subst e; exact h
theorem noZ_ok (v : Value) : noZ (.ok v) := fun x e => by cases e
theorem along_noZ (k0 k1 : Int × Int × Bool) : noZ (alongR k0 k1) := by
  unfold alongR; (repeat' split) <;> first | exact noZ_ok _ | exact noZ_err (by decide)
theorem zero_noZ (p : Pl) (ss : List St) : noZ (zeroR p ss) := by unfold zeroR tellK; (repeat' split) <;> first | exact along_noZ _ _ | exact noZ_err (by decide)
theorem star_noZ (p : Pl) (ss : List St) (i : Int) : noZ (starR p ss i) := by unfold starR tellK; (repeat' split) <;> first | exact along_noZ _ _ | exact noZ_err (by decide)
theorem apart_noZ (p : Pl) (ss : List St) (i j : Int) : noZ (apartR p ss i j) := by unfold apartR tellR; (repeat' split) <;> first | exact along_noZ _ _ | exact noZ_err (by decide)
theorem find_noZ (p : Pl) (ss : List St) (i j : Int) : noZ (findR p ss i j) := by unfold findR tellK; (repeat' split) <;> first | exact along_noZ _ _ | exact noZ_err (by decide)
theorem scale_noZ (p : Pl) (ss : List St) : noZ (scaleR p ss) := by unfold scaleR scaleV; (repeat' split) <;> first | exact noZ_ok _ | exact noZ_err (by decide)
/-- Numbers of an answer are bounded. -/
def Bnd (M : Int) (r : Except Int Value) : Prop := ∀ v, r = .ok v → ∀ i, i < 4 → -M ≤ numB v i ∧ numB v i ≤ M
theorem bnd_err (M c : Int) : Bnd M (.error c) := fun v e => by cases e
theorem along_bnd {M : Int} {f : Bool → Scl → Int × Int} {xs : List Scl} (h : ∀ d, ∀ x ∈ xs, -M ≤ (f d x).1 ∧ (f d x).2 ≤ M) : Bnd M (alongR (kepL (f false) xs) (kepL (f true) xs)) := by
  have hk : ∀ d, (kepL (f d) xs).2.2 = true → (-M ≤ (kepL (f d) xs).1 ∧ (kepL (f d) xs).1 ≤ M) ∧ -M ≤ (kepL (f d) xs).2.1 ∧ (kepL (f d) xs).2.1 ≤ M := fun d ht => by
    obtain ⟨x, hx, hl, e1⟩ := (kepL_of (f d) xs).lo ht
    obtain ⟨y, hy, hm, e2⟩ := (kepL_of (f d) xs).hi ht
    have a := h d x hx
    have b := h d y hy
    omega
  intro v hv i hi
  unfold alongR at hv
  split at hv
  · rename_i h0
    split at hv
    · rename_i h1
      injection hv with hv
      subst hv
      have a := hk false h0
      have b := hk true h1
      have : i = 0 ∨ i = 1 ∨ i = 2 ∨ i = 3 := by omega
      rcases this with rfl | rfl | rfl | rfl
      · exact a.1
      · exact a.2
      · exact b.1
      · exact b.2
    · cases hv
  · cases hv
theorem zero_bnd {p : Pl} {ss : List St} (h : plB p ss = true → PlOk p ss) : Bnd 100000000 (zeroR p ss) := by
  unfold zeroR tellK
  split
  · rename_i hv
    repeat' split
    · exact bnd_err _ _
    · exact bnd_err _ _
    · exact along_bnd (f := fun d x => (x.lo d, x.hi d)) (xs := trA p ss) fun d x hx => by have a := (trL_ok (h hv) hx).lo d; have b := (trL_ok (h hv) hx).hi d; exact ⟨a.1, b.2⟩
  · exact bnd_err _ _
theorem star_bnd {p : Pl} {ss : List St} (h : plB p ss = true → PlOk p ss) (i : Int) : Bnd 200000000 (starR p ss i) := by
  unfold starR tellK
  split
  · rename_i hv
    split
    · rename_i hi
      repeat' split
      · exact bnd_err _ _
      · exact bnd_err _ _
      · refine along_bnd (f := fun d x => plS x.sc (x.lo d) (x.hi d) (ss.getD i.toNat default) d) (xs := trA p ss) fun d x hx => ?_
        have k := trL_ok (h hv) hx
        have hn := (h hv).nl
        have := pl_rng ((h hv).st i.toNat (by omega) d) (sc := x.sc) (by have := k.s0; omega) k.s1 (k.lo d) (k.hi d)
        exact ⟨by omega, by omega⟩
    · exact bnd_err _ _
  · exact bnd_err _ _
theorem plOk' {p : Pl} {ss : List St} (hn : ss.length = p.n) (hv : plB p ss = true) : PlOk p ss := by
  unfold plB at hv
  simp only [Bool.and_eq_true, decide_eq_true_eq, List.all_eq_true] at hv
  obtain ⟨⟨⟨⟨h1, h2⟩, h3⟩, h4⟩, h5⟩ := hv
  refine ⟨h1, h2, h3, h4, hn, fun i hi d => stOk (h5 _ ?_) d⟩
  have e : ss.getD i default = ss[i] := by simp [List.getD, hi]
  rw [e]; exact List.getElem_mem hi
/-- An answer that is farther on, in numbers. -/
theorem rep_shift {δ : Bool → Int} {M : Int} {r : Except Int Value} (h : isFour r) (hz : noZ r) (hb : Bnd M r) (hM : 0 ≤ M) : ∃ a b c d e a' b' c' d' : Int, repB r = .tuple #[.agg #[.int .i64 a, .int .i64 b], .agg #[.int .i64 c, .int .i64 d], .int .i64 e] ∧
    repB (shR δ r) = .tuple #[.agg #[.int .i64 a', .int .i64 b'], .agg #[.int .i64 c', .int .i64 d'], .int .i64 e] ∧ (e = 0 → a' = a + δ false ∧ b' = b + δ false ∧ c' = c + δ true ∧ d' = d + δ true) ∧
    ((-M ≤ a ∧ a ≤ M) ∧ (-M ≤ b ∧ b ≤ M) ∧ (-M ≤ c ∧ c ≤ M) ∧ (-M ≤ d ∧ d ≤ M)) := by
  cases r with
  | error c => exact ⟨0, 0, 0, 0, c, 0, 0, 0, 0, rfl, rfl, fun h => absurd h (hz c rfl), by omega⟩
  | ok v =>
    have hb := hb v rfl
    obtain ⟨a, b, c, d, rfl⟩ := h v rfl
    exact ⟨a, b, c, d, 0, a + δ false, b + δ false, c + δ true, d + δ true, rfl, rfl, fun _ => ⟨rfl, rfl, rfl, rfl⟩, hb 0 (by decide), hb 1 (by decide), hb 2 (by decide), hb 3 (by decide)⟩
section
variable {p p' : Pl} {ss : List St} {b t : Int}
/-- A plate whose known places are moved, and it before. -/
structure Mvd (p p' : Pl) (ss : List St) (b t : Int) : Prop where
  lo : p'.lo = p.lo
  hi : p'.hi = p.hi
  n : p'.n = p.n
  nl : ss.length = p.n
  v : plB p ss = true
  v' : plB p' (ss.map (movS b t)) = true
theorem Mvd.ok (h : Mvd p p' ss b t) : PlOk p ss := plOk' h.nl h.v
theorem Mvd.ok' (h : Mvd p p' ss b t) : PlOk p' (ss.map (movS b t)) := plOk' (by rw [List.length_map, h.nl, h.n]) h.v'
theorem Mvd.st (h : Mvd p p' ss b t) {i : Nat} (hi : i < p.n) (d : Bool) : StOk (movS b t (ss.getD i default)) d := by
  rw [← mov_get]; exact h.ok'.st i (by rw [List.length_map, h.nl]; exact hi) d
theorem mvd_corn (h : Mvd p p' ss b t) {set : Int} {i0 : Nat} (hi0 : i0 < p.n) (hk0 : (ss.getD i0 default).k = true) (hR0 : setI set i0 = true) (hsub : ∀ i, i < p.n → setI set i = true → (ss.getD i default).k = true)
    {sc : Int} (h1 : p.lo ≤ sc) (h2 : sc ≤ p.hi) (d : Bool) (c : Int) : CornC ss sc (setI set) p.n d c ↔ CornC (ss.map (movS b t)) sc (setI set) p.n d (c + dlt b t d) := by
  have ok := h.ok
  have hlo := ok.lo
  have hhi := ok.hi
  constructor
  · intro hc
    have hin : ∀ i, i < p.n → setI set i = true → (cbS sc (movS b t (ss.getD i default)) d).1 ≤ c + dlt b t d ∧ c + dlt b t d ≤ (cbS sc (movS b t (ss.getD i default)) d).2 := fun i hi hr => by
      have a := mov_cb (b := b) (t := t) (sc := sc) (hsub i hi hr) d
      have := hc.2 i hi hr
      omega
    have hn := near (h.st hi0 d) (by rw [mov_k]; exact hk0) (sc := sc) (by omega) (by omega)
    have := hin i0 hi0 hR0
    exact ⟨by omega, fun i hi hr => by rw [mov_get]; exact hin i hi hr⟩
  · intro hc
    have hin : ∀ i, i < p.n → setI set i = true → (cbS sc (ss.getD i default) d).1 ≤ c ∧ c ≤ (cbS sc (ss.getD i default) d).2 := fun i hi hr => by
      have a := mov_cb (b := b) (t := t) (sc := sc) (hsub i hi hr) d
      have := hc.2 i hi hr
      rw [mov_get] at this
      omega
    have hn := near (ok.st i0 (by rw [h.nl]; exact hi0) d) hk0 (sc := sc) (by omega) (by omega)
    have := hin i0 hi0 hR0
    exact ⟨by omega, hin⟩
theorem tr_same (e1 : p'.lo = p.lo) (e2 : p'.hi = p.hi) (e3 : p'.n = p.n) (ss : List St) (set : Int) : trL p' ss set = trL p ss set := by unfold trL; rw [e1, e2, e3]
theorem mvd_pair (h : Mvd p p' ss b t) (hk : knownTo ss p.n ≠ 0) : Pair (dlt b t) (trA p ss) (trA p' (ss.map (movS b t))) := by
  have ok := h.ok
  have h12 : p.n ≤ 12 := by have := ok.n10; omega
  obtain ⟨i0, hi0, hk0⟩ := known_some h12 hk
  unfold trA
  rw [mov_known, h.n]
  refine pair_of ok.lo ok.hi h.lo h.hi h.n fun sc h1 h2 d c => ?_
  exact mvd_corn h hi0 hk0 (by rw [known_bit ss h12 hi0]; exact hk0) (fun i hi hr => by rw [known_bit ss h12 hi] at hr; exact hr) h1 h2 d c
/-- Where the corner is, if a star is known. -/
theorem tr_near {p : Pl} {ss : List St} (ok : PlOk p ss) (hk : knownTo ss p.n ≠ 0) {x : Scl} (hx : x ∈ trA p ss) (d : Bool) : -1081344 ≤ x.lo d ∧ x.hi d ≤ 1048576 ∧ x.lo d ≤ x.hi d := by
  have h12 : p.n ≤ 12 := by have := ok.n10; omega
  obtain ⟨i0, hi0, hk0⟩ := known_some h12 hk
  obtain ⟨⟨h1, h2⟩, h3, h4⟩ := trL_of hx
  have hlo := ok.lo
  have hhi := ok.hi
  have hl : x.lo d = (corS ss x.sc (setI (knownTo ss p.n)) d p.n).1 := by rw [← h4 d]
  have hh : x.hi d = (corS ss x.sc (setI (knownTo ss p.n)) d p.n).2 := by rw [← h4 d]
  have hle : x.lo d ≤ x.hi d := by
    unfold corB at h3
    simp only [Bool.and_eq_true, decide_eq_true_eq] at h3
    cases d
    · omega
    · omega
  have a := cor_iff.1 (show _ ∧ x.lo d ≤ _ from ⟨by rw [hl]; exact Int.le_refl _, by rw [← hh]; exact hle⟩)
  have b := cor_iff.1 (show _ ≤ x.hi d ∧ _ from ⟨by rw [← hl]; exact hle, by rw [hh]; exact Int.le_refl _⟩)
  have hR0 : setI (knownTo ss p.n) i0 = true := by rw [known_bit ss h12 hi0]; exact hk0
  have c := corn_near a hi0 hR0 (ok.st i0 (by rw [ok.nl]; exact hi0) d) hk0 (by omega) (by omega)
  have e := corn_near b hi0 hR0 (ok.st i0 (by rw [ok.nl]; exact hi0) d) hk0 (by omega) (by omega)
  omega
theorem mvd_pl (h : Mvd p p' ss b t) (hk : knownTo ss p.n ≠ 0) {x y : Scl} (hx : x ∈ trA p ss) (hy : y ∈ trA p' (ss.map (movS b t))) (e : y.sc = x.sc) (hs : ∀ d, y.lo d = x.lo d + dlt b t d ∧ y.hi d = x.hi d + dlt b t d) {i : Nat} (hi : i < p.n) (d : Bool) :
    (plS y.sc (y.lo d) (y.hi d) (movS b t (ss.getD i default)) d).1 = (plS x.sc (x.lo d) (x.hi d) (ss.getD i default) d).1 + dlt b t d ∧ (plS y.sc (y.lo d) (y.hi d) (movS b t (ss.getD i default)) d).2 = (plS x.sc (x.lo d) (x.hi d) (ss.getD i default) d).2 + dlt b t d := by
  have ok := h.ok
  have n1 := tr_near ok hk hx d
  have n2 := tr_near h.ok' (by rw [h.n, mov_known]; exact hk) hy d
  have k := trL_ok ok hx
  have hb := bey_rng (ok.st i (by rw [ok.nl]; exact hi) d) (sc := x.sc) (by have := k.s0; omega) k.s1
  obtain ⟨s1, s2⟩ := hs d
  unfold plS
  rw [e, mov_bey, s1, s2]
  unfold saidS
  rw [mov_k]
  generalize ss.getD i default = s at *
  generalize beyS x.sc s d = z at *
  cases hsk : s.k
  · simp only [Bool.false_eq_true, if_false]
    omega
  · rw [mov_sky hsk]
    simp only [if_true]
    omega
theorem mvd_scale (h : Mvd p p' ss b t) : scaleR p' (ss.map (movS b t)) = scaleR p ss := by
  unfold scaleR
  rw [h.v, h.v', if_pos rfl, if_pos rfl]
  by_cases hk : knownTo ss p.n = 0
  · have e : ss.map (movS b t) = ss := mov_none (by rw [h.nl]; exact hk) (by have := h.ok.n10; have := h.nl; omega)
    have e2 : trA p' ss = trA p ss := by unfold trA; rw [h.n]; exact tr_same h.lo h.hi h.n ss _
    rw [e, e2]
  · have hp := mvd_pair h hk
    have e : kepL (scaleF false) (trA p' (ss.map (movS b t))) = kepL (scaleF false) (trA p ss) := kep_same
      (fun x hx _ => by obtain ⟨y, hy, e, _⟩ := hp.fwd x hx; exact ⟨y, hy, by unfold scaleF; rw [e]⟩)
      (fun y hy _ => by obtain ⟨x, hx, e, _⟩ := hp.bwd y hy; exact ⟨x, hx, by unfold scaleF; rw [e]⟩)
    rw [e]
    by_cases hn : trA p ss = []
    · rw [if_pos hn, if_pos ((pair_nil hp).1 hn)]
    · rw [if_neg hn, if_neg (fun hn' => hn ((pair_nil hp).2 hn'))]
/-- What is asked of all truths is farther on. -/
theorem mvd_tellK (h : Mvd p p' ss b t) {f g : Bool → Scl → Int × Int} {δ : Bool → Int}
    (hfg : knownTo ss p.n ≠ 0 → ∀ d, ∀ x ∈ trA p ss, ∀ y ∈ trA p' (ss.map (movS b t)), y.sc = x.sc → (∀ d, y.lo d = x.lo d + dlt b t d ∧ y.hi d = x.hi d + dlt b t d) → (g d y).1 = (f d x).1 + δ d ∧ (g d y).2 = (f d x).2 + δ d) :
    tellK p' (ss.map (movS b t)) g = shR δ (tellK p ss f) := by
  unfold tellK
  rw [mov_known, h.n]
  by_cases hk : knownTo ss p.n = 0
  · have e : ss.map (movS b t) = ss := mov_none (by rw [h.nl]; exact hk) (by have := h.ok.n10; have := h.nl; omega)
    have e2 : trA p' ss = trA p ss := by unfold trA; rw [h.n]; exact tr_same h.lo h.hi h.n ss _
    rw [e, e2]
    by_cases hn : trA p ss = []
    · rw [if_pos hn, if_pos hn]; rfl
    · rw [if_neg hn, if_neg hn, if_pos hk, if_pos hk]; rfl
  · have hp := mvd_pair h hk
    by_cases hn : trA p ss = []
    · rw [if_pos hn, if_pos ((pair_nil hp).1 hn)]; rfl
    · rw [if_neg hn, if_neg (fun hn' => hn ((pair_nil hp).2 hn')), if_neg hk, if_neg hk]
      exact along_shift (fun d x hx _ => by obtain ⟨y, hy, e, s⟩ := hp.fwd x hx; exact ⟨y, hy, hfg hk d x hx y hy e s⟩)
        (fun d y hy _ => by obtain ⟨x, hx, e, s⟩ := hp.bwd y hy; exact ⟨x, hx, hfg hk d x hx y hy e s⟩)
theorem shR_zero {r : Except Int Value} (h : isFour r) : shR (fun _ => 0) r = r := by
  cases r with
  | error c => rfl
  | ok v =>
    obtain ⟨a, b, c, d, rfl⟩ := h v rfl
    show Except.ok (Value.agg #[.int .i64 (a + 0), .int .i64 (b + 0), .int .i64 (c + 0), .int .i64 (d + 0)]) = _
    rw [Int.add_zero, Int.add_zero, Int.add_zero, Int.add_zero]
theorem mvd_zero (h : Mvd p p' ss b t) : zeroR p' (ss.map (movS b t)) = shR (dlt b t) (zeroR p ss) := by
  unfold zeroR
  rw [h.v, h.v', if_pos rfl, if_pos rfl]
  exact mvd_tellK h fun _ d x _ y _ _ s => s d
theorem mvd_star (h : Mvd p p' ss b t) (i : Int) : starR p' (ss.map (movS b t)) i = shR (dlt b t) (starR p ss i) := by
  unfold starR
  rw [h.v, h.v', if_pos rfl, if_pos rfl, h.n]
  by_cases hi : 0 ≤ i ∧ i < p.n
  · rw [if_pos hi, if_pos hi]
    refine mvd_tellK h fun hk d x hx y hy e s => ?_
    rw [mov_get]
    exact mvd_pl h hk hx hy e s (by omega) d
  · rw [if_neg hi, if_neg hi]; rfl
theorem mvd_apart (h : Mvd p p' ss b t) (i j : Int) : apartR p' (ss.map (movS b t)) i j = apartR p ss i j := by
  unfold apartR
  rw [h.v, h.v', if_pos rfl, if_pos rfl, h.n]
  by_cases hi : 0 ≤ i ∧ i < p.n
  · rw [if_pos hi, if_pos hi]
    by_cases hj : 0 ≤ j ∧ j < p.n
    · rw [if_pos hj, if_pos hj]
      unfold tellR
      by_cases hk : knownTo ss p.n = 0
      · have e : ss.map (movS b t) = ss := mov_none (by rw [h.nl]; exact hk) (by have := h.ok.n10; have := h.nl; omega)
        have e2 : trA p' ss = trA p ss := by unfold trA; rw [h.n]; exact tr_same h.lo h.hi h.n ss _
        rw [e, e2]
      · have hp := mvd_pair h hk
        have hf : ∀ d, ∀ x ∈ trA p ss, ∀ y ∈ trA p' (ss.map (movS b t)), y.sc = x.sc → (∀ d, y.lo d = x.lo d + dlt b t d ∧ y.hi d = x.hi d + dlt b t d) → apartF (ss.map (movS b t)) i.toNat j.toNat d y = apartF ss i.toNat j.toNat d x := fun d x hx y hy e s => by
          unfold apartF
          split
          · rfl
          · have a := mvd_pl h hk hx hy e s (i := i.toNat) (by omega) d
            have c := mvd_pl h hk hx hy e s (i := j.toNat) (by omega) d
            unfold apS
            rw [mov_get, mov_get, a.1, a.2, c.1, c.2, mov_bey, mov_bey, e]
            refine Prod.ext ?_ ?_ <;> dsimp only <;> omega
        by_cases hn : trA p ss = []
        · rw [if_pos hn, if_pos ((pair_nil hp).1 hn)]
        · rw [if_neg hn, if_neg (fun hn' => hn ((pair_nil hp).2 hn'))]
          exact along_same (fun d x hx _ => by obtain ⟨y, hy, e, s⟩ := hp.fwd x hx; exact ⟨y, hy, hf d x hx y hy e s⟩)
            (fun d y hy _ => by obtain ⟨x, hx, e, s⟩ := hp.bwd y hy; exact ⟨x, hx, hf d x hx y hy e s⟩)
    · rw [if_neg hj, if_neg hj]
  · rw [if_neg hi, if_neg hi]
theorem mvd_find (h : Mvd p p' ss b t) {e n : Int} (h1 : (skyB e e && skyB n n) = true) (h2 : (skyB (e + b) (e + b) && skyB (n + t) (n + t)) = true) : findR p' (ss.map (movS b t)) (e + b) (n + t) = findR p ss e n := by
  have hz : findR p' (ss.map (movS b t)) (e + b) (n + t) = shR (fun _ => 0) (findR p ss e n) := by
    unfold findR
    rw [h.v, h.v', if_pos rfl, if_pos rfl, h1, h2, if_pos rfl, if_pos rfl]
    refine mvd_tellK h fun hk d x hx y hy e s => ?_
    obtain ⟨s1, s2⟩ := s d
    unfold fiS
    rw [e, s1, s2]
    unfold soughtS dlt St.sky St.on
    cases d
    · simp only [Bool.false_eq_true, if_false]
      rw [show ∀ a b c : Int, a + b - (c + b) = a - c from fun a b c => by omega, show ∀ a b c : Int, a + b - (c + b) = a - c from fun a b c => by omega]
      omega
    · simp only [if_true]
      rw [show ∀ a b c : Int, a + b - (c + b) = a - c from fun a b c => by omega, show ∀ a b c : Int, a + b - (c + b) = a - c from fun a b c => by omega]
      omega
  rw [hz, shR_zero (find_four p ss e n)]
theorem sub_lt {v : Nat} {ss : List St} {n : Nat} (hn : n ≤ 12) (h : Sub v (knownTo ss n)) {i : Nat} (hi : v.testBit i = true) (h12 : i < 12) : i < n ∧ (ss.getD i default).k = true := by
  obtain ⟨a, e, h1, h2⟩ := known_nat ss n hn
  have hp : 2 ^ n ≤ 4096 := (by decide +kernel : ∀ k : Fin 13, 2 ^ k.val ≤ 4096) ⟨n, by omega⟩
  have := h i hi
  rw [e, bit_nat (by omega) h12, h2, Bool.and_eq_true, decide_eq_true_eq] at this
  exact this
theorem mvd_can (h : Mvd p p' ss b t) {v : Nat} (hv : v < 1024) (hs : Sub v (knownTo ss p.n)) : canR p' (ss.map (movS b t)) (v : Int) = canR p ss (v : Int) := by
  have ok := h.ok
  have h12 : p.n ≤ 12 := by have := ok.n10; omega
  have hb : ∀ i, i < p.n → setI (v : Int) i = v.testBit i := fun i hi => bit_nat (by omega) (by omega)
  by_cases hx : ∃ i, i < p.n ∧ setI (v : Int) i = true
  · obtain ⟨i0, hi0, hr0⟩ := hx
    have hk : ∀ i, i < p.n → setI (v : Int) i = true → (ss.getD i default).k = true := fun i hi hr => (sub_lt h12 hs (by rw [← hb i hi]; exact hr) (by omega)).2
    exact can_shift ok.lo ok.hi h.lo h.hi h.n fun sc h1 h2 d c => mvd_corn h hi0 (hk i0 hi0 hr0) hr0 hk h1 h2 d c
  · refine can_shift (δ := fun _ => 0) ok.lo ok.hi h.lo h.hi h.n fun sc h1 h2 d c => ?_
    unfold CornC
    rw [Int.add_zero]
    exact ⟨fun k => ⟨k.1, fun i hi hr => absurd ⟨i, hi, hr⟩ hx⟩, fun k => ⟨k.1, fun i hi hr => absurd ⟨i, hi, hr⟩ hx⟩⟩
theorem known_sub {ss : List St} {n a : Nat} (h12 : n ≤ 12) (e : knownTo ss n = (a : Int)) : Sub a (knownTo ss n) ∧ a < 2 ^ n := by
  obtain ⟨a', e', h1, h2⟩ := known_nat ss n h12
  obtain rfl : a' = a := by omega
  have hp : 2 ^ n ≤ 4096 := (by decide +kernel : ∀ k : Fin 13, 2 ^ k.val ≤ 4096) ⟨n, by omega⟩
  refine ⟨fun i hi => ?_, h1⟩
  have hi2 := hi
  rw [h2, Bool.and_eq_true, decide_eq_true_eq] at hi2
  rw [e, bit_nat (by omega) (by omega)]; exact hi
theorem mvd_clash (h : Mvd p p' ss b t) : clashR p' (ss.map (movS b t)) = clashR p ss := by
  have ok := h.ok
  have h12 : p.n ≤ 12 := by have := ok.n10; omega
  obtain ⟨a, e, _, _⟩ := known_nat ss p.n h12
  obtain ⟨hsub, halt⟩ := known_sub h12 e
  have h10 : 2 ^ p.n ≤ 1024 := (by decide +kernel : ∀ k : Fin 11, 2 ^ k.val ≤ 1024) ⟨p.n, by have := ok.n10; omega⟩
  unfold clashR
  rw [h.v, h.v', if_pos rfl, if_pos rfl, mov_known, h.n]
  have hc := fun v hv hs => mvd_can h (v := v) hv hs
  rw [e] at hc hsub ⊢
  rw [hc a (by omega) hsub, few_same (ask := clashF p ss) (ask' := clashF p' (ss.map (movS b t))) (by omega) fun v hv hs => by unfold clashF; rw [hc v hv hs]]
/-- What is found of a place that is moved: the place is none, or the same is found, or the moved place is none. -/
theorem find_facts (h : Mvd p p' ss b t) (e n : Int) {f0 f1 f2 f3 ef : Int} (hf : repB (findR p ss e n) = .tuple #[.agg #[.int .i64 f0, .int .i64 f1], .agg #[.int .i64 f2, .int .i64 f3], .int .i64 ef]) :
    ef = 2 ∨ ((-1048576 ≤ e ∧ e ≤ 1048576) ∧ (-1048576 ≤ n ∧ n ≤ 1048576) ∧ ∃ a b' c d eg, repB (findR p' (ss.map (movS b t)) (e + b) (n + t)) = .tuple #[.agg #[.int .i64 a, .int .i64 b'], .agg #[.int .i64 c, .int .i64 d], .int .i64 eg] ∧ (eg = 2 ∨ (a = f0 ∧ b' = f1 ∧ c = f2 ∧ d = f3 ∧ eg = ef))) := by
  have hz : ∀ {q : Pl} {xs : List St} {e n : Int}, plB q xs = true → (skyB e e && skyB n n) = false → findR q xs e n = .error 2 := fun hv hs => by unfold findR; rw [if_pos hv, hs]; rfl
  cases h1 : (skyB e e && skyB n n)
  · left
    rw [hz h.v h1] at hf
    have hf : Value.tuple #[.agg #[.int .i64 0, .int .i64 0], .agg #[.int .i64 0, .int .i64 0], .int .i64 2] = _ := hf
    simp at hf
    omega
  · right
    have h1' := h1
    unfold skyB at h1'
    simp only [Bool.and_eq_true, decide_eq_true_eq] at h1'
    refine ⟨by omega, by omega, ?_⟩
    cases h2 : (skyB (e + b) (e + b) && skyB (n + t) (n + t))
    · exact ⟨0, 0, 0, 0, 2, by rw [hz h.v' h2]; rfl, .inl rfl⟩
    · exact ⟨f0, f1, f2, f3, ef, by rw [mvd_find h h1 h2]; exact hf, .inr ⟨rfl, rfl, rfl, rfl, rfl⟩⟩
end
end Go.Proofs.Ytdkegkacpdkjgaa

namespace Go.Proofs.Ytdkegkacpdkjgaa
open Go.RowKit Go.Maps

section
variable {p z : Pl} {ss zs : List St}
/-- The second plate knows more than the first one. -/
structure Inc (p z : Pl) (ss zs : List St) : Prop where
  lo : p.lo ≤ z.lo
  hi : z.hi ≤ p.hi
  n : z.n = p.n
  nl : ss.length = p.n
  nl' : zs.length = p.n
  v : plB p ss = true
  v' : plB z zs = true
  on : ∀ i, i < p.n → ∀ d, ((ss.getD i default).on d).1 ≤ ((zs.getD i default).on d).1 ∧ ((zs.getD i default).on d).2 ≤ ((ss.getD i default).on d).2
  k : ∀ i, i < p.n → (ss.getD i default).k = true → (zs.getD i default).k = true
  sky : ∀ i, i < p.n → (ss.getD i default).k = true → ∀ d, ((ss.getD i default).sky d).1 ≤ ((zs.getD i default).sky d).1 ∧ ((zs.getD i default).sky d).2 ≤ ((ss.getD i default).sky d).2
theorem Inc.ok (h : Inc p z ss zs) : PlOk p ss := plOk' h.nl h.v
theorem Inc.ok' (h : Inc p z ss zs) : PlOk z zs := plOk' (by rw [h.nl', h.n]) h.v'
theorem Inc.h12 (h : Inc p z ss zs) : p.n ≤ 12 := by have := h.ok.n10; omega
theorem inc_bey (h : Inc p z ss zs) {i : Nat} (hi : i < p.n) (d : Bool) {sc : Int} (h0 : 0 ≤ sc) : (beyS sc (ss.getD i default) d).1 ≤ (beyS sc (zs.getD i default) d).1 ∧ (beyS sc (zs.getD i default) d).2 ≤ (beyS sc (ss.getD i default) d).2 := by
  obtain ⟨a, b⟩ := h.on i hi d
  have a' := Int.mul_le_mul_of_nonneg_left a h0
  have b' := Int.mul_le_mul_of_nonneg_left b h0
  unfold beyS
  dsimp only
  omega
theorem inc_said (h : Inc p z ss zs) {i : Nat} (hi : i < p.n) (d : Bool) : (saidS (ss.getD i default) d).1 ≤ (saidS (zs.getD i default) d).1 ∧ (saidS (zs.getD i default) d).2 ≤ (saidS (ss.getD i default) d).2 := by
  have a := said_rng (h.ok'.st i (by rw [h.nl']; exact hi) d)
  have hk := h.k i hi
  have hs := h.sky i hi
  generalize ss.getD i default = s at *
  generalize zs.getD i default = s' at *
  cases hsk : s.k
  · have e : saidS s d = (-67108864, 67108864) := by unfold saidS; rw [hsk]; rfl
    rw [e]; exact ⟨a.1, a.2.2⟩
  · have e : saidS s d = s.sky d := by unfold saidS; rw [hsk]; rfl
    have e' : saidS s' d = s'.sky d := by unfold saidS; rw [hk hsk]; rfl
    rw [e, e']; exact hs hsk d
theorem inc_corn (h : Inc p z ss zs) {S S' : Int} (hS : ∀ i, i < p.n → setI S i = true → setI S' i = true) {sc : Int} (h0 : 0 ≤ sc) {d : Bool} {c : Int} (hc : CornC zs sc (setI S') p.n d c) : CornC ss sc (setI S) p.n d c := by
  refine ⟨hc.1, fun i hi hr => ?_⟩
  have a := hc.2 i hi (hS i hi hr)
  have b := inc_bey h hi d h0
  have e := inc_said h hi d
  unfold cbS at *
  dsimp only at *
  omega
theorem inc_known (h : Inc p z ss zs) {i : Nat} (hi : i < p.n) (hr : setI (knownTo ss p.n) i = true) : setI (knownTo zs z.n) i = true := by
  have h12 := h.h12
  rw [h.n]
  rw [known_bit ss h12 hi] at hr
  rw [known_bit zs h12 hi]; exact h.k i hi hr
theorem inc_tr (h : Inc p z ss zs) {y : Scl} (hy : y ∈ trA z zs) : ∃ x ∈ trA p ss, x.sc = y.sc ∧ ∀ d, (x.lo d ≤ y.lo d ∧ y.hi d ≤ x.hi d) ∧ y.lo d ≤ y.hi d := by
  obtain ⟨⟨h1, h2⟩, h3, h4⟩ := trL_of hy
  have ok := h.ok
  have hlo := h.lo
  have hhi := h.hi
  have k0 := ok.lo
  have k1 := ok.hi
  rw [h.n] at h3 h4
  have hin : ∀ d c, CornC zs y.sc (setI (knownTo zs p.n)) p.n d c → CornC ss y.sc (setI (knownTo ss p.n)) p.n d c := fun d c hc => inc_corn h (fun i hi hr => by have := inc_known h hi hr; rwa [h.n] at this) (by omega) hc
  have hB : corB ss y.sc (setI (knownTo ss p.n)) p.n = true := by
    rw [corB_iff] at h3 ⊢
    intro d
    obtain ⟨c, hc⟩ := h3 d
    exact ⟨c, hin d c hc⟩
  obtain ⟨x, hx, x1, x2⟩ := trL_mk (p := p) (ss := ss) (set := knownTo ss p.n) k0 k1 (sc := y.sc) (by omega) (by omega) hB
  refine ⟨x, hx, x1, fun d => ?_⟩
  have a : y.lo d = (corS zs y.sc (setI (knownTo zs p.n)) d p.n).1 ∧ y.hi d = (corS zs y.sc (setI (knownTo zs p.n)) d p.n).2 := by rw [← h4 d]; exact ⟨rfl, rfl⟩
  have b : x.lo d = (corS ss y.sc (setI (knownTo ss p.n)) d p.n).1 ∧ x.hi d = (corS ss y.sc (setI (knownTo ss p.n)) d p.n).2 := by rw [← x2 d]; exact ⟨rfl, rfl⟩
  have hne := corB_ne h3 d
  have c1 := cor_iff.2 (hin d _ (cor_iff.1 ⟨Int.le_refl _, hne⟩))
  have c2 := cor_iff.2 (hin d _ (cor_iff.1 ⟨hne, Int.le_refl _⟩))
  omega
/-- Where the corner is, is within what each star allows. -/
structure TrOk (p : Pl) (ss : List St) (x : Scl) (d : Bool) : Prop where
  s0 : 1 ≤ x.sc
  s1 : x.sc ≤ 1000
  le : x.lo d ≤ x.hi d
  cb : ∀ i, i < p.n → (ss.getD i default).k = true → (cbS x.sc (ss.getD i default) d).1 ≤ x.lo d ∧ x.hi d ≤ (cbS x.sc (ss.getD i default) d).2
  far : (-1081344 ≤ x.lo d ∧ x.hi d ≤ 1048576) ∨ (x.lo d = -67108864 ∧ x.hi d = 67108864 ∧ ∀ i, i < p.n → (ss.getD i default).k = false)
theorem tr_ok {p : Pl} {ss : List St} (ok : PlOk p ss) {x : Scl} (hx : x ∈ trA p ss) (d : Bool) : TrOk p ss x d := by
  have h12 : p.n ≤ 12 := by have := ok.n10; omega
  have k := trL_ok ok hx
  obtain ⟨⟨h1, h2⟩, h3, h4⟩ := trL_of hx
  have a : x.lo d = (corS ss x.sc (setI (knownTo ss p.n)) d p.n).1 ∧ x.hi d = (corS ss x.sc (setI (knownTo ss p.n)) d p.n).2 := by rw [← h4 d]; exact ⟨rfl, rfl⟩
  have hne := corB_ne h3 d
  have c1 := cor_iff.1 (show _ ∧ _ from ⟨Int.le_refl (corS ss x.sc (setI (knownTo ss p.n)) d p.n).1, hne⟩)
  have c2 := cor_iff.1 (show _ ∧ _ from ⟨hne, Int.le_refl (corS ss x.sc (setI (knownTo ss p.n)) d p.n).2⟩)
  rw [← a.1] at c1
  rw [← a.2] at c2
  refine ⟨k.s0, k.s1, by omega, fun i hi hk => ?_, ?_⟩
  · have hr : setI (knownTo ss p.n) i = true := by rw [known_bit ss h12 hi]; exact hk
    exact ⟨(c1.2 i hi hr).1, (c2.2 i hi hr).2⟩
  · by_cases hk : knownTo ss p.n = 0
    · right
      have hn := (known_none h12).1 hk
      have hc : ∀ c, CornC ss x.sc (setI (knownTo ss p.n)) p.n d c ↔ -67108864 ≤ c ∧ c ≤ 67108864 := fun c =>
        ⟨fun h => h.1, fun h => ⟨h, fun i hi hr => by rw [known_bit ss h12 hi, hn i hi] at hr; cases hr⟩⟩
      have e1 := cor_iff.2 ((hc (-67108864)).2 (by omega))
      have e2 := cor_iff.2 ((hc 67108864).2 (by omega))
      exact ⟨by omega, by omega, hn⟩
    · left
      have := tr_near ok hk hx d
      exact ⟨this.1, this.2.1⟩
/-- A star is somewhere. -/
theorem pl_ne {p : Pl} {ss : List St} (ok : PlOk p ss) {x : Scl} (hx : x ∈ trA p ss) {i : Nat} (hi : i < p.n) (d : Bool) : (plS x.sc (x.lo d) (x.hi d) (ss.getD i default) d).1 ≤ (plS x.sc (x.lo d) (x.hi d) (ss.getD i default) d).2 := by
  have t := tr_ok ok hx d
  have hs := ok.st i (by rw [ok.nl]; exact hi) d
  have s0 := t.s0
  have b := bey_rng hs (sc := x.sc) (by omega) t.s1
  have sd := said_rng hs
  have le := t.le
  have cb := t.cb i hi
  have far := t.far
  unfold plS
  dsimp only
  cases hk : (ss.getD i default).k
  · have e : saidS (ss.getD i default) d = (-67108864, 67108864) := by unfold saidS; rw [hk]; rfl
    rw [e]
    dsimp only
    rcases far with f | f <;> omega
  · have := cb hk
    unfold cbS at this
    dsimp only at this
    omega
/-- Two stars are apart by something. -/
theorem ap_ne {p : Pl} {ss : List St} (ok : PlOk p ss) {x : Scl} (hx : x ∈ trA p ss) {i j : Nat} (hi : i < p.n) (hj : j < p.n) (d : Bool) : (apartF ss i j d x).1 ≤ (apartF ss i j d x).2 := by
  unfold apartF
  split
  · exact Int.le_refl _
  have t := tr_ok ok hx d
  have s0 := t.s0
  have bi := bey_rng (ok.st i (by rw [ok.nl]; exact hi) d) (sc := x.sc) (by omega) t.s1
  have bj := bey_rng (ok.st j (by rw [ok.nl]; exact hj) d) (sc := x.sc) (by omega) t.s1
  have si := said_rng (ok.st i (by rw [ok.nl]; exact hi) d)
  have sj := said_rng (ok.st j (by rw [ok.nl]; exact hj) d)
  have pi := pl_ne ok hx hi d
  have pj := pl_ne ok hx hj d
  have le := t.le
  have hci : (saidS (ss.getD i default) d).1 - (beyS x.sc (ss.getD i default) d).2 ≤ x.lo d ∧ x.hi d ≤ (saidS (ss.getD i default) d).2 - (beyS x.sc (ss.getD i default) d).1 ∨ (saidS (ss.getD i default) d = (-67108864, 67108864)) := by
    cases hk : (ss.getD i default).k
    · right; unfold saidS; rw [hk]; rfl
    · left; have := t.cb i hi hk; unfold cbS at this; exact this
  have hcj : (saidS (ss.getD j default) d).1 - (beyS x.sc (ss.getD j default) d).2 ≤ x.lo d ∧ x.hi d ≤ (saidS (ss.getD j default) d).2 - (beyS x.sc (ss.getD j default) d).1 ∨ (saidS (ss.getD j default) d = (-67108864, 67108864)) := by
    cases hk : (ss.getD j default).k
    · right; unfold saidS; rw [hk]; rfl
    · left; have := t.cb j hj hk; unfold cbS at this; exact this
  have far : (-1081344 ≤ x.lo d ∧ x.hi d ≤ 1048576) ∨ (x.lo d = -67108864 ∧ x.hi d = 67108864) := by
    rcases t.far with f | f
    · exact .inl f
    · exact .inr ⟨f.1, f.2.1⟩
  unfold apS plS at *
  dsimp only at *
  generalize beyS x.sc (ss.getD i default) d = B1 at *
  generalize beyS x.sc (ss.getD j default) d = B2 at *
  generalize saidS (ss.getD i default) d = S1 at *
  generalize saidS (ss.getD j default) d = S2 at *
  obtain ⟨b1, b2⟩ := B1
  obtain ⟨b3, b4⟩ := B2
  obtain ⟨s1, s2⟩ := S1
  obtain ⟨s3, s4⟩ := S2
  simp only [Prod.mk.injEq] at *
  generalize x.lo d = l at *
  generalize x.hi d = m at *
  clear t hx
  rcases far with f | f <;> rcases hci with c | c <;> rcases hcj with e | e <;> omega
theorem inc_pl (h : Inc p z ss zs) {x y : Scl} (e : x.sc = y.sc) (h0 : 0 ≤ y.sc) {d : Bool} (hd : x.lo d ≤ y.lo d ∧ y.hi d ≤ x.hi d) {i : Nat} (hi : i < p.n) :
    (plS x.sc (x.lo d) (x.hi d) (ss.getD i default) d).1 ≤ (plS y.sc (y.lo d) (y.hi d) (zs.getD i default) d).1 ∧ (plS y.sc (y.lo d) (y.hi d) (zs.getD i default) d).2 ≤ (plS x.sc (x.lo d) (x.hi d) (ss.getD i default) d).2 := by
  have b := inc_bey h hi d h0
  have s := inc_said h hi d
  unfold plS
  rw [e]
  dsimp only
  omega
theorem inc_ap (h : Inc p z ss zs) {x y : Scl} (e : x.sc = y.sc) (h0 : 0 ≤ y.sc) {d : Bool} (hd : x.lo d ≤ y.lo d ∧ y.hi d ≤ x.hi d) {i j : Nat} (hi : i < p.n) (hj : j < p.n) : (apartF ss i j d x).1 ≤ (apartF zs i j d y).1 ∧ (apartF zs i j d y).2 ≤ (apartF ss i j d x).2 := by
  unfold apartF
  by_cases hij : i = j
  · rw [if_pos hij, if_pos hij]; exact ⟨Int.le_refl _, Int.le_refl _⟩
  · rw [if_neg hij, if_neg hij]
    have a := inc_pl h e h0 hd hi
    have b := inc_pl h e h0 hd hj
    have c := inc_bey h hi d h0
    have f := inc_bey h hj d h0
    unfold apS
    dsimp only
    rw [e] at *
    omega
/-- An answer, and a narrower one. -/
def Narrow (r r' : Except Int Value) : Prop := ∀ v, r = .ok v → ∃ v', r' = .ok v' ∧ (numB v 0 ≤ numB v' 0 ∧ numB v' 1 ≤ numB v 1) ∧ numB v 2 ≤ numB v' 2 ∧ numB v' 3 ≤ numB v 3
theorem narrow_err (c : Int) (r' : Except Int Value) : Narrow (.error c) r' := fun v h => by cases h
theorem along_narrow {f g : Bool → Scl → Int × Int} {xs ys : List Scl} (hne : ys ≠ []) (hg : ∀ d, ∀ y ∈ ys, (g d y).1 ≤ (g d y).2) (h : ∀ d, ∀ y ∈ ys, ∃ x ∈ xs, (f d x).1 ≤ (g d y).1 ∧ (g d y).2 ≤ (f d x).2) :
    Narrow (alongR (kepL (f false) xs) (kepL (f true) xs)) (alongR (kepL (g false) ys) (kepL (g true) ys)) := by
  have ht : ∀ d, (kepL (g d) ys).2.2 = true := fun d => by
    cases ys with
    | nil => exact absurd rfl hne
    | cons y ys => exact ((kepL_of (g d) (y :: ys)).all y List.mem_cons_self (hg d y List.mem_cons_self)).1
  have k := fun d => kep_in (f := g d) (g := f d) (fun y hy _ => h d y hy) (ht d)
  intro v hv
  unfold alongR at hv ⊢
  rw [if_pos (k false).1, if_pos (k true).1] at hv
  rw [if_pos (ht false), if_pos (ht true)]
  injection hv with hv
  subst hv
  exact ⟨_, rfl, ⟨(k false).2.1, (k false).2.2⟩, (k true).2.1, (k true).2.2⟩
theorem inc_nil (h : Inc p z ss zs) (hz : trA z zs ≠ []) : trA p ss ≠ [] := by
  intro he
  cases hx : trA z zs with
  | nil => exact hz hx
  | cons y ys =>
    obtain ⟨x, hx', _⟩ := inc_tr h (y := y) (by rw [hx]; exact List.mem_cons_self)
    rw [he] at hx'; cases hx'
theorem inc_doubt (h : Inc p z ss zs) (hk : knownTo ss p.n ≠ 0) : knownTo zs z.n ≠ 0 := by
  obtain ⟨i, hi, k⟩ := known_some h.h12 hk
  intro hz
  rw [h.n] at hz
  have := (known_none h.h12).1 hz i hi
  rw [h.k i hi k] at this; cases this
/-- What the scale answers: an error, or a span. -/
theorem scale_cases {p : Pl} {ss : List St} (hv : plB p ss = true) : (trA p ss = [] ∧ scaleR p ss = .error 10) ∨ (trA p ss ≠ [] ∧ ∃ a b, scaleR p ss = .ok (.agg #[.int .i64 a, .int .i64 b]) ∧ (kepL (scaleF false) (trA p ss)) = (a, b, true)) := by
  unfold scaleR
  rw [if_pos hv]
  by_cases hn : trA p ss = []
  · rw [if_pos hn]; exact .inl ⟨hn, rfl⟩
  · rw [if_neg hn]
    right
    refine ⟨hn, ?_⟩
    have ht : (kepL (scaleF false) (trA p ss)).2.2 = true := by
      cases hx : trA p ss with
      | nil => exact absurd hx hn
      | cons y ys => exact ((kepL_of (scaleF false) (y :: ys)).all y List.mem_cons_self (Int.le_refl _)).1
    generalize kepL (scaleF false) (trA p ss) = k at *
    obtain ⟨a, b, t⟩ := k
    dsimp only at ht
    subst ht
    exact ⟨a, b, rfl, rfl⟩
theorem inc_scale (h : Inc p z ss zs) {a b a' b' : Int} (h1 : kepL (scaleF false) (trA p ss) = (a, b, true)) (h2 : kepL (scaleF false) (trA z zs) = (a', b', true)) : a ≤ a' ∧ b' ≤ b := by
  have k := kep_in (f := scaleF false) (g := scaleF false) (xs := trA z zs) (ys := trA p ss) (fun y hy _ => by
    obtain ⟨x, hx, e, _⟩ := inc_tr h hy
    exact ⟨x, hx, by unfold scaleF; rw [e]; exact ⟨Int.le_refl _, Int.le_refl _⟩⟩) (by rw [h2])
  rw [h1, h2] at k
  exact k.2
theorem inc_zero (h : Inc p z ss zs) (hz : trA z zs ≠ []) : Narrow (zeroR p ss) (zeroR z zs) := by
  unfold zeroR tellK
  rw [if_pos h.v, if_pos h.v', if_neg hz, if_neg (inc_nil h hz)]
  by_cases hk : knownTo ss p.n = 0
  · rw [if_pos hk]; exact narrow_err _ _
  · rw [if_neg hk, if_neg (inc_doubt h hk)]
    exact along_narrow (f := fun d x => (x.lo d, x.hi d)) (g := fun d x => (x.lo d, x.hi d)) hz (fun d y hy => (tr_ok h.ok' hy d).le) fun d y hy => by
      obtain ⟨x, hx, _, s⟩ := inc_tr h hy
      exact ⟨x, hx, (s d).1⟩
theorem inc_star (h : Inc p z ss zs) (hz : trA z zs ≠ []) (i : Int) : Narrow (starR p ss i) (starR z zs i) := by
  unfold starR tellK
  rw [if_pos h.v, if_pos h.v', if_neg hz, if_neg (inc_nil h hz), h.n]
  by_cases hi : 0 ≤ i ∧ i < p.n
  · rw [if_pos hi, if_pos hi]
    by_cases hk : knownTo ss p.n = 0
    · rw [if_pos hk]; exact narrow_err _ _
    · have hk' := inc_doubt h hk
      rw [h.n] at hk'
      rw [if_neg hk, if_neg hk']
      exact along_narrow (f := fun d x => plS x.sc (x.lo d) (x.hi d) (ss.getD i.toNat default) d) (g := fun d x => plS x.sc (x.lo d) (x.hi d) (zs.getD i.toNat default) d) hz (fun d y hy => pl_ne h.ok' hy (by rw [h.n]; omega) d) fun d y hy => by
        obtain ⟨x, hx, e, s⟩ := inc_tr h hy
        have := (trL_ok h.ok' hy).s0
        exact ⟨x, hx, inc_pl h e (by omega) (s d).1 (by omega)⟩
  · rw [if_neg hi]; exact narrow_err _ _
theorem inc_apart (h : Inc p z ss zs) (hz : trA z zs ≠ []) (i j : Int) : Narrow (apartR p ss i j) (apartR z zs i j) := by
  unfold apartR tellR
  rw [if_pos h.v, if_pos h.v', if_neg hz, if_neg (inc_nil h hz), h.n]
  by_cases hi : 0 ≤ i ∧ i < p.n
  · rw [if_pos hi, if_pos hi]
    by_cases hj : 0 ≤ j ∧ j < p.n
    · rw [if_pos hj, if_pos hj]
      exact along_narrow (f := apartF ss i.toNat j.toNat) (g := apartF zs i.toNat j.toNat) hz (fun d y hy => ap_ne h.ok' hy (by rw [h.n]; omega) (by rw [h.n]; omega) d) fun d y hy => by
        obtain ⟨x, hx, e, s⟩ := inc_tr h hy
        have := (trL_ok h.ok' hy).s0
        exact ⟨x, hx, inc_ap h e (by omega) (s d).1 (by omega) (by omega)⟩
    · rw [if_neg hj]; exact narrow_err _ _
  · rw [if_neg hi]; exact narrow_err _ _
/-- What Drop answers. -/
structure DrF (p : Pl) (ss : List St) (a u : Nat) : Prop where
  known : knownTo ss p.n = (a : Int)
  a10 : a < 2 ^ p.n ∧ a < 1024
  bit : ∀ i, a.testBit i = (decide (i < p.n) && (ss.getD i default).k)
  drop : dropR p ss = .ok (.int .i64 u)
  lt : u < 1024
  sub : ∀ i, u.testBit i = true → a.testBit i = true
  can : ∃ y : Nat, bits .andNot .i64 (a : Int) (u : Int) = (y : Int) ∧ y < 1024 ∧ (∀ i, y.testBit i = (a.testBit i && !u.testBit i)) ∧ canR p ss (y : Int) = true
  least : ∀ v : Nat, v < 1024 → (∀ i, v.testBit i = true → a.testBit i = true) → dropF p ss (v : Int) = true → popc (u : Int) < popc (v : Int) ∨ (popc (u : Int) = popc (v : Int) ∧ u ≤ v)
theorem can_none {p : Pl} {ss : List St} (ok : PlOk p ss) : canR p ss 0 = true := by
  have lo := ok.lo
  have mid := ok.mid
  refine (canR_iff ok.lo ok.hi).2 ⟨p.lo, ⟨Int.le_refl _, mid⟩, corB_iff.2 fun d => ⟨0, by omega, fun i hi hr => ?_⟩⟩
  have n10 := ok.n10
  have := bit_nat (n := 0) (i := i) (by decide) (by omega)
  rw [Nat.zero_testBit] at this
  rw [show ((0 : Nat) : Int) = 0 from rfl] at this
  rw [this] at hr; cases hr
theorem bit_lt {v i : Nat} (hv : v < 1024) (hi : v.testBit i = true) : i < 10 := by
  rcases Nat.lt_or_ge i 10 with h | h
  · exact h
  · rw [Nat.testBit_lt_two_pow (Nat.lt_of_lt_of_le hv (Nat.pow_le_pow_right (n := 2) (by decide) h))] at hi; cases hi
theorem sub_bits {v a : Nat} (hv : v < 1024) (ha : a < 1024) : Sub v (a : Int) ↔ ∀ i, v.testBit i = true → a.testBit i = true :=
  ⟨fun k i hi => by rw [← bit_nat (by omega) (by have := bit_lt hv hi; omega)]; exact k i hi, fun k i hi => by rw [bit_nat (by omega) (by have := bit_lt hv hi; omega)]; exact k i hi⟩
theorem drop_is {p : Pl} {ss : List St} (hn : ss.length = p.n) (hv : plB p ss = true) : ∃ a u, DrF p ss a u := by
  have ok := plOk' hn hv
  have n10 := ok.n10
  obtain ⟨a, e, a1, a2⟩ := known_nat ss p.n (by omega)
  have hp : 2 ^ p.n ≤ 1024 := (by decide +kernel : ∀ k : Fin 11, 2 ^ k.val ≤ 1024) ⟨p.n, by omega⟩
  have hf : dropF p ss (a : Int) = true := by
    unfold dropF
    rw [e]
    obtain ⟨y, g1, g2, g3⟩ := andNot_nat (a := a) (b := a) (by omega) (by omega)
    have : y = 0 := Nat.eq_of_testBit_eq fun i => by rw [g3, Nat.zero_testBit]; cases a.testBit i <;> rfl
    subst this
    rw [g1]; exact can_none ok
  obtain ⟨u, f1, f2⟩ := few_is (ask := dropF p ss) (all := a) (by omega) ⟨a, by omega, (sub_bits (by omega) (by omega)).2 (fun i h => h), hf⟩
  refine ⟨a, u, e, ⟨a1, by omega⟩, a2, by unfold dropR; rw [if_pos hv, e, f1], f2.lt, (sub_bits f2.lt (by omega)).1 f2.sub, ?_, fun v v1 v2 v3 => f2.least v v1 ((sub_bits v1 (by omega)).2 v2) v3⟩
  obtain ⟨y, g1, g2, g3⟩ := andNot_nat (a := a) (b := u) (by omega) (by have := f2.lt; omega)
  refine ⟨y, g1, by omega, g3, ?_⟩
  have := f2.asks
  unfold dropF at this
  rw [e, g1] at this; exact this
theorem inc_can (h : Inc p z ss zs) {v v' : Nat} (hv : v < 1024) (hv' : v' < 1024) (hs : ∀ i, v.testBit i = true → v'.testBit i = true) (hc : canR z zs (v' : Int) = true) : canR p ss (v : Int) = true := by
  have ok := h.ok
  have ok' := h.ok'
  have n10 := ok.n10
  obtain ⟨sc, h1, h2⟩ := (canR_iff ok'.lo ok'.hi).1 hc
  rw [h.n] at h2
  have a := h.lo
  have b := h.hi
  have c := ok.lo
  refine (canR_iff ok.lo ok.hi).2 ⟨sc, by omega, ?_⟩
  rw [corB_iff] at h2 ⊢
  intro d
  obtain ⟨c, hc⟩ := h2 d
  exact ⟨c, inc_corn h (fun i hi hr => by rw [bit_nat (by omega) (by omega)] at hr ⊢; exact hs i hr) (by omega) hc⟩
theorem inc_drop (h : Inc p z ss zs) {a u a' u' : Nat} (hd : DrF p ss a u) (hd' : DrF z zs a' u') : popc (u : Int) ≤ popc (u' : Int) := by
  have hle : u' &&& a ≤ a := Nat.and_le_right
  have ha := hd.a10.2
  have ha' := hd'.a10.2
  obtain ⟨y', g1', g2', g3', g4'⟩ := hd'.can
  obtain ⟨y, g1, g2, g3⟩ := andNot_nat (a := a) (b := u' &&& a) (by omega) (by omega)
  have hcan : canR p ss (y : Int) = true := inc_can h (v' := y') (by omega) g2' (fun i hi => by
    rw [g3, Nat.testBit_and] at hi
    rw [g3']
    have hai : a.testBit i = true := by cases e : a.testBit i; · rw [e] at hi; simp at hi
                                        · rfl
    rw [hai] at hi
    have hk := hai
    rw [hd.bit, Bool.and_eq_true, decide_eq_true_eq] at hk
    have : a'.testBit i = true := by rw [hd'.bit, h.n, decide_eq_true hk.1, h.k i hk.1 hk.2]; rfl
    rw [this]
    simpa using hi) g4'
  have := hd.least (u' &&& a) (by omega) (fun i hi => by rw [Nat.testBit_and, Bool.and_eq_true] at hi; exact hi.2) (by unfold dropF; rw [hd.known, g1]; exact hcan)
  have hm := popc_mono (x := u') (y := u' &&& a) (by have := hd'.lt; omega) (by omega) (fun i hi => by rw [Nat.testBit_and, Bool.and_eq_true] at hi; exact hi.1)
  omega
end
end Go.Proofs.Ytdkegkacpdkjgaa

namespace Go.Proofs.Ytdkegkacpdkjgaa
open Go.RowKit Go.Maps

/-- Where a star is in the sky. -/
def skP (sc : Int) (c : Bool → Int) (m : Bool → Int) (d : Bool) : Int := c d + sc * m d / 1000
structure TruS (sc : Int) (c m : Bool → Int) (s : St) : Prop where
  on : ∀ d, (0 ≤ (s.on d).1 ∧ (s.on d).1 ≤ m d) ∧ m d ≤ (s.on d).2 ∧ (s.on d).2 ≤ 32768
  sky : s.k = true → ∀ d, (-1048576 ≤ (s.sky d).1 ∧ (s.sky d).1 ≤ skP sc c m d) ∧ skP sc c m d ≤ (s.sky d).2 ∧ (s.sky d).2 ≤ 1048576
/-- A plate that tells the truth: its scale, its corner, and where images are. -/
structure TruP (p : Pl) (ss : List St) (sc : Int) (c : Bool → Int) (im : Nat → Bool → Int) : Prop where
  lo : 1 ≤ p.lo
  l1 : p.lo ≤ sc
  h1 : sc ≤ p.hi
  hi : p.hi ≤ 1000
  n10 : p.n ≤ 10
  nl : ss.length = p.n
  co : ∀ d, -10000 ≤ c d ∧ c d ≤ 10000
  st : ∀ i, i < p.n → TruS sc c (im i) (ss.getD i default)
section
variable {p : Pl} {ss : List St} {sc : Int} {c : Bool → Int} {im : Nat → Bool → Int}
theorem way_le {sc a b : Int} (h : a ≤ b) (h0 : 0 ≤ sc) : sc * a / 1000 ≤ sc * b / 1000 := Int.ediv_le_ediv (by omega) (Int.mul_le_mul_of_nonneg_left h h0)
theorem way_rng {sc a : Int} (h0 : 0 ≤ sc) (h1 : sc ≤ 1000) (h2 : 0 ≤ a) (h3 : a ≤ 32768) : 0 ≤ sc * a / 1000 ∧ sc * a / 1000 ≤ 32768 := by
  have n0 := Int.mul_nonneg h0 h2
  have n1 := Int.mul_le_mul h1 h3 h2 (by omega : (0 : Int) ≤ 1000)
  omega
theorem tru_bey {m : Bool → Int} {s : St} (h : TruS sc c m s) (h0 : 0 ≤ sc) (d : Bool) : (beyS sc s d).1 ≤ sc * m d / 1000 ∧ sc * m d / 1000 ≤ (beyS sc s d).2 := by
  have k := h.on d
  exact ⟨way_le k.1.2 h0, way_le k.2.1 h0⟩
theorem tru_rng {m : Bool → Int} {s : St} (h : TruS sc c m s) (h0 : 0 ≤ sc) (h1 : sc ≤ 1000) (hc : ∀ d, -10000 ≤ c d ∧ c d ≤ 10000) (d : Bool) : -1048576 ≤ skP sc c m d ∧ skP sc c m d ≤ 1048576 := by
  have k := h.on d
  have := way_rng h0 h1 (a := m d) (by omega) (by omega)
  have := hc d
  unfold skP
  omega
theorem tru_said {m : Bool → Int} {s : St} (h : TruS sc c m s) (h0 : 0 ≤ sc) (h1 : sc ≤ 1000) (hc : ∀ d, -10000 ≤ c d ∧ c d ≤ 10000) (d : Bool) : (saidS s d).1 ≤ skP sc c m d ∧ skP sc c m d ≤ (saidS s d).2 := by
  have hr := tru_rng h h0 h1 hc d
  unfold saidS
  split
  · rename_i hk
    have k := h.sky hk d
    exact ⟨k.1.2, k.2.1⟩
  · dsimp only; omega
theorem tru_v (h : TruP p ss sc c im) : plB p ss = true := by
  have a := h.lo
  have b := h.l1
  have e := h.h1
  have f := h.hi
  have g := h.n10
  unfold plB
  simp only [Bool.and_eq_true, decide_eq_true_eq, List.all_eq_true]
  refine ⟨⟨⟨⟨a, by omega⟩, f⟩, g⟩, fun s hs => ?_⟩
  obtain ⟨i, hi, rfl⟩ := List.mem_iff_getElem.1 hs
  have k := h.st i (by rw [← h.nl]; exact hi)
  have e : ss.getD i default = ss[i] := by simp [List.getD, hi]
  rw [e] at k
  generalize ss[i] = s at *
  have o0 := k.on false
  have o1 := k.on true
  have y := k.sky
  unfold St.on at o0 o1
  unfold stB sideB skyB
  simp only [Bool.and_eq_true, Bool.or_eq_true, Bool.not_eq_true', decide_eq_true_eq]
  simp only [Bool.false_eq_true, if_false, if_true] at o0 o1
  refine ⟨⟨⟨⟨o0.1.1, by omega⟩, o0.2.2⟩, ⟨o1.1.1, by omega⟩, o1.2.2⟩, ?_⟩
  cases hk : s.k
  · exact .inl rfl
  · right
    have y0 := y hk false
    have y1 := y hk true
    unfold St.sky at y0 y1
    simp only [Bool.false_eq_true, if_false, if_true] at y0 y1
    exact ⟨⟨⟨y0.1.1, by omega⟩, y0.2.2⟩, ⟨y1.1.1, by omega⟩, y1.2.2⟩
theorem tru_x (h : TruP p ss sc c im) : ∃ x ∈ trA p ss, x.sc = sc ∧ ∀ d, x.lo d ≤ c d ∧ c d ≤ x.hi d := by
  have a := h.lo
  have b := h.l1
  have e := h.h1
  have f := h.hi
  have g := h.n10
  have hC : ∀ d, CornC ss sc (setI (knownTo ss p.n)) p.n d (c d) := fun d => by
    have hc := h.co d
    refine ⟨by omega, fun i hi hr => ?_⟩
    have k := h.st i hi
    have s0 := tru_said k (by omega) (by omega) h.co d
    have s1 := tru_bey k (by omega) d
    unfold skP at s0
    unfold cbS
    dsimp only
    omega
  obtain ⟨x, hx, e1, e2⟩ := trL_mk (p := p) (ss := ss) (set := knownTo ss p.n) a f b e (corB_iff.2 fun d => ⟨c d, hC d⟩)
  refine ⟨x, hx, e1, fun d => ?_⟩
  have k := cor_iff.2 (hC d)
  have a1 : x.lo d = (corS ss sc (setI (knownTo ss p.n)) d p.n).1 ∧ x.hi d = (corS ss sc (setI (knownTo ss p.n)) d p.n).2 := by rw [← e2 d]; exact ⟨rfl, rfl⟩
  omega
theorem kep_has {f : Scl → Int × Int} {xs : List Scl} {x : Scl} (hx : x ∈ xs) {v : Int} (h1 : (f x).1 ≤ v) (h2 : v ≤ (f x).2) : (kepL f xs).2.2 = true ∧ (kepL f xs).1 ≤ v ∧ v ≤ (kepL f xs).2.1 := by
  obtain ⟨a, b, e⟩ := (kepL_of f xs).all x hx (by omega)
  exact ⟨a, by omega, by omega⟩
theorem along_has {f : Bool → Scl → Int × Int} {xs : List Scl} {x : Scl} (hx : x ∈ xs) (v : Bool → Int) (h : ∀ d, (f d x).1 ≤ v d ∧ v d ≤ (f d x).2) :
    ∃ a b e g, alongR (kepL (f false) xs) (kepL (f true) xs) = .ok (.agg #[.int .i64 a, .int .i64 b, .int .i64 e, .int .i64 g]) ∧ (a ≤ v false ∧ v false ≤ b) ∧ e ≤ v true ∧ v true ≤ g := by
  obtain ⟨a0, a1, a2⟩ := kep_has hx (h false).1 (h false).2
  obtain ⟨b0, b1, b2⟩ := kep_has hx (h true).1 (h true).2
  unfold alongR
  rw [if_pos a0, if_pos b0]
  exact ⟨_, _, _, _, rfl, ⟨a1, a2⟩, b1, b2⟩
theorem tru_ne (h : TruP p ss sc c im) : trA p ss ≠ [] := by
  obtain ⟨x, hx, _⟩ := tru_x h
  intro e; rw [e] at hx; cases hx
theorem tru_scale (h : TruP p ss sc c im) : ∃ a b, scaleR p ss = .ok (.agg #[.int .i64 a, .int .i64 b]) ∧ a ≤ sc ∧ sc ≤ b := by
  obtain ⟨x, hx, e1, _⟩ := tru_x h
  rcases scale_cases (tru_v h) with ⟨hn, _⟩ | ⟨_, a, b, e, k⟩
  · exact absurd hn (tru_ne h)
  · refine ⟨a, b, e, ?_⟩
    have := kep_has (f := scaleF false) hx (v := sc) (by unfold scaleF; rw [e1]; exact Int.le_refl _) (by unfold scaleF; rw [e1]; exact Int.le_refl _)
    rw [k] at this
    exact this.2
theorem tru_can (h : TruP p ss sc c im) : canR p ss (knownTo ss p.n) = true := by
  cases hc : canR p ss (knownTo ss p.n)
  · exact absurd (tr_nil.2 hc) (tru_ne h)
  · rfl
theorem tru_clash (h : TruP p ss sc c im) : clashR p ss = .ok (.int .i64 0) := by
  unfold clashR
  rw [if_pos (tru_v h), if_pos (tru_can h)]
theorem tru_drop (h : TruP p ss sc c im) : dropR p ss = .ok (.int .i64 0) := by
  obtain ⟨a, u, k⟩ := drop_is h.nl (tru_v h)
  have hz : dropF p ss ((0 : Nat) : Int) = true := by
    unfold dropF
    rw [k.known]
    obtain ⟨y, g1, g2, g3⟩ := andNot_nat (a := a) (b := 0) (by have := k.a10.2; omega) (by omega)
    have : y = a := Nat.eq_of_testBit_eq fun i => by rw [g3, Nat.zero_testBit]; cases a.testBit i <;> rfl
    subst this
    rw [g1, ← k.known]; exact tru_can h
  have hl := k.least 0 (by omega) (fun i hi => by rw [Nat.zero_testBit] at hi; cases hi) hz
  have hp0 : popc ((0 : Nat) : Int) = 0 := popc_zero
  have hpu := popc_le 10 u (by omega) (by have := k.lt; omega)
  rw [hp0] at hl
  have : u = 0 := by omega
  subst this
  exact k.drop
theorem tru_zero (h : TruP p ss sc c im) : (knownTo ss p.n = 0 ∧ zeroR p ss = .error 12) ∨ (knownTo ss p.n ≠ 0 ∧ ∃ a b e g, zeroR p ss = .ok (.agg #[.int .i64 a, .int .i64 b, .int .i64 e, .int .i64 g]) ∧ (a ≤ c false ∧ c false ≤ b) ∧ e ≤ c true ∧ c true ≤ g) := by
  obtain ⟨x, hx, e1, e2⟩ := tru_x h
  unfold zeroR tellK
  rw [if_pos (tru_v h), if_neg (tru_ne h)]
  by_cases hk : knownTo ss p.n = 0
  · rw [if_pos hk]; exact .inl ⟨hk, rfl⟩
  · rw [if_neg hk]; exact .inr ⟨hk, along_has (f := fun d x => (x.lo d, x.hi d)) hx c e2⟩
theorem tru_pl {m : Bool → Int} {s : St} (h : TruS sc c m s) (h0 : 0 ≤ sc) (h1 : sc ≤ 1000) (hc : ∀ d, -10000 ≤ c d ∧ c d ≤ 10000) {l g : Int} (d : Bool) (hl : l ≤ c d) (hg : c d ≤ g) : (plS sc l g s d).1 ≤ skP sc c m d ∧ skP sc c m d ≤ (plS sc l g s d).2 := by
  have a := tru_said h h0 h1 hc d
  have b := tru_bey h h0 d
  unfold skP at a ⊢
  unfold plS
  dsimp only
  omega
theorem tru_star (h : TruP p ss sc c im) (hk : knownTo ss p.n ≠ 0) {i : Nat} (hi : i < p.n) : ∃ a b e g, starR p ss (i : Int) = .ok (.agg #[.int .i64 a, .int .i64 b, .int .i64 e, .int .i64 g]) ∧ (a ≤ skP sc c (im i) false ∧ skP sc c (im i) false ≤ b) ∧ e ≤ skP sc c (im i) true ∧ skP sc c (im i) true ≤ g := by
  obtain ⟨x, hx, e1, e2⟩ := tru_x h
  have a := h.lo
  have b := h.l1
  have e := h.h1
  have f := h.hi
  unfold starR tellK
  rw [if_pos (tru_v h), if_pos (by omega), if_neg (tru_ne h), if_neg hk]
  refine along_has (f := fun d x => plS x.sc (x.lo d) (x.hi d) (ss.getD (i : Int).toNat default) d) hx (skP sc c (im i)) fun d => ?_
  rw [e1]
  exact tru_pl (h.st i hi) (by omega) (by omega) h.co d (e2 d).1 (e2 d).2
theorem least_le {sc b m : Int} (h0 : 1 ≤ sc) (hm : 0 ≤ m) (hb : b ≤ sc * m / 1000) : leastS sc b ≤ m := by
  have n0 := Int.mul_nonneg (show 0 ≤ sc by omega) hm
  unfold leastS
  have h1 : max b 0 * 1000 ≤ sc * m := by omega
  have h3 : (m + 1) * sc = sc * m + sc := by rw [Int.add_mul, Int.one_mul, Int.mul_comm]
  have h2 : (max b 0 * 1000 + sc - 1) / sc < m + 1 := Int.ediv_lt_of_lt_mul (by omega) (by omega)
  exact Int.lt_add_one_iff.1 h2
theorem least_gt {sc b m : Int} (h0 : 1 ≤ sc) (hm : 0 ≤ m) (hb : sc * m / 1000 < b) : m < leastS sc b := by
  have n0 := Int.mul_nonneg (show 0 ≤ sc by omega) hm
  unfold leastS
  have h1 : sc * m + 1 ≤ max b 0 * 1000 := by omega
  have h3 : (m + 1) * sc = sc * m + sc := by rw [Int.add_mul, Int.one_mul, Int.mul_comm]
  have h2 : m + 1 ≤ (max b 0 * 1000 + sc - 1) / sc := Int.le_ediv_of_mul_le (by omega) (by omega)
  exact Int.add_one_le_iff.1 h2
theorem tru_find (h : TruP p ss sc c im) (hk : knownTo ss p.n ≠ 0) {i : Nat} (hi : i < p.n) : ∃ a b e g, findR p ss (skP sc c (im i) false) (skP sc c (im i) true) = .ok (.agg #[.int .i64 a, .int .i64 b, .int .i64 e, .int .i64 g]) ∧ (a ≤ im i false ∧ im i false ≤ b) ∧ e ≤ im i true ∧ im i true ≤ g := by
  obtain ⟨x, hx, e1, e2⟩ := tru_x h
  have a := h.lo
  have b := h.l1
  have e := h.h1
  have f := h.hi
  have hst := h.st i hi
  have r0 := tru_rng hst (by omega) (by omega) h.co false
  have r1 := tru_rng hst (by omega) (by omega) h.co true
  have hsk : (skyB (skP sc c (im i) false) (skP sc c (im i) false) && skyB (skP sc c (im i) true) (skP sc c (im i) true)) = true := by
    unfold skyB
    simp only [Bool.and_eq_true, decide_eq_true_eq]
    omega
  unfold findR tellK
  rw [if_pos (tru_v h), if_pos hsk, if_neg (tru_ne h), if_neg hk]
  refine along_has (f := fun d x => fiS x.sc (x.lo d) (x.hi d) (soughtS (skP sc c (im i) false) (skP sc c (im i) true)) d) hx (im i) fun d => ?_
  rw [e1]
  have k := hst.on d
  have hs : (soughtS (skP sc c (im i) false) (skP sc c (im i) true)).sky d = (skP sc c (im i) d, skP sc c (im i) d) := by cases d <;> rfl
  have ho : (soughtS (skP sc c (im i) false) (skP sc c (im i) true)).on d = (0, 32768) := by cases d <;> rfl
  have e3 := e2 d
  unfold fiS
  rw [hs, ho]
  dsimp only
  have l1 := least_le (sc := sc) (b := skP sc c (im i) d - x.hi d) (m := im i d) (by omega) (by omega) (by unfold skP; omega)
  have l2 := least_gt (sc := sc) (b := skP sc c (im i) d - x.lo d + 1) (m := im i d) (by omega) (by omega) (by unfold skP; omega)
  omega
theorem tru_apart (h : TruP p ss sc c im) {i j : Nat} (hi : i < p.n) (hj : j < p.n) : ∃ a b e g, apartR p ss (i : Int) (j : Int) = .ok (.agg #[.int .i64 a, .int .i64 b, .int .i64 e, .int .i64 g]) ∧ (a ≤ skP sc c (im j) false - skP sc c (im i) false ∧ skP sc c (im j) false - skP sc c (im i) false ≤ b) ∧ e ≤ skP sc c (im j) true - skP sc c (im i) true ∧ skP sc c (im j) true - skP sc c (im i) true ≤ g := by
  obtain ⟨x, hx, e1, e2⟩ := tru_x h
  have a := h.lo
  have b := h.l1
  have e := h.h1
  have f := h.hi
  unfold apartR tellR
  rw [if_pos (tru_v h), if_pos (by omega), if_pos (by omega), if_neg (tru_ne h)]
  refine along_has (f := apartF ss (i : Int).toNat (j : Int).toNat) hx (fun d => skP sc c (im j) d - skP sc c (im i) d) fun d => ?_
  rw [Int.toNat_natCast, Int.toNat_natCast]
  unfold apartF
  by_cases hij : i = j
  · subst hij
    rw [if_pos rfl]
    dsimp only
    omega
  · rw [if_neg hij, e1]
    have k := tru_pl (h.st i hi) (by omega) (by omega) h.co d (e2 d).1 (e2 d).2
    have l := tru_pl (h.st j hj) (by omega) (by omega) h.co d (e2 d).1 (e2 d).2
    have m := tru_bey (h.st i hi) (by omega) d
    have n := tru_bey (h.st j hj) (by omega) d
    unfold apS
    dsimp only
    unfold skP at *
    omega
end
end Go.Proofs.Ytdkegkacpdkjgaa

namespace Go.Proofs.Ytdkegkacpdkjgaa
section
variable {P : Program} {ops : Array Oper} {l : List Oper} {Q : Exit → Act → World → Prop} {md : Region.Mode} {S : World → Prop} {F : List Nat}

/-- It waits for all of them. -/
def finalF5 (md : Region.Mode) (ops : Array Oper) (F : List Nat) (j : Nat) : Bool := F.all fun k => k == j || (depsN md ops 5 (deps md ops j)).contains k
def wpAnyRF5 (P : Program) (md : Region.Mode) (ops : Array Oper) (F : List Nat) (Q : Exit → Act → World → Prop) (S : World → Prop) : Nat → Array Bool → Act → World → Prop
  | 0, listed, a, w => Region.ready md ops listed = [] ∧ Q .normal a w
  | fuel + 1, listed, a, w =>
    (Region.ready md ops listed = [] → Q .normal a w) ∧
    ∀ i ∈ Region.ready md ops listed, wpOp P ops Q i (fun a' w' => (finalF5 md ops F i = false → S w → S w') ∧ wpAnyRF5 P md ops F Q S fuel (listed.setIfInBounds i true) a' w') a w
theorem wpAny_of_RF5 : ∀ (fuel : Nat) (listed : Array Bool) (a : Act) (w : World), wpAnyRF5 P md ops F Q S fuel listed a w → wpAny P md ops Q fuel listed a w
  | 0, _, _, _, h => h
  | fuel + 1, _, _, _, h => ⟨h.1, fun i hi => wpOp_mono (fun a' w' h' => wpAny_of_RF5 fuel _ a' w' h'.2) (h.2 i hi)⟩
theorem not_finalF5 {listed : Array Bool} {i j : Nat} (hc : Closed md ops listed) (hi : i ∈ Region.ready md ops listed) (hj : j ∈ Region.ready md ops listed) (hne : j ≠ i) (hF : i ∈ F) : finalF5 md ops F j = false := by
  obtain ⟨hi0, oi, hoi, _⟩ := mem_ready.1 hi
  cases hf : finalF5 md ops F j
  · rfl
  · exfalso
    unfold finalF5 at hf
    rw [List.all_eq_true] at hf
    have h1 := hf i hF
    simp only [Bool.or_eq_true, beq_iff_eq, List.contains_iff_mem] at h1
    rcases h1 with h1 | h1
    · exact hne h1.symm
    · have h2 := closed_depsN hc 5 _ (deps_ready hj) i h1
      rcases Nat.lt_or_ge i listed.size with h' | h'
      · simp [h'] at hi0 h2; rw [hi0] at h2; cases h2
      · simp [Array.getElem?_eq_none h'] at h2
theorem wpAnyR_firstF5 {i : Nat} {oi : Oper} {v : Value} (hF : i ∈ F) (hi : ops[i]? = some oi) (hsel : ∀ (j : Nat) (o : Oper) cs b, ops[j]? = some o → o.op ≠ .select cs b)
    (hQ : ∀ c a w, Q (.panic c) (a.put oi.dst v) w → Q (.panic c) a w) :
    ∀ (fuel : Nat) (listed : Array Bool) (a : Act) (w : World), Closed md ops listed →
      (∀ j oj, ops[j]? = some oj → j ≠ i → listed.getD j true = false → (∀ e ∈ oj.after, Region.binds md e = true → e.on ≠ i) → oi.apart ops oj = true) →
      i ∈ Region.ready md ops listed → YieldsIf P ops S oi v a → S w →
      wpAnyRF5 P md ops F Q S fuel (listed.setIfInBounds i true) (a.put oi.dst v) w → wpAnyRF5 P md ops F Q S (fuel + 1) listed a w := by
  intro fuel
  induction fuel with
  | zero =>
    intro listed a w _ _ hr hy hS H
    refine ⟨fun h => absurd hr (by rw [h]; simp), fun j hj => ?_⟩
    by_cases hji : j = i
    · subst hji; exact hy.wpOp hi hS ⟨fun _ h => h, H⟩
    · have hj' := ready_mono hj hji
      rw [H.1] at hj'; cases hj'
  | succ fuel ih =>
    intro listed a w hcl hfree hr hy hS H
    refine ⟨fun h => absurd hr (by rw [h]; simp), fun j hj => ?_⟩
    by_cases hji : j = i
    · subst hji; exact hy.wpOp hi hS ⟨fun _ h => h, H⟩
    · have hnf := not_finalF5 hcl hr hj hji hF
      obtain ⟨hjun, oj, hoj, hall⟩ := mem_ready.1 hj
      have hnot : ∀ e ∈ oj.after, Region.binds md e = true → e.on ≠ i := fun e he hb heq => by
        have h2 := hall e he hb
        have h0 := (mem_ready.1 hr).1
        rw [heq] at h2
        rcases Nat.lt_or_ge i listed.size with h' | h'
        · simp [h'] at h0 h2; rw [h0] at h2; cases h2
        · simp [Array.getElem?_eq_none h'] at h2
      have hstep := wpOp_putIf hoj (hfree j oj hoj hji hjun hnot) (fun cs b => hsel i oi cs b hi) (fun cs b => hsel j oj cs b hoj) hQ hy (H.2 j (ready_mono hj hji))
      have hfree2 : ∀ k ok, ops[k]? = some ok → k ≠ i → (listed.setIfInBounds j true).getD k true = false →
          (∀ e ∈ ok.after, Region.binds md e = true → e.on ≠ i) → oi.apart ops ok = true := fun k ok hk hki hun hno => by
        refine hfree k ok hk hki ?_ hno
        by_cases hjk : j = k
        · subst hjk; exact hjun
        · rw [getD_set_ne true hjk] at hun; exact hun
      refine wpOp_mono (fun a' w' h3 => ?_) hstep
      obtain ⟨hy3, hS3, h3⟩ := h3
      rw [Array.setIfInBounds_comm _ _ (Ne.symm hji)] at h3
      exact ⟨hS3, ih (listed.setIfInBounds j true) a' w' (closed_set hcl hj) hfree2 (ready_mono hr (Ne.symm hji)) hy3 (hS3 hnf hS) h3⟩


theorem wpAnyR_firstG5 {i : Nat} {oi : Oper} {v : Value} (hi : ops[i]? = some oi) (hsel : ∀ (j : Nat) (o : Oper) cs b, ops[j]? = some o → o.op ≠ .select cs b)
    (hQ : ∀ c a w, Q (.panic c) (a.put oi.dst v) w → Q (.panic c) a w) :
    ∀ (fuel : Nat) (listed : Array Bool) (a : Act) (w : World), Closed md ops listed →
      (∀ j oj, ops[j]? = some oj → j ≠ i → listed.getD j true = false → (∀ e ∈ oj.after, Region.binds md e = true → e.on ≠ i) → oi.apart ops oj = true) →
      i ∈ Region.ready md ops listed → YieldsIf P ops (fun _ => True) oi v a →
      wpAnyRF5 P md ops F Q S fuel (listed.setIfInBounds i true) (a.put oi.dst v) w → wpAnyRF5 P md ops F Q S (fuel + 1) listed a w := by
  intro fuel
  induction fuel with
  | zero =>
    intro listed a w _ _ hr hy H
    refine ⟨fun h => absurd hr (by rw [h]; simp), fun j hj => ?_⟩
    by_cases hji : j = i
    · subst hji; exact hy.wpOp hi trivial ⟨fun _ h => h, H⟩
    · have hj' := ready_mono hj hji
      rw [H.1] at hj'; cases hj'
  | succ fuel ih =>
    intro listed a w hcl hfree hr hy H
    refine ⟨fun h => absurd hr (by rw [h]; simp), fun j hj => ?_⟩
    by_cases hji : j = i
    · subst hji; exact hy.wpOp hi trivial ⟨fun _ h => h, H⟩
    · obtain ⟨hjun, oj, hoj, hall⟩ := mem_ready.1 hj
      have hnot : ∀ e ∈ oj.after, Region.binds md e = true → e.on ≠ i := fun e he hb heq => by
        have h2 := hall e he hb
        have h0 := (mem_ready.1 hr).1
        rw [heq] at h2
        rcases Nat.lt_or_ge i listed.size with h' | h'
        · simp [h'] at h0 h2; rw [h0] at h2; cases h2
        · simp [Array.getElem?_eq_none h'] at h2
      have hstep := wpOp_putIf hoj (hfree j oj hoj hji hjun hnot) (fun cs b => hsel i oi cs b hi) (fun cs b => hsel j oj cs b hoj) hQ hy (H.2 j (ready_mono hj hji))
      have hfree2 : ∀ k ok, ops[k]? = some ok → k ≠ i → (listed.setIfInBounds j true).getD k true = false →
          (∀ e ∈ ok.after, Region.binds md e = true → e.on ≠ i) → oi.apart ops ok = true := fun k ok hk hki hun hno => by
        refine hfree k ok hk hki ?_ hno
        by_cases hjk : j = k
        · subst hjk; exact hjun
        · rw [getD_set_ne true hjk] at hun; exact hun
      refine wpOp_mono (fun a' w' h3 => ?_) hstep
      obtain ⟨hy3, hS3, h3⟩ := h3
      rw [Array.setIfInBounds_comm _ _ (Ne.symm hji)] at h3
      exact ⟨hS3, ih (listed.setIfInBounds j true) a' w' (closed_set hcl hj) hfree2 (ready_mono hr (Ne.symm hji)) hy3 h3⟩


def lateTr5 (md : Region.Mode) (ops : Array Oper) (F : List Nat) : Tr → Bool
  | .leaf => true
  | .one i t => finalF5 md ops F i && lateTr5 md ops F t
  | .read i t => !F.contains i && lateTr5 md ops F t
  | _ => false
def okTrF5 (md : Region.Mode) (ops : Array Oper) (F : List Nat) : Tr → Array Bool → Bool
  | .leaf, d => (Region.ready md ops d).isEmpty
  | .read i t, d => (Region.ready md ops d).contains i && Region.free md ops d i && okTrF5 md ops F t (d.setIfInBounds i true)
  | .one i t, d => decide (Region.ready md ops d = [i]) && (!finalF5 md ops F i || lateTr5 md ops F t) && okTrF5 md ops F t (d.setIfInBounds i true)
  | .two i t j u, d => decide (Region.ready md ops d = [i, j]) && !finalF5 md ops F i && !finalF5 md ops F j && okTrF5 md ops F t (d.setIfInBounds i true) && okTrF5 md ops F u (d.setIfInBounds j true)
  | .three i t j u k v, d => decide (Region.ready md ops d = [i, j, k]) && !finalF5 md ops F i && !finalF5 md ops F j && !finalF5 md ops F k && okTrF5 md ops F t (d.setIfInBounds i true) && okTrF5 md ops F u (d.setIfInBounds j true) && okTrF5 md ops F v (d.setIfInBounds k true)
def stepTrF5 (P : Program) (md : Region.Mode) (l : List Oper) (F : List Nat) (Q : Exit → Act → World → Prop) (S : World → Prop) (i : Nat) (K : Act → World → Prop) (a : Act) (w : World) : Prop :=
  match l[i]? with
  | none => False
  | some o => (Region.wanted o (yielded l.toArray a.tmps) = false ∧ K (a.put o.dst undef) w) ∨
      (Region.wanted o (yielded l.toArray a.tmps) = true ∧ o.wp P a w (fun a' w' => (finalF5 md l.toArray F i = false → S w') ∧ ((finalF5 md l.toArray F i = false → S w') → K a' w')) Q)
def wpTrF5 (P : Program) (md : Region.Mode) (l : List Oper) (F : List Nat) (Q : Exit → Act → World → Prop) (S : World → Prop) : Tr → Act → World → Prop
  | .leaf, a, w => Q .normal a w
  | .read i t, a, w => match l[i]? with
    | none => False
    | some o => (Region.wanted o (yielded l.toArray a.tmps) = false ∧ wpTrF5 P md l F Q S t (a.put o.dst undef) w) ∨
        (Region.wanted o (yielded l.toArray a.tmps) = true ∧ ∃ v, (∀ w', (F.contains i = true → S w') → (execOp a.eval o).run P w' = .ok (.value v) w') ∧ wpTrF5 P md l F Q S t (a.put o.dst v) w)
  | .one i t, a, w => stepTrF5 P md l F Q S i (wpTrF5 P md l F Q S t) a w
  | .two i t j u, a, w => stepTrF5 P md l F Q S i (wpTrF5 P md l F Q S t) a w ∧ stepTrF5 P md l F Q S j (wpTrF5 P md l F Q S u) a w
  | .three i t j u k v, a, w => stepTrF5 P md l F Q S i (wpTrF5 P md l F Q S t) a w ∧ stepTrF5 P md l F Q S j (wpTrF5 P md l F Q S u) a w ∧ stepTrF5 P md l F Q S k (wpTrF5 P md l F Q S v) a w

theorem step_soundF5 {i fuel : Nat} {K : Act → World → Prop} {listed : Array Bool} {a : Act} {w : World} (hS : finalF5 md l.toArray F i = false → S w) (h : stepTrF5 P md l F Q S i K a w)
    (hK : ∀ a' w', (finalF5 md l.toArray F i = false → S w') → K a' w' → wpAnyRF5 P md l.toArray F Q S fuel (listed.setIfInBounds i true) a' w') :
    wpOp P l.toArray Q i (fun a' w' => (finalF5 md l.toArray F i = false → S w → S w') ∧ wpAnyRF5 P md l.toArray F Q S fuel (listed.setIfInBounds i true) a' w') a w := by
  unfold stepTrF5 at h
  cases ho : l[i]? with
  | none => rw [ho] at h; exact h.elim
  | some o =>
    rw [ho] at h
    have ho' : l.toArray[i]? = some o := by simpa using ho
    unfold Go.wpOp
    rw [ho']
    rcases h with ⟨hw, h⟩ | ⟨hw, h⟩
    · simp only [hw, Bool.false_eq_true, if_false]
      exact ⟨fun h _ => hS h, hK _ _ hS h⟩
    · simp only [hw, if_true]
      exact Or.inl (Oper.wp_mono (fun a' w' h' => ⟨fun h _ => h'.1 h, hK a' w' h'.1 (h'.2 h'.1)⟩) h)

theorem wpTr_soundF5 (hs : Region.noSelect l.toArray = true) (hQ : ∀ c a d v w, Q (.panic c) (Act.put a d v) w → Q (.panic c) a w) :
    ∀ (t : Tr) (fuel : Nat) (listed : Array Bool) (a : Act) (w : World), t.depth ≤ fuel → Closed md l.toArray listed → okTrF5 md l.toArray F t listed = true → (lateTr5 md l.toArray F t = false → S w) → wpTrF5 P md l F Q S t a w → wpAnyRF5 P md l.toArray F Q S fuel listed a w := by
  intro t
  induction t with
  | leaf =>
    intro fuel listed a w _ _ hok _ h
    have hr : Region.ready md l.toArray listed = [] := by simpa [okTrF5] using hok
    cases fuel with
    | zero => exact ⟨hr, h⟩
    | succ fuel => exact ⟨fun _ => h, by rw [hr]; simp⟩
  | read i t ih =>
    intro fuel listed a w hf hcl hok hS0 h
    have hSt : lateTr5 md l.toArray F t = false → S w := fun h => hS0 (by rw [lateTr5, h, Bool.and_false])
    cases fuel with
    | zero => simp [Tr.depth] at hf
    | succ fuel =>
      have hf' : t.depth ≤ fuel := by simp [Tr.depth] at hf; omega
      simp only [okTrF5, Bool.and_eq_true] at hok
      obtain ⟨⟨hc, hfr⟩, hok⟩ := hok
      have hr : i ∈ Region.ready md l.toArray listed := by simpa using hc
      simp only [wpTrF5] at h
      cases ho : l[i]? with
      | none => rw [ho] at h; exact h.elim
      | some o =>
        rw [ho] at h
        have ho' : l.toArray[i]? = some o := by simpa using ho
        cases hFi : F.contains i with
        | true =>
          have hF : i ∈ F := by simpa using hFi
          have hS : S w := hS0 (by rw [lateTr5, hFi]; rfl)
          rcases h with ⟨hw, h⟩ | ⟨hw, v, hv, h⟩
          · exact wpAnyR_firstF5 hF ho' (Region.noSelect_spec hs) (fun c a w => hQ c a _ _ w) fuel listed a w hcl (Region.free_spec ho' hfr) hr (Or.inr ⟨hw, rfl⟩) hS (ih fuel _ _ _ hf' (closed_set hcl hr) hok hSt h)
          · exact wpAnyR_firstF5 hF ho' (Region.noSelect_spec hs) (fun c a w => hQ c a _ _ w) fuel listed a w hcl (Region.free_spec ho' hfr) hr (Or.inl ⟨hw, fun w' hw' => hv w' (fun _ => hw')⟩) hS (ih fuel _ _ _ hf' (closed_set hcl hr) hok hSt h)
        | false =>
          rcases h with ⟨hw, h⟩ | ⟨hw, v, hv, h⟩
          · exact wpAnyR_firstG5 ho' (Region.noSelect_spec hs) (fun c a w => hQ c a _ _ w) fuel listed a w hcl (Region.free_spec ho' hfr) hr (Or.inr ⟨hw, rfl⟩) (ih fuel _ _ _ hf' (closed_set hcl hr) hok hSt h)
          · exact wpAnyR_firstG5 ho' (Region.noSelect_spec hs) (fun c a w => hQ c a _ _ w) fuel listed a w hcl (Region.free_spec ho' hfr) hr (Or.inl ⟨hw, fun w' _ => hv w' (fun h => by rw [hFi] at h; cases h)⟩) (ih fuel _ _ _ hf' (closed_set hcl hr) hok hSt h)
  | one i t ih =>
    intro fuel listed a w hf hcl hok hS0 h
    cases fuel with
    | zero => simp [Tr.depth] at hf
    | succ fuel =>
      have hf' : t.depth ≤ fuel := by simp [Tr.depth] at hf; omega
      simp only [okTrF5, Bool.and_eq_true, decide_eq_true_eq, Bool.or_eq_true, Bool.not_eq_true'] at hok
      obtain ⟨⟨hr, hfin⟩, hok⟩ := hok
      refine ⟨fun h0 => absurd h0 (by rw [hr]; simp), fun j hj => ?_⟩
      rw [hr] at hj
      obtain rfl : j = i := by simpa using hj
      refine step_soundF5 (fun hi => hS0 (by simp [lateTr5, hi])) h (fun a' w' hS' h' => ih fuel _ _ _ hf' (closed_set hcl (by rw [hr]; simp)) hok (fun hl => ?_) h')
      rcases hfin with hfin | hfin
      · exact hS' hfin
      · rw [hfin] at hl; cases hl
  | two i t j u iht ihu =>
    intro fuel listed a w hf hcl hok hS0 h
    have hS := hS0 rfl
    cases fuel with
    | zero => simp [Tr.depth] at hf
    | succ fuel =>
      have hf' : t.depth ≤ fuel ∧ u.depth ≤ fuel := by simp [Tr.depth] at hf; omega
      simp only [okTrF5, Bool.and_eq_true, decide_eq_true_eq, Bool.not_eq_true'] at hok
      obtain ⟨⟨⟨⟨hr, hi⟩, hj⟩, hok1⟩, hok2⟩ := hok
      obtain ⟨h1, h2⟩ := h
      refine ⟨fun h0 => absurd h0 (by rw [hr]; simp), fun k hk => ?_⟩
      rw [hr] at hk
      simp only [List.mem_cons, List.not_mem_nil, or_false] at hk
      rcases hk with rfl | rfl
      · exact step_soundF5 (fun _ => hS) h1 (fun a' w' hS' h' => iht fuel _ _ _ hf'.1 (closed_set hcl (by rw [hr]; simp)) hok1 (fun _ => hS' hi) h')
      · exact step_soundF5 (fun _ => hS) h2 (fun a' w' hS' h' => ihu fuel _ _ _ hf'.2 (closed_set hcl (by rw [hr]; simp)) hok2 (fun _ => hS' hj) h')
  | three i t j u k v iht ihu ihv =>
    intro fuel listed a w hf hcl hok hS0 h
    have hS := hS0 rfl
    cases fuel with
    | zero => simp [Tr.depth] at hf
    | succ fuel =>
      have hf' : t.depth ≤ fuel ∧ u.depth ≤ fuel ∧ v.depth ≤ fuel := by simp [Tr.depth] at hf; omega
      simp only [okTrF5, Bool.and_eq_true, decide_eq_true_eq, Bool.not_eq_true'] at hok
      obtain ⟨⟨⟨⟨⟨⟨hr, hi⟩, hj⟩, hk'⟩, hok1⟩, hok2⟩, hok3⟩ := hok
      obtain ⟨h1, h2, h3⟩ := h
      refine ⟨fun h0 => absurd h0 (by rw [hr]; simp), fun m hm => ?_⟩
      rw [hr] at hm
      simp only [List.mem_cons, List.not_mem_nil, or_false] at hm
      rcases hm with rfl | rfl | rfl
      · exact step_soundF5 (fun _ => hS) h1 (fun a' w' hS' h' => iht fuel _ _ _ hf'.1 (closed_set hcl (by rw [hr]; simp)) hok1 (fun _ => hS' hi) h')
      · exact step_soundF5 (fun _ => hS) h2 (fun a' w' hS' h' => ihu fuel _ _ _ hf'.2.1 (closed_set hcl (by rw [hr]; simp)) hok2 (fun _ => hS' hj) h')
      · exact step_soundF5 (fun _ => hS) h3 (fun a' w' hS' h' => ihv fuel _ _ _ hf'.2.2 (closed_set hcl (by rw [hr]; simp)) hok3 (fun _ => hS' hk') h')


def treeOkF5 (ops : Array Oper) (F : List Nat) (t : Tr) : Bool := Region.noSelect ops && decide (t.depth ≤ ops.size) && okTrF5 .any ops F t (Array.replicate ops.size false)
/-- The beginning: the tree, checked by the kernel; S of the world at hand. -/
theorem wp_region_treeF5 {id : Nat} {a : Act} {w : World} (F : List Nat) (t : Tr) (S : World → Prop) (hm : P.follows .mixedOrders = true) (hok : treeOkF5 l.toArray F t = true)
    (hQ : ∀ c a d v w, Q (.panic c) (Act.put a d v) w → Q (.panic c) a w) (hS : S w.drew) (h : wpTrF5 P .any l F Q S t a w.drew) : (Code.region id l.toArray true).wp P Q a w := by
  unfold treeOkF5 at hok
  simp only [Bool.and_eq_true, decide_eq_true_eq] at hok
  obtain ⟨⟨h1, h2⟩, h3⟩ := hok
  exact wp_region_any hm (wpAny_of_RF5 (S := S) _ _ _ _ (wpTr_soundF5 h1 hQ t _ _ _ _ h2 (closed_none _) h3 (fun _ => hS) h))
theorem trF_skip5 {i : Nat} {t : Tr} {o : Oper} {a : Act} {w : World} (ho : l[i]? = some o) (hw : Region.wanted o (yielded l.toArray a.tmps) = false)
    (h : wpTrF5 P md l F Q S t (a.put o.dst undef) w) : wpTrF5 P md l F Q S (.read i t) a w := by
  simp only [wpTrF5, ho]; exact .inl ⟨hw, h⟩
theorem trF_read5 {i : Nat} {t : Tr} {o : Oper} {a : Act} {w : World} (ho : l[i]? = some o) (hw : Region.wanted o (yielded l.toArray a.tmps) = true) (v : Value)
    (hv : ∀ w', (F.contains i = true → S w') → (execOp a.eval o).run P w' = .ok (.value v) w') (h : wpTrF5 P md l F Q S t (a.put o.dst v) w) : wpTrF5 P md l F Q S (.read i t) a w := by
  simp only [wpTrF5, ho]; exact .inr ⟨hw, v, hv, h⟩
theorem trF_step5 {i : Nat} {T : Act → World → Prop} {o : Oper} {a : Act} {w : World} (ho : l[i]? = some o) (hw : Region.wanted o (yielded l.toArray a.tmps) = true)
    (h : ∀ K : Act → World → Prop, (∀ a w, S w → T a w → K a w) → o.wp P a w K Q) : stepTrF5 P md l F Q S i T a w := by
  simp only [stepTrF5, ho]; exact .inr ⟨hw, by simpa using h _ (fun a w hS h => ⟨fun _ => hS, fun _ => h⟩)⟩
/-- One that waits for all reads that are listed. -/
theorem trF_late5 {i : Nat} {T : Act → World → Prop} {o : Oper} {a : Act} {w : World} (ho : l[i]? = some o) (hw : Region.wanted o (yielded l.toArray a.tmps) = true) (hf : finalF5 md l.toArray F i = true)
    (h : ∀ K : Act → World → Prop, (∀ a w, T a w → K a w) → o.wp P a w K Q) : stepTrF5 P md l F Q S i T a w := by
  simp only [stepTrF5, ho]; exact .inr ⟨hw, by simpa [hf] using h T (fun a w h => h)⟩
end
end Go.Proofs.Ytdkegkacpdkjgaa

namespace Go.Proofs.Ytdkegkacpdkjgaa
open Go.RowKit Go.Maps

/-- How wide a star is, by its answer. -/
theorem star_at {p : Pl} {ss : List St} (hv : plB p ss = true) (h0 : trA p ss ≠ []) (h1 : knownTo ss p.n ≠ 0) {k : Nat} (hk : k < p.n) : starR p ss (k : Int) = starV p ss k := by
  unfold starR tellK
  rw [if_pos hv, if_pos ⟨by omega, by omega⟩, if_neg h0, if_neg h1]
  rfl
theorem starV_ok {p : Pl} {ss : List St} (ok : PlOk p ss) (h0 : trA p ss ≠ []) {k : Nat} (hk : k < p.n) : ∃ a b c d : Int, starV p ss k = .ok (.agg #[.int .i64 a, .int .i64 b, .int .i64 c, .int .i64 d]) ∧ a ≤ b ∧ c ≤ d ∧ (-200000000 ≤ a ∧ b ≤ 200000000) ∧ -200000000 ≤ c ∧ d ≤ 200000000 := by
  obtain ⟨y, ys, hx⟩ : ∃ y ys, trA p ss = y :: ys := by
    cases h : trA p ss with
    | nil => exact absurd h h0
    | cons y ys => exact ⟨y, ys, rfl⟩
  have hy : y ∈ trA p ss := by rw [hx]; exact List.mem_cons_self
  have hne := fun d => pl_ne ok hy hk d
  have k0 := (kepL_of (starF ss k false) (trA p ss)).all y hy (hne false)
  have k1 := (kepL_of (starF ss k true) (trA p ss)).all y hy (hne true)
  have hb : Bnd 200000000 (starV p ss k) := along_bnd (f := starF ss k) (xs := trA p ss) fun d x hx => by
    have t := trL_ok ok hx
    have := pl_rng (ok.st k (by rw [ok.nl]; exact hk) d) (sc := x.sc) (by have := t.s0; omega) t.s1 (t.lo d) (t.hi d)
    unfold starF
    exact ⟨by omega, by omega⟩
  have hne0 := hne false
  have hne1 := hne true
  have e : starV p ss k = .ok (.agg #[.int .i64 (kepL (starF ss k false) (trA p ss)).1, .int .i64 (kepL (starF ss k false) (trA p ss)).2.1, .int .i64 (kepL (starF ss k true) (trA p ss)).1, .int .i64 (kepL (starF ss k true) (trA p ss)).2.1]) := by
    unfold starV alongR
    rw [if_pos k0.1, if_pos k1.1]
  have hb' := hb _ e
  have b0 := hb' 0 (by decide)
  have b1 := hb' 1 (by decide)
  have b2 := hb' 2 (by decide)
  have b3 := hb' 3 (by decide)
  refine ⟨_, _, _, _, e, ?_, ?_, ⟨b0.1, b1.2⟩, b2.1, b3.2⟩
  · exact Int.le_trans k0.2.1 (Int.le_trans hne0 k0.2.2)
  · exact Int.le_trans k1.2.1 (Int.le_trans hne1 k1.2.2)
theorem wid_of {a b c d : Int} (h1 : -200000000 ≤ a ∧ b ≤ 200000000) (h2 : -200000000 ≤ c ∧ d ≤ 200000000) (h3 : a ≤ b) (h4 : c ≤ d) : widV (.agg #[.int .i64 a, .int .i64 b, .int .i64 c, .int .i64 d]) = b - a + (d - c) := by
  show IntKind.i64.wrap (wrap64 (b - a) + wrap64 (d - c)) = _
  have e1 : wrap64 (b - a) = b - a := by unfold wrap64; omega
  have e2 : wrap64 (d - c) = d - c := by unfold wrap64; omega
  rw [e1, e2]
  exact IntWalk.i64_in _ (by omega)
/-- The worst of the first ones. -/
theorem poor_to {p : Pl} {ss : List St} (ok : PlOk p ss) (h0 : trA p ss ≠ []) : ∀ {k : Nat}, k ≤ p.n → ∃ s x : Int, poorTo p ss k = .ok (s, x) ∧ 0 ≤ x ∧
    (∀ i, i < k → ∀ v, starV p ss i = .ok v → widV v ≤ x ∧ (widV v = x → s ≤ i)) ∧ ((s = 0 ∧ x = 0) ∨ ∃ j : Nat, s = j ∧ j < k ∧ ∃ v, starV p ss j = .ok v ∧ widV v = x)
  | 0, _ => ⟨0, 0, rfl, by omega, fun i hi => by omega, .inl ⟨rfl, rfl⟩⟩
  | k + 1, hk => by
    obtain ⟨s, x, e, hx, h1, h2⟩ := poor_to ok h0 (k := k) (by omega)
    obtain ⟨a, b, c, d, ev, l1, l2, l3, l4⟩ := starV_ok ok h0 (k := k) (by omega)
    have ew := wid_of l3 l4 l1 l2
    rw [poorTo, e, ev]
    dsimp only
    generalize hw : widV (.agg #[.int .i64 a, .int .i64 b, .int .i64 c, .int .i64 d]) = W at *
    by_cases hlt : x < W
    · rw [if_pos hlt]
      refine ⟨k, W, rfl, by omega, fun i hi v hv => ?_, .inr ⟨k, rfl, by omega, _, ev, hw⟩⟩
      by_cases he : i = k
      · subst he
        rw [ev] at hv
        injection hv with hv
        subst hv
        rw [hw]; exact ⟨Int.le_refl _, fun _ => Int.le_refl _⟩
      · have := (h1 i (by omega) v hv).1
        exact ⟨by omega, fun h => by omega⟩
    · rw [if_neg hlt]
      refine ⟨s, x, rfl, hx, fun i hi v hv => ?_, ?_⟩
      · by_cases he : i = k
        · subst he
          rw [ev] at hv
          injection hv with hv
          subst hv
          rw [hw]
          refine ⟨by omega, fun h => ?_⟩
          rcases h2 with h2 | ⟨j, h2, h3, _⟩
          · omega
          · omega
        · exact h1 i (by omega) v hv
      · rcases h2 with h2 | ⟨j, h2, h3, h4⟩
        · exact .inl h2
        · exact .inr ⟨j, h2, by omega, h4⟩
/-- What Poor answers: an error that each star has, or the worst one. -/
theorem poor_facts {p : Pl} {ss : List St} (hn : ss.length = p.n) (hv : plB p ss = true) : (∃ c, c ≠ 0 ∧ poorR p ss = .error c ∧ ∀ k, k < p.n → starR p ss (k : Int) = .error c) ∨
    ∃ s x : Int, poorR p ss = .ok (.agg #[.int .i64 s, .int .i64 x]) ∧ (0 ≤ s ∧ s < p.n) ∧ ∀ k, k < p.n → ∃ a b c d : Int, starR p ss (k : Int) = .ok (.agg #[.int .i64 a, .int .i64 b, .int .i64 c, .int .i64 d]) ∧ (-200000000 ≤ a ∧ b ≤ 200000000) ∧ (-200000000 ≤ c ∧ d ≤ 200000000) ∧ a ≤ b ∧ c ≤ d ∧
      b - a + (d - c) ≤ x ∧ (b - a + (d - c) = x → s ≤ k) ∧ ((k : Int) = s → b - a + (d - c) = x) := by
  have ok := plOk' hn hv
  have h12 : p.n ≤ 12 := by have := ok.n10; omega
  by_cases h0 : trA p ss = []
  · exact .inl ⟨10, by decide, by unfold poorR; rw [if_pos hv, if_pos h0], fun k hk => by unfold starR tellK; rw [if_pos hv, if_pos ⟨by omega, by omega⟩, if_pos h0]⟩
  by_cases h1 : knownTo ss p.n = 0
  · exact .inl ⟨12, by decide, by unfold poorR; rw [if_pos hv, if_neg h0, if_pos h1], fun k hk => by unfold starR tellK; rw [if_pos hv, if_pos ⟨by omega, by omega⟩, if_neg h0, if_pos h1]⟩
  obtain ⟨i0, hi0, _⟩ := known_some h12 h1
  obtain ⟨s, x, e, hx, h2, h3⟩ := poor_to ok h0 (k := p.n) (Nat.le_refl _)
  right
  have hs : 0 ≤ s ∧ s < p.n ∧ ∀ v, starV p ss s.toNat = .ok v → widV v = x := by
    rcases h3 with ⟨rfl, rfl⟩ | ⟨j, rfl, hj, v, hv1, hv2⟩
    · refine ⟨by omega, by omega, fun v hv => ?_⟩
      obtain ⟨a, b, c, d, ev, l1, l2, l3, l4⟩ := starV_ok ok h0 (k := 0) (by omega)
      have ew := wid_of l3 l4 l1 l2
      have hle := (h2 0 (by omega) v hv).1
      rw [show (0 : Int).toNat = 0 from rfl, ev] at hv
      injection hv with hv
      subst hv
      rw [ew] at hle ⊢
      omega
    · refine ⟨by omega, by omega, fun v' hv' => ?_⟩
      rw [show ((j : Int)).toNat = j by omega, hv1] at hv'
      injection hv' with hv'
      subst hv'
      exact hv2
  refine ⟨s, x, by unfold poorR poorV; rw [if_pos hv, if_neg h0, if_neg h1, e], ⟨hs.1, hs.2.1⟩, fun k hk => ?_⟩
  obtain ⟨a, b, c, d, ev, l1, l2, l3, l4⟩ := starV_ok ok h0 hk
  have ew := wid_of l3 l4 l1 l2
  have hk2 := h2 k hk _ ev
  rw [ew] at hk2
  refine ⟨a, b, c, d, by rw [star_at hv h0 h1 hk, ev], l3, l4, l1, l2, hk2.1, hk2.2, fun hks => ?_⟩
  have := hs.2.2 _ (by rw [← hks, show ((k : Int)).toNat = k by omega]; exact ev)
  rw [ew] at this; exact this
end Go.Proofs.Ytdkegkacpdkjgaa

namespace Go.Proofs.Ytdkegkacpdkjgaa
open Go.RowKit Go.Maps

theorem scaleR_ext {p p' : Pl} (e1 : p'.lo = p.lo) (e2 : p'.hi = p.hi) (e3 : p'.n = p.n) (ss : List St) : scaleR p' ss = scaleR p ss := by
  have h : trA p' ss = trA p ss := by unfold trA; rw [e3]; exact tr_same e1 e2 e3 ss _
  unfold scaleR plB
  rw [e1, e2, e3, h]
/-- Whether a plate of which a star is known so can be right. -/
def cnB (p : Pl) (ss : List St) (n : Nat) (a b c d : Int) : Bool := match scaleR p (ss.set n (knowS (ss.getD n default) a b c d)) with
  | .ok _ => true
  | .error _ => false
section
variable {p : Pl} {ss : List St} {n : Nat}
theorem set_get (s : St) {i : Nat} (hn : n < ss.length) : (ss.set n s).getD i default = if i = n then s else ss.getD i default := by
  by_cases h : i = n
  · subst h
    rw [if_pos rfl]
    simp [List.getD, hn]
  · rw [if_neg h, List.getD_eq_getElem?_getD, List.getElem?_set_ne (by omega), ← List.getD_eq_getElem?_getD]
theorem know_v (hv : plB p ss = true) (hn : n < ss.length) {a b c d : Int} (h1 : skyB a b = true) (h2 : skyB c d = true) : plB p (ss.set n (knowS (ss.getD n default) a b c d)) = true := by
  have h := hv
  unfold plB at h ⊢
  simp only [Bool.and_eq_true, List.all_eq_true] at h ⊢
  refine ⟨h.1, fun s hs => ?_⟩
  rcases List.mem_or_eq_of_mem_set hs with hs | rfl
  · exact h.2 s hs
  · have := h.2 (ss.getD n default) (by rw [show ss.getD n default = ss[n] by simp [List.getD, hn]]; exact List.getElem_mem hn)
    unfold stB at this ⊢
    simp only [Bool.and_eq_true] at this ⊢
    exact ⟨this.1, by unfold knowS; simp [h1, h2]⟩
theorem know_inc (hnl : ss.length = p.n) (hv : plB p ss = true) (hn : n < p.n) {a b c d : Int} (h1 : skyB a b = true) (h2 : skyB c d = true)
    (hs : (ss.getD n default).k = true → ((ss.getD n default).e0 ≤ a ∧ b ≤ (ss.getD n default).e1) ∧ (ss.getD n default).n0 ≤ c ∧ d ≤ (ss.getD n default).n1) : Inc p p ss (ss.set n (knowS (ss.getD n default) a b c d)) where
  lo := Int.le_refl _
  hi := Int.le_refl _
  n := rfl
  nl := hnl
  nl' := by rw [List.length_set]; exact hnl
  v := hv
  v' := know_v hv (by omega) h1 h2
  on := fun i hi dd => by
    rw [set_get _ (by omega)]
    split
    · rename_i he; subst he; cases dd <;> exact ⟨Int.le_refl _, Int.le_refl _⟩
    · exact ⟨Int.le_refl _, Int.le_refl _⟩
  k := fun i hi hk => by
    rw [set_get _ (by omega)]
    split
    · rfl
    · exact hk
  sky := fun i hi hk dd => by
    rw [set_get _ (by omega)]
    split
    · rename_i he; subst he
      obtain ⟨k1, k2⟩ := hs hk
      cases dd
      · exact k1
      · exact k2
    · exact ⟨Int.le_refl _, Int.le_refl _⟩
theorem cn_iff {a b c d : Int} (hv' : plB p (ss.set n (knowS (ss.getD n default) a b c d)) = true) : cnB p ss n a b c d = true ↔ trA p (ss.set n (knowS (ss.getD n default) a b c d)) ≠ [] := by
  unfold cnB
  rcases scale_cases hv' with ⟨h1, h2⟩ | ⟨h1, x, y, h2, _⟩
  · rw [h2, h1]; simp
  · rw [h2]; exact ⟨fun _ => h1, fun _ => rfl⟩
/-- What can be is near what is told. -/
theorem cn_near (hnl : ss.length = p.n) (hv : plB p ss = true) (hn : n < p.n) {a b c d : Int} (h1 : skyB a b = true) (h2 : skyB c d = true)
    (hs : (ss.getD n default).k = true → ((ss.getD n default).e0 ≤ a ∧ b ≤ (ss.getD n default).e1) ∧ (ss.getD n default).n0 ≤ c ∧ d ≤ (ss.getD n default).n1) (hc : cnB p ss n a b c d = true) :
    ∃ x ∈ trA p ss, ∀ dd, (starF ss n dd x).1 ≤ (if dd then d else b) ∧ (if dd then c else a) ≤ (starF ss n dd x).2 := by
  have hi := know_inc hnl hv hn h1 h2 hs
  rw [cn_iff hi.v'] at hc
  obtain ⟨y, ys, hy⟩ : ∃ y ys, trA p (ss.set n (knowS (ss.getD n default) a b c d)) = y :: ys := by
    cases h : trA p (ss.set n (knowS (ss.getD n default) a b c d)) with
    | nil => exact absurd h hc
    | cons y ys => exact ⟨y, ys, rfl⟩
  have hm : y ∈ trA p (ss.set n (knowS (ss.getD n default) a b c d)) := by rw [hy]; exact List.mem_cons_self
  obtain ⟨x, hx, e, s⟩ := inc_tr hi hm
  refine ⟨x, hx, fun dd => ?_⟩
  have hne := pl_ne hi.ok' hm hn dd
  have hpl := inc_pl hi e (by have := (trL_ok hi.ok' hm).s0; omega) (s dd).1 hn
  have hsaid : (if dd then c else a) ≤ (plS y.sc (y.lo dd) (y.hi dd) ((ss.set n (knowS (ss.getD n default) a b c d)).getD n default) dd).1 ∧ (plS y.sc (y.lo dd) (y.hi dd) ((ss.set n (knowS (ss.getD n default) a b c d)).getD n default) dd).2 ≤ (if dd then d else b) := by
    rw [set_get _ (by omega), if_pos rfl]
    unfold plS saidS knowS
    rw [if_pos rfl]
    cases dd
    · exact ⟨Int.le_max_left _ _, Int.min_le_left _ _⟩
    · exact ⟨Int.le_max_left _ _, Int.min_le_left _ _⟩
  unfold starF
  omega
/-- What a truth has can be. -/
theorem cn_has (hnl : ss.length = p.n) (hv : plB p ss = true) (hn : n < p.n) {a b c d : Int} (h1 : skyB a b = true) (h2 : skyB c d = true)
    {x : Scl} (hx : x ∈ trA p ss) (t : Bool → Int) (ht : ∀ dd, (starF ss n dd x).1 ≤ t dd ∧ t dd ≤ (starF ss n dd x).2) (hq : ∀ dd, (if dd then c else a) ≤ t dd ∧ t dd ≤ (if dd then d else b)) : cnB p ss n a b c d = true := by
  have ok := plOk' hnl hv
  have h12 : p.n ≤ 12 := by have := ok.n10; omega
  have hv' := know_v (n := n) hv (by omega) h1 h2
  rw [cn_iff hv', Ne]
  unfold trA
  rw [tr_nil]
  have hc : canR p (ss.set n (knowS (ss.getD n default) a b c d)) (knownTo (ss.set n (knowS (ss.getD n default) a b c d)) p.n) = true := by
    obtain ⟨hr, h3, h4⟩ := trL_of hx
    refine (canR_iff ok.lo ok.hi).2 ⟨x.sc, hr, corB_iff.2 fun dd => ?_⟩
    have k := trL_ok ok hx
    have hb := bey_rng (ok.st n (by omega) dd) (sc := x.sc) (by have := k.s0; omega) k.s1
    have ht' := ht dd
    have hq' := hq dd
    have hxe : x.lo dd = (corS ss x.sc (setI (knownTo ss p.n)) dd p.n).1 ∧ x.hi dd = (corS ss x.sc (setI (knownTo ss p.n)) dd p.n).2 := by rw [← h4 dd]; exact ⟨rfl, rfl⟩
    unfold starF plS at ht'
    dsimp only at ht'
    have hcor := cor_iff.1 (show (corS ss x.sc (setI (knownTo ss p.n)) dd p.n).1 ≤ max (x.lo dd) (t dd - (beyS x.sc (ss.getD n default) dd).2) ∧ max (x.lo dd) (t dd - (beyS x.sc (ss.getD n default) dd).2) ≤ (corS ss x.sc (setI (knownTo ss p.n)) dd p.n).2 by
      have hne := corB_ne h3 dd
      omega)
    refine ⟨_, hcor.1, fun i hi hr => ?_⟩
    rw [known_bit _ h12 hi, set_get _ (by omega)] at hr
    rw [set_get _ (by omega)]
    by_cases he : i = n
    · subst he
      rw [if_pos rfl]
      have e1 : beyS x.sc (knowS (ss.getD i default) a b c d) dd = beyS x.sc (ss.getD i default) dd := by cases dd <;> rfl
      have e2 : saidS (knowS (ss.getD i default) a b c d) dd = if dd then (c, d) else (a, b) := by cases dd <;> rfl
      unfold cbS
      rw [e1, e2]
      cases dd
      · simp only [Bool.false_eq_true, if_false] at *
        omega
      · simp only [if_true] at *
        omega
    · rw [if_neg he] at hr ⊢
      exact hcor.2 i hi (by rw [known_bit ss h12 hi]; exact hr)
  rw [hc]; decide
/-- What Star answers if it tells anything. -/
structure EnF (p : Pl) (ss : List St) (n : Nat) (a0 a1 b0 b1 s0 s1 : Int) : Prop where
  ln : n < p.n
  rng : (-200000000 ≤ a0 ∧ a1 ≤ 200000000) ∧ (-200000000 ≤ b0 ∧ b1 ≤ 200000000) ∧ a0 ≤ a1 ∧ b0 ≤ b1
  scale : scaleR p ss = .ok (.agg #[.int .i64 s0, .int .i64 s1])
  srng : p.lo ≤ s0 ∧ s0 ≤ s1 ∧ s1 ≤ p.hi ∧ 1 ≤ p.lo ∧ p.hi ≤ 1000
  at_s : ∀ k, k = s0 ∨ k = s1 → ∃ x y, scaleR ⟨k, k, p.a, p.n, p.cap⟩ ss = .ok (.agg #[.int .i64 x, .int .i64 y])
  off_s : ∀ k, k < s0 ∨ s1 < k → p.lo ≤ k → k ≤ p.hi → scaleR ⟨k, k, p.a, p.n, p.cap⟩ ss = .error 10
  xs : ∃ x ∈ trA p ss, (starF ss n false x).1 = a0
  xe : ∃ x ∈ trA p ss, (starF ss n false x).2 = a1
  ys : ∃ x ∈ trA p ss, (starF ss n true x).1 = b0
  ye : ∃ x ∈ trA p ss, (starF ss n true x).2 = b1
  all : ∀ x ∈ trA p ss, (a0 ≤ (starF ss n false x).1 ∧ (starF ss n false x).1 ≤ (starF ss n false x).2 ∧ (starF ss n false x).2 ≤ a1) ∧ (b0 ≤ (starF ss n true x).1 ∧ (starF ss n true x).1 ≤ (starF ss n true x).2 ∧ (starF ss n true x).2 ≤ b1)
theorem one_scale (hnl : ss.length = p.n) (hv : plB p ss = true) {k : Int} (h1 : p.lo ≤ k) (h2 : k ≤ p.hi) : (trA ⟨k, k, p.a, p.n, p.cap⟩ ss ≠ [] ↔ ∃ x ∈ trA p ss, x.sc = k) ∧ plB ⟨k, k, p.a, p.n, p.cap⟩ ss = true := by
  have ok := plOk' hnl hv
  have k1 := ok.lo
  have k2 := ok.hi
  constructor
  · unfold trA
    rw [trL_iff ok.lo ok.hi, Ne, tr_nil]
    have := canR_iff (p := ⟨k, k, p.a, p.n, p.cap⟩) (ss := ss) (set := knownTo ss p.n) (show 1 ≤ k by omega) (show k ≤ 1000 by omega)
    constructor
    · intro h
      cases hc : canR ⟨k, k, p.a, p.n, p.cap⟩ ss (knownTo ss p.n)
      · exact absurd hc h
      · obtain ⟨sc, h3, h4⟩ := this.1 hc
        obtain rfl : sc = k := by have := h3.1; have := h3.2; dsimp only at *; omega
        exact ⟨⟨h1, h2⟩, h4⟩
    · rintro ⟨_, h4⟩ hc
      have := this.2 ⟨k, ⟨Int.le_refl _, Int.le_refl _⟩, h4⟩
      rw [hc] at this; cases this
  · have h := hv
    unfold plB at h ⊢
    simp only [Bool.and_eq_true, decide_eq_true_eq] at h ⊢
    exact ⟨⟨⟨⟨by omega, by omega⟩, by omega⟩, h.1.2⟩, h.2⟩
theorem ends_facts (hnl : ss.length = p.n) (hv : plB p ss = true) (i : Int) : (∃ c, c ≠ 0 ∧ starR p ss i = .error c ∧ ((∃ x y, scaleR p ss = .ok (.agg #[.int .i64 x, .int .i64 y])) ∨ scaleR p ss = .error c ∨ c = 2)) ∨
    ∃ (n : Nat) (a0 a1 b0 b1 s0 s1 : Int), i = n ∧ starR p ss i = .ok (.agg #[.int .i64 a0, .int .i64 a1, .int .i64 b0, .int .i64 b1]) ∧ EnF p ss n a0 a1 b0 b1 s0 s1 := by
  have ok := plOk' hnl hv
  by_cases hi : 0 ≤ i ∧ i < p.n
  · obtain ⟨n, rfl⟩ : ∃ n : Nat, i = n := ⟨i.toNat, by omega⟩
    have hn : n < p.n := by omega
    rcases scale_cases hv with ⟨h1, h2⟩ | ⟨h1, s0, s1, h2, h3⟩
    · exact .inl ⟨10, by decide, by unfold starR tellK; rw [if_pos hv, if_pos hi, if_pos h1], .inr (.inl h2)⟩
    by_cases hk : knownTo ss p.n = 0
    · exact .inl ⟨12, by decide, by unfold starR tellK; rw [if_pos hv, if_pos hi, if_neg h1, if_pos hk], .inl ⟨s0, s1, h2⟩⟩
    right
    obtain ⟨y, ys, hx⟩ : ∃ y ys, trA p ss = y :: ys := by
      cases h : trA p ss with
      | nil => exact absurd h h1
      | cons y ys => exact ⟨y, ys, rfl⟩
    have hy : y ∈ trA p ss := by rw [hx]; exact List.mem_cons_self
    have kf := kepL_of (starF ss n false) (trA p ss)
    have kt := kepL_of (starF ss n true) (trA p ss)
    have kc := kepL_of (scaleF false) (trA p ss)
    have t0 := (kf.all y hy (pl_ne ok hy hn false)).1
    have t1 := (kt.all y hy (pl_ne ok hy hn true)).1
    obtain ⟨a, b, c, d, ev, l1, l2, l3, l4⟩ := starV_ok ok h1 hn
    have e : starV p ss n = .ok (.agg #[.int .i64 (kepL (starF ss n false) (trA p ss)).1, .int .i64 (kepL (starF ss n false) (trA p ss)).2.1, .int .i64 (kepL (starF ss n true) (trA p ss)).1, .int .i64 (kepL (starF ss n true) (trA p ss)).2.1]) := by
      unfold starV alongR
      rw [if_pos t0, if_pos t1]
    rw [ev] at e
    simp only [Except.ok.injEq, Value.agg.injEq, Array.mk.injEq, List.cons.injEq, Value.int.injEq, true_and, and_true] at e
    obtain ⟨q1, q2, q3, q4⟩ := e
    rw [h3] at kc
    refine ⟨n, a, b, c, d, s0, s1, rfl, by rw [star_at hv h1 hk hn, ev], hn, ⟨l3, l4, l1, l2⟩, h2, ?_, ?_, ?_, ?_, ?_, ?_, ?_, ?_⟩
    · obtain ⟨u, hu, _, e1⟩ := kc.lo rfl
      obtain ⟨v, hv', _, e2⟩ := kc.hi rfl
      have a1 := (trL_of hu).1
      have a2 := (trL_of hv').1
      have a3 := (kc.all u hu (Int.le_refl _)).2
      unfold scaleF at *
      dsimp only at *
      have := ok.lo; have := ok.hi
      omega
    · intro k hk'
      have hxk : ∃ x ∈ trA p ss, x.sc = k := by
        rcases hk' with rfl | rfl
        · obtain ⟨u, hu, _, e1⟩ := kc.lo rfl; exact ⟨u, hu, e1.symm⟩
        · obtain ⟨u, hu, _, e1⟩ := kc.hi rfl; exact ⟨u, hu, e1.symm⟩
      obtain ⟨u, hu, rfl⟩ := hxk
      obtain ⟨r1, r2⟩ := (trL_of hu).1
      obtain ⟨o1, o2⟩ := one_scale hnl hv r1 r2
      rcases scale_cases o2 with ⟨g1, _⟩ | ⟨_, x, y, g2, _⟩
      · exact absurd g1 (o1.2 ⟨u, hu, rfl⟩)
      · exact ⟨x, y, g2⟩
    · intro k hk' r1 r2
      obtain ⟨o1, o2⟩ := one_scale hnl hv r1 r2
      rcases scale_cases o2 with ⟨_, g2⟩ | ⟨g1, _⟩
      · exact g2
      · obtain ⟨u, hu, rfl⟩ := o1.1 g1
        have := (kc.all u hu (Int.le_refl _)).2
        unfold scaleF at this
        dsimp only at this
        omega
    · obtain ⟨u, hu, _, e1⟩ := kf.lo t0; exact ⟨u, hu, by omega⟩
    · obtain ⟨u, hu, _, e1⟩ := kf.hi t0; exact ⟨u, hu, by omega⟩
    · obtain ⟨u, hu, _, e1⟩ := kt.lo t1; exact ⟨u, hu, by omega⟩
    · obtain ⟨u, hu, _, e1⟩ := kt.hi t1; exact ⟨u, hu, by omega⟩
    · intro x hx'
      have f0 := (kf.all x hx' (pl_ne ok hx' hn false)).2
      have f1 := (kt.all x hx' (pl_ne ok hx' hn true)).2
      have g0 : (starF ss n false x).1 ≤ (starF ss n false x).2 := pl_ne ok hx' hn false
      have g1 : (starF ss n true x).1 ≤ (starF ss n true x).2 := pl_ne ok hx' hn true
      omega
  · exact .inl ⟨2, by decide, by unfold starR; rw [if_pos hv, if_neg hi], .inr (.inr rfl)⟩
theorem sky_of {a b : Int} (h : -1048576 ≤ a ∧ a ≤ b ∧ b ≤ 1048576) : skyB a b = true := by
  unfold skyB; simp only [Bool.and_eq_true, decide_eq_true_eq]; omega
theorem sky_rng {a b : Int} (h : skyB a b = true) : -1048576 ≤ a ∧ a ≤ b ∧ b ≤ 1048576 := by
  unfold skyB at h; simp only [Bool.and_eq_true, decide_eq_true_eq] at h; omega
/-- What can be, and what cannot, at both ends. -/
theorem ends_can (hnl : ss.length = p.n) (hv : plB p ss = true) {a0 a1 b0 b1 s0 s1 : Int} (f : EnF p ss n a0 a1 b0 b1 s0 s1) (g : -1048576 < a0 ∧ a1 < 1048576 ∧ -1048576 < b0 ∧ b1 < 1048576) :
    ∃ E0 E1 N0 N1 : Int, (if (ss.getD n default).k then (E0 = (ss.getD n default).e0 ∧ E1 = (ss.getD n default).e1 ∧ N0 = (ss.getD n default).n0 ∧ N1 = (ss.getD n default).n1) else (E0 = a0 ∧ E1 = a1 ∧ N0 = b0 ∧ N1 = b1)) ∧
      (cnB p ss n a0 a0 N0 N1 = true ∧ cnB p ss n a1 a1 N0 N1 = true ∧ cnB p ss n E0 E1 b0 b0 = true ∧ cnB p ss n E0 E1 b1 b1 = true) ∧
      ((ss.getD n default).k = true → (a0 = E0 ∨ cnB p ss n E0 (a0 - 1) N0 N1 = false) ∧ (a1 = E1 ∨ cnB p ss n (a1 + 1) E1 N0 N1 = false) ∧ (b0 = N0 ∨ cnB p ss n E0 E1 N0 (b0 - 1) = false) ∧ (b1 = N1 ∨ cnB p ss n E0 E1 (b1 + 1) N1 = false)) ∧
      ((ss.getD n default).k = false → cnB p ss n (a0 - 1) (a0 - 1) (-1048576) 1048576 = false ∧ cnB p ss n (a1 + 1) (a1 + 1) (-1048576) 1048576 = false ∧ cnB p ss n (-1048576) 1048576 (b0 - 1) (b0 - 1) = false ∧ cnB p ss n (-1048576) 1048576 (b1 + 1) (b1 + 1) = false) := by
  have ok := plOk' hnl hv
  have hn := f.ln
  obtain ⟨r1, r2, r3, r4⟩ := f.rng
  obtain ⟨xs, hxs, exs⟩ := f.xs
  obtain ⟨xe, hxe, exe⟩ := f.xe
  obtain ⟨ys, hys, eys⟩ := f.ys
  obtain ⟨ye, hye, eye⟩ := f.ye
  have al := f.all
  have axs := al xs hxs
  have axe := al xe hxe
  have ays := al ys hys
  have aye := al ye hye
  -- what a truth has can be, if the other direction is as it is said
  have hin : ∀ {q0 q1 q2 q3 : Int} (x : Scl), x ∈ trA p ss → skyB q0 q1 = true → skyB q2 q3 = true → (∃ t, ((starF ss n false x).1 ≤ t ∧ t ≤ (starF ss n false x).2) ∧ q0 ≤ t ∧ t ≤ q1) → (∃ t, ((starF ss n true x).1 ≤ t ∧ t ≤ (starF ss n true x).2) ∧ q2 ≤ t ∧ t ≤ q3) → cnB p ss n q0 q1 q2 q3 = true := fun {q0 q1 q2 q3} x hx k1 k2 ⟨t0, h0⟩ ⟨t1, h1⟩ =>
    cn_has hnl hv hn k1 k2 hx (fun dd => match dd with | false => t0 | true => t1) (fun dd => match dd with | false => h0.1 | true => h1.1) (fun dd => match dd with | false => h0.2 | true => h1.2)
  have hout : ∀ {q0 q1 q2 q3 : Int}, skyB q0 q1 = true → skyB q2 q3 = true → ((ss.getD n default).k = true → ((ss.getD n default).e0 ≤ q0 ∧ q1 ≤ (ss.getD n default).e1) ∧ (ss.getD n default).n0 ≤ q2 ∧ q3 ≤ (ss.getD n default).n1) → (q1 < a0 ∨ a1 < q0 ∨ q3 < b0 ∨ b1 < q2) → cnB p ss n q0 q1 q2 q3 = false := fun {q0 q1 q2 q3} k1 k2 hs ho => by
    cases hc : cnB p ss n q0 q1 q2 q3
    · rfl
    · obtain ⟨x, hx, h⟩ := cn_near hnl hv hn k1 k2 hs hc
      have a := al x hx
      have h0 := h false
      have h1 := h true
      simp only [Bool.false_eq_true, if_false, if_true] at h0 h1
      omega
  have hst := fun dd => ok.st n (by omega) dd
  cases hk : (ss.getD n default).k
  · refine ⟨a0, a1, b0, b1, by simp, ⟨?_, ?_, ?_, ?_⟩, fun h => (by cases h), fun _ => ⟨?_, ?_, ?_, ?_⟩⟩
    · exact hin xs hxs (sky_of (by omega)) (sky_of (by omega)) ⟨a0, by omega, by omega⟩ ⟨(starF ss n true xs).1, by omega, by omega⟩
    · exact hin xe hxe (sky_of (by omega)) (sky_of (by omega)) ⟨a1, by omega, by omega⟩ ⟨(starF ss n true xe).1, by omega, by omega⟩
    · exact hin ys hys (sky_of (by omega)) (sky_of (by omega)) ⟨(starF ss n false ys).1, by omega, by omega⟩ ⟨b0, by omega, by omega⟩
    · exact hin ye hye (sky_of (by omega)) (sky_of (by omega)) ⟨(starF ss n false ye).1, by omega, by omega⟩ ⟨b1, by omega, by omega⟩
    · exact hout (sky_of (by omega)) (sky_of (by omega)) (fun h => by rw [hk] at h; cases h) (by omega)
    · exact hout (sky_of (by omega)) (sky_of (by omega)) (fun h => by rw [hk] at h; cases h) (by omega)
    · exact hout (sky_of (by omega)) (sky_of (by omega)) (fun h => by rw [hk] at h; cases h) (by omega)
    · exact hout (sky_of (by omega)) (sky_of (by omega)) (fun h => by rw [hk] at h; cases h) (by omega)
  · have e0 := (hst false).e hk
    have e1 := (hst false).f hk
    have e2 := (hst false).g hk
    have n0 := (hst true).e hk
    have n1 := (hst true).f hk
    have n2 := (hst true).g hk
    have hsk : ∀ dd x, ((ss.getD n default).sky dd).1 ≤ (starF ss n dd x).1 ∧ (starF ss n dd x).2 ≤ ((ss.getD n default).sky dd).2 := fun dd x => by
      unfold starF plS saidS
      rw [if_pos hk]
      exact ⟨Int.le_max_left _ _, Int.min_le_left _ _⟩
    have kf := fun x => hsk false x
    have kt := fun x => hsk true x
    have q1 := kf xs; have q2 := kt xs; have q3 := kf xe; have q4 := kt xe; have q5 := kf ys; have q6 := kt ys; have q7 := kf ye; have q8 := kt ye
    simp only [St.sky, Bool.false_eq_true, if_false, if_true] at e0 e1 e2 n0 n1 n2 q1 q2 q3 q4 q5 q6 q7 q8
    generalize (ss.getD n default).e0 = E0 at *
    generalize (ss.getD n default).e1 = E1 at *
    generalize (ss.getD n default).n0 = N0 at *
    generalize (ss.getD n default).n1 = N1 at *
    refine ⟨E0, E1, N0, N1, by simp, ⟨?_, ?_, ?_, ?_⟩, fun _ => ⟨?_, ?_, ?_, ?_⟩, fun h => by cases h⟩
    · exact hin xs hxs (sky_of (by omega)) (sky_of (by omega)) ⟨a0, by omega, by omega⟩ ⟨(starF ss n true xs).1, by omega, by omega⟩
    · exact hin xe hxe (sky_of (by omega)) (sky_of (by omega)) ⟨a1, by omega, by omega⟩ ⟨(starF ss n true xe).1, by omega, by omega⟩
    · exact hin ys hys (sky_of (by omega)) (sky_of (by omega)) ⟨(starF ss n false ys).1, by omega, by omega⟩ ⟨b0, by omega, by omega⟩
    · exact hin ye hye (sky_of (by omega)) (sky_of (by omega)) ⟨(starF ss n false ye).1, by omega, by omega⟩ ⟨b1, by omega, by omega⟩
    · by_cases h : a0 = E0
      · exact .inl h
      · exact .inr (hout (sky_of (by omega)) (sky_of (by omega)) (fun _ => by omega) (by omega))
    · by_cases h : a1 = E1
      · exact .inl h
      · exact .inr (hout (sky_of (by omega)) (sky_of (by omega)) (fun _ => by omega) (by omega))
    · by_cases h : b0 = N0
      · exact .inl h
      · exact .inr (hout (sky_of (by omega)) (sky_of (by omega)) (fun _ => by omega) (by omega))
    · by_cases h : b1 = N1
      · exact .inl h
      · exact .inr (hout (sky_of (by omega)) (sky_of (by omega)) (fun _ => by omega) (by omega))
end
end Go.Proofs.Ytdkegkacpdkjgaa

namespace Go.Proofs.Ytdkegkacpdkjgaa
open Go.RowKit Go.Maps

theorem inside_any (n lo hi : Int) (w : World) : Calls Try.prog 20 #[.int .i64 n, .agg #[.int .i64 lo, .int .i64 hi]] w (Ret (.bool (decide (lo ≤ n) && decide (n ≤ hi))) w) := by
  by_cases h : lo ≤ n
  · go_enter Try.func20, Try.ntmps20
    go_wp2
    go_ret
    exact ⟨by simp [h], (by (repeat (first | assumption | exact Below.refl _ _ | refine BA ?_ _ | refine BC ?_ _ _ (by first | omega | (simp; done) | (simp; omega)) _ | refine Below.drew ?_ | refine BT ?_ (by assumption))))⟩
  · go_enter Try.func20, Try.ntmps20
    go_wp2
    go_ret
    exact ⟨by simp; omega, (by (repeat (first | assumption | exact Below.refl _ _ | refine BA ?_ _ | refine BC ?_ _ _ (by first | omega | (simp; done) | (simp; omega)) _ | refine Below.drew ?_ | refine BT ?_ (by assumption))))⟩
theorem repS_ok (a b : Int) : repS (.ok (.agg #[.int .i64 a, .int .i64 b])) = .tuple #[.agg #[.int .i64 a, .int .i64 b], .int .i64 0] := rfl
theorem repS_err (c : Int) : repS (.error c) = .tuple #[.agg #[.int .i64 0, .int .i64 0], .int .i64 c] := rfl
set_option maxRecDepth 100000 in
set_option maxHeartbeats 4000000 in
theorem endsCan_any (B D : Nat) (p : Pl) (ss : List St) (n : Nat) (a b c d : Int) (Y : World) (hb : BoxP Y B p) (hd : Y.cell? ⟨D, 0, none⟩ = some (.int .i64 (n : Int))) (hm : PlAt p ss Y) (hl : p.n ≤ 30) (hn : n < p.n) :
    Calls Try.prog 26 #[.agg #[.int .i64 a, .int .i64 b], .agg #[.int .i64 c, .int .i64 d], .pointer (some ⟨B, 0, none⟩), .pointer (some ⟨D, 0, none⟩)] Y (Ret (.bool (cnB p ss n a b c d)) Y) := by
  have hnl := hm.nl
  obtain ⟨W0, hW0⟩ : ∃ X, (Y.alloc (.cells #[.int .i64 a, .int .i64 b] 23)).alloc (.cells #[.int .i64 c, .int .i64 d] 23) = X := ⟨_, rfl⟩
  have hB : Below Y.heap.size Y W0 := by rw [← hW0]; exact BA (newB _ _) _
  have s0 : W0.cell? ⟨Y.heap.size, 0, none⟩ = some (.int .i64 a) := by rw [← hW0]; simp [go_sem]
  have s1 : W0.cell? ⟨Y.heap.size, 1, none⟩ = some (.int .i64 b) := by rw [← hW0]; simp [go_sem]
  have s2 : W0.cell? ⟨Y.heap.size + 1, 0, none⟩ = some (.int .i64 c) := by rw [← hW0]; simp [go_sem]
  have s3 : W0.cell? ⟨Y.heap.size + 1, 1, none⟩ = some (.int .i64 d) := by rw [← hW0]; simp [go_sem]
  have hm0 := hm.below hB (Nat.le_refl _)
  have hAS := Lib.hid (as_any p ss n a b c d W0 hm0 (by omega) hl)
  unfold Pl.val at hAS
  obtain ⟨b0, b1, b2⟩ := hb.grown hB
  have hd := cellB hd hB
  obtain ⟨R, hR⟩ : ∃ R, cnB p ss n a b c d = R := ⟨_, rfl⟩
  have hRR : Hid (∀ p' : Pl, p'.lo = p.lo → p'.hi = p.hi → p'.n = p.n → ∃ x y e, repS (scaleR p' (ss.set n (knowS (ss.getD n default) a b c d))) = .tuple #[.agg #[.int .i64 x, .int .i64 y], .int .i64 e] ∧ (e == 0) = R) := fun p' e1 e2 e3 => by
    rw [scaleR_ext e1 e2 e3, ← hR]
    unfold cnB
    have h2 := scaleR_two p (ss.set n (knowS (ss.getD n default) a b c d))
    have hz := scale_noZ p (ss.set n (knowS (ss.getD n default) a b c d))
    cases hs : scaleR p (ss.set n (knowS (ss.getD n default) a b c d)) with
    | ok v => obtain ⟨x, y, rfl⟩ := h2 v hs; exact ⟨x, y, 0, rfl, rfl⟩
    | error e => exact ⟨0, 0, e, rfl, by have := hz e hs; simpa using this⟩
  rw [hR]
  clear hR hm hm0 hb
  generalize ss.set n (knowS (ss.getD n default) a b c d) = xs at *
  go_enter Try.func26, Try.ntmps26
  go_wp2_with fail
  clear b0 b1 b2 s0 s1 s2 s3 hd hW0
  refine hAS.out.mono ?_
  rintro e Y1 ⟨sa, cap, rfl, hp1, hx⟩
  have hB := BT hB hx
  have hsc := scale_any ⟨p.lo, p.hi, sa, p.n, cap⟩ xs Y1 hp1
  obtain ⟨x, y, e, he, hee⟩ := hRR.out ⟨p.lo, p.hi, sa, p.n, cap⟩ rfl rfl rfl
  rw [he] at hsc
  clear hAS hRR hp1 he hx
  go_wp2_with fail
  refine hsc.mono ?_
  rintro e' Y2 ⟨rfl, hx⟩
  have hB := BT hB hx
  clear hsc hx
  go_wp2_with fail
  go_ret
  exact ⟨by rw [← hee]; rfl, (by (repeat (first | assumption | exact Below.refl _ _ | refine BA ?_ _ | refine BC ?_ _ _ (by first | omega | (simp; done) | (simp; omega)) _ | refine Below.drew ?_ | refine BT ?_ (by assumption))))⟩
end Go.Proofs.Ytdkegkacpdkjgaa
