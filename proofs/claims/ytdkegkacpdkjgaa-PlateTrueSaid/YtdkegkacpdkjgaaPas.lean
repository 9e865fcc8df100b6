/- Plate: 'as': a plate with a star that is known to be at one place. -/
import Derived.Test.YtdkegkacpdkjgaaPsa
import Derived.Test.YtdkegkacpdkjgaaPlo
import Derived.Test.YtdkegkacpdkjgaaSeq
import Derived.Test.YtdkegkacpdkjgaaPsq
import Derived.Deep.AppendLies
namespace Go.Proofs.Ytdkegkacpdkjgaa
open Go.RowKit

theorem StarsIn.below {X X' : World} {a : Option Addr} {ss : List St} (h : StarsIn X a ss) (hb : Below X.heap.size X X') : StarsIn X' a ss :=
  h.elim .inl fun ⟨b, o, h1, h2, h3⟩ => .inr ⟨b, o, h1, Nat.lt_of_lt_of_le h2 hb.size, fun i hi => (h3 i hi).below hb h2⟩
def knowS (s : St) (a b c d : Int) : St := { s with k := true, e0 := a, e1 := b, n0 := c, n1 := d }
def AsOut (p : Pl) (ss : List St) (w : World) (e : Ending) (w' : World) : Prop :=
  ∃ sa cap, e = .returned (.agg #[.int .i64 p.lo, .int .i64 p.hi, .slice sa p.n cap]) ∧ PlAt ⟨p.lo, p.hi, sa, p.n, cap⟩ ss w' ∧ Below w.heap.size w w'
theorem row_cell {X : World} {base g n cap : Nat} {xs : List Value} (h : X.ownsRow base 55 9 (.slice (some ⟨g, 0, none⟩) n cap) n xs) (j : Nat) (hj : j < n * 9) (hl : xs.length = n * 9) : ∃ v, X.cell? ⟨g, j, none⟩ = some v := by
  rw [h.cellAt j hj]
  exact ⟨xs[j], List.getElem?_eq_getElem (by omega)⟩
theorem flat_get {ss : List St} {i r : Nat} (hi : i < ss.length) (hr : r < 9) : (ss.flatMap starC)[i * 9 + r]? = (starC (ss.getD i default))[r]? := by
  have hl : i * 9 + r < (ss.flatMap starC).length := by rw [flat_len9]; omega
  have h := flat_at (List.getElem?_eq_getElem hl)
  rw [show (i * 9 + r) / 9 = i by omega, show (i * 9 + r) % 9 = r by omega] at h
  rw [h, List.getElem?_eq_getElem hl]
theorem know_row {X : World} {base g cap n : Nat} {ss : List St} {a b c d : Int} (hn : n < ss.length) (hg : g < X.heap.size)
    (h : X.ownsRow base 55 9 (.slice (some ⟨g, 0, none⟩) ss.length cap) ss.length ((((((ss.flatMap starC).set (n * 9 + 4) (.bool true)).set (n * 9 + 5) (.int .i64 a)).set (n * 9 + 5 + 1) (.int .i64 b)).set (n * 9 + 7) (.int .i64 c)).set (n * 9 + 7 + 1) (.int .i64 d))) :
    StarsIn X (some ⟨g, 0, none⟩) (ss.set n (knowS (ss.getD n default) a b c d)) := by
  refine .inr ⟨g, 0, rfl, hg, fun i hi => StAt.of fun r u hu => ?_⟩
  rw [List.length_set] at hi
  have hr : r < 9 := by have := (List.getElem?_eq_some_iff.1 hu).1; rwa [starC_len] at this
  rw [Nat.zero_add, h.cellAt (i * 9 + r) (by omega)]
  have L : (ss.flatMap starC).length = ss.length * 9 := flat_len9 ss
  by_cases he : i = n
  · subst he
    have e : (ss.set i (knowS (ss.getD i default) a b c d)).getD i default = knowS (ss.getD i default) a b c d := by simp [List.getD, hn]
    rw [e] at hu
    have l4 : i * 9 + 4 < ss.length * 9 := by omega
    have l5 : i * 9 + 5 < ss.length * 9 := by omega
    have l6 : i * 9 + 6 < ss.length * 9 := by omega
    have l7 : i * 9 + 7 < ss.length * 9 := by omega
    have l8 : i * 9 + 8 < ss.length * 9 := by omega
    have hf := fun r hr => flat_get (ss := ss) (i := i) (r := r) hi hr
    generalize ss.getD i default = s at hu hf
    rw [← hu]
    have hc : r = 0 ∨ r = 1 ∨ r = 2 ∨ r = 3 ∨ r = 4 ∨ r = 5 ∨ r = 6 ∨ r = 7 ∨ r = 8 := by omega
    rcases hc with rfl | rfl | rfl | rfl | rfl | rfl | rfl | rfl | rfl
    all_goals
      simp only [List.getElem?_set, List.length_set, L, Nat.add_assoc, Nat.reduceAdd, Nat.add_left_cancel_iff, Nat.reduceEqDiff, if_true, if_false, l4, l5, l6, l7, l8]
      first | rfl | (rw [hf _ (by omega)]; rfl)
  · have e : (ss.set n (knowS (ss.getD n default) a b c d)).getD i default = ss.getD i default := by
      simp [List.getD, Ne.symm he]
    rw [e] at hu
    rw [← hu, ← flat_get hi hr]
    have hne : ∀ j, 4 ≤ j → j < 9 → ∀ (xs : List Value) (v : Value), (xs.set (n * 9 + j) v)[i * 9 + r]? = xs[i * 9 + r]? := fun j h1 h2 xs v => List.getElem?_set_ne (by omega)
    rw [show n * 9 + 7 + 1 = n * 9 + 8 by omega, show n * 9 + 5 + 1 = n * 9 + 6 by omega, hne 8 (by omega) (by omega), hne 7 (by omega) (by omega), hne 6 (by omega) (by omega), hne 5 (by omega) (by omega), hne 4 (by omega) (by omega)]
set_option maxRecDepth 100000 in
set_option maxHeartbeats 4000000 in
theorem as_any (p : Pl) (ss : List St) (n : Nat) (a b c d : Int) (w : World) (h : PlAt p ss w) (hn : n < ss.length) (hl : p.n ≤ 30) :
    Calls Try.prog 27 #[p.val, .int .i64 n, .agg #[.int .i64 a, .int .i64 b], .agg #[.int .i64 c, .int .i64 d]] w (AsOut p (ss.set n (knowS (ss.getD n default) a b c d)) w) := by
  have hst0 : StarsIn w p.a ss := h.lk
  have hnl := h.nl
  clear h
  unfold Pl.val
  obtain ⟨W0, hW0⟩ : ∃ X, (((w.alloc (.cells #[.int .i64 p.lo, .int .i64 p.hi, .slice p.a p.n p.cap] 29)).alloc (.cells #[.int .i64 a, .int .i64 b] 23)).alloc (.cells #[.int .i64 c, .int .i64 d] 23)).alloc (.cells #[.int .i64 0, .int .i64 0, .slice none 0 0] 29) = X := ⟨_, rfl⟩
  have hB0 : Below w.heap.size w W0 := by rw [← hW0]; exact BA (BA (BA (newB _ _) _) _) _
  have b0 : W0.cell? ⟨w.heap.size, 0, none⟩ = some (.int .i64 p.lo) := by rw [← hW0]; simp [go_sem]
  have b1 : W0.cell? ⟨w.heap.size, 1, none⟩ = some (.int .i64 p.hi) := by rw [← hW0]; simp [go_sem]
  have b2 : W0.cell? ⟨w.heap.size, 2, none⟩ = some (.slice p.a p.n p.cap) := by rw [← hW0]; simp [go_sem]
  have hsp : Slots w.heap.size 3 W0 := by
    rw [← hW0]
    intro o ho
    have : o = 0 ∨ o = 1 ∨ o = 2 := by omega
    rcases this with rfl | rfl | rfl <;> simp [go_sem]
  have e0 : W0.cell? ⟨w.heap.size + 1, 0, none⟩ = some (.int .i64 a) := by rw [← hW0]; simp [go_sem]
  have e1 : W0.cell? ⟨w.heap.size + 1, 1, none⟩ = some (.int .i64 b) := by rw [← hW0]; simp [go_sem]
  have f0 : W0.cell? ⟨w.heap.size + 1 + 1, 0, none⟩ = some (.int .i64 c) := by rw [← hW0]; simp [go_sem]
  have f1 : W0.cell? ⟨w.heap.size + 1 + 1, 1, none⟩ = some (.int .i64 d) := by rw [← hW0]; simp [go_sem]
  have hs : Slots (w.heap.size + 1 + 1 + 1) 3 W0 := by
    rw [← hW0]
    intro o ho
    have : o = 0 ∨ o = 1 ∨ o = 2 := by omega
    rcases this with rfl | rfl | rfl <;> simp [go_sem]
  have hsz : w.heap.size + 1 + 1 + 1 < W0.heap.size := by rw [← hW0]; simp
  have hst := hst0.below hB0
  obtain ⟨XE, hXE⟩ : ∃ X, W0.alloc (.cells #[] 55) = X := ⟨_, rfl⟩
  have hr0 : XE.ownsRow W0.heap.size 55 9 (.slice (some ⟨W0.heap.size, 0, none⟩) 0 0) 0 [] := by rw [← hXE]; exact World.ownsRow_lit (base := W0.heap.size) (e := 55) (size := 9) W0 #[] 0 (Nat.le_refl _) (by unfold maxLen; omega) (by rfl)
  have hE : Below W0.heap.size W0 XE := by rw [← hXE]; exact newB _ _
  have hst1 := hst.below hE
  have b2' := cellB b2 hE
  go_enter Try.func27, Try.ntmps27
  go_wp2_with (at_builtin; refine wpList_append_stars rfl (.tmp 9) (.tmp 11) rfl W0.heap.size (.slice (some ⟨W0.heap.size, 0, none⟩) 0 0) (by rfl) hr0 p.a p.n p.cap ss (by rfl) hst1 hnl (by omega) hE.size ?_)
  intro v' w' hr hg
  have hB1 : Below W0.heap.size W0 w' := hE.grown hg hE.size (fun k e => by simp [Value.ownBlock] at e; omega)
  clear hg hr0 hst1 hXE hE b2' hst
  obtain ⟨g, cap, rfl⟩ : ∃ g cap, v' = .slice (some ⟨g, 0, none⟩) p.n cap := by
    rcases hr.2 with ⟨h1, h2⟩ | ⟨g, cap, cur, h1, _⟩
    · omega
    · exact ⟨g, cap, h1⟩
  have hgl := hr.lt g rfl
  have b0 := cellB b0 hB1
  have b1 := cellB b1 hB1
  have b2 := cellB b2 hB1
  have e0 := cellB e0 hB1
  have e1 := cellB e1 hB1
  have f0 := cellB f0 hB1
  have f1 := cellB f1 hB1
  have hs := hs.below hB1 hsz
  have hsp := hsp.below hB1 (by omega)
  obtain ⟨_, _, z2⟩ := hsp.get 2 (by omega)
  have hB2 := BT hB0 hB1
  obtain ⟨X1, hX1⟩ : ∃ X, w'.setCell ⟨w.heap.size, 2, none⟩ (.slice (some ⟨g, 0, none⟩) p.n cap) = X := ⟨_, rfl⟩
  have hr := ownsRow_setCell_below hr (a := ⟨w.heap.size, 2, none⟩) (by show w.heap.size < W0.heap.size; omega) (.slice (some ⟨g, 0, none⟩) p.n cap)
  have c0 : X1.cell? ⟨w.heap.size, 0, none⟩ = some (.int .i64 p.lo) := by rw [← hX1]; simp [go_sem, b0]
  have c1 : X1.cell? ⟨w.heap.size, 1, none⟩ = some (.int .i64 p.hi) := by rw [← hX1]; simp [go_sem, b1]
  have c2 : X1.cell? ⟨w.heap.size, 2, none⟩ = some (.slice (some ⟨g, 0, none⟩) p.n cap) := by rw [← hX1]; exact World.cell?_setCell_same _ _ _ b2
  have e0 : X1.cell? ⟨w.heap.size + 1, 0, none⟩ = some (.int .i64 a) := by rw [← hX1]; simp [go_sem, e0]
  have e1 : X1.cell? ⟨w.heap.size + 1, 1, none⟩ = some (.int .i64 b) := by rw [← hX1]; simp [go_sem, e1]
  have f0 : X1.cell? ⟨w.heap.size + 1 + 1, 0, none⟩ = some (.int .i64 c) := by rw [← hX1]; simp [go_sem, f0]
  have f1 : X1.cell? ⟨w.heap.size + 1 + 1, 1, none⟩ = some (.int .i64 d) := by rw [← hX1]; simp [go_sem, f1]
  have hs : Slots (w.heap.size + 1 + 1 + 1) 3 X1 := by rw [← hX1]; exact hs.set _ _
  have hB3 : Below w.heap.size w X1 := by rw [← hX1]; exact BC hB2 w.heap.size 2 (Nat.le_refl _) _
  rw [hX1] at hr
  have hn0 : (0 : Int) ≤ (n : Int) := by omega
  have hki : (n : Int) < (p.n : Int) := by omega
  go_wp2_with fail
  clear hX1 hB1 hB2 b0 b1 b2 hsp z2
  have hI : Hid (∀ Y, Below W0.heap.size X1 Y → Y.cell? ⟨w.heap.size, 2, none⟩ = some (.slice (some ⟨g, 0, none⟩) p.n cap) ∧ Y.cell? ⟨w.heap.size + 1, 0, none⟩ = some (.int .i64 a) ∧ Y.cell? ⟨w.heap.size + 1, 1, none⟩ = some (.int .i64 b) ∧ Y.cell? ⟨w.heap.size + 1 + 1, 0, none⟩ = some (.int .i64 c) ∧ Y.cell? ⟨w.heap.size + 1 + 1, 1, none⟩ = some (.int .i64 d)) := fun Y hY => ⟨(hY.cell (p := ⟨_, _, none⟩) (by show w.heap.size < _; omega)).trans c2, (hY.cell (p := ⟨_, _, none⟩) (by show w.heap.size + 1 < _; omega)).trans e0, (hY.cell (p := ⟨_, _, none⟩) (by show w.heap.size + 1 < _; omega)).trans e1, (hY.cell (p := ⟨_, _, none⟩) (by show w.heap.size + 1 + 1 < _; omega)).trans f0, (hY.cell (p := ⟨_, _, none⟩) (by show w.heap.size + 1 + 1 < _; omega)).trans f1⟩
  have hbD : Below W0.heap.size X1 X1.drew := Below.drew (Below.refl _ X1)
  have hr := hr.drew
  have hxl : (ss.flatMap starC).length = p.n * 9 := by rw [flat_len9, hnl]
  refine wp_region_seq [(0, true), (1, true), (2, true), (3, true), (4, true), (5, true), (6, true), (7, true), (8, true), (9, true), (10, true), (11, true), (12, true), (13, false), (14, true), (15, true), (16, false), (17, true), (18, true), (19, false)] (fun Y => Y.cell? ⟨w.heap.size, 2, none⟩ = some (.slice (some ⟨g, 0, none⟩) p.n cap) ∧ Y.cell? ⟨w.heap.size + 1, 0, none⟩ = some (.int .i64 a) ∧ Y.cell? ⟨w.heap.size + 1, 1, none⟩ = some (.int .i64 b) ∧ Y.cell? ⟨w.heap.size + 1 + 1, 0, none⟩ = some (.int .i64 c) ∧ Y.cell? ⟨w.heap.size + 1 + 1, 1, none⟩ = some (.int .i64 d)) (by kernel_rfl) (by kernel_rfl) (fun _ _ d _ _ h => by cases d <;> exact h) (hI.out _ hbD) ?_
  generalize X1.drew = Y0 at *
  repeat (first | (refine seq_read rfl (by rfl) _ (fun w' hS => by (try dsimp only at hS); go_simp; (try with_reducible rfl)) ?_; (try simp only [Act.put, List.setIfInBounds_toArray, List.set_cons_zero, List.set_cons_succ])) | (refine seq_skip rfl (by rfl) ?_; (try simp only [Act.put, List.setIfInBounds_toArray, List.set_cons_zero, List.set_cons_succ])))
  refine seq_do rfl (by rfl) (fun K hK => ?_)
  obtain ⟨x4, q4⟩ := row_cell hr (n * 9 + 4) (by omega) hxl
  have z4 := hr.frozenAt (n * 9 + 4)
  have hr1 := (hr.stored (n * 9 + 4) (.bool true)).1
  have hb1 := hbD.setCell (p := ⟨g, n * 9 + 4, none⟩) hgl.1 (.bool true)
  go_simp
  refine hK _ _ (hI.out _ hb1) ?_
  clear hK K q4 z4 hr hbD
  generalize Y0.setCell ⟨g, n * 9 + 4, none⟩ (.bool true) = Y1 at *
  (try simp only [Act.put, List.setIfInBounds_toArray, List.set_cons_zero, List.set_cons_succ])
  repeat (first | (refine seq_read rfl (by rfl) _ (fun w' hS => by (try dsimp only at hS); go_simp; (try with_reducible rfl)) ?_; (try simp only [Act.put, List.setIfInBounds_toArray, List.set_cons_zero, List.set_cons_succ])) | (refine seq_skip rfl (by rfl) ?_; (try simp only [Act.put, List.setIfInBounds_toArray, List.set_cons_zero, List.set_cons_succ])))
  refine seq_do rfl (by rfl) (fun K hK => ?_)
  obtain ⟨x5, q5⟩ := row_cell hr1 (n * 9 + 5) (by omega) (by simpa using hxl)
  obtain ⟨x6, q6⟩ := row_cell hr1 (n * 9 + 5 + 1) (by omega) (by simpa using hxl)
  have z5 := hr1.frozenAt (n * 9 + 5)
  have z6 := hr1.frozenAt (n * 9 + 5 + 1)
  have hr2 := ((hr1.stored (n * 9 + 5) (.int .i64 a)).1.stored (n * 9 + 5 + 1) (.int .i64 b)).1
  have hb2 := (hb1.setCell (p := ⟨g, n * 9 + 5, none⟩) hgl.1 (.int .i64 a)).setCell (p := ⟨g, n * 9 + 5 + 1, none⟩) hgl.1 (.int .i64 b)
  go_simp
  refine hK _ _ (hI.out _ hb2) ?_
  clear hK K q5 z5 q6 z6 hr1 hb1
  generalize (Y1.setCell ⟨g, n * 9 + 5, none⟩ (.int .i64 a)).setCell ⟨g, n * 9 + 5 + 1, none⟩ (.int .i64 b) = Y2 at *
  (try simp only [Act.put, List.setIfInBounds_toArray, List.set_cons_zero, List.set_cons_succ])
  repeat (first | (refine seq_read rfl (by rfl) _ (fun w' hS => by (try dsimp only at hS); go_simp; (try with_reducible rfl)) ?_; (try simp only [Act.put, List.setIfInBounds_toArray, List.set_cons_zero, List.set_cons_succ])) | (refine seq_skip rfl (by rfl) ?_; (try simp only [Act.put, List.setIfInBounds_toArray, List.set_cons_zero, List.set_cons_succ])))
  refine seq_last rfl (by rfl) (by kernel_rfl) (fun K hK => ?_)
  obtain ⟨x7, q7⟩ := row_cell hr2 (n * 9 + 7) (by omega) (by simpa using hxl)
  obtain ⟨x8, q8⟩ := row_cell hr2 (n * 9 + 7 + 1) (by omega) (by simpa using hxl)
  have z7 := hr2.frozenAt (n * 9 + 7)
  have z8 := hr2.frozenAt (n * 9 + 7 + 1)
  have hr3 := ((hr2.stored (n * 9 + 7) (.int .i64 c)).1.stored (n * 9 + 7 + 1) (.int .i64 d)).1
  have hb3 := (hb2.setCell (p := ⟨g, n * 9 + 7, none⟩) hgl.1 (.int .i64 c)).setCell (p := ⟨g, n * 9 + 7 + 1, none⟩) hgl.1 (.int .i64 d)
  go_simp
  refine hK _ _ ?_
  clear hK K q7 z7 q8 z8 hr2 hb2
  first | show Exit.inBlock _ _ Exit.normal _ _ | show Exit.then _ _ Exit.normal _ _ | skip
  generalize (Y2.setCell ⟨g, n * 9 + 7, none⟩ (.int .i64 c)).setCell ⟨g, n * 9 + 7 + 1, none⟩ (.int .i64 d) = Y3 at *
  have hgx : W0.heap.size ≤ g := hgl.1
  have k0 := (hb3.cell (p := ⟨w.heap.size, 0, none⟩) (by show w.heap.size < _; omega)).trans c0
  have k1 := (hb3.cell (p := ⟨w.heap.size, 1, none⟩) (by show w.heap.size < _; omega)).trans c1
  have k2 := (hb3.cell (p := ⟨w.heap.size, 2, none⟩) (by show w.heap.size < _; omega)).trans c2
  have hs := hs.below hb3 hsz
  obtain ⟨x0, q0, z0⟩ := hs.get 0 (by omega)
  obtain ⟨x1, q1, z1⟩ := hs.get 1 (by omega)
  obtain ⟨x2, q2, z2⟩ := hs.get 2 (by omega)
  have hgl3 := (hr3.lt g rfl).2
  have hS3 : StarsIn Y3 (some ⟨g, 0, none⟩) (ss.set n (knowS (ss.getD n default) a b c d)) := by
    rw [← hnl] at hr3
    exact know_row hn hgl3 hr3
  have hB4 : Below w.heap.size w Y3 := hB3.trans (hb3.mono (by omega))
  clear hb3 hr3 hI hst0 hs
  have hpl : PlAt ⟨p.lo, p.hi, some ⟨g, 0, none⟩, p.n, cap⟩ (ss.set n (knowS (ss.getD n default) a b c d)) Y3 := ⟨by rw [List.length_set]; exact hnl, by show p.n ≤ 1000000000; omega, hS3⟩
  have hne : g ≠ w.heap.size + 1 + 1 + 1 := by omega
  have hp1 := ((hpl.put rfl hne (o := 0) (.int .i64 p.lo)).put rfl hne (o := 1) (.int .i64 p.hi)).put rfl hne (o := 2) (.slice (some ⟨g, 0, none⟩) p.n cap)
  have hfin := (BC (BC (BC hB4 (w.heap.size + 1 + 1 + 1) 0 (by omega) (.int .i64 p.lo)) (w.heap.size + 1 + 1 + 1) 1 (by omega) (.int .i64 p.hi)) (w.heap.size + 1 + 1 + 1) 2 (by omega) (.slice (some ⟨g, 0, none⟩) p.n cap))
  clear hpl hS3 hB4 hB3 hB0
  go_wp2_with fail
  exact bodyPost_ret (v := .agg #[.int .i64 p.lo, .int .i64 p.hi, .slice (some ⟨g, 0, none⟩) p.n cap]) (by simp [results, Try.results27, go_sem, q0, q1, q2]) rfl ⟨some ⟨g, 0, none⟩, cap, rfl, hp1, hfin⟩
end Go.Proofs.Ytdkegkacpdkjgaa
