/- Plate: 'part': a plate with the stars of a set alone known. -/
import Derived.Test.YtdkegkacpdkjgaaPas
namespace Go.Proofs.Ytdkegkacpdkjgaa
open Go.RowKit

theorem flat_set {ss : List St} {n : Nat} {v : Bool} (hn : n < ss.length) : (ss.flatMap starC).set (n * 9 + 4) (.bool v) = (ss.set n { ss.getD n default with k := v }).flatMap starC := by
  apply List.ext_getElem?
  intro j
  by_cases hj : j < ss.length * 9
  · obtain ⟨i, r, hr, rfl⟩ : ∃ i r, r < 9 ∧ j = i * 9 + r := ⟨j / 9, j % 9, by omega, by omega⟩
    have hi : i < ss.length := by omega
    rw [flat_get (ss := ss.set n _) (by rw [List.length_set]; exact hi) hr]
    by_cases he : i = n
    · subst he
      have e : (ss.set i { ss.getD i default with k := v }).getD i default = { ss.getD i default with k := v } := by simp [List.getD, hn]
      rw [e]
      have hf := fun r hr => flat_get (ss := ss) (i := i) (r := r) hi hr
      have L : (ss.flatMap starC).length = ss.length * 9 := flat_len9 ss
      have l4 : i * 9 + 4 < ss.length * 9 := by omega
      generalize ss.getD i default = s at hf
      have hc : r = 0 ∨ r = 1 ∨ r = 2 ∨ r = 3 ∨ r = 4 ∨ r = 5 ∨ r = 6 ∨ r = 7 ∨ r = 8 := by omega
      rcases hc with rfl | rfl | rfl | rfl | rfl | rfl | rfl | rfl | rfl
      all_goals
        simp only [List.getElem?_set, L, Nat.add_left_cancel_iff, Nat.reduceEqDiff, if_true, if_false, l4]
        first | rfl | (rw [hf _ (by omega)]; rfl)
    · have e : (ss.set n { ss.getD n default with k := v }).getD i default = ss.getD i default := by
        simp [List.getD, Ne.symm he]
      rw [e, List.getElem?_set_ne (by omega), flat_get hi hr]
  · rw [List.getElem?_eq_none (by rw [List.length_set, flat_len9]; omega), List.getElem?_eq_none (by rw [flat_len9, List.length_set]; omega)]
def bitP (set : Int) (i : Nat) : Bool := bits .and .i64 (set / 2 ^ i) 1 == 1
/-- The first k stars are known as the set says. -/
def partTo (ss : List St) (set : Int) : Nat → List St
  | 0 => ss
  | k + 1 => (partTo ss set k).set k { (partTo ss set k).getD k default with k := bitP set k }
theorem partTo_len (ss : List St) (set : Int) : ∀ k, (partTo ss set k).length = ss.length
  | 0 => rfl
  | k + 1 => by rw [partTo, List.length_set, partTo_len ss set k]
theorem row_stars {X : World} {base g cap : Nat} {ss : List St} (hg : g < X.heap.size) (h : X.ownsRow base 55 9 (.slice (some ⟨g, 0, none⟩) ss.length cap) ss.length (ss.flatMap starC)) : StarsIn X (some ⟨g, 0, none⟩) ss := by
  refine .inr ⟨g, 0, rfl, hg, fun i hi => StAt.of fun r u hu => ?_⟩
  have hr : r < 9 := by have := (List.getElem?_eq_some_iff.1 hu).1; rwa [starC_len] at this
  rw [Nat.zero_add, h.cellAt (i * 9 + r) (by omega), flat_get hi hr, hu]
set_option maxRecDepth 100000 in
set_option maxHeartbeats 4000000 in
theorem part_any (p : Pl) (ss : List St) (set : Int) (w : World) (h : PlAt p ss w) (hl : p.n ≤ 30) :
    Calls Try.prog 29 #[p.val, .int .i64 set] w (AsOut p (partTo ss set p.n) w) := by
  have hst0 : StarsIn w p.a ss := h.lk
  have hnl := h.nl
  clear h
  unfold Pl.val
  obtain ⟨W0, hW0⟩ : ∃ X, (w.alloc (.cells #[.int .i64 p.lo, .int .i64 p.hi, .slice p.a p.n p.cap] 29)).alloc (.cells #[.int .i64 0, .int .i64 0, .slice none 0 0] 29) = X := ⟨_, rfl⟩
  have hB0 : Below w.heap.size w W0 := by rw [← hW0]; exact BA (newB _ _) _
  have b0 : W0.cell? ⟨w.heap.size, 0, none⟩ = some (.int .i64 p.lo) := by rw [← hW0]; simp [go_sem]
  have b1 : W0.cell? ⟨w.heap.size, 1, none⟩ = some (.int .i64 p.hi) := by rw [← hW0]; simp [go_sem]
  have b2 : W0.cell? ⟨w.heap.size, 2, none⟩ = some (.slice p.a p.n p.cap) := by rw [← hW0]; simp [go_sem]
  have hsp : Slots w.heap.size 3 W0 := by
    rw [← hW0]
    intro o ho
    have : o = 0 ∨ o = 1 ∨ o = 2 := by omega
    rcases this with rfl | rfl | rfl <;> simp [go_sem]
  have hs : Slots (w.heap.size + 1) 3 W0 := by
    rw [← hW0]
    intro o ho
    have : o = 0 ∨ o = 1 ∨ o = 2 := by omega
    rcases this with rfl | rfl | rfl <;> simp [go_sem]
  have hsz : w.heap.size + 1 < W0.heap.size := by rw [← hW0]; simp
  have hst := hst0.below hB0
  obtain ⟨XE, hXE⟩ : ∃ X, W0.alloc (.cells #[] 55) = X := ⟨_, rfl⟩
  have hr0 : XE.ownsRow W0.heap.size 55 9 (.slice (some ⟨W0.heap.size, 0, none⟩) 0 0) 0 [] := by rw [← hXE]; exact World.ownsRow_lit (base := W0.heap.size) (e := 55) (size := 9) W0 #[] 0 (Nat.le_refl _) (by unfold maxLen; omega) (by rfl)
  have hE : Below W0.heap.size W0 XE := by rw [← hXE]; exact newB _ _
  have hst1 := hst.below hE
  have b2' := cellB b2 hE
  go_enter Try.func29, Try.ntmps29
  go_wp2_with (at_builtin; refine wpList_append_stars rfl (.tmp 6) (.tmp 8) rfl W0.heap.size (.slice (some ⟨W0.heap.size, 0, none⟩) 0 0) (by rfl) hr0 p.a p.n p.cap ss (by rfl) hst1 hnl (by omega) hE.size ?_)
  intro v' w' hr hg
  have hB1 : Below W0.heap.size W0 w' := hE.grown hg hE.size (fun k e => by simp [Value.ownBlock] at e; omega)
  clear hg hr0 hst1 hXE hE b2' hst
  obtain ⟨sa, cap, rfl, hform⟩ : ∃ sa cap, v' = .slice sa p.n cap ∧ (p.n = 0 ∨ ∃ g, sa = some ⟨g, 0, none⟩) := by
    rcases hr.2 with ⟨h1, h2⟩ | ⟨g, cap, cur, h1, _⟩
    · exact ⟨none, 0, by rw [h1, h2], .inl h2⟩
    · exact ⟨some ⟨g, 0, none⟩, cap, h1, .inr ⟨g, rfl⟩⟩
  have b0 := cellB b0 hB1
  have b1 := cellB b1 hB1
  have b2 := cellB b2 hB1
  have hs := hs.below hB1 hsz
  have hsp := hsp.below hB1 (by omega)
  obtain ⟨_, _, z2⟩ := hsp.get 2 (by omega)
  have hB2 := BT hB0 hB1
  obtain ⟨X1, hX1⟩ : ∃ X, w'.setCell ⟨w.heap.size, 2, none⟩ (.slice sa p.n cap) = X := ⟨_, rfl⟩
  have hr := ownsRow_setCell_below hr (a := ⟨w.heap.size, 2, none⟩) (by show w.heap.size < W0.heap.size; omega) (.slice sa p.n cap)
  have c0 : X1.cell? ⟨w.heap.size, 0, none⟩ = some (.int .i64 p.lo) := by rw [← hX1]; simp [go_sem, b0]
  have c1 : X1.cell? ⟨w.heap.size, 1, none⟩ = some (.int .i64 p.hi) := by rw [← hX1]; simp [go_sem, b1]
  have c2 : X1.cell? ⟨w.heap.size, 2, none⟩ = some (.slice sa p.n cap) := by rw [← hX1]; exact World.cell?_setCell_same _ _ _ b2
  have hs : Slots (w.heap.size + 1) 3 X1 := by rw [← hX1]; exact hs.set _ _
  have hB3 : Below w.heap.size w X1 := by rw [← hX1]; exact BC hB2 w.heap.size 2 (Nat.le_refl _) _
  rw [hX1] at hr
  have hn30 : (p.n : Int) ≤ 30 := by omega
  go_wp2_with fail
  clear hX1 hB1 hB2 b0 b1 b2 hsp z2 hB0
  go_loopw [14] (fun i wr => ∃ k : Nat, k ≤ p.n ∧ i = .int .i64 k ∧ wr.ownsRow W0.heap.size 55 9 (.slice sa p.n cap) p.n ((partTo ss set k).flatMap starC) ∧ Below W0.heap.size X1 wr) (fun i _ => p.n - (intOf i).toNat)
  case atStart => exact ⟨0, by omega, rfl, hr, Below.refl _ _⟩
  case round =>
    clear hr
    obtain ⟨k, hk, rfl, hr, hV⟩ := hrel
    have hk0 : (0 : Int) ≤ (k : Int) := by omega
    by_cases hlt : k < p.n
    · have hki : (k : Int) < (p.n : Int) := by omega
      obtain ⟨g, rfl⟩ : ∃ g, sa = some ⟨g, 0, none⟩ := by
        rcases hform with h | h
        · omega
        · exact h
      have hgl := hr.lt g rfl
      have hI : Hid (∀ Y, Below W0.heap.size X1 Y → Y.cell? ⟨w.heap.size, 2, none⟩ = some (.slice (some ⟨g, 0, none⟩) p.n cap)) := fun Y hY => (hY.cell (p := ⟨_, _, none⟩) (by show w.heap.size < _; omega)).trans c2
      go_wp2_with fail
      have hbD : Below W0.heap.size X1 wr.drew := Below.drew hV
      have hr := hr.drew
      have hxl : ((partTo ss set k).flatMap starC).length = p.n * 9 := by rw [flat_len9, partTo_len, hnl]
      refine wp_region_seq [(0, true), (1, true), (2, true), (3, true), (4, true), (5, true), (6, true), (7, true), (8, true), (9, true), (10, false)] (fun Y => Y.cell? ⟨w.heap.size, 2, none⟩ = some (.slice (some ⟨g, 0, none⟩) p.n cap)) (by kernel_rfl) (by kernel_rfl) (fun _ _ d _ _ h => by cases d <;> exact h) (hI.out _ hbD) ?_
      generalize wr.drew = Y0 at *
      repeat (first | (refine seq_read rfl (by rfl) _ (fun w' hS => by (try dsimp only at hS); go_simp; (try with_reducible rfl)) ?_; (try simp only [Act.put, List.setIfInBounds_toArray, List.set_cons_zero, List.set_cons_succ])) | (refine seq_skip rfl (by rfl) ?_; (try simp only [Act.put, List.setIfInBounds_toArray, List.set_cons_zero, List.set_cons_succ])))
      refine seq_last rfl (by rfl) (by kernel_rfl) (fun K hK => ?_)
      obtain ⟨x4, q4⟩ := row_cell hr (k * 9 + 4) (by omega) hxl
      have z4 := hr.frozenAt (k * 9 + 4)
      have hr1 := (hr.stored (k * 9 + 4) (.bool (bitP set k))).1
      have hb1 := hbD.setCell (p := ⟨g, k * 9 + 4, none⟩) hgl.1 (.bool (bitP set k))
      rw [flat_set (by rw [partTo_len]; omega)] at hr1
      go_simp
      refine hK _ _ ?_
      clear hK K q4 z4 hr hbD
      first | show Exit.inBlock _ _ Exit.normal _ _ | show Exit.then _ _ Exit.normal _ _ | skip
      go_wp2_with fail
      go_roundw
      case rel => exact ⟨k + 1, by omega, by go_num, hr1, hb1⟩
      case measure => simp [intOf]; omega
    · obtain rfl : k = p.n := by omega
      have hS3 : StarsIn wr sa (partTo ss set p.n) := by
        rcases hform with h | ⟨g, rfl⟩
        · exact .inl (List.eq_nil_of_length_eq_zero (by rw [partTo_len, hnl, h]))
        · have hl2 : (partTo ss set p.n).length = p.n := by rw [partTo_len, hnl]
          have hg := (hr.lt g rfl).2
          rw [← hl2] at hr
          exact row_stars hg (by simpa only [hl2] using hr)
      have hsa : ∀ g o, sa = some ⟨g, o, none⟩ → o = 0 ∧ W0.heap.size ≤ g := fun g o h => by
        subst h
        rcases hform with h | ⟨g', h⟩
        · rcases hr.2 with ⟨h1, _⟩ | ⟨g', cap', cur, h1, h2, _⟩
          · cases h1
          · injection h1 with h1; injection h1 with h1; injection h1 with h1 h3; subst h1; exact ⟨h3, h2⟩
        · injection h with h; injection h with h h3; subst h; exact ⟨h3, (hr.lt _ rfl).1⟩
      have k0 := (hV.cell (p := ⟨w.heap.size, 0, none⟩) (by show w.heap.size < _; omega)).trans c0
      have k1 := (hV.cell (p := ⟨w.heap.size, 1, none⟩) (by show w.heap.size < _; omega)).trans c1
      have k2 := (hV.cell (p := ⟨w.heap.size, 2, none⟩) (by show w.heap.size < _; omega)).trans c2
      have hs := hs.below hV hsz
      obtain ⟨x0, q0, z0⟩ := hs.get 0 (by omega)
      obtain ⟨x1, q1, z1⟩ := hs.get 1 (by omega)
      obtain ⟨x2, q2, z2⟩ := hs.get 2 (by omega)
      have hB4 : Below w.heap.size w wr := hB3.trans (hV.mono (by omega))
      have hpl : PlAt ⟨p.lo, p.hi, sa, p.n, cap⟩ (partTo ss set p.n) wr := ⟨by rw [partTo_len]; exact hnl, by show p.n ≤ 1000000000; omega, hS3⟩
      have hput : ∀ (W : World) (o : Nat) (v : Value), PlAt ⟨p.lo, p.hi, sa, p.n, cap⟩ (partTo ss set p.n) W → PlAt ⟨p.lo, p.hi, sa, p.n, cap⟩ (partTo ss set p.n) (W.setCell ⟨w.heap.size + 1, o, none⟩ v) := fun W o v h => by
        refine ⟨h.nl, h.big, h.lk.elim .inl fun ⟨b, o', h1, h2, h3⟩ => .inr ⟨b, o', h1, by simpa [World.setCell] using h2, fun i hi => (h3 i hi).put ?_ v⟩⟩
        have := (hsa b o' h1).2
        omega
      have hp1 := hput _ 2 (.slice sa p.n cap) (hput _ 1 (.int .i64 p.hi) (hput _ 0 (.int .i64 p.lo) hpl))
      have hfin := (BC (BC (BC hB4 (w.heap.size + 1) 0 (by omega) (.int .i64 p.lo)) (w.heap.size + 1) 1 (by omega) (.int .i64 p.hi)) (w.heap.size + 1) 2 (by omega) (.slice sa p.n cap))
      clear hpl hS3 hB4 hB3 hput hr hsa hform
      go_wp2_with fail
      exact bodyPost_ret (v := .agg #[.int .i64 p.lo, .int .i64 p.hi, .slice sa p.n cap]) (by simp [results, Try.results29, go_sem, q0, q1, q2]) rfl ⟨sa, cap, rfl, hp1, hfin⟩
end Go.Proofs.Ytdkegkacpdkjgaa
