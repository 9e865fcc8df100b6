/- Plate: the other plate of the examples. -/
import Derived.Test.YtdkegkacpdkjgaaGreatPso
namespace Go.Proofs.YtdkegkacpdkjgaaGreat
open Go.RowKit

theorem StAt.put {s : St} {b o B o' : Nat} {w : World} (h : StAt s b o w) (hn : b ≠ B) (v : Value) : StAt s b o (w.setCell ⟨B, o', none⟩ v) := by
  obtain ⟨c0, c1, c2, c3, c4, c5, c6, c7, c8⟩ := h
  have e : ∀ k, (⟨B, o', none⟩ : Addr) ≠ ⟨b, k, none⟩ := fun k he => by injection he with h1; exact hn h1.symm
  constructor <;> (rw [World.cell?_setCell_other _ _ _ _ (e _)]; assumption)
theorem PlAt.put {p : Pl} {ss : List St} {S B o : Nat} {w : World} (h : PlAt p ss w) (ha : p.a = some ⟨S, 0, none⟩) (hn : S ≠ B) (v : Value) : PlAt p ss (w.setCell ⟨B, o, none⟩ v) := by
  refine ⟨h.nl, h.big, ?_⟩
  rcases h.lk with h | ⟨b, o, h1, h2, h3⟩
  · exact .inl h
  · rw [ha] at h1
    injection h1 with h1
    injection h1 with h1 h4
    subst h1
    refine .inr ⟨S, o, by rw [ha, h4], ?_, fun i hi => (h3 i hi).put hn v⟩
    simpa [World.setCell] using h2
theorem stars_of {S : Nat} {ss : List St} {Y : World} (h : PlAt (exP S) ss Y) (i : Nat) (hi : i < ss.length) : StAt (ss.getD i default) S (i * 9) Y := by
  rcases h.lk with h0 | ⟨b, o, h1, h2, h3⟩
  · rw [h0] at hi; cases hi
  · have h1 : some (⟨S, 0, none⟩ : Addr) = some ⟨b, o, none⟩ := h1
    injection h1 with h1
    injection h1 with h1 h4
    subst h1
    subst h4
    have := h3 i hi
    rw [Nat.zero_add] at this
    exact this
set_option maxHeartbeats 2000000 in
theorem other_set {S : Nat} {Y : World} (hP : PlAt (exP S) exS Y) (h : Slots S 27 Y) : PlAt (exP S) exQ ((((((((((Y.setCell ⟨S, 18, none⟩ (.int .i64 2000)).setCell ⟨S, 19, none⟩ (.int .i64 2001)).setCell ⟨S, 20, none⟩ (.int .i64 1500)).setCell ⟨S, 21, none⟩ (.int .i64 1500)).setCell ⟨S, 22, none⟩ (.bool true)).setCell ⟨S, 23, none⟩ (.int .i64 6210)).setCell ⟨S, 24, none⟩ (.int .i64 6211)).setCell ⟨S, 25, none⟩ (.int .i64 6880)).setCell ⟨S, 26, none⟩ (.int .i64 6910))) ∧ Slots S 27 ((((((((((Y.setCell ⟨S, 18, none⟩ (.int .i64 2000)).setCell ⟨S, 19, none⟩ (.int .i64 2001)).setCell ⟨S, 20, none⟩ (.int .i64 1500)).setCell ⟨S, 21, none⟩ (.int .i64 1500)).setCell ⟨S, 22, none⟩ (.bool true)).setCell ⟨S, 23, none⟩ (.int .i64 6210)).setCell ⟨S, 24, none⟩ (.int .i64 6211)).setCell ⟨S, 25, none⟩ (.int .i64 6880)).setCell ⟨S, 26, none⟩ (.int .i64 6910))) := by
  refine ⟨⟨rfl, by show 3 ≤ 1000000000; omega, .inr ⟨S, 0, rfl, ?_, fun i hi => ?_⟩⟩, (((((((((h.set ⟨S, 18, none⟩ (.int .i64 2000)).set ⟨S, 19, none⟩ (.int .i64 2001)).set ⟨S, 20, none⟩ (.int .i64 1500)).set ⟨S, 21, none⟩ (.int .i64 1500)).set ⟨S, 22, none⟩ (.bool true)).set ⟨S, 23, none⟩ (.int .i64 6210)).set ⟨S, 24, none⟩ (.int .i64 6211)).set ⟨S, 25, none⟩ (.int .i64 6880)).set ⟨S, 26, none⟩ (.int .i64 6910))⟩
  · have := (stars_of hP 0 (by decide)).lt
    simpa [World.setCell] using this
  · have hi3 : i < 3 := hi
    have hne : ∀ (k : Nat) (j : Nat) (X : World) (v : Value), k < 18 → 18 ≤ j → (X.setCell ⟨S, j, none⟩ v).cell? ⟨S, k, none⟩ = X.cell? ⟨S, k, none⟩ := fun k j X v hk hj => World.cell?_setCell_other _ _ _ _ (fun he => by injection he with h1 h2; omega)
    rcases i with _ | _ | _ | i
    · obtain ⟨c0, c1, c2, c3, c4, c5, c6, c7, c8⟩ := stars_of hP 0 (by decide)
      constructor <;> (rw [hne _ _ _ _ (by decide) (by decide), hne _ _ _ _ (by decide) (by decide), hne _ _ _ _ (by decide) (by decide), hne _ _ _ _ (by decide) (by decide), hne _ _ _ _ (by decide) (by decide), hne _ _ _ _ (by decide) (by decide), hne _ _ _ _ (by decide) (by decide), hne _ _ _ _ (by decide) (by decide), hne _ _ _ _ (by decide) (by decide)]; assumption)
    · obtain ⟨c0, c1, c2, c3, c4, c5, c6, c7, c8⟩ := stars_of hP 1 (by decide)
      constructor <;> (rw [hne _ _ _ _ (by decide) (by decide), hne _ _ _ _ (by decide) (by decide), hne _ _ _ _ (by decide) (by decide), hne _ _ _ _ (by decide) (by decide), hne _ _ _ _ (by decide) (by decide), hne _ _ _ _ (by decide) (by decide), hne _ _ _ _ (by decide) (by decide), hne _ _ _ _ (by decide) (by decide), hne _ _ _ _ (by decide) (by decide)]; assumption)
    · obtain ⟨c0, c1, c2, c3, c4, c5, c6, c7, c8⟩ := stars_of hP 2 (by decide)
      show StAt _ S 18 _
      simp only [Nat.reduceMul, Nat.reduceAdd] at c0 c1 c2 c3 c4 c5 c6 c7 c8
      constructor <;> simp [go_sem, c0, c1, c2, c3, c4, c5, c6, c7, c8] <;> rfl
    · omega
set_option maxRecDepth 100000 in
set_option maxHeartbeats 4000000 in
theorem other_any (w : World) : Calls Tryz.prog 32 #[] w (SamOut exQ w) := by
  obtain ⟨W0, hW0⟩ : ∃ X, w.alloc (.cells #[.int .i64 0, .int .i64 0, .slice none 0 0] 26) = X := ⟨_, rfl⟩
  have hs : Slots w.heap.size 3 W0 := by
    rw [← hW0]
    intro o ho
    have : o = 0 ∨ o = 1 ∨ o = 2 := by omega
    rcases this with rfl | rfl | rfl <;> simp [go_sem]
  have hl : w.heap.size < W0.heap.size := by rw [← hW0]; simp
  have hB : Below w.heap.size w W0 := by rw [← hW0]; exact newB _ _
  go_enter Tryz.func32, Tryz.ntmps32
  go_wp2_with fail
  clear hW0
  refine (sample_any W0).mono ?_
  rintro e X ⟨S, rfl, hP, hS, hle, hX⟩
  have hB := BT hB hX
  have hs := hs.below hX hl
  have hSl := (stars_of hP 0 (by decide)).lt
  have hl2 : w.heap.size < S := by omega
  clear hX
  obtain ⟨XP, hXP⟩ : ∃ Y, X.alloc (.cells #[.int .i64 590, .int .i64 610, .slice (some ⟨S, 0, none⟩) 3 3] 26) = Y := ⟨_, rfl⟩
  have hxP : Below X.heap.size X XP := by rw [← hXP]; exact newB _ _
  have hb : BoxP XP X.heap.size (exP S) := by rw [← hXP]; exact boxP_new X (exP S) _
  have hP := hP.below hxP (Nat.le_refl _)
  have hS := hS.below hxP hSl
  have hs := hs.below hxP (by omega)
  have hB := BT hB hxP
  have hPl : X.heap.size < XP.heap.size := by rw [← hXP]; simp
  go_wp2_with fail
  clear hXP hxP
  generalize X.heap.size = P at *
  have hI : Hid (∀ Y, Below XP.heap.size XP Y → Y.cell? ⟨P, 2, none⟩ = some (.slice (some ⟨S, 0, none⟩) 3 3) ∧ Y.cell? ⟨S, 18, none⟩ = some (.int .i64 2000) ∧ Y.cell? ⟨S, 19, none⟩ = some (.int .i64 2001) ∧ Y.cell? ⟨S, 20, none⟩ = some (.int .i64 1500) ∧ Y.cell? ⟨S, 21, none⟩ = some (.int .i64 1500) ∧ Y.cell? ⟨S, 22, none⟩ = some (.bool false) ∧ Y.cell? ⟨S, 23, none⟩ = some (.int .i64 0) ∧ Y.cell? ⟨S, 24, none⟩ = some (.int .i64 0) ∧ Y.cell? ⟨S, 25, none⟩ = some (.int .i64 0) ∧ Y.cell? ⟨S, 26, none⟩ = some (.int .i64 0)) := fun Y hY => by
    obtain ⟨c0, c1, c2, c3, c4, c5, c6, c7, c8⟩ := stars_of (hP.below hY (Nat.le_refl _)) 2 (by decide)
    exact ⟨(hb.grown hY).c2, c0, c1, c2, c3, c4, c5, c6, c7, c8⟩
  have hbD : Below XP.heap.size XP XP.drew := Below.drew (Below.refl _ XP)
  refine wp_region_seq [(0, true), (1, true), (2, true), (3, true), (4, true), (5, true), (6, false), (7, true), (8, false)] (fun Y => Y.cell? ⟨P, 2, none⟩ = some (.slice (some ⟨S, 0, none⟩) 3 3) ∧ Y.cell? ⟨S, 18, none⟩ = some (.int .i64 2000) ∧ Y.cell? ⟨S, 19, none⟩ = some (.int .i64 2001) ∧ Y.cell? ⟨S, 20, none⟩ = some (.int .i64 1500) ∧ Y.cell? ⟨S, 21, none⟩ = some (.int .i64 1500) ∧ Y.cell? ⟨S, 22, none⟩ = some (.bool false) ∧ Y.cell? ⟨S, 23, none⟩ = some (.int .i64 0) ∧ Y.cell? ⟨S, 24, none⟩ = some (.int .i64 0) ∧ Y.cell? ⟨S, 25, none⟩ = some (.int .i64 0) ∧ Y.cell? ⟨S, 26, none⟩ = some (.int .i64 0)) (by kernel_rfl) (by kernel_rfl) (fun _ _ d _ _ h => by cases d <;> exact h) (hI.out _ hbD) ?_
  repeat (first | (refine seq_read rfl (by rfl) _ (fun w' hS => by (try dsimp only at hS); go_simp; (try with_reducible rfl)) ?_; (try simp only [Act.put, List.setIfInBounds_toArray, List.set_cons_zero, List.set_cons_succ])) | (refine seq_skip rfl (by rfl) ?_; (try simp only [Act.put, List.setIfInBounds_toArray, List.set_cons_zero, List.set_cons_succ])))
  refine seq_do rfl (by rfl) (fun K hK => ?_)
  go_simp
  refine (knownL_any _ _ _ _ _ _ _ _ _ _ _ _ _ XP.drew).mono ?_
  rintro e Y ⟨rfl, hY⟩
  have hY := BT hbD hY
  refine hK _ _ (hI.out _ hY) ?_
  clear hK K
  (try simp only [Act.put, List.setIfInBounds_toArray, List.set_cons_zero, List.set_cons_succ])
  repeat (first | (refine seq_read rfl (by rfl) _ (fun w' hS => by (try dsimp only at hS); go_simp; (try with_reducible rfl)) ?_; (try simp only [Act.put, List.setIfInBounds_toArray, List.set_cons_zero, List.set_cons_succ])) | (refine seq_skip rfl (by rfl) ?_; (try simp only [Act.put, List.setIfInBounds_toArray, List.set_cons_zero, List.set_cons_succ])))
  refine seq_last rfl (by rfl) (by kernel_rfl) (fun K hK => ?_)
  have hP := hP.below hY (Nat.le_refl _)
  have hS := hS.below hY (by omega)
  have hs := hs.below hY (by omega)
  have hb := hb.grown hY
  have hB9 := BT hB hY
  clear hY hI hbD
  obtain ⟨x0, q0, z0⟩ := hS.get 18 (by omega)
  obtain ⟨x1, q1, z1⟩ := hS.get 19 (by omega)
  obtain ⟨x2, q2, z2⟩ := hS.get 20 (by omega)
  obtain ⟨x3, q3, z3⟩ := hS.get 21 (by omega)
  obtain ⟨x4, q4, z4⟩ := hS.get 22 (by omega)
  obtain ⟨x5, q5, z5⟩ := hS.get 23 (by omega)
  obtain ⟨x6, q6, z6⟩ := hS.get 24 (by omega)
  obtain ⟨x7, q7, z7⟩ := hS.get 25 (by omega)
  obtain ⟨x8, q8, z8⟩ := hS.get 26 (by omega)
  go_simp
  refine hK _ _ ?_
  clear hK K
  first | show Exit.inBlock _ _ Exit.normal _ _ | show Exit.then _ _ Exit.normal _ _ | skip
  have hq := other_set hP hS
  have hfin := (BC (BC (BC (BC (BC (BC (BC (BC (BC hB9 S 18 (by omega) (.int .i64 2000)) S 19 (by omega) (.int .i64 2001)) S 20 (by omega) (.int .i64 1500)) S 21 (by omega) (.int .i64 1500)) S 22 (by omega) (.bool true)) S 23 (by omega) (.int .i64 6210)) S 24 (by omega) (.int .i64 6211)) S 25 (by omega) (.int .i64 6880)) S 26 (by omega) (.int .i64 6910))
  have hbk : (((((((((Y.setCell ⟨S, 18, none⟩ (.int .i64 2000)).setCell ⟨S, 19, none⟩ (.int .i64 2001)).setCell ⟨S, 20, none⟩ (.int .i64 1500)).setCell ⟨S, 21, none⟩ (.int .i64 1500)).setCell ⟨S, 22, none⟩ (.bool true)).setCell ⟨S, 23, none⟩ (.int .i64 6210)).setCell ⟨S, 24, none⟩ (.int .i64 6211)).setCell ⟨S, 25, none⟩ (.int .i64 6880)).setCell ⟨S, 26, none⟩ (.int .i64 6910)).cell? ⟨P, 0, none⟩ = some (.int .i64 590) ∧ (((((((((Y.setCell ⟨S, 18, none⟩ (.int .i64 2000)).setCell ⟨S, 19, none⟩ (.int .i64 2001)).setCell ⟨S, 20, none⟩ (.int .i64 1500)).setCell ⟨S, 21, none⟩ (.int .i64 1500)).setCell ⟨S, 22, none⟩ (.bool true)).setCell ⟨S, 23, none⟩ (.int .i64 6210)).setCell ⟨S, 24, none⟩ (.int .i64 6211)).setCell ⟨S, 25, none⟩ (.int .i64 6880)).setCell ⟨S, 26, none⟩ (.int .i64 6910)).cell? ⟨P, 1, none⟩ = some (.int .i64 610) ∧ (((((((((Y.setCell ⟨S, 18, none⟩ (.int .i64 2000)).setCell ⟨S, 19, none⟩ (.int .i64 2001)).setCell ⟨S, 20, none⟩ (.int .i64 1500)).setCell ⟨S, 21, none⟩ (.int .i64 1500)).setCell ⟨S, 22, none⟩ (.bool true)).setCell ⟨S, 23, none⟩ (.int .i64 6210)).setCell ⟨S, 24, none⟩ (.int .i64 6211)).setCell ⟨S, 25, none⟩ (.int .i64 6880)).setCell ⟨S, 26, none⟩ (.int .i64 6910)).cell? ⟨P, 2, none⟩ = some (.slice (some ⟨S, 0, none⟩) 3 3) := by
    refine ⟨?_, ?_, ?_⟩ <;> simp [go_sem]
    · exact hb.c0
    · exact hb.c1
    · exact hb.c2
  have hrs : Slots w.heap.size 3 ((((((((((Y.setCell ⟨S, 18, none⟩ (.int .i64 2000)).setCell ⟨S, 19, none⟩ (.int .i64 2001)).setCell ⟨S, 20, none⟩ (.int .i64 1500)).setCell ⟨S, 21, none⟩ (.int .i64 1500)).setCell ⟨S, 22, none⟩ (.bool true)).setCell ⟨S, 23, none⟩ (.int .i64 6210)).setCell ⟨S, 24, none⟩ (.int .i64 6211)).setCell ⟨S, 25, none⟩ (.int .i64 6880)).setCell ⟨S, 26, none⟩ (.int .i64 6910))) := (((((((((hs.set ⟨S, 18, none⟩ (.int .i64 2000)).set ⟨S, 19, none⟩ (.int .i64 2001)).set ⟨S, 20, none⟩ (.int .i64 1500)).set ⟨S, 21, none⟩ (.int .i64 1500)).set ⟨S, 22, none⟩ (.bool true)).set ⟨S, 23, none⟩ (.int .i64 6210)).set ⟨S, 24, none⟩ (.int .i64 6211)).set ⟨S, 25, none⟩ (.int .i64 6880)).set ⟨S, 26, none⟩ (.int .i64 6910))
  clear hP hS hb hB9 hB hs q0 q1 q2 q3 q4 q5 q6 q7 q8 z0 z1 z2 z3 z4 z5 z6 z7 z8
  generalize (((((((((Y.setCell ⟨S, 18, none⟩ (.int .i64 2000)).setCell ⟨S, 19, none⟩ (.int .i64 2001)).setCell ⟨S, 20, none⟩ (.int .i64 1500)).setCell ⟨S, 21, none⟩ (.int .i64 1500)).setCell ⟨S, 22, none⟩ (.bool true)).setCell ⟨S, 23, none⟩ (.int .i64 6210)).setCell ⟨S, 24, none⟩ (.int .i64 6211)).setCell ⟨S, 25, none⟩ (.int .i64 6880)).setCell ⟨S, 26, none⟩ (.int .i64 6910)) = Z at *
  obtain ⟨k0, k1, k2⟩ := hbk
  obtain ⟨x0, q0, z0⟩ := hrs.get 0 (by omega)
  obtain ⟨x1, q1, z1⟩ := hrs.get 1 (by omega)
  obtain ⟨x2, q2, z2⟩ := hrs.get 2 (by omega)
  have hne : S ≠ w.heap.size := by omega
  have hq1 := ((hq.1.put rfl hne (o := 0) (.int .i64 590)).put rfl hne (o := 1) (.int .i64 610)).put rfl hne (o := 2) (.slice (some ⟨S, 0, none⟩) 3 3)
  have hq2 := ((hq.2.set ⟨w.heap.size, 0, none⟩ (.int .i64 590)).set ⟨w.heap.size, 1, none⟩ (.int .i64 610)).set ⟨w.heap.size, 2, none⟩ (.slice (some ⟨S, 0, none⟩) 3 3)
  have hf := (BC (BC (BC hfin (w.heap.size) 0 (by omega) (.int .i64 590)) (w.heap.size) 1 (by omega) (.int .i64 610)) (w.heap.size) 2 (by omega) (.slice (some ⟨S, 0, none⟩) 3 3))
  go_wp2_with fail
  exact bodyPost_ret (v := .agg #[.int .i64 590, .int .i64 610, .slice (some ⟨S, 0, none⟩) 3 3]) (by simp [results, Tryz.results32, go_sem, q0, q1, q2]) rfl ⟨S, rfl, hq1, hq2, by omega, hf⟩
end Go.Proofs.YtdkegkacpdkjgaaGreat
