/- Plate: all truths are put into a map. -/
import Derived.Test.YtdkegkacpdkjgaaGreatPmp
namespace Go.Proofs.YtdkegkacpdkjgaaGreat
open Go.RowKit Go.Shelf Go.Maps
attribute [local go_sem] Oper.semAt_some

theorem Quad.kept {X X' : World} {C : Nat} {a b c d : Int} (h : Quad X C a b c d) {row : Option Nat} (hg : X.grownBy X' row) (hr : ∀ r, row = some r → ∃ o : Obj, X.heap[r]? = some o ∧ o.isCells = false) : Quad X' C a b c d :=
  ⟨cell_kept h.c0 hg hr, cell_kept h.c1 hg hr, cell_kept h.c2 hg hr, cell_kept h.c3 hg hr, (frozen_kept h.c0 hg hr).trans h.f0, (frozen_kept h.c1 hg hr).trans h.f1, (frozen_kept h.c2 hg hr).trans h.f2, (frozen_kept h.c3 hg hr).trans h.f3⟩
set_option maxRecDepth 100000 in
set_option maxHeartbeats 4000000 in
theorem insert_any (p : Pl) (ss : List St) (set : Int) (w0 w : World) (n₀ B C mb : Nat) (hP : PlAt p ss w0) (hok : PlOk p ss) (hn : w0.heap.size ≤ n₀) (hW : Below n₀ w0 w) (hnm : n₀ ≤ mb) (hb : BoxL w B p) (hc : w.cell? ⟨C, 0, none⟩ = some (.int .i64 set))
    (hBm : B < mb) (hCm : C < mb) (hown : w.ownsMap Tryz.prog 3 quadElem mb 0 (.map [])) :
    Calls Tryz.prog 135 #[.map (some mb), .func (.func 136) #[] #[.pointer (some ⟨B, 0, none⟩), .pointer (some ⟨C, 0, none⟩)]] w
      (fun e w' => e = .returned (.tuple #[]) ∧ w'.ownsMap Tryz.prog 3 quadElem mb (trL p ss set).length (mapD (trL p ss set)) ∧ Below mb w w') := by
  have hmw := hown.lt
  have hlen := trL_len hok set
  refine (callsIn_wide (n := 5)).1 ?_
  refine callsIn_of_wp_marks Tryz.func135 rfl trivial ?_ rfl
  simp only [Tryz.ntmps135, List.size_toArray, List.length_cons, List.length_nil, Nat.reduceAdd, Nat.reduceSub, Array.replicate_succ, Array.replicate_zero, List.push_toArray, List.append_toArray, List.nil_append, List.cons_append]
  gi_wp2
  have hcm := (cell_new_l w (.map (some mb)) 72).1
  have hB1 : Below mb w (w.alloc (.cells #[.map (some mb)] 72)) := (newB _ _).mono (by omega)
  have hown1 := hown.alloc (.cells #[.map (some mb)] 72)
  have hb1 := hb.grown hb.lt (newB w (.cells #[.map (some mb)] 72))
  have hc1 := cellB hc (newB w (.cells #[.map (some mb)] 72))
  have s1 : (w.alloc (.cells #[.map (some mb)] 72)).heap.size = w.heap.size + 1 := by simp
  generalize w.alloc (.cells #[.map (some mb)] 72) = W1 at *
  refine wpIn_rangeFunc_ownH rfl (by omega) (gf := 136) (lb := #[.pointer (some ⟨B, 0, none⟩), .pointer (some ⟨C, 0, none⟩)]) rfl trivial (enters_of Tryz.func136 (by kernel_rfl) rfl)
    (scales_stops (5 - 1) (by omega) B C n₀ p ss set w0 hP hok hn W1 (hW.trans (hB1.mono hnm)) (by omega) hb1 hc1) (fun h k => ⟨h.1.trans k.1, k.2.1.trans h.2.1, k.2.2.trans h.2.2⟩)
    (fun W l o o' hl h h1 h2 => ⟨(Below.grown (Below.refl n₀ W) (grownBy_putObj' W l o') (by have := (Array.getElem?_eq_some_iff.1 h).1; omega) (fun k e => by cases e; omega)), World.putObj_heap_other (by omega), World.putObj_heap_other (by omega)⟩) (Below.refl _ _) (fun _ => rfl)
    (fun pre W => (W.ownsMap Tryz.prog 3 quadElem mb pre.length (mapD pre) ∧ W.cell? ⟨w.heap.size, 0, none⟩ = some (.map (some mb))) ∧ Below mb w W)
    (fun _ _ _ => False)
    (OwnFrom.and (fun s A B row hs hg hr => ⟨hs.1.kept hg (fun e => by have := (hr _ e.symm).1; omega), cell_kept hs.2 hg (fun r e => (hr r e).2)⟩) (ownFrom_below (by omega) (by omega)))
    (fun c s A B row hs hg hr => hs)
    ⟨⟨hown1, hcm⟩, hB1⟩
    (fun x a' W => ∃ G, Quad W G x.a x.b x.c x.d ∧ a' = { tmps := #[.map (some mb), .func (.func 136) #[] #[.pointer (some ⟨B, 0, none⟩), .pointer (some ⟨C, 0, none⟩)], .pointer (some ⟨w.heap.size, 0, none⟩), undef, .int .i64 x.sc, .pointer (some ⟨G, 0, none⟩), .func (.func 136) #[] #[.pointer (some ⟨B, 0, none⟩), .pointer (some ⟨C, 0, none⟩)], .int .i64 x.sc, .agg x.v, undef, undef, undef], defers := [] })
    (fun x a' s A B row hs hg hr => by obtain ⟨G, h2, h3⟩ := hs; exact ⟨G, h2.kept hg (fun r e => (hr r e).2), h3⟩) ?assign ?body ?done ?stop
  case assign =>
    rintro l pre x W K ⟨⟨ho, hm⟩, hB⟩ hK
    simp
    unfold Scl.v at hK ⊢
    gi_wp2
    have hlt := ho.lt
    refine hK _ _ ((KeepsOthers.alloc _ _).from _) ⟨(newB W _).mono (by omega), (newB W _).block B (by omega), (newB W _).block C (by omega)⟩ ⟨⟨ho.alloc _, cellB hm (newB _ _)⟩, hB.trans ((newB W _).mono (by omega))⟩ ⟨W.heap.size, quad_new _ _ _ _ _ _, rfl⟩
  case body =>
    rintro l pre x a' W hl ⟨r, hr⟩ ⟨⟨ho, hm⟩, hB⟩ ⟨G, hq, rfl⟩ hlen2
    obtain ⟨c0, c1, c2, c3, f0, f1, f2, f3⟩ := hq
    have hpl : pre.length < maxLen := by unfold maxLen; omega
    gi_wp2_with (gi_at_mapUpdate; refine wpListIn_mapUpdate_own _ rfl _ _ _ 72 rfl 3 81 keyed3 mapQ quadElem mb pre.length _ rfl ho hpl _ _ (.int .i64 x.sc) rfl rfl (keyOf_int_mk Tryz.underlying3 (wf_sc x.h)) _ [] (quadElem_mk x.a x.b x.c x.d) ?_; intro w1 hown2 hgrow)
    have hlt := ho.lt
    refine ⟨KeepsFrom.of_grownBy hgrow (fun j e => by cases e; omega), ⟨(Below.refl n₀ W).grown hgrow (by omega) (fun k e => by cases e; omega), hgrow.block B (by omega) (fun e => by cases e; omega), hgrow.block C (by omega) (fun e => by cases e; omega)⟩, ⟨?_, ?_⟩, hB.grown hgrow (by omega) (fun k e => by cases e; omega)⟩
    · rw [mapD_snoc, List.length_append]; exact hown2
    · rw [← hm]; exact World.cell?_of_block (a := ⟨w.heap.size, 0, none⟩) (show w1.heap[w.heap.size]? = W.heap[w.heap.size]? from hgrow.block w.heap.size (World.block_lt_of_cell? _ _ hm) (fun e => by injection e with e; omega))
  case done =>
    rintro D ys W hD rfl ⟨⟨ho, hm⟩, hB⟩ hK
    gi_wp2
    refine ⟨by simp, .inl ⟨_, _, rfl, run_takeDeferred hK, ?_⟩⟩
    exact ⟨_, results_none rfl _ _ _, ⟨rfl, ho.kept (grownBy_putObj' W D (.deferred none)) (fun e => by cases e; omega), hB.trans ((Below.refl mb W).grown (grownBy_putObj' W D (.deferred none)) (by have := ho.lt; omega) (fun k e => by cases e; omega))⟩⟩
  case stop =>
    rintro D c pre W hD _ h _
    exact h.elim
set_option maxRecDepth 100000 in
theorem collect_any (p : Pl) (ss : List St) (set : Int) (w0 w : World) (n₀ B C : Nat) (hP : PlAt p ss w0) (hok : PlOk p ss) (hn : w0.heap.size ≤ n₀) (hW : Below n₀ w0 w) (hnw : n₀ ≤ w.heap.size) (hb : BoxL w B p) (hc : w.cell? ⟨C, 0, none⟩ = some (.int .i64 set)) :
    Calls Tryz.prog 101 #[.func (.func 136) #[] #[.pointer (some ⟨B, 0, none⟩), .pointer (some ⟨C, 0, none⟩)]] w
      (fun e w' => e = .returned (.map (some w.heap.size)) ∧ w'.ownsMap Tryz.prog 3 quadElem w.heap.size (trL p ss set).length (mapD (trL p ss set)) ∧ Below w.heap.size w w') := by
  have hmm := @run_makeMap Tryz.prog
  have hB1 : Below w.heap.size w (w.alloc (.map #[] 0)) := newB _ _
  have hown := World.ownsMap_made w Tryz.prog 3 quadElem
  have hI := insert_any p ss set w0 (w.alloc (.map #[] 0)) n₀ B C w.heap.size hP hok hn (hW.trans (hB1.mono hnw)) hnw (hb.grown hb.lt hB1) (cellB hc hB1) hb.lt (World.block_lt_of_cell? _ _ hc) hown
  have HI := Lib.hid hI
  clear hI hown hb hc hW
  go_enter Tryz.func101, Tryz.ntmps101
  go_wp2_with fail
  refine HI.out.mono ?_
  rintro e w2 ⟨rfl, ho, hb2⟩
  have hfin := hB1.trans hb2
  go_wp2_with fail
  go_ret
  exact ⟨rfl, ho, hfin⟩
end Go.Proofs.YtdkegkacpdkjgaaGreat
