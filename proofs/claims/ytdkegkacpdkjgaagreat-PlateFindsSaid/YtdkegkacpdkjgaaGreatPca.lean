/- Plate: whether the stars of a set can all be right. -/
import Derived.Test.YtdkegkacpdkjgaaGreatPsc
namespace Go.Proofs.YtdkegkacpdkjgaaGreat
open Go.RowKit Go.Shelf
attribute [local go_sem] Oper.semAt_some

theorem cell_of_box_l {W : World} {B : Nat} {v : Value} {t : TypeId} (h : W.heap[B]? = some (.cells #[v] t (0, 0))) : W.cell? ⟨B, 0, none⟩ = some v ∧ W.frozen? ⟨B, 0, none⟩ = false := by
  constructor <;> simp [World.cell?, World.frozen?, h]
theorem cell_new_l (W : World) (v : Value) (t : TypeId) : (W.alloc (.cells #[v] t)).cell? ⟨W.heap.size, 0, none⟩ = some v ∧ (W.alloc (.cells #[v] t)).frozen? ⟨W.heap.size, 0, none⟩ = false :=
  cell_of_box_l (World.alloc_heap_new W _)
theorem keepsO {W W' : World} (hb : Below W.heap.size W W') : KeepsOthers W W' :=
  ⟨hb.size, fun k _ hk _ => (hb.block k (Array.getElem?_eq_some_iff.1 hk).1).trans hk⟩
def canR (p : Pl) (ss : List St) (set : Int) : Bool := !(trL p ss set).isEmpty
theorem canR_yes {p : Pl} {ss : List St} {set : Int} {pre : List Scl} (h : pre <+: trL p ss set) (hne : pre ≠ []) : canR p ss set = true := by
  unfold canR
  cases hl : trL p ss set with
  | nil => rw [hl] at h; exact absurd (List.prefix_nil.1 h) hne
  | cons => rfl
theorem canR_no {p : Pl} {ss : List St} {set : Int} (h : trL p ss set = []) : canR p ss set = false := by unfold canR; rw [h]; rfl

set_option maxRecDepth 100000 in
set_option maxHeartbeats 4000000 in
theorem can_any (p : Pl) (ss : List St) (set : Int) (w : World) (hP : PlAt p ss w) (hok : PlOk p ss) :
    Calls Tryz.prog 69 #[.agg (lookV p), .int .i64 set] w (Ret (.bool (canR p ss set)) w) := by
  have HSC := Lib.hid (scales_any p set)
  have hb0 := boxL_new w p 70
  have hst := @store_fn Tryz.prog
  unfold lookV sideV at HSC hb0 ⊢
  simp only [List.append_toArray, List.cons_append, List.nil_append] at HSC hb0 ⊢
  refine (callsIn_wide (n := 5)).1 ?_
  refine callsIn_of_wp_marks Tryz.func69 rfl trivial ?_ rfl
  simp only [Tryz.ntmps69, List.size_toArray, List.length_cons, List.length_nil, Nat.reduceAdd, Nat.reduceSub, Array.replicate_succ, Array.replicate_zero, List.push_toArray, List.append_toArray, List.nil_append, List.cons_append]
  gi_wp2_with (refine ⟨trivial, ?_⟩; gi_at_call 102; refine (callsIn_wide.2 (HSC.out _)).mono ?_; rintro e w' ⟨rfl, rfl⟩)
  have hbX : ∀ X : World, BoxL (X.alloc (.cells #[.int .i64 p.lo, .int .i64 p.hi, .slice p.a p.n p.cap, .int .i64 p.lo, .int .i64 p.hi, .slice p.a p.n p.cap, .func (.func 133) #[] #[], .int .i64 p.lo, .int .i64 p.hi, .slice p.a p.n p.cap, .func (.func 134) #[] #[]] 70)) X.heap.size p := fun X => by have := boxL_new X p 70; unfold lookV sideV at this; simpa using this
  obtain ⟨W1, hW1⟩ : ∃ W1, (w.alloc (.cells #[.int .i64 p.lo, .int .i64 p.hi, .slice p.a p.n p.cap, .int .i64 p.lo, .int .i64 p.hi, .slice p.a p.n p.cap, .func (.func 133) #[] #[], .int .i64 p.lo, .int .i64 p.hi, .slice p.a p.n p.cap, .func (.func 134) #[] #[]] 70)).alloc (.cells #[.bool false] 4) = W1 := ⟨_, rfl⟩
  have s1 : W1.heap.size = w.heap.size + 1 + 1 := by rw [← hW1]; simp
  have hB1 : Below w.heap.size w W1 := by rw [← hW1]; exact BA (BA (Below.refl _ _) _) _
  have hc1 : W1.cell? ⟨w.heap.size + 1, 0, none⟩ = some (.bool false) ∧ W1.frozen? ⟨w.heap.size + 1, 0, none⟩ = false := by
    rw [← hW1]; simp [go_sem]
  rw [hW1]
  clear hW1
  rw [← s1]
  have hbw := hbX W1
  have hB2 := BA hB1 (.cells #[.int .i64 p.lo, .int .i64 p.hi, .slice p.a p.n p.cap, .int .i64 p.lo, .int .i64 p.hi, .slice p.a p.n p.cap, .func (.func 133) #[] #[], .int .i64 p.lo, .int .i64 p.hi, .slice p.a p.n p.cap, .func (.func 134) #[] #[]] 70)
  have hc2 : (W1.alloc (.cells #[.int .i64 p.lo, .int .i64 p.hi, .slice p.a p.n p.cap, .int .i64 p.lo, .int .i64 p.hi, .slice p.a p.n p.cap, .func (.func 133) #[] #[], .int .i64 p.lo, .int .i64 p.hi, .slice p.a p.n p.cap, .func (.func 134) #[] #[]] 70)).cell? ⟨w.heap.size + 1, 0, none⟩ = some (.bool false) ∧ (W1.alloc (.cells #[.int .i64 p.lo, .int .i64 p.hi, .slice p.a p.n p.cap, .int .i64 p.lo, .int .i64 p.hi, .slice p.a p.n p.cap, .func (.func 133) #[] #[], .int .i64 p.lo, .int .i64 p.hi, .slice p.a p.n p.cap, .func (.func 134) #[] #[]] 70)).frozen? ⟨w.heap.size + 1, 0, none⟩ = false := ⟨cellB hc1.1 (newB _ _), frozenB hc1.1 hc1.2 (newB _ _)⟩
  have s2 : (W1.alloc (.cells #[.int .i64 p.lo, .int .i64 p.hi, .slice p.a p.n p.cap, .int .i64 p.lo, .int .i64 p.hi, .slice p.a p.n p.cap, .func (.func 133) #[] #[], .int .i64 p.lo, .int .i64 p.hi, .slice p.a p.n p.cap, .func (.func 134) #[] #[]] 70)).heap.size = W1.heap.size + 1 := by simp
  generalize W1.alloc (.cells #[.int .i64 p.lo, .int .i64 p.hi, .slice p.a p.n p.cap, .int .i64 p.lo, .int .i64 p.hi, .slice p.a p.n p.cap, .func (.func 133) #[] #[], .int .i64 p.lo, .int .i64 p.hi, .slice p.a p.n p.cap, .func (.func 134) #[] #[]] 70) = W2 at *
  rw [← s2]
  have hbw := hbw.grown hbw.lt (newB W2 (.cells #[.int .i64 set] 101))
  have hcs := (cell_new_l W2 (.int .i64 set) 101).1
  have hc3 : (W2.alloc (.cells #[.int .i64 set] 101)).cell? ⟨w.heap.size + 1, 0, none⟩ = some (.bool false) ∧ (W2.alloc (.cells #[.int .i64 set] 101)).frozen? ⟨w.heap.size + 1, 0, none⟩ = false := ⟨cellB hc2.1 (newB _ _), frozenB hc2.1 hc2.2 (newB _ _)⟩
  have hB3 := BA hB2 (.cells #[.int .i64 set] 101)
  have s3 : (W2.alloc (.cells #[.int .i64 set] 101)).heap.size = W2.heap.size + 1 := by simp
  generalize W2.alloc (.cells #[.int .i64 set] 101) = W3 at *
  clear hbX hb0 hc1 hc2 hB1 hB2
  have HR1 := Lib.hid (fun pre h hne => canR_yes (p := p) (ss := ss) (set := set) (pre := pre) h hne)
  have HR0 := Lib.hid (canR_no (p := p) (ss := ss) (set := set))
  generalize canR p ss set = R at *
  refine wpIn_rangeFunc_ownF rfl (by omega) (gf := 136) (lb := #[.pointer (some ⟨W1.heap.size, 0, none⟩), .pointer (some ⟨W2.heap.size, 0, none⟩)]) rfl trivial (enters_of Tryz.func136 (by kernel_rfl) rfl)
    (scales_stops (5 - 1) (by omega) W1.heap.size W2.heap.size w.heap.size p ss set w hP hok (Nat.le_refl _) W3 hB3 hB3.size hbw hcs) (fun h k => ⟨h.1.trans k.1, k.2.1.trans h.2.1, k.2.2.trans h.2.2⟩)
    (fun W l o o' hl h h1 h2 => ⟨belowK_b (w := w) (Nat.le_refl _) W l o o' (by omega) h h1 h2, World.putObj_heap_other (by omega), World.putObj_heap_other (by omega)⟩) (Below.refl _ _) (fun _ => rfl)
    (fun pre W => (pre = [] ∧ W.cell? ⟨w.heap.size + 1, 0, none⟩ = some (.bool false) ∧ W.frozen? ⟨w.heap.size + 1, 0, none⟩ = false) ∧ Below w.heap.size w W)
    (fun c pre W => (c = .ret ∧ pre ≠ [] ∧ W.cell? ⟨w.heap.size + 1, 0, none⟩ = some (.bool true)) ∧ Below w.heap.size w W)
    (OwnFrom.and (Own.from (fun s A B row hs hg hr => ⟨hs.1, cell_kept hs.2.1 hg hr, (frozen_kept hs.2.1 hg hr).trans hs.2.2⟩) _) (ownFrom_below (Nat.le_refl _) (by omega)))
    (fun c => OwnFrom.and (Own.from (fun s A B row hs hg hr => ⟨hs.1, hs.2.1, cell_kept hs.2.2 hg hr⟩) _) (ownFrom_below (Nat.le_refl _) (by omega)))
    ⟨⟨rfl, hc3.1, hc3.2⟩, hB3⟩
    (fun x => { tmps := #[(.agg #[.int .i64 p.lo, .int .i64 p.hi, .slice p.a p.n p.cap, .int .i64 p.lo, .int .i64 p.hi, .slice p.a p.n p.cap, .func (.func 133) #[] #[], .int .i64 p.lo, .int .i64 p.hi, .slice p.a p.n p.cap, .func (.func 134) #[] #[]]), .int .i64 set, .pointer (some ⟨w.heap.size, 0, none⟩), undef, .pointer (some ⟨w.heap.size + 1, 0, none⟩), (.agg #[.int .i64 p.lo, .int .i64 p.hi, .slice p.a p.n p.cap, .int .i64 p.lo, .int .i64 p.hi, .slice p.a p.n p.cap, .func (.func 133) #[] #[], .int .i64 p.lo, .int .i64 p.hi, .slice p.a p.n p.cap, .func (.func 134) #[] #[]]), .int .i64 set, .func (.func 136) #[] #[.pointer (some ⟨W1.heap.size, 0, none⟩), .pointer (some ⟨W2.heap.size, 0, none⟩)], .int .i64 x.sc, .agg x.v], defers := [] }) ?assign ?body ?done ?stop
  case assign =>
    intro l x W K hK
    gi_wp2
    simp
    exact hK
  case body =>
    rintro l pre x W ⟨⟨hp, hc, hf⟩, hB⟩ _
    gi_wp2
    exact ⟨KeepsOthers.setCell _ _ _, ⟨rfl, by simp, World.cell?_setCell_same' _ _ _ (by rw [hc]; rfl)⟩, hB.setCell (p := ⟨w.heap.size + 1, 0, none⟩) (by simp) _⟩
  case done =>
    rintro D ys W hD rfl ⟨⟨hp, hc, hf⟩, hB⟩ hK
    gi_wp2
    refine ⟨by simp, .inl ⟨_, _, rfl, run_takeDeferred ((KeepsOthers.setCell _ _ _).same D _ hK rfl), ?_⟩⟩
    have hcc : (W.setCell ⟨w.heap.size + 1, 0, none⟩ (.bool false)).cell? ⟨w.heap.size + 1, 0, none⟩ = some (.bool false) := World.cell?_setCell_same' _ _ _ (by rw [hc]; rfl)
    have hKD : (W.setCell ⟨w.heap.size + 1, 0, none⟩ (.bool false)).heap[D]? = some (.deferred (some [])) := (KeepsOthers.setCell _ _ _).same D _ hK rfl
    have hcd : ((W.setCell ⟨w.heap.size + 1, 0, none⟩ (.bool false)).putObj D (.deferred none)).cell? ⟨w.heap.size + 1, 0, none⟩ = some (.bool false) := cell_kept hcc (grownBy_putObj' _ D (.deferred none)) (fun r e => by cases e; exact ⟨_, hKD, rfl⟩)
    have hR : R = false := HR0.out hp
    refine ⟨.bool false, by simp [results, Tryz.results69, go_sem, hcd], ?_⟩
    rw [hR]
    exact ⟨rfl, (hB.setCell (p := ⟨w.heap.size + 1, 0, none⟩) (by simp) _).trans (belowK_b (w := w) (Nat.le_refl _) _ D _ _ (by omega) hKD rfl rfl)⟩
  case stop =>
    rintro D c pre W hD hpre ⟨⟨rfl, hne, hc⟩, hB⟩ hK
    gi_wp2
    refine ⟨by simp, .inl ⟨_, _, rfl, run_takeDeferred hK, ?_⟩⟩
    have hcd : (W.putObj D (.deferred none)).cell? ⟨w.heap.size + 1, 0, none⟩ = some (.bool true) := cell_kept hc (grownBy_putObj' _ D (.deferred none)) (fun r e => by cases e; exact ⟨_, hK, rfl⟩)
    have hR : R = true := HR1.out pre hpre hne
    refine ⟨.bool true, by simp [results, Tryz.results69, go_sem, hcd], ?_⟩
    rw [hR]
    exact ⟨rfl, hB.trans (belowK_b (w := w) (Nat.le_refl _) W D _ _ (by omega) hK rfl rfl)⟩
end Go.Proofs.YtdkegkacpdkjgaaGreat
