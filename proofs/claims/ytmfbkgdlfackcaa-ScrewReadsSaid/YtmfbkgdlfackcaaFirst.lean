/- The first of all sets that is as asked. -/
import Derived.RangeFuncFrom
import Derived.WalkMore
import Derived.Test.YtmfbkgdlfackcaaFst
namespace Go.Proofs.Ytmfbkgdlfackcaa
open Go.RowKit Go.Shelf
attribute [local go_sem] Oper.semAt_some

theorem sets_in (m n : Nat) (w : World) :
    CallsIn Fence.wide m Try.prog 99 #[.int .i64 n] w fun e w' => e = .returned (.func (.func 104) #[] #[.pointer (some ⟨w.heap.size, 0, none⟩)]) ∧ w' = w.alloc (.cells #[.int .i64 n] 3) := by
  have hmf : ∀ (fn : Fn) (first cap : Array Value) (w : World), (Instr.makeFunc fn first cap).run Try.prog w = .ok (.func fn first cap) w := fun _ _ _ _ => rfl
  refine callsIn_of_wp Try.func99 rfl trivial ?_ rfl
  simp only [Try.ntmps99, List.size_toArray, List.length_cons, List.length_nil, Nat.reduceAdd, Nat.reduceSub, Array.replicate_succ, Array.replicate_zero, List.push_toArray, List.append_toArray, List.nil_append, List.cons_append]
  gi_wp2
  go_ret
  exact ⟨rfl, rfl⟩

theorem cell_of_box_l {W : World} {B : Nat} {v : Value} {t : TypeId} (h : W.heap[B]? = some (.cells #[v] t (0, 0))) : W.cell? ⟨B, 0, none⟩ = some v ∧ W.frozen? ⟨B, 0, none⟩ = false := by
  constructor <;> simp [World.cell?, World.frozen?, h]
theorem cell_new_l (W : World) (v : Value) (t : TypeId) : (W.alloc (.cells #[v] t)).cell? ⟨W.heap.size, 0, none⟩ = some v ∧ (W.alloc (.cells #[v] t)).frozen? ⟨W.heap.size, 0, none⟩ = false :=
  cell_of_box_l (World.alloc_heap_new W _)
theorem cell_alloc_l {W : World} {a : Addr} {v : Value} (o : Obj) (h : W.cell? a = some v) : (W.alloc o).cell? a = some v := cell_kept h (World.grownBy_alloc W o none) (fun r e => by cases e)
theorem frozen_alloc_l {W : World} {a : Addr} {v : Value} (o : Obj) (h : W.cell? a = some v) (hf : W.frozen? a = false) : (W.alloc o).frozen? a = false := (frozen_kept h (World.grownBy_alloc W o none) (fun r e => by cases e)).trans hf

theorem wide_scope {n : Nat} {P : Program} {c : Code} {Q : Exit → Act → World → Prop} {a : Act} {w : World} (h : c.wpIn Fence.wide n P (Exit.noGoto Q) a w) : (Code.scope c).wpIn Fence.wide n P Q a w :=
  wpIn_wide.2 (wp_scope_straight (wpIn_wide.1 h))

theorem keepsO {W W' : World} (hb : Below W.heap.size W W') : KeepsOthers W W' :=
  ⟨hb.size, fun k _ hk _ => (hb.block k (Array.getElem?_eq_some_iff.1 hk).1).trans hk⟩

/-- The first of the sets that is as asked, or the empty one. -/
def firstOf (n : Nat) (b : Int → Bool) : Int := ((setsTo n (n + 1)).find? b).getD 0
theorem firstOf_none {n : Nat} {b : Int → Bool} (h : ∀ y ∈ setsTo n (n + 1), b y = false) : firstOf n b = 0 := by
  unfold firstOf
  rw [List.find?_eq_none.2 (fun x hx => by simp [h x hx])]; rfl
theorem firstOf_some {n : Nat} {b : Int → Bool} {p : List Int} {x : Int} (hp : p ++ [x] <+: setsTo n (n + 1)) (h : ∀ y ∈ p, b y = false) (hx : b x = true) : firstOf n b = x := by
  unfold firstOf
  obtain ⟨q, hq⟩ := hp
  rw [← hq, List.append_assoc, List.find?_append, List.find?_eq_none.2 (fun y hy => by simp [h y hy])]
  simp [hx]

set_option maxRecDepth 100000 in
set_option maxHeartbeats 2000000 in
theorem first76_any (n : Nat) (hn : n ≤ 12) (q : Value) (b : Int → Bool) (w : World)
    (hask : ∀ (x : Int) (Y : World), Below w.heap.size w Y → Calls Try.prog 76 #[.int .i64 x, q] Y (Ret (.bool (b x)) Y)) :
    Calls Try.prog 75 #[.int .i64 n, .func (.func 76) #[] #[q]] w (Ret (.int .i64 (firstOf n b)) w) := by
  have HA := Lib.hid hask; clear hask
  refine (callsIn_wide (n := 5)).1 ?_
  refine callsIn_of_wp_marks Try.func75 rfl trivial ?_ rfl
  simp only [Try.ntmps75, List.size_toArray, List.length_cons, List.length_nil, Nat.reduceAdd, Nat.reduceSub, Array.replicate_succ, Array.replicate_zero, List.push_toArray, List.append_toArray, List.nil_append, List.cons_append]
  gi_wp2
  refine wide_scope ?_
  gi_wp2
  refine wpIn_label ?_
  gi_wp2_with (refine ⟨trivial, ?_⟩; gi_at_call 99; refine (sets_in _ _ _).mono ?_; rintro e w' ⟨rfl, rfl⟩)
  have c0 := cell_new_l w (.func (.func 76) #[] #[q]) 58
  have c1 := cell_new_l (w.alloc (.cells #[(.func (.func 76) #[] #[q])] 58)) (.int .i64 0) 3
  have c2 := cell_new_l ((w.alloc (.cells #[(.func (.func 76) #[] #[q])] 58)).alloc (.cells #[.int .i64 0] 3)) (.int .i64 n) 3
  simp only [World.size_alloc] at c1 c2
  have hB0 : Below w.heap.size w (((w.alloc (.cells #[(.func (.func 76) #[] #[q])] 58)).alloc (.cells #[.int .i64 0] 3)).alloc (.cells #[.int .i64 n] 3)) := (((Below.refl _ w).alloc (Nat.le_refl _) _).alloc (by simp) _).alloc (by simp; omega) _
  refine wpIn_rangeFunc_ownF rfl (by omega) (gf := 104) (lb := #[.pointer (some ⟨w.heap.size + 1 + 1, 0, none⟩)]) rfl trivial (enters_of Try.func104 (by kernel_rfl) rfl)
    (sets_stops (5 - 1) (by omega) (w.heap.size + 1 + 1) w.heap.size n hn _ (by simp) c2.1) (fun h k => ⟨h.1.trans k.1, k.2.trans h.2⟩)
    (fun W l o o' hl h h1 h2 => ⟨belowK_b (w := w) (Nat.le_refl _) W l o o' (by simp at hl; omega) h h1 h2, (Below.grown (Below.refl (w.heap.size + 1 + 1 + 1) W) (grownBy_putObj' W l o') (by have := (Array.getElem?_eq_some_iff.1 h).1; simp at hl; omega) (fun k e => by cases e; simp at hl; omega)).cell (p := ⟨w.heap.size + 1 + 1, 0, none⟩) (by simp)⟩) (Below.refl _ _) (fun _ => rfl)
    (fun pre W => ((∀ y ∈ pre, b y = false) ∧ W.cell? ⟨w.heap.size, 0, none⟩ = some (.func (.func 76) #[] #[q]) ∧ W.cell? ⟨w.heap.size + 1, 0, none⟩ = some (.int .i64 0) ∧ W.frozen? ⟨w.heap.size + 1, 0, none⟩ = false ∧ W.cell? ⟨w.heap.size + 1 + 1, 0, none⟩ = some (.int .i64 n)) ∧ Below w.heap.size w W)
    (fun c pre W => (c = .exit 0 ∧ ∃ p x, pre = p ++ [x] ∧ (∀ y ∈ p, b y = false) ∧ b x = true ∧ W.cell? ⟨w.heap.size + 1, 0, none⟩ = some (.int .i64 x)) ∧ Below w.heap.size w W)
    (OwnFrom.and (Own.from (fun s A B row hs hg hr => ⟨hs.1, cell_kept hs.2.1 hg hr, cell_kept hs.2.2.1 hg hr, (frozen_kept hs.2.2.1 hg hr).trans hs.2.2.2.1, cell_kept hs.2.2.2.2 hg hr⟩) _) (ownFrom_below (Nat.le_refl _) (by simp; omega)))
    (fun c => OwnFrom.and (Own.from (fun s A B row hs hg hr => by obtain ⟨hc, p, x, h1, h2, h3, h4⟩ := hs; exact ⟨hc, p, x, h1, h2, h3, cell_kept h4 hg hr⟩) _) (ownFrom_below (Nat.le_refl _) (by simp; omega)))
    ⟨⟨by simp, cell_alloc_l _ (cell_alloc_l _ c0.1), cell_alloc_l _ c1.1, frozen_alloc_l _ c1.1 c1.2, c2.1⟩, hB0⟩
    (fun x => { tmps := #[.int .i64 n, (.func (.func 76) #[] #[q]), undef, .pointer (some ⟨w.heap.size, 0, none⟩), .int .i64 0, .pointer (some ⟨w.heap.size + 1, 0, none⟩), .int .i64 x, .int .i64 n, .func (.func 104) #[] #[.pointer (some ⟨w.heap.size + 1 + 1, 0, none⟩)], .int .i64 x, undef, undef, undef, undef, undef], defers := [] }) ?assign ?body ?done ?stop
  case assign =>
    intro l x W K hK
    gi_wp2
    exact hK
  case body =>
    rintro l pre x W ⟨⟨hp, hcf, hc0, hf0, hcn⟩, hB⟩ _
    have ha := HA.out x W hB
    cases hbx : b x
    · rw [hbx] at ha
      gi_wp2_with (refine ⟨trivial, ?_⟩; gi_at_call 76; refine (CallsIn.inRound l (callsIn_wide.2 ha)).mono ?_; rintro e W1 ⟨rfl, hb1⟩; have hc1 := (hb1.cell (World.block_lt_of_cell? _ _ hc0)).trans hc0; have hf1 := (hb1.frozen (World.block_lt_of_cell? _ _ hc0)).trans hf0)
      exact ⟨keepsO hb1, ⟨hb1.mono hB.size, hb1.cell (World.block_lt_of_cell? _ _ hcn)⟩, ⟨fun y hy => (List.mem_append.1 hy).elim (hp y) (fun e => by simp at e; rw [e]; exact hbx), (hb1.cell (World.block_lt_of_cell? _ _ hcf)).trans hcf, hc1, hf1, (hb1.cell (World.block_lt_of_cell? _ _ hcn)).trans hcn⟩, hB.trans (hb1.mono hB.size)⟩
    · rw [hbx] at ha
      gi_wp2_with (refine ⟨trivial, ?_⟩; gi_at_call 76; refine (CallsIn.inRound l (callsIn_wide.2 ha)).mono ?_; rintro e W1 ⟨rfl, hb1⟩; have hc1 := (hb1.cell (World.block_lt_of_cell? _ _ hc0)).trans hc0; have hf1 := (hb1.frozen (World.block_lt_of_cell? _ _ hc0)).trans hf0)
      exact ⟨(keepsO hb1).trans (KeepsOthers.setCell _ _ _), ⟨rfl, pre, x, rfl, hp, hbx, World.cell?_setCell_same' _ _ _ (by rw [hc1]; rfl)⟩, (hB.trans (hb1.mono hB.size)).setCell (p := ⟨w.heap.size + 1, 0, none⟩) (by simp) _⟩
  case done =>
    rintro D ys W hD rfl ⟨⟨hp, hcf, hc0, hf0, hcn⟩, hB⟩ hK
    gi_wp2
    refine ⟨by simp, .inl ⟨_, _, rfl, run_takeDeferred hK, ?_⟩⟩
    exact ⟨_, results_tmp rfl _ _ _, by rw [firstOf_none hp]; exact ⟨rfl, hB.trans (belowK_b (w := w) (Nat.le_refl _) W D _ _ (by simp at hD; omega) hK rfl rfl)⟩⟩
  case stop =>
    rintro D c pre W hD hpre ⟨⟨rfl, p, x, rfl, hp, hx, hc⟩, hB⟩ hK
    gi_wp2
    refine ⟨by simp, .inl ⟨_, _, rfl, run_takeDeferred hK, ?_⟩⟩
    exact ⟨_, results_tmp rfl _ _ _, by rw [firstOf_some hpre hp hx]; exact ⟨rfl, hB.trans (belowK_b (w := w) (Nat.le_refl _) W D _ _ (by simp at hD; omega) hK rfl rfl)⟩⟩

set_option maxRecDepth 100000 in
set_option maxHeartbeats 2000000 in
theorem first79_any (n : Nat) (hn : n ≤ 12) (q : Value) (b : Int → Bool) (w : World)
    (hask : ∀ (x : Int) (Y : World), Below w.heap.size w Y → Calls Try.prog 79 #[.int .i64 x, q] Y (Ret (.bool (b x)) Y)) :
    Calls Try.prog 75 #[.int .i64 n, .func (.func 79) #[] #[q]] w (Ret (.int .i64 (firstOf n b)) w) := by
  have HA := Lib.hid hask; clear hask
  refine (callsIn_wide (n := 5)).1 ?_
  refine callsIn_of_wp_marks Try.func75 rfl trivial ?_ rfl
  simp only [Try.ntmps75, List.size_toArray, List.length_cons, List.length_nil, Nat.reduceAdd, Nat.reduceSub, Array.replicate_succ, Array.replicate_zero, List.push_toArray, List.append_toArray, List.nil_append, List.cons_append]
  gi_wp2
  refine wide_scope ?_
  gi_wp2
  refine wpIn_label ?_
  gi_wp2_with (refine ⟨trivial, ?_⟩; gi_at_call 99; refine (sets_in _ _ _).mono ?_; rintro e w' ⟨rfl, rfl⟩)
  have c0 := cell_new_l w (.func (.func 79) #[] #[q]) 58
  have c1 := cell_new_l (w.alloc (.cells #[(.func (.func 79) #[] #[q])] 58)) (.int .i64 0) 3
  have c2 := cell_new_l ((w.alloc (.cells #[(.func (.func 79) #[] #[q])] 58)).alloc (.cells #[.int .i64 0] 3)) (.int .i64 n) 3
  simp only [World.size_alloc] at c1 c2
  have hB0 : Below w.heap.size w (((w.alloc (.cells #[(.func (.func 79) #[] #[q])] 58)).alloc (.cells #[.int .i64 0] 3)).alloc (.cells #[.int .i64 n] 3)) := (((Below.refl _ w).alloc (Nat.le_refl _) _).alloc (by simp) _).alloc (by simp; omega) _
  refine wpIn_rangeFunc_ownF rfl (by omega) (gf := 104) (lb := #[.pointer (some ⟨w.heap.size + 1 + 1, 0, none⟩)]) rfl trivial (enters_of Try.func104 (by kernel_rfl) rfl)
    (sets_stops (5 - 1) (by omega) (w.heap.size + 1 + 1) w.heap.size n hn _ (by simp) c2.1) (fun h k => ⟨h.1.trans k.1, k.2.trans h.2⟩)
    (fun W l o o' hl h h1 h2 => ⟨belowK_b (w := w) (Nat.le_refl _) W l o o' (by simp at hl; omega) h h1 h2, (Below.grown (Below.refl (w.heap.size + 1 + 1 + 1) W) (grownBy_putObj' W l o') (by have := (Array.getElem?_eq_some_iff.1 h).1; simp at hl; omega) (fun k e => by cases e; simp at hl; omega)).cell (p := ⟨w.heap.size + 1 + 1, 0, none⟩) (by simp)⟩) (Below.refl _ _) (fun _ => rfl)
    (fun pre W => ((∀ y ∈ pre, b y = false) ∧ W.cell? ⟨w.heap.size, 0, none⟩ = some (.func (.func 79) #[] #[q]) ∧ W.cell? ⟨w.heap.size + 1, 0, none⟩ = some (.int .i64 0) ∧ W.frozen? ⟨w.heap.size + 1, 0, none⟩ = false ∧ W.cell? ⟨w.heap.size + 1 + 1, 0, none⟩ = some (.int .i64 n)) ∧ Below w.heap.size w W)
    (fun c pre W => (c = .exit 0 ∧ ∃ p x, pre = p ++ [x] ∧ (∀ y ∈ p, b y = false) ∧ b x = true ∧ W.cell? ⟨w.heap.size + 1, 0, none⟩ = some (.int .i64 x)) ∧ Below w.heap.size w W)
    (OwnFrom.and (Own.from (fun s A B row hs hg hr => ⟨hs.1, cell_kept hs.2.1 hg hr, cell_kept hs.2.2.1 hg hr, (frozen_kept hs.2.2.1 hg hr).trans hs.2.2.2.1, cell_kept hs.2.2.2.2 hg hr⟩) _) (ownFrom_below (Nat.le_refl _) (by simp; omega)))
    (fun c => OwnFrom.and (Own.from (fun s A B row hs hg hr => by obtain ⟨hc, p, x, h1, h2, h3, h4⟩ := hs; exact ⟨hc, p, x, h1, h2, h3, cell_kept h4 hg hr⟩) _) (ownFrom_below (Nat.le_refl _) (by simp; omega)))
    ⟨⟨by simp, cell_alloc_l _ (cell_alloc_l _ c0.1), cell_alloc_l _ c1.1, frozen_alloc_l _ c1.1 c1.2, c2.1⟩, hB0⟩
    (fun x => { tmps := #[.int .i64 n, (.func (.func 79) #[] #[q]), undef, .pointer (some ⟨w.heap.size, 0, none⟩), .int .i64 0, .pointer (some ⟨w.heap.size + 1, 0, none⟩), .int .i64 x, .int .i64 n, .func (.func 104) #[] #[.pointer (some ⟨w.heap.size + 1 + 1, 0, none⟩)], .int .i64 x, undef, undef, undef, undef, undef], defers := [] }) ?assign ?body ?done ?stop
  case assign =>
    intro l x W K hK
    gi_wp2
    exact hK
  case body =>
    rintro l pre x W ⟨⟨hp, hcf, hc0, hf0, hcn⟩, hB⟩ _
    have ha := HA.out x W hB
    cases hbx : b x
    · rw [hbx] at ha
      gi_wp2_with (refine ⟨trivial, ?_⟩; gi_at_call 79; refine (CallsIn.inRound l (callsIn_wide.2 ha)).mono ?_; rintro e W1 ⟨rfl, hb1⟩; have hc1 := (hb1.cell (World.block_lt_of_cell? _ _ hc0)).trans hc0; have hf1 := (hb1.frozen (World.block_lt_of_cell? _ _ hc0)).trans hf0)
      exact ⟨keepsO hb1, ⟨hb1.mono hB.size, hb1.cell (World.block_lt_of_cell? _ _ hcn)⟩, ⟨fun y hy => (List.mem_append.1 hy).elim (hp y) (fun e => by simp at e; rw [e]; exact hbx), (hb1.cell (World.block_lt_of_cell? _ _ hcf)).trans hcf, hc1, hf1, (hb1.cell (World.block_lt_of_cell? _ _ hcn)).trans hcn⟩, hB.trans (hb1.mono hB.size)⟩
    · rw [hbx] at ha
      gi_wp2_with (refine ⟨trivial, ?_⟩; gi_at_call 79; refine (CallsIn.inRound l (callsIn_wide.2 ha)).mono ?_; rintro e W1 ⟨rfl, hb1⟩; have hc1 := (hb1.cell (World.block_lt_of_cell? _ _ hc0)).trans hc0; have hf1 := (hb1.frozen (World.block_lt_of_cell? _ _ hc0)).trans hf0)
      exact ⟨(keepsO hb1).trans (KeepsOthers.setCell _ _ _), ⟨rfl, pre, x, rfl, hp, hbx, World.cell?_setCell_same' _ _ _ (by rw [hc1]; rfl)⟩, (hB.trans (hb1.mono hB.size)).setCell (p := ⟨w.heap.size + 1, 0, none⟩) (by simp) _⟩
  case done =>
    rintro D ys W hD rfl ⟨⟨hp, hcf, hc0, hf0, hcn⟩, hB⟩ hK
    gi_wp2
    refine ⟨by simp, .inl ⟨_, _, rfl, run_takeDeferred hK, ?_⟩⟩
    exact ⟨_, results_tmp rfl _ _ _, by rw [firstOf_none hp]; exact ⟨rfl, hB.trans (belowK_b (w := w) (Nat.le_refl _) W D _ _ (by simp at hD; omega) hK rfl rfl)⟩⟩
  case stop =>
    rintro D c pre W hD hpre ⟨⟨rfl, p, x, rfl, hp, hx, hc⟩, hB⟩ hK
    gi_wp2
    refine ⟨by simp, .inl ⟨_, _, rfl, run_takeDeferred hK, ?_⟩⟩
    exact ⟨_, results_tmp rfl _ _ _, by rw [firstOf_some hpre hp hx]; exact ⟨rfl, hB.trans (belowK_b (w := w) (Nat.le_refl _) W D _ _ (by simp at hD; omega) hK rfl rfl)⟩⟩
end Go.Proofs.Ytmfbkgdlfackcaa
