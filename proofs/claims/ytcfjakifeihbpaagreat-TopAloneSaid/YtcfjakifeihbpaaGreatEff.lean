/- Eye: the first of all sets that is as asked. -/
import Derived.Test.YtcfjakifeihbpaaGreatEfs
namespace Go.Proofs.YtcfjakifeihbpaaGreat
namespace Ey
open Go.RowKit Go.Shelf
attribute [local go_sem] Oper.semAt_some

set_option maxRecDepth 100000 in
set_option maxHeartbeats 2000000 in
theorem firstC_any (n Bn : Nat) (hn : n ≤ 12) (q : Value) (b : Int → Bool) (w : World) (hBn : w.cell? ⟨Bn, 0, none⟩ = some (.int .i64 n))
    (hask : ∀ (x : Int) (Y : World), Below w.heap.size w Y → Calls Tryz.prog 26 #[.int .i64 x, q] Y (Ret (.bool (b x)) Y)) :
    Calls Tryz.prog 24 #[.func (.func 68) #[] #[.pointer (some ⟨Bn, 0, none⟩)], .func (.func 26) #[] #[q]] w (Ret (.int .i64 (firstOf n b)) w) := by
  have HA := Lib.hid hask; clear hask
  refine (callsIn_wide (n := 5)).1 ?_
  refine callsIn_of_wp_marks Tryz.func24 rfl trivial ?_ rfl
  simp only [Tryz.ntmps24, List.size_toArray, List.length_cons, List.length_nil, Nat.reduceAdd, Nat.reduceSub, Array.replicate_succ, Array.replicate_zero, List.push_toArray, List.append_toArray, List.nil_append, List.cons_append]
  gi_wp2
  refine wide_scope ?_
  gi_wp2
  refine wpIn_label ?_
  gi_wp2
  have hBl : Bn < w.heap.size := World.block_lt_of_cell? _ _ hBn
  have c0 := cell_new_l w (.func (.func 26) #[] #[q]) 63
  have c1 := cell_new_l (w.alloc (.cells #[(.func (.func 26) #[] #[q])] 63)) (.int .i64 0) 55
  simp only [World.size_alloc] at c1
  have hB0 : Below w.heap.size w ((w.alloc (.cells #[(.func (.func 26) #[] #[q])] 63)).alloc (.cells #[.int .i64 0] 55)) := ((Below.refl _ w).alloc (Nat.le_refl _) _).alloc (by simp) _
  have hBn2 := cell_alloc_l (.cells #[.int .i64 0] 55) (cell_alloc_l (.cells #[(.func (.func 26) #[] #[q])] 63) hBn)
  refine wpIn_rangeFunc_ownF rfl (by omega) (gf := 68) (lb := #[.pointer (some ⟨Bn, 0, none⟩)]) rfl trivial (enters_of Tryz.func68 (by kernel_rfl) rfl)
    (sets_stops (5 - 1) (by omega) Bn w.heap.size n hn _ (by simp; omega) hBn2) (fun h k => ⟨h.1.trans k.1, k.2.trans h.2⟩)
    (fun W l o o' hl h h1 h2 => ⟨belowK_b (w := w) (Nat.le_refl _) W l o o' (by simp at hl; omega) h h1 h2, (Below.grown (Below.refl (w.heap.size + 1 + 1) W) (grownBy_putObj' W l o') (by have := (Array.getElem?_eq_some_iff.1 h).1; simp at hl; omega) (fun k e => by cases e; simp at hl; omega)).cell (p := ⟨Bn, 0, none⟩) (by simp; omega)⟩) (Below.refl _ _) (fun _ => rfl)
    (fun pre W => ((∀ y ∈ pre, b y = false) ∧ W.cell? ⟨w.heap.size, 0, none⟩ = some (.func (.func 26) #[] #[q]) ∧ W.cell? ⟨w.heap.size + 1, 0, none⟩ = some (.int .i64 0) ∧ W.frozen? ⟨w.heap.size + 1, 0, none⟩ = false ∧ W.cell? ⟨Bn, 0, none⟩ = some (.int .i64 n)) ∧ Below w.heap.size w W)
    (fun c pre W => (c = .exit 0 ∧ ∃ p x, pre = p ++ [x] ∧ (∀ y ∈ p, b y = false) ∧ b x = true ∧ W.cell? ⟨w.heap.size + 1, 0, none⟩ = some (.int .i64 x)) ∧ Below w.heap.size w W)
    (OwnFrom.and (Own.from (fun s A B row hs hg hr => ⟨hs.1, cell_kept hs.2.1 hg hr, cell_kept hs.2.2.1 hg hr, (frozen_kept hs.2.2.1 hg hr).trans hs.2.2.2.1, cell_kept hs.2.2.2.2 hg hr⟩) _) (ownFrom_below (Nat.le_refl _) (by simp; omega)))
    (fun c => OwnFrom.and (Own.from (fun s A B row hs hg hr => by obtain ⟨hc, p, x, h1, h2, h3, h4⟩ := hs; exact ⟨hc, p, x, h1, h2, h3, cell_kept h4 hg hr⟩) _) (ownFrom_below (Nat.le_refl _) (by simp; omega)))
    ⟨⟨by simp, cell_alloc_l _ c0.1, c1.1, c1.2, hBn2⟩, hB0⟩
    (fun x => { tmps := #[.func (.func 68) #[] #[.pointer (some ⟨Bn, 0, none⟩)], (.func (.func 26) #[] #[q]), undef, .pointer (some ⟨w.heap.size, 0, none⟩), .int .i64 0, .pointer (some ⟨w.heap.size + 1, 0, none⟩), .int .i64 x, .func (.func 68) #[] #[.pointer (some ⟨Bn, 0, none⟩)], .int .i64 x, undef, undef, undef, undef, undef], defers := [] }) ?assign ?body ?done ?stop
  case assign =>
    intro l x W K hK
    gi_wp2
    exact hK
  case body =>
    rintro l pre x W ⟨⟨hp, hcf, hc0, hf0, hcn⟩, hB⟩ _
    have ha := HA.out x W hB
    cases hbx : b x
    · rw [hbx] at ha
      gi_wp2_with (refine ⟨trivial, ?_⟩; gi_at_call 26; refine (CallsIn.inRound l (callsIn_wide.2 ha)).mono ?_; rintro e W1 ⟨rfl, hb1⟩; have hc1 := (hb1.cell (World.block_lt_of_cell? _ _ hc0)).trans hc0; have hf1 := (hb1.frozen (World.block_lt_of_cell? _ _ hc0)).trans hf0)
      exact ⟨keepsO hb1, ⟨hb1.mono hB.size, hb1.cell (World.block_lt_of_cell? _ _ hcn)⟩, ⟨fun y hy => (List.mem_append.1 hy).elim (hp y) (fun e => by simp at e; rw [e]; exact hbx), (hb1.cell (World.block_lt_of_cell? _ _ hcf)).trans hcf, hc1, hf1, (hb1.cell (World.block_lt_of_cell? _ _ hcn)).trans hcn⟩, hB.trans (hb1.mono hB.size)⟩
    · rw [hbx] at ha
      gi_wp2_with (refine ⟨trivial, ?_⟩; gi_at_call 26; refine (CallsIn.inRound l (callsIn_wide.2 ha)).mono ?_; rintro e W1 ⟨rfl, hb1⟩; have hc1 := (hb1.cell (World.block_lt_of_cell? _ _ hc0)).trans hc0; have hf1 := (hb1.frozen (World.block_lt_of_cell? _ _ hc0)).trans hf0)
      exact ⟨(keepsO hb1).trans (KeepsOthers.setCell _ _ _), ⟨rfl, pre, x, rfl, hp, hbx, World.cell?_setCell_same' _ _ _ (by rw [hc1]; rfl)⟩, (hB.trans (hb1.mono hB.size)).setCell (p := ⟨w.heap.size + 1, 0, none⟩) (by simp) _⟩
  case done =>
    rintro D ys W hD rfl ⟨⟨hp, hcf, hc0, hf0, hcn⟩, hB⟩ hK
    gi_wp2
    refine ⟨by simp, .inl ⟨_, _, rfl, run_takeDeferred hK, ?_⟩⟩
    exact ⟨_, results_tmp rfl _ _ _, by rw [firstOf_none hp]; exact ⟨rfl, hB.trans (belowK_b (w := w) (Nat.le_refl _) W D _ _ (by simp at hD; omega) hK rfl rfl)⟩⟩
  case stop =>
    rintro D c pre W hD hpre ⟨⟨rfl, p, x, rfl, hp, hx, hc⟩, hB⟩ hK
    gi_wp2
    refine ⟨by simp, .inl ⟨_, _, rfl, run_takeDeferred hK, ?_⟩⟩
    exact ⟨_, results_tmp rfl _ _ _, by rw [firstOf_some hpre hp hx]; exact ⟨rfl, hB.trans (belowK_b (w := w) (Nat.le_refl _) W D _ _ (by simp at hD; omega) hK rfl rfl)⟩⟩

set_option maxRecDepth 100000 in
set_option maxHeartbeats 2000000 in
theorem firstD_any (n Bn : Nat) (hn : n ≤ 12) (q : Value) (b : Int → Bool) (w : World) (hBn : w.cell? ⟨Bn, 0, none⟩ = some (.int .i64 n))
    (hask : ∀ (x : Int) (Y : World), Below w.heap.size w Y → Calls Tryz.prog 35 #[.int .i64 x, q] Y (Ret (.bool (b x)) Y)) :
    Calls Tryz.prog 24 #[.func (.func 68) #[] #[.pointer (some ⟨Bn, 0, none⟩)], .func (.func 35) #[] #[q]] w (Ret (.int .i64 (firstOf n b)) w) := by
  have HA := Lib.hid hask; clear hask
  refine (callsIn_wide (n := 5)).1 ?_
  refine callsIn_of_wp_marks Tryz.func24 rfl trivial ?_ rfl
  simp only [Tryz.ntmps24, List.size_toArray, List.length_cons, List.length_nil, Nat.reduceAdd, Nat.reduceSub, Array.replicate_succ, Array.replicate_zero, List.push_toArray, List.append_toArray, List.nil_append, List.cons_append]
  gi_wp2
  refine wide_scope ?_
  gi_wp2
  refine wpIn_label ?_
  gi_wp2
  have hBl : Bn < w.heap.size := World.block_lt_of_cell? _ _ hBn
  have c0 := cell_new_l w (.func (.func 35) #[] #[q]) 63
  have c1 := cell_new_l (w.alloc (.cells #[(.func (.func 35) #[] #[q])] 63)) (.int .i64 0) 55
  simp only [World.size_alloc] at c1
  have hB0 : Below w.heap.size w ((w.alloc (.cells #[(.func (.func 35) #[] #[q])] 63)).alloc (.cells #[.int .i64 0] 55)) := ((Below.refl _ w).alloc (Nat.le_refl _) _).alloc (by simp) _
  have hBn2 := cell_alloc_l (.cells #[.int .i64 0] 55) (cell_alloc_l (.cells #[(.func (.func 35) #[] #[q])] 63) hBn)
  refine wpIn_rangeFunc_ownF rfl (by omega) (gf := 68) (lb := #[.pointer (some ⟨Bn, 0, none⟩)]) rfl trivial (enters_of Tryz.func68 (by kernel_rfl) rfl)
    (sets_stops (5 - 1) (by omega) Bn w.heap.size n hn _ (by simp; omega) hBn2) (fun h k => ⟨h.1.trans k.1, k.2.trans h.2⟩)
    (fun W l o o' hl h h1 h2 => ⟨belowK_b (w := w) (Nat.le_refl _) W l o o' (by simp at hl; omega) h h1 h2, (Below.grown (Below.refl (w.heap.size + 1 + 1) W) (grownBy_putObj' W l o') (by have := (Array.getElem?_eq_some_iff.1 h).1; simp at hl; omega) (fun k e => by cases e; simp at hl; omega)).cell (p := ⟨Bn, 0, none⟩) (by simp; omega)⟩) (Below.refl _ _) (fun _ => rfl)
    (fun pre W => ((∀ y ∈ pre, b y = false) ∧ W.cell? ⟨w.heap.size, 0, none⟩ = some (.func (.func 35) #[] #[q]) ∧ W.cell? ⟨w.heap.size + 1, 0, none⟩ = some (.int .i64 0) ∧ W.frozen? ⟨w.heap.size + 1, 0, none⟩ = false ∧ W.cell? ⟨Bn, 0, none⟩ = some (.int .i64 n)) ∧ Below w.heap.size w W)
    (fun c pre W => (c = .exit 0 ∧ ∃ p x, pre = p ++ [x] ∧ (∀ y ∈ p, b y = false) ∧ b x = true ∧ W.cell? ⟨w.heap.size + 1, 0, none⟩ = some (.int .i64 x)) ∧ Below w.heap.size w W)
    (OwnFrom.and (Own.from (fun s A B row hs hg hr => ⟨hs.1, cell_kept hs.2.1 hg hr, cell_kept hs.2.2.1 hg hr, (frozen_kept hs.2.2.1 hg hr).trans hs.2.2.2.1, cell_kept hs.2.2.2.2 hg hr⟩) _) (ownFrom_below (Nat.le_refl _) (by simp; omega)))
    (fun c => OwnFrom.and (Own.from (fun s A B row hs hg hr => by obtain ⟨hc, p, x, h1, h2, h3, h4⟩ := hs; exact ⟨hc, p, x, h1, h2, h3, cell_kept h4 hg hr⟩) _) (ownFrom_below (Nat.le_refl _) (by simp; omega)))
    ⟨⟨by simp, cell_alloc_l _ c0.1, c1.1, c1.2, hBn2⟩, hB0⟩
    (fun x => { tmps := #[.func (.func 68) #[] #[.pointer (some ⟨Bn, 0, none⟩)], (.func (.func 35) #[] #[q]), undef, .pointer (some ⟨w.heap.size, 0, none⟩), .int .i64 0, .pointer (some ⟨w.heap.size + 1, 0, none⟩), .int .i64 x, .func (.func 68) #[] #[.pointer (some ⟨Bn, 0, none⟩)], .int .i64 x, undef, undef, undef, undef, undef], defers := [] }) ?assign ?body ?done ?stop
  case assign =>
    intro l x W K hK
    gi_wp2
    exact hK
  case body =>
    rintro l pre x W ⟨⟨hp, hcf, hc0, hf0, hcn⟩, hB⟩ _
    have ha := HA.out x W hB
    cases hbx : b x
    · rw [hbx] at ha
      gi_wp2_with (refine ⟨trivial, ?_⟩; gi_at_call 35; refine (CallsIn.inRound l (callsIn_wide.2 ha)).mono ?_; rintro e W1 ⟨rfl, hb1⟩; have hc1 := (hb1.cell (World.block_lt_of_cell? _ _ hc0)).trans hc0; have hf1 := (hb1.frozen (World.block_lt_of_cell? _ _ hc0)).trans hf0)
      exact ⟨keepsO hb1, ⟨hb1.mono hB.size, hb1.cell (World.block_lt_of_cell? _ _ hcn)⟩, ⟨fun y hy => (List.mem_append.1 hy).elim (hp y) (fun e => by simp at e; rw [e]; exact hbx), (hb1.cell (World.block_lt_of_cell? _ _ hcf)).trans hcf, hc1, hf1, (hb1.cell (World.block_lt_of_cell? _ _ hcn)).trans hcn⟩, hB.trans (hb1.mono hB.size)⟩
    · rw [hbx] at ha
      gi_wp2_with (refine ⟨trivial, ?_⟩; gi_at_call 35; refine (CallsIn.inRound l (callsIn_wide.2 ha)).mono ?_; rintro e W1 ⟨rfl, hb1⟩; have hc1 := (hb1.cell (World.block_lt_of_cell? _ _ hc0)).trans hc0; have hf1 := (hb1.frozen (World.block_lt_of_cell? _ _ hc0)).trans hf0)
      exact ⟨(keepsO hb1).trans (KeepsOthers.setCell _ _ _), ⟨rfl, pre, x, rfl, hp, hbx, World.cell?_setCell_same' _ _ _ (by rw [hc1]; rfl)⟩, (hB.trans (hb1.mono hB.size)).setCell (p := ⟨w.heap.size + 1, 0, none⟩) (by simp) _⟩
  case done =>
    rintro D ys W hD rfl ⟨⟨hp, hcf, hc0, hf0, hcn⟩, hB⟩ hK
    gi_wp2
    refine ⟨by simp, .inl ⟨_, _, rfl, run_takeDeferred hK, ?_⟩⟩
    exact ⟨_, results_tmp rfl _ _ _, by rw [firstOf_none hp]; exact ⟨rfl, hB.trans (belowK_b (w := w) (Nat.le_refl _) W D _ _ (by simp at hD; omega) hK rfl rfl)⟩⟩
  case stop =>
    rintro D c pre W hD hpre ⟨⟨rfl, p, x, rfl, hp, hx, hc⟩, hB⟩ hK
    gi_wp2
    refine ⟨by simp, .inl ⟨_, _, rfl, run_takeDeferred hK, ?_⟩⟩
    exact ⟨_, results_tmp rfl _ _ _, by rw [firstOf_some hpre hp hx]; exact ⟨rfl, hB.trans (belowK_b (w := w) (Nat.le_refl _) W D _ _ (by simp at hD; omega) hK rfl rfl)⟩⟩

end Ey
end Go.Proofs.YtcfjakifeihbpaaGreat
