/- The number of bits of a number. -/
import Derived.Test.YtcfjakifeihbpaaGreatBase
import Derived.WalkSpells
import Derived.RangeFuncNested
import Derived.RangeFuncBound
import Derived.RangeFuncCalls
import Derived.RangeFuncLeaves
import Derived.Shelf.Abstract
import Derived.Shelf.RegionOpen
import Derived.WalkKit
import Derived.OwnWalkIn
import Derived.TacticsInMore
import Derived.LoopNIn
import Derived.LoopIn
import Derived.RangeFuncFrom
import Derived.WalkMore
namespace Go.Proofs.YtcfjakifeihbpaaGreat
open Go.RowKit

/-- How many of the twelve least bits are set. -/
def popc (x : Int) : Int := (List.range 12).foldl (fun s k => s + x / 2 ^ k % 2) 0

set_option maxRecDepth 100000 in
set_option maxHeartbeats 2000000 in
theorem ones64_any (x : Int) (w : World) (h0 : 0 ≤ x) (h1 : x < 4096) : Calls Tryz.prog 99 #[.int .u64 x] w (fun e w' => e = .returned (.int .i64 (popc x)) ∧ w' = w) := by
  go_enter Tryz.func99, Tryz.ntmps99
  go_wp2
  go_ret
  refine ⟨?_, rfl⟩
  refine congrArg (fun z => Ending.returned (.int .i64 z)) (?_ : _ = _)
  obtain ⟨k, rfl⟩ := Int.eq_ofNat_of_zero_le h0
  have hk : k < 4096 := by omega
  clear h0 h1
  revert k
  decide +kernel
theorem ones_any (x : Int) (w : World) (h0 : 0 ≤ x) (h1 : x < 4096) : Calls Tryz.prog 93 #[.int .u64 x] w (fun e w' => e = .returned (.int .i64 (popc x)) ∧ w' = w) := by
  go_enter Tryz.func93, Tryz.ntmps93
  go_wp2_with (go_at_call 99; refine (ones64_any _ _ (by omega) (by omega)).mono ?_; rintro e w1 ⟨rfl, rfl⟩)
  go_ret
  exact ⟨rfl, rfl⟩
end Go.Proofs.YtcfjakifeihbpaaGreat

/- All sets in their order; the first that is as asked. -/
namespace Go.Proofs.YtcfjakifeihbpaaGreat
open Go.RowKit Go.Shelf
attribute [local go_sem] Oper.semAt_some

/-- The sets of one size below a number. -/
def setsRow (s : Nat) : Nat → List Int
  | 0 => []
  | k + 1 => if (popc (k : Int) == (s : Int)) = true then setsRow s k ++ [(k : Int)] else setsRow s k
/-- The sets of the sizes below one. -/
def setsTo (n : Nat) : Nat → List Int
  | 0 => []
  | s + 1 => setsTo n s ++ setsRow s (2 ^ n)

theorem setsRow_prefix (s : Nat) {k : Nat} : ∀ {m : Nat}, k ≤ m → setsRow s k <+: setsRow s m
  | 0, h => by obtain rfl : k = 0 := by omega
               exact List.prefix_refl _
  | m + 1, h => by
    rcases Nat.lt_or_ge m k with h' | h'
    · obtain rfl : k = m + 1 := by omega
      exact List.prefix_refl _
    · refine (setsRow_prefix s h').trans ?_
      rw [setsRow]; split
      · exact List.prefix_append _ _
      · exact List.prefix_refl _
theorem setsTo_prefix (n : Nat) {k : Nat} : ∀ {m : Nat}, k ≤ m → setsTo n k <+: setsTo n m
  | 0, h => by obtain rfl : k = 0 := by omega
               exact List.prefix_refl _
  | m + 1, h => by
    rcases Nat.lt_or_ge m k with h' | h'
    · obtain rfl : k = m + 1 := by omega
      exact List.prefix_refl _
    · exact (setsTo_prefix n h').trans (List.prefix_append _ _)
theorem sets_at (n s k : Nat) (hs : s < n + 1) (hk : k < 2 ^ n) (hp : (popc (k : Int) == (s : Int)) = true) :
    (setsTo n s ++ setsRow s k) ++ [(k : Int)] <+: setsTo n (n + 1) := by
  refine List.IsPrefix.trans ?_ (setsTo_prefix n (show s + 1 ≤ n + 1 by omega))
  rw [setsTo, List.append_assoc]
  refine (List.prefix_append_right_inj _).2 ?_
  have := setsRow_prefix s (show k + 1 ≤ 2 ^ n by omega)
  rwa [setsRow, if_pos hp] at this
/-- What a round keeps: what lay below n₀, and the captured number. -/
def KpS (n₀ Bn : Nat) (W W' : World) : Prop := Below n₀ W W' ∧ W'.cell? ⟨Bn, 0, none⟩ = W.cell? ⟨Bn, 0, none⟩

set_option maxRecDepth 100000 in
set_option maxHeartbeats 2000000 in
theorem sets1_any (m : Nat) (hm : 1 ≤ m) (l Bn n₀ n : Nat) (hn : n ≤ 12) (J Jx : List Int → World → Prop)
    (hY : ∀ pre x W, J pre W → pre.length < (setsTo n (n + 1)).length → YieldAt Fence.wide (m - 1) Tryz.prog l #[.int .i64 x] W fun e W' =>
      (e = .returned (.bool true) ∧ J (pre ++ [x]) W' ∧ KpS n₀ Bn W W') ∨ (e = .returned (.bool false) ∧ Jx (pre ++ [x]) W'))
    (W : World) (hBn : W.cell? ⟨Bn, 0, none⟩ = some (.int .i64 n)) (h0 : J [] W) :
    CallsIn Fence.wide m Tryz.prog 97 #[.func (.yield l) #[] #[], .pointer (some ⟨Bn, 0, none⟩)] W fun e W' => (∃ v, e = .returned v) ∧
      ((∃ ys, ys = setsTo n (n + 1) ∧ J ys W') ∨ (∃ pre, pre <+: setsTo n (n + 1) ∧ Jx pre W')) := by
  have hY := Lib.hid hY
  have hp2 : ∃ t : Nat, 2 ^ n = t ∧ t ≤ 4096 ∧ wrap64 (2 ^ n) = (t : Int) := by
    have h := (by decide +kernel : ∀ k : Fin 13, (2 : Nat) ^ k.val ≤ 4096 ∧ wrap64 (2 ^ k.val) = (((2 : Nat) ^ k.val : Nat) : Int)) ⟨n, by omega⟩
    exact ⟨_, rfl, h.1, h.2⟩
  obtain ⟨t, ht, ht2, hwt⟩ := hp2
  have HT := Lib.hid ht
  have HW := Lib.hid hwt; clear hwt
  have hs1 : wrap64 ((n : Int) + 1) = (n : Int) + 1 := by simp [wrap64]; omega
  have hn0 : (0 : Int) ≤ (n : Int) := by omega
  have hn1 : (n : Int) ≤ 12 := by omega
  refine callsIn_of_wp Tryz.func97 rfl trivial ?_ rfl
  simp only [Tryz.ntmps97, List.size_toArray, List.length_cons, List.length_nil, Nat.reduceAdd, Nat.reduceSub, Array.replicate_succ, Array.replicate_zero, List.push_toArray, List.append_toArray, List.nil_append, List.cons_append]
  clear ht
  gi_wp2
  gi_loopw [7] (fun p wr => ∃ s : Nat, p = .int .i64 s ∧ s ≤ n + 1 ∧ J (setsTo n s) wr ∧ wr.cell? ⟨Bn, 0, none⟩ = some (.int .i64 n)) (fun p _ => n + 1 - (intOf p).toNat)
  case atStart => exact ⟨0, rfl, by omega, h0, hBn⟩
  case round =>
    obtain ⟨s, rfl, hs, hJs, hcn⟩ := hrel
    by_cases hlt : s < n + 1
    · have hd : decide ((s : Int) < (n : Int) + 1) = true := by simp; omega
      gi_wp2
      obtain ⟨wo, hwo⟩ : ∃ wo : World, wo = wr := ⟨_, rfl⟩
      gi_loopw [12] (fun p wr => ∃ k : Nat, p = .int .i64 k ∧ k ≤ t ∧ J (setsTo n s ++ setsRow s k) wr ∧ wr.cell? ⟨Bn, 0, none⟩ = some (.int .i64 n)) (fun p _ => t - (intOf p).toNat)
      case atStart => exact ⟨0, rfl, by omega, by simpa [setsRow] using hJs, hcn⟩
      case round =>
        obtain ⟨k, rfl, hk, hJk, hck⟩ := hrel
        by_cases hlk : k < t
        · have hdk : decide ((k : Int) < wrap64 (2 ^ n)) = true := by rw [HW.out]; simp; omega
          cases hp : (popc (k : Int) == (s : Int))
          · have hrow : setsRow s (k + 1) = setsRow s k := by rw [setsRow, if_neg (by simp [hp])]
            gi_wp2_with (refine ⟨trivial, ?_⟩; gi_at_call 93; refine (callsIn_wide.2 (ones_any _ _ (by omega) (by omega))).mono ?_; rintro e w1 ⟨rfl, rfl⟩)
            refine ⟨fun _ h => (by cases h), ?_⟩
            gi_wp2
            go_roundw
            case rel => exact ⟨k + 1, by simp, by omega, by rw [hrow]; exact hJk, hck⟩
            case measure => simp [intOf]; omega
          · have hrow : setsRow s (k + 1) = setsRow s k ++ [(k : Int)] := by rw [setsRow, if_pos hp]
            have hpre := sets_at n s k hlt (by rw [HT.out]; exact hlk) hp
            obtain ⟨fn, tmps, assign, body, hy, hR⟩ := hY.out _ (k : Int) wr hJk (by have := hpre.length_le; simp at this ⊢; omega)
            gi_wp2_with (refine ⟨trivial, ?_⟩; gi_at_call 93; refine (callsIn_wide.2 (ones_any _ _ (by omega) (by omega))).mono ?_; rintro e w1 ⟨rfl, rfl⟩)
            refine hR.mono ?_
            rintro e W3 (⟨rfl, hJ3, hk3⟩ | ⟨rfl, hJx3⟩)
            · gi_wp2
              go_roundw
              case rel => exact ⟨k + 1, by simp, by omega, by rw [hrow, ← List.append_assoc]; exact hJ3, hk3.2.trans hck⟩
              case measure => simp [intOf]; omega
            · gi_wp2
              refine bodyPost_ret (results_none rfl _ _ _) rfl ?_
              exact ⟨⟨_, rfl⟩, .inr ⟨_, hpre, hJx3⟩⟩
        · obtain rfl : k = t := by omega
          have hdk : decide ((k : Int) < wrap64 (2 ^ n)) = false := by rw [HW.out]; simp
          gi_wp2
          go_roundw
          case rel => exact ⟨s + 1, by simp, by omega, by rw [setsTo, HT.out]; exact hJk, hck⟩
          case measure => simp [intOf]; omega
    · obtain rfl : s = n + 1 := by omega
      have hd : decide (((n + 1 : Nat) : Int) < (n : Int) + 1) = false := by simp
      gi_wp2
      go_end0
      exact ⟨⟨_, rfl⟩, .inl ⟨_, rfl, hJs⟩⟩

/-- **The iterator over all sets has its contract.** -/
theorem sets_stops (m : Nat) (hm : 1 ≤ m) (Bn n₀ n : Nat) (hn : n ≤ 12) (w : World) (hlt : Bn < w.heap.size) (hBn : w.cell? ⟨Bn, 0, none⟩ = some (.int .i64 n)) :
    SeqStopsK Fence.wide m Tryz.prog 97 #[.pointer (some ⟨Bn, 0, none⟩)] (fun x : Int => #[Value.int .i64 x]) (KpS n₀ Bn) (fun xs => xs = setsTo n (n + 1)) (fun pre => pre <+: setsTo n (n + 1)) (setsTo n (n + 1)).length w :=
  fun l J Jx W hW _ _ hY h0 => sets1_any m hm l Bn n₀ n hn J Jx hY W ((hW.cell (p := ⟨Bn, 0, none⟩) hlt).trans hBn) h0
end Go.Proofs.YtcfjakifeihbpaaGreat

/- The first of all sets that is as asked. -/
namespace Go.Proofs.YtcfjakifeihbpaaGreat
open Go.RowKit Go.Shelf
attribute [local go_sem] Oper.semAt_some

theorem sets_in (m n : Nat) (w : World) :
    CallsIn Fence.wide m Tryz.prog 75 #[.int .i64 n] w fun e w' => e = .returned (.func (.func 97) #[] #[.pointer (some ⟨w.heap.size, 0, none⟩)]) ∧ w' = w.alloc (.cells #[.int .i64 n] 3) := by
  have hmf : ∀ (fn : Fn) (first cap : Array Value) (w : World), (Instr.makeFunc fn first cap).run Tryz.prog w = .ok (.func fn first cap) w := fun _ _ _ _ => rfl
  refine callsIn_of_wp Tryz.func75 rfl trivial ?_ rfl
  simp only [Tryz.ntmps75, List.size_toArray, List.length_cons, List.length_nil, Nat.reduceAdd, Nat.reduceSub, Array.replicate_succ, Array.replicate_zero, List.push_toArray, List.append_toArray, List.nil_append, List.cons_append]
  gi_wp2
  go_ret
  exact ⟨rfl, rfl⟩

theorem cell_of_box_l {W : World} {B : Nat} {v : Value} {t : TypeId} (h : W.heap[B]? = some (.cells #[v] t (0, 0))) : W.cell? ⟨B, 0, none⟩ = some v ∧ W.frozen? ⟨B, 0, none⟩ = false := by
  constructor <;> simp [World.cell?, World.frozen?, h]
theorem cell_new_l (W : World) (v : Value) (t : TypeId) : (W.alloc (.cells #[v] t)).cell? ⟨W.heap.size, 0, none⟩ = some v ∧ (W.alloc (.cells #[v] t)).frozen? ⟨W.heap.size, 0, none⟩ = false :=
  cell_of_box_l (World.alloc_heap_new W _)
theorem cell_alloc_l {W : World} {a : Addr} {v : Value} (o : Obj) (h : W.cell? a = some v) : (W.alloc o).cell? a = some v := cell_kept h (World.grownBy_alloc W o none) (fun r e => by cases e)
theorem frozen_alloc_l {W : World} {a : Addr} {v : Value} (o : Obj) (h : W.cell? a = some v) (hf : W.frozen? a = false) : (W.alloc o).frozen? a = false := (frozen_kept h (World.grownBy_alloc W o none) (fun r e => by cases e)).trans hf

theorem wide_scope {n : Nat} {P : Program} {c : Code} {Q : Exit → Act → World → Prop} {a : Act} {w : World} (h : c.wpIn Fence.wide n P (Exit.noGoto Q) a w) : (Code.scope c).wpIn Fence.wide n P Q a w :=
  wpIn_wide.2 (wp_scope_straight (wpIn_wide.1 h))

theorem keepsO {W W' : World} (hb : Below W.heap.size W W') : KeepsOthers W W' :=
  ⟨hb.size, fun k _ hk _ => (hb.block k (Array.getElem?_eq_some_iff.1 hk).1).trans hk⟩

/-- The first of the sets that is as asked, or the empty one. -/
def firstOf (n : Nat) (b : Int → Bool) : Int := ((setsTo n (n + 1)).find? b).getD 0
theorem firstOf_none {n : Nat} {b : Int → Bool} (h : ∀ y ∈ setsTo n (n + 1), b y = false) : firstOf n b = 0 := by
  unfold firstOf
  rw [List.find?_eq_none.2 (fun x hx => by simp [h x hx])]; rfl
theorem firstOf_some {n : Nat} {b : Int → Bool} {p : List Int} {x : Int} (hp : p ++ [x] <+: setsTo n (n + 1)) (h : ∀ y ∈ p, b y = false) (hx : b x = true) : firstOf n b = x := by
  unfold firstOf
  obtain ⟨q, hq⟩ := hp
  rw [← hq, List.append_assoc, List.find?_append, List.find?_eq_none.2 (fun y hy => by simp [h y hy])]
  simp [hx]

set_option maxRecDepth 100000 in
set_option maxHeartbeats 2000000 in
theorem first76_any (n : Nat) (hn : n ≤ 12) (q : Value) (b : Int → Bool) (w : World)
    (hask : ∀ (x : Int) (Y : World), Below w.heap.size w Y → Calls Tryz.prog 33 #[.int .i64 x, q] Y (Ret (.bool (b x)) Y)) :
    Calls Tryz.prog 32 #[.int .i64 n, .func (.func 33) #[] #[q]] w (Ret (.int .i64 (firstOf n b)) w) := by
  have HA := Lib.hid hask; clear hask
  refine (callsIn_wide (n := 5)).1 ?_
  refine callsIn_of_wp_marks Tryz.func32 rfl trivial ?_ rfl
  simp only [Tryz.ntmps32, List.size_toArray, List.length_cons, List.length_nil, Nat.reduceAdd, Nat.reduceSub, Array.replicate_succ, Array.replicate_zero, List.push_toArray, List.append_toArray, List.nil_append, List.cons_append]
  gi_wp2
  refine wide_scope ?_
  gi_wp2
  refine wpIn_label ?_
  gi_wp2_with (refine ⟨trivial, ?_⟩; gi_at_call 75; refine (sets_in _ _ _).mono ?_; rintro e w' ⟨rfl, rfl⟩)
  have c0 := cell_new_l w (.func (.func 33) #[] #[q]) 67
  have c1 := cell_new_l (w.alloc (.cells #[(.func (.func 33) #[] #[q])] 67)) (.int .i64 0) 3
  have c2 := cell_new_l ((w.alloc (.cells #[(.func (.func 33) #[] #[q])] 67)).alloc (.cells #[.int .i64 0] 3)) (.int .i64 n) 3
  simp only [World.size_alloc] at c1 c2
  have hB0 : Below w.heap.size w (((w.alloc (.cells #[(.func (.func 33) #[] #[q])] 67)).alloc (.cells #[.int .i64 0] 3)).alloc (.cells #[.int .i64 n] 3)) := (((Below.refl _ w).alloc (Nat.le_refl _) _).alloc (by simp) _).alloc (by simp; omega) _
  refine wpIn_rangeFunc_ownF rfl (by omega) (gf := 97) (lb := #[.pointer (some ⟨w.heap.size + 1 + 1, 0, none⟩)]) rfl trivial (enters_of Tryz.func97 (by kernel_rfl) rfl)
    (sets_stops (5 - 1) (by omega) (w.heap.size + 1 + 1) w.heap.size n hn _ (by simp) c2.1) (fun h k => ⟨h.1.trans k.1, k.2.trans h.2⟩)
    (fun W l o o' hl h h1 h2 => ⟨belowK_b (w := w) (Nat.le_refl _) W l o o' (by simp at hl; omega) h h1 h2, (Below.grown (Below.refl (w.heap.size + 1 + 1 + 1) W) (grownBy_putObj' W l o') (by have := (Array.getElem?_eq_some_iff.1 h).1; simp at hl; omega) (fun k e => by cases e; simp at hl; omega)).cell (p := ⟨w.heap.size + 1 + 1, 0, none⟩) (by simp)⟩) (Below.refl _ _) (fun _ => rfl)
    (fun pre W => ((∀ y ∈ pre, b y = false) ∧ W.cell? ⟨w.heap.size, 0, none⟩ = some (.func (.func 33) #[] #[q]) ∧ W.cell? ⟨w.heap.size + 1, 0, none⟩ = some (.int .i64 0) ∧ W.frozen? ⟨w.heap.size + 1, 0, none⟩ = false ∧ W.cell? ⟨w.heap.size + 1 + 1, 0, none⟩ = some (.int .i64 n)) ∧ Below w.heap.size w W)
    (fun c pre W => (c = .exit 0 ∧ ∃ p x, pre = p ++ [x] ∧ (∀ y ∈ p, b y = false) ∧ b x = true ∧ W.cell? ⟨w.heap.size + 1, 0, none⟩ = some (.int .i64 x)) ∧ Below w.heap.size w W)
    (OwnFrom.and (Own.from (fun s A B row hs hg hr => ⟨hs.1, cell_kept hs.2.1 hg hr, cell_kept hs.2.2.1 hg hr, (frozen_kept hs.2.2.1 hg hr).trans hs.2.2.2.1, cell_kept hs.2.2.2.2 hg hr⟩) _) (ownFrom_below (Nat.le_refl _) (by simp; omega)))
    (fun c => OwnFrom.and (Own.from (fun s A B row hs hg hr => by obtain ⟨hc, p, x, h1, h2, h3, h4⟩ := hs; exact ⟨hc, p, x, h1, h2, h3, cell_kept h4 hg hr⟩) _) (ownFrom_below (Nat.le_refl _) (by simp; omega)))
    ⟨⟨by simp, cell_alloc_l _ (cell_alloc_l _ c0.1), cell_alloc_l _ c1.1, frozen_alloc_l _ c1.1 c1.2, c2.1⟩, hB0⟩
    (fun x => { tmps := #[.int .i64 n, (.func (.func 33) #[] #[q]), undef, .pointer (some ⟨w.heap.size, 0, none⟩), .int .i64 0, .pointer (some ⟨w.heap.size + 1, 0, none⟩), .int .i64 x, .int .i64 n, .func (.func 97) #[] #[.pointer (some ⟨w.heap.size + 1 + 1, 0, none⟩)], .int .i64 x, undef, undef, undef, undef, undef], defers := [] }) ?assign ?body ?done ?stop
  case assign =>
    intro l x W K hK
    gi_wp2
    exact hK
  case body =>
    rintro l pre x W ⟨⟨hp, hcf, hc0, hf0, hcn⟩, hB⟩ _
    have ha := HA.out x W hB
    cases hbx : b x
    · rw [hbx] at ha
      gi_wp2_with (refine ⟨trivial, ?_⟩; gi_at_call 33; refine (CallsIn.inRound l (callsIn_wide.2 ha)).mono ?_; rintro e W1 ⟨rfl, hb1⟩; have hc1 := (hb1.cell (World.block_lt_of_cell? _ _ hc0)).trans hc0; have hf1 := (hb1.frozen (World.block_lt_of_cell? _ _ hc0)).trans hf0)
      exact ⟨keepsO hb1, ⟨hb1.mono hB.size, hb1.cell (World.block_lt_of_cell? _ _ hcn)⟩, ⟨fun y hy => (List.mem_append.1 hy).elim (hp y) (fun e => by simp at e; rw [e]; exact hbx), (hb1.cell (World.block_lt_of_cell? _ _ hcf)).trans hcf, hc1, hf1, (hb1.cell (World.block_lt_of_cell? _ _ hcn)).trans hcn⟩, hB.trans (hb1.mono hB.size)⟩
    · rw [hbx] at ha
      gi_wp2_with (refine ⟨trivial, ?_⟩; gi_at_call 33; refine (CallsIn.inRound l (callsIn_wide.2 ha)).mono ?_; rintro e W1 ⟨rfl, hb1⟩; have hc1 := (hb1.cell (World.block_lt_of_cell? _ _ hc0)).trans hc0; have hf1 := (hb1.frozen (World.block_lt_of_cell? _ _ hc0)).trans hf0)
      exact ⟨(keepsO hb1).trans (KeepsOthers.setCell _ _ _), ⟨rfl, pre, x, rfl, hp, hbx, World.cell?_setCell_same' _ _ _ (by rw [hc1]; rfl)⟩, (hB.trans (hb1.mono hB.size)).setCell (p := ⟨w.heap.size + 1, 0, none⟩) (by simp) _⟩
  case done =>
    rintro D ys W hD rfl ⟨⟨hp, hcf, hc0, hf0, hcn⟩, hB⟩ hK
    gi_wp2
    refine ⟨by simp, .inl ⟨_, _, rfl, run_takeDeferred hK, ?_⟩⟩
    exact ⟨_, results_tmp rfl _ _ _, by rw [firstOf_none hp]; exact ⟨rfl, hB.trans (belowK_b (w := w) (Nat.le_refl _) W D _ _ (by simp at hD; omega) hK rfl rfl)⟩⟩
  case stop =>
    rintro D c pre W hD hpre ⟨⟨rfl, p, x, rfl, hp, hx, hc⟩, hB⟩ hK
    gi_wp2
    refine ⟨by simp, .inl ⟨_, _, rfl, run_takeDeferred hK, ?_⟩⟩
    exact ⟨_, results_tmp rfl _ _ _, by rw [firstOf_some hpre hp hx]; exact ⟨rfl, hB.trans (belowK_b (w := w) (Nat.le_refl _) W D _ _ (by simp at hD; omega) hK rfl rfl)⟩⟩

set_option maxRecDepth 100000 in
set_option maxHeartbeats 2000000 in
theorem first79_any (n : Nat) (hn : n ≤ 12) (q : Value) (b : Int → Bool) (w : World)
    (hask : ∀ (x : Int) (Y : World), Below w.heap.size w Y → Calls Tryz.prog 37 #[.int .i64 x, q] Y (Ret (.bool (b x)) Y)) :
    Calls Tryz.prog 32 #[.int .i64 n, .func (.func 37) #[] #[q]] w (Ret (.int .i64 (firstOf n b)) w) := by
  have HA := Lib.hid hask; clear hask
  refine (callsIn_wide (n := 5)).1 ?_
  refine callsIn_of_wp_marks Tryz.func32 rfl trivial ?_ rfl
  simp only [Tryz.ntmps32, List.size_toArray, List.length_cons, List.length_nil, Nat.reduceAdd, Nat.reduceSub, Array.replicate_succ, Array.replicate_zero, List.push_toArray, List.append_toArray, List.nil_append, List.cons_append]
  gi_wp2
  refine wide_scope ?_
  gi_wp2
  refine wpIn_label ?_
  gi_wp2_with (refine ⟨trivial, ?_⟩; gi_at_call 75; refine (sets_in _ _ _).mono ?_; rintro e w' ⟨rfl, rfl⟩)
  have c0 := cell_new_l w (.func (.func 37) #[] #[q]) 67
  have c1 := cell_new_l (w.alloc (.cells #[(.func (.func 37) #[] #[q])] 67)) (.int .i64 0) 3
  have c2 := cell_new_l ((w.alloc (.cells #[(.func (.func 37) #[] #[q])] 67)).alloc (.cells #[.int .i64 0] 3)) (.int .i64 n) 3
  simp only [World.size_alloc] at c1 c2
  have hB0 : Below w.heap.size w (((w.alloc (.cells #[(.func (.func 37) #[] #[q])] 67)).alloc (.cells #[.int .i64 0] 3)).alloc (.cells #[.int .i64 n] 3)) := (((Below.refl _ w).alloc (Nat.le_refl _) _).alloc (by simp) _).alloc (by simp; omega) _
  refine wpIn_rangeFunc_ownF rfl (by omega) (gf := 97) (lb := #[.pointer (some ⟨w.heap.size + 1 + 1, 0, none⟩)]) rfl trivial (enters_of Tryz.func97 (by kernel_rfl) rfl)
    (sets_stops (5 - 1) (by omega) (w.heap.size + 1 + 1) w.heap.size n hn _ (by simp) c2.1) (fun h k => ⟨h.1.trans k.1, k.2.trans h.2⟩)
    (fun W l o o' hl h h1 h2 => ⟨belowK_b (w := w) (Nat.le_refl _) W l o o' (by simp at hl; omega) h h1 h2, (Below.grown (Below.refl (w.heap.size + 1 + 1 + 1) W) (grownBy_putObj' W l o') (by have := (Array.getElem?_eq_some_iff.1 h).1; simp at hl; omega) (fun k e => by cases e; simp at hl; omega)).cell (p := ⟨w.heap.size + 1 + 1, 0, none⟩) (by simp)⟩) (Below.refl _ _) (fun _ => rfl)
    (fun pre W => ((∀ y ∈ pre, b y = false) ∧ W.cell? ⟨w.heap.size, 0, none⟩ = some (.func (.func 37) #[] #[q]) ∧ W.cell? ⟨w.heap.size + 1, 0, none⟩ = some (.int .i64 0) ∧ W.frozen? ⟨w.heap.size + 1, 0, none⟩ = false ∧ W.cell? ⟨w.heap.size + 1 + 1, 0, none⟩ = some (.int .i64 n)) ∧ Below w.heap.size w W)
    (fun c pre W => (c = .exit 0 ∧ ∃ p x, pre = p ++ [x] ∧ (∀ y ∈ p, b y = false) ∧ b x = true ∧ W.cell? ⟨w.heap.size + 1, 0, none⟩ = some (.int .i64 x)) ∧ Below w.heap.size w W)
    (OwnFrom.and (Own.from (fun s A B row hs hg hr => ⟨hs.1, cell_kept hs.2.1 hg hr, cell_kept hs.2.2.1 hg hr, (frozen_kept hs.2.2.1 hg hr).trans hs.2.2.2.1, cell_kept hs.2.2.2.2 hg hr⟩) _) (ownFrom_below (Nat.le_refl _) (by simp; omega)))
    (fun c => OwnFrom.and (Own.from (fun s A B row hs hg hr => by obtain ⟨hc, p, x, h1, h2, h3, h4⟩ := hs; exact ⟨hc, p, x, h1, h2, h3, cell_kept h4 hg hr⟩) _) (ownFrom_below (Nat.le_refl _) (by simp; omega)))
    ⟨⟨by simp, cell_alloc_l _ (cell_alloc_l _ c0.1), cell_alloc_l _ c1.1, frozen_alloc_l _ c1.1 c1.2, c2.1⟩, hB0⟩
    (fun x => { tmps := #[.int .i64 n, (.func (.func 37) #[] #[q]), undef, .pointer (some ⟨w.heap.size, 0, none⟩), .int .i64 0, .pointer (some ⟨w.heap.size + 1, 0, none⟩), .int .i64 x, .int .i64 n, .func (.func 97) #[] #[.pointer (some ⟨w.heap.size + 1 + 1, 0, none⟩)], .int .i64 x, undef, undef, undef, undef, undef], defers := [] }) ?assign ?body ?done ?stop
  case assign =>
    intro l x W K hK
    gi_wp2
    exact hK
  case body =>
    rintro l pre x W ⟨⟨hp, hcf, hc0, hf0, hcn⟩, hB⟩ _
    have ha := HA.out x W hB
    cases hbx : b x
    · rw [hbx] at ha
      gi_wp2_with (refine ⟨trivial, ?_⟩; gi_at_call 37; refine (CallsIn.inRound l (callsIn_wide.2 ha)).mono ?_; rintro e W1 ⟨rfl, hb1⟩; have hc1 := (hb1.cell (World.block_lt_of_cell? _ _ hc0)).trans hc0; have hf1 := (hb1.frozen (World.block_lt_of_cell? _ _ hc0)).trans hf0)
      exact ⟨keepsO hb1, ⟨hb1.mono hB.size, hb1.cell (World.block_lt_of_cell? _ _ hcn)⟩, ⟨fun y hy => (List.mem_append.1 hy).elim (hp y) (fun e => by simp at e; rw [e]; exact hbx), (hb1.cell (World.block_lt_of_cell? _ _ hcf)).trans hcf, hc1, hf1, (hb1.cell (World.block_lt_of_cell? _ _ hcn)).trans hcn⟩, hB.trans (hb1.mono hB.size)⟩
    · rw [hbx] at ha
      gi_wp2_with (refine ⟨trivial, ?_⟩; gi_at_call 37; refine (CallsIn.inRound l (callsIn_wide.2 ha)).mono ?_; rintro e W1 ⟨rfl, hb1⟩; have hc1 := (hb1.cell (World.block_lt_of_cell? _ _ hc0)).trans hc0; have hf1 := (hb1.frozen (World.block_lt_of_cell? _ _ hc0)).trans hf0)
      exact ⟨(keepsO hb1).trans (KeepsOthers.setCell _ _ _), ⟨rfl, pre, x, rfl, hp, hbx, World.cell?_setCell_same' _ _ _ (by rw [hc1]; rfl)⟩, (hB.trans (hb1.mono hB.size)).setCell (p := ⟨w.heap.size + 1, 0, none⟩) (by simp) _⟩
  case done =>
    rintro D ys W hD rfl ⟨⟨hp, hcf, hc0, hf0, hcn⟩, hB⟩ hK
    gi_wp2
    refine ⟨by simp, .inl ⟨_, _, rfl, run_takeDeferred hK, ?_⟩⟩
    exact ⟨_, results_tmp rfl _ _ _, by rw [firstOf_none hp]; exact ⟨rfl, hB.trans (belowK_b (w := w) (Nat.le_refl _) W D _ _ (by simp at hD; omega) hK rfl rfl)⟩⟩
  case stop =>
    rintro D c pre W hD hpre ⟨⟨rfl, p, x, rfl, hp, hx, hc⟩, hB⟩ hK
    gi_wp2
    refine ⟨by simp, .inl ⟨_, _, rfl, run_takeDeferred hK, ?_⟩⟩
    exact ⟨_, results_tmp rfl _ _ _, by rw [firstOf_some hpre hp hx]; exact ⟨rfl, hB.trans (belowK_b (w := w) (Nat.le_refl _) W D _ _ (by simp at hD; omega) hK rfl rfl)⟩⟩
end Go.Proofs.YtcfjakifeihbpaaGreat
