/- All sets in their order; the first that is as asked. -/
import Derived.RangeFuncNested
import Derived.RangeFuncBound
import Derived.RangeFuncCalls
import Derived.RangeFuncLeaves
import Derived.Shelf.Abstract
import Derived.Shelf.RegionOpen
import Derived.WalkKit
import Derived.OwnWalkIn
import Derived.TacticsInMore
import Derived.LoopNIn
import Derived.LoopIn
import Derived.Test.YtmfbkgdlfackcaaOc
namespace Go.Proofs.Ytmfbkgdlfackcaa
open Go.RowKit Go.Shelf
attribute [local go_sem] Oper.semAt_some

/-- The sets of one size below a number. -/
def setsRow (s : Nat) : Nat → List Int
  | 0 => []
  | k + 1 => if (popc (k : Int) == (s : Int)) = true then setsRow s k ++ [(k : Int)] else setsRow s k
/-- The sets of the sizes below one. -/
def setsTo (n : Nat) : Nat → List Int
  | 0 => []
  | s + 1 => setsTo n s ++ setsRow s (2 ^ n)

theorem setsRow_prefix (s : Nat) {k : Nat} : ∀ {m : Nat}, k ≤ m → setsRow s k <+: setsRow s m
  | 0, h => by obtain rfl : k = 0 := by omega
               exact List.prefix_refl _
  | m + 1, h => by
    rcases Nat.lt_or_ge m k with h' | h'
    · obtain rfl : k = m + 1 := by omega
      exact List.prefix_refl _
    · refine (setsRow_prefix s h').trans ?_
      rw [setsRow]; split
      · exact List.prefix_append _ _
      · exact List.prefix_refl _
theorem setsTo_prefix (n : Nat) {k : Nat} : ∀ {m : Nat}, k ≤ m → setsTo n k <+: setsTo n m
  | 0, h => by obtain rfl : k = 0 := by omega
               exact List.prefix_refl _
  | m + 1, h => by
    rcases Nat.lt_or_ge m k with h' | h'
    · obtain rfl : k = m + 1 := by omega
      exact List.prefix_refl _
    · exact (setsTo_prefix n h').trans (List.prefix_append _ _)
theorem sets_at (n s k : Nat) (hs : s < n + 1) (hk : k < 2 ^ n) (hp : (popc (k : Int) == (s : Int)) = true) :
    (setsTo n s ++ setsRow s k) ++ [(k : Int)] <+: setsTo n (n + 1) := by
  refine List.IsPrefix.trans ?_ (setsTo_prefix n (show s + 1 ≤ n + 1 by omega))
  rw [setsTo, List.append_assoc]
  refine (List.prefix_append_right_inj _).2 ?_
  have := setsRow_prefix s (show k + 1 ≤ 2 ^ n by omega)
  rwa [setsRow, if_pos hp] at this
/-- What a round keeps: what lay below n₀, and the captured number. -/
def KpS (n₀ Bn : Nat) (W W' : World) : Prop := Below n₀ W W' ∧ W'.cell? ⟨Bn, 0, none⟩ = W.cell? ⟨Bn, 0, none⟩

set_option maxRecDepth 100000 in
set_option maxHeartbeats 2000000 in
theorem sets1_any (m : Nat) (hm : 1 ≤ m) (l Bn n₀ n : Nat) (hn : n ≤ 12) (J Jx : List Int → World → Prop)
    (hY : ∀ pre x W, J pre W → pre.length < (setsTo n (n + 1)).length → YieldAt Fence.wide (m - 1) Try.prog l #[.int .i64 x] W fun e W' =>
      (e = .returned (.bool true) ∧ J (pre ++ [x]) W' ∧ KpS n₀ Bn W W') ∨ (e = .returned (.bool false) ∧ Jx (pre ++ [x]) W'))
    (W : World) (hBn : W.cell? ⟨Bn, 0, none⟩ = some (.int .i64 n)) (h0 : J [] W) :
    CallsIn Fence.wide m Try.prog 104 #[.func (.yield l) #[] #[], .pointer (some ⟨Bn, 0, none⟩)] W fun e W' => (∃ v, e = .returned v) ∧
      ((∃ ys, ys = setsTo n (n + 1) ∧ J ys W') ∨ (∃ pre, pre <+: setsTo n (n + 1) ∧ Jx pre W')) := by
  have hY := Lib.hid hY
  have hp2 : ∃ t : Nat, 2 ^ n = t ∧ t ≤ 4096 ∧ wrap64 (2 ^ n) = (t : Int) := by
    have h := (by decide +kernel : ∀ k : Fin 13, (2 : Nat) ^ k.val ≤ 4096 ∧ wrap64 (2 ^ k.val) = (((2 : Nat) ^ k.val : Nat) : Int)) ⟨n, by omega⟩
    exact ⟨_, rfl, h.1, h.2⟩
  obtain ⟨t, ht, ht2, hwt⟩ := hp2
  have HT := Lib.hid ht
  have HW := Lib.hid hwt; clear hwt
  have hs1 : wrap64 ((n : Int) + 1) = (n : Int) + 1 := by simp [wrap64]; omega
  have hn0 : (0 : Int) ≤ (n : Int) := by omega
  have hn1 : (n : Int) ≤ 12 := by omega
  refine callsIn_of_wp Try.func104 rfl trivial ?_ rfl
  simp only [Try.ntmps104, List.size_toArray, List.length_cons, List.length_nil, Nat.reduceAdd, Nat.reduceSub, Array.replicate_succ, Array.replicate_zero, List.push_toArray, List.append_toArray, List.nil_append, List.cons_append]
  clear ht
  gi_wp2
  gi_loopw [7] (fun p wr => ∃ s : Nat, p = .int .i64 s ∧ s ≤ n + 1 ∧ J (setsTo n s) wr ∧ wr.cell? ⟨Bn, 0, none⟩ = some (.int .i64 n)) (fun p _ => n + 1 - (intOf p).toNat)
  case atStart => exact ⟨0, rfl, by omega, h0, hBn⟩
  case round =>
    obtain ⟨s, rfl, hs, hJs, hcn⟩ := hrel
    by_cases hlt : s < n + 1
    · have hd : decide ((s : Int) < (n : Int) + 1) = true := by simp; omega
      gi_wp2
      obtain ⟨wo, hwo⟩ : ∃ wo : World, wo = wr := ⟨_, rfl⟩
      gi_loopw [12] (fun p wr => ∃ k : Nat, p = .int .i64 k ∧ k ≤ t ∧ J (setsTo n s ++ setsRow s k) wr ∧ wr.cell? ⟨Bn, 0, none⟩ = some (.int .i64 n)) (fun p _ => t - (intOf p).toNat)
      case atStart => exact ⟨0, rfl, by omega, by simpa [setsRow] using hJs, hcn⟩
      case round =>
        obtain ⟨k, rfl, hk, hJk, hck⟩ := hrel
        by_cases hlk : k < t
        · have hdk : decide ((k : Int) < wrap64 (2 ^ n)) = true := by rw [HW.out]; simp; omega
          cases hp : (popc (k : Int) == (s : Int))
          · have hrow : setsRow s (k + 1) = setsRow s k := by rw [setsRow, if_neg (by simp [hp])]
            gi_wp2_with (refine ⟨trivial, ?_⟩; gi_at_call 105; refine (callsIn_wide.2 (ones_any _ _ (by omega) (by omega))).mono ?_; rintro e w1 ⟨rfl, rfl⟩)
            refine ⟨fun _ h => (by cases h), ?_⟩
            gi_wp2
            go_roundw
            case rel => exact ⟨k + 1, by simp, by omega, by rw [hrow]; exact hJk, hck⟩
            case measure => simp [intOf]; omega
          · have hrow : setsRow s (k + 1) = setsRow s k ++ [(k : Int)] := by rw [setsRow, if_pos hp]
            have hpre := sets_at n s k hlt (by rw [HT.out]; exact hlk) hp
            obtain ⟨fn, tmps, assign, body, hy, hR⟩ := hY.out _ (k : Int) wr hJk (by have := hpre.length_le; simp at this ⊢; omega)
            gi_wp2_with (refine ⟨trivial, ?_⟩; gi_at_call 105; refine (callsIn_wide.2 (ones_any _ _ (by omega) (by omega))).mono ?_; rintro e w1 ⟨rfl, rfl⟩)
            refine hR.mono ?_
            rintro e W3 (⟨rfl, hJ3, hk3⟩ | ⟨rfl, hJx3⟩)
            · gi_wp2
              go_roundw
              case rel => exact ⟨k + 1, by simp, by omega, by rw [hrow, ← List.append_assoc]; exact hJ3, hk3.2.trans hck⟩
              case measure => simp [intOf]; omega
            · gi_wp2
              refine bodyPost_ret (results_none rfl _ _ _) rfl ?_
              exact ⟨⟨_, rfl⟩, .inr ⟨_, hpre, hJx3⟩⟩
        · obtain rfl : k = t := by omega
          have hdk : decide ((k : Int) < wrap64 (2 ^ n)) = false := by rw [HW.out]; simp
          gi_wp2
          go_roundw
          case rel => exact ⟨s + 1, by simp, by omega, by rw [setsTo, HT.out]; exact hJk, hck⟩
          case measure => simp [intOf]; omega
    · obtain rfl : s = n + 1 := by omega
      have hd : decide (((n + 1 : Nat) : Int) < (n : Int) + 1) = false := by simp
      gi_wp2
      go_end0
      exact ⟨⟨_, rfl⟩, .inl ⟨_, rfl, hJs⟩⟩

/-- **The iterator over all sets has its contract.** -/
theorem sets_stops (m : Nat) (hm : 1 ≤ m) (Bn n₀ n : Nat) (hn : n ≤ 12) (w : World) (hlt : Bn < w.heap.size) (hBn : w.cell? ⟨Bn, 0, none⟩ = some (.int .i64 n)) :
    SeqStopsK Fence.wide m Try.prog 104 #[.pointer (some ⟨Bn, 0, none⟩)] (fun x : Int => #[Value.int .i64 x]) (KpS n₀ Bn) (fun xs => xs = setsTo n (n + 1)) (fun pre => pre <+: setsTo n (n + 1)) (setsTo n (n + 1)).length w :=
  fun l J Jx W hW _ _ hY h0 => sets1_any m hm l Bn n₀ n hn J Jx hY W ((hW.cell (p := ⟨Bn, 0, none⟩) hlt).trans hBn) h0
end Go.Proofs.Ytmfbkgdlfackcaa
