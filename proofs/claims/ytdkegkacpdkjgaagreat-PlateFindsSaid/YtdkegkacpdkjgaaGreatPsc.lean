/- Plate: all scales that there can be, one after the other. -/
import Derived.Test.YtdkegkacpdkjgaaGreatPco
import Derived.WalkSpells
import Derived.RangeFuncNested
import Derived.RangeFuncBound
import Derived.RangeFuncCalls
import Derived.RangeFuncLeaves
import Derived.Shelf.Abstract
import Derived.Shelf.RegionOpen
import Derived.OwnWalkIn
import Derived.TacticsInMore
import Derived.LoopNIn
import Derived.LoopIn
import Derived.RangeFuncFrom
import Derived.RangeFuncWrites
import Derived.WalkMore
namespace Go.Proofs.YtdkegkacpdkjgaaGreat
open Go.RowKit Go.Shelf
attribute [local go_sem] Oper.semAt_some

/-- A scale, and where the corner can be with it. -/
structure Scl where
  sc : Int
  h : 0 ≤ sc ∧ sc ≤ 1000
  a : Int
  b : Int
  c : Int
  d : Int
def Scl.v (x : Scl) : Array Value := #[.int .i64 x.a, .int .i64 x.b, .int .i64 x.c, .int .i64 x.d]
def Scl.encs (x : Scl) : Array Value := #[.int .i64 x.sc, .agg x.v]
def trOf (ss : List St) (R : Nat → Bool) (n : Nat) (sc : Int) : List Scl :=
  if h : 0 ≤ sc ∧ sc ≤ 1000 then (if corB ss sc R n then [⟨sc, h, (corS ss sc R false n).1, (corS ss sc R false n).2, (corS ss sc R true n).1, (corS ss sc R true n).2⟩] else []) else []
def trTo (ss : List St) (R : Nat → Bool) (n : Nat) (lo : Int) : Nat → List Scl
  | 0 => []
  | k + 1 => trTo ss R n lo k ++ trOf ss R n (lo + k)
theorem trTo_prefix (ss : List St) (R : Nat → Bool) (n : Nat) (lo : Int) {k : Nat} : ∀ {m : Nat}, k ≤ m → trTo ss R n lo k <+: trTo ss R n lo m
  | 0, h => by obtain rfl : k = 0 := by omega
               exact List.prefix_refl _
  | m + 1, h => by
    rcases Nat.lt_or_ge m k with h' | h'
    · obtain rfl : k = m + 1 := by omega
      exact List.prefix_refl _
    · exact (trTo_prefix ss R n lo h').trans (List.prefix_append _ _)
/-- All of them, of a plate, if the stars of a set are right. -/
def trL (p : Pl) (ss : List St) (set : Int) : List Scl := trTo ss (setI set) p.n p.lo (p.hi - p.lo + 1).toNat
theorem trOf_no {ss : List St} {R : Nat → Bool} {n : Nat} {sc : Int} (h : corB ss sc R n = false) : trOf ss R n sc = [] := by
  unfold trOf; split <;> simp [h]
theorem trOf_yes {ss : List St} {R : Nat → Bool} {n : Nat} {sc : Int} (hs : 0 ≤ sc ∧ sc ≤ 1000) (h : corB ss sc R n = true) : trOf ss R n sc = [⟨sc, hs, (corS ss sc R false n).1, (corS ss sc R false n).2, (corS ss sc R true n).1, (corS ss sc R true n).2⟩] := by
  unfold trOf; rw [dif_pos hs, if_pos h]

/-- What a round keeps. -/
def KpL (n₀ B C : Nat) (W W' : World) : Prop := Below n₀ W W' ∧ W'.heap[B]? = W.heap[B]? ∧ W'.heap[C]? = W.heap[C]?
theorem BoxL.same {X X' : World} {B : Nat} {p : Pl} (k : BoxL X B p) (h : X'.heap[B]? = X.heap[B]?) : BoxL X' B p := by
  have e : ∀ o, X'.cell? ⟨B, o, none⟩ = X.cell? ⟨B, o, none⟩ := fun o => World.cell?_of_block (a := ⟨B, o, none⟩) h
  exact ⟨(e 0).trans k.c0, (e 1).trans k.c1, (e 2).trans k.c2, (e 3).trans k.c3, (e 4).trans k.c4, (e 5).trans k.c5, (e 6).trans k.c6, (e 7).trans k.c7, (e 8).trans k.c8, (e 9).trans k.c9, (e 10).trans k.c10⟩

theorem gB0 {w w' : World} (h : Below w.heap.size w w') (row : Option Nat) : w.grownBy w' row := ⟨h.os, h.tape, h.output, h.size, fun k hk _ => h.block k hk⟩
set_option maxRecDepth 100000 in
set_option maxHeartbeats 4000000 in
theorem scales1_any (m : Nat) (hm : 1 ≤ m) (l B C n₀ M : Nat) (p : Pl) (ss : List St) (set : Int) (w0 : World) (hP : PlAt p ss w0) (hok : PlOk p ss) (hn : w0.heap.size ≤ n₀)
    (J Jx : List Scl → World → Prop) (hJ : AbidesFrom M J)
    (hY : ∀ pre (x : Scl) W, J pre W → pre.length < (trL p ss set).length → YieldAt Fence.wide (m - 1) Tryz.prog l x.encs W fun e W' =>
      (e = .returned (.bool true) ∧ J (pre ++ [x]) W' ∧ KpL n₀ B C W W') ∨ (e = .returned (.bool false) ∧ Jx (pre ++ [x]) W'))
    (W : World) (hW : Below n₀ w0 W) (hnW : n₀ ≤ W.heap.size) (hb : BoxL W B p) (hc : W.cell? ⟨C, 0, none⟩ = some (.int .i64 set)) (h0 : J [] W) :
    CallsIn Fence.wide m Tryz.prog 136 #[.func (.yield l) #[] #[], .pointer (some ⟨B, 0, none⟩), .pointer (some ⟨C, 0, none⟩)] W fun e W' => (∃ v, e = .returned v) ∧
      ((∃ ys, ys = trL p ss set ∧ J ys W') ∨ (∃ pre, pre <+: trL p ss set ∧ Jx pre W')) := by
  have HY := Lib.hid hY; clear hY
  have HP := Lib.hid hP; clear hP
  have HOK := Lib.hid hok
  have hlo := hok.lo
  have hmid := hok.mid
  have hhi := hok.hi
  clear hok
  obtain ⟨K, hK⟩ : ∃ K : Nat, (p.hi - p.lo + 1).toNat = K := ⟨_, rfl⟩
  have hKi : (K : Int) = p.hi - p.lo + 1 := by omega
  have HT : Hid (trL p ss set = trTo ss (setI set) p.n p.lo K) := by show _ = _; unfold trL; rw [hK]
  have HC : Hid (∀ sc Y, 0 ≤ sc → sc ≤ 1000 → Below n₀ w0 Y → Calls Tryz.prog 137 #[.agg (lookV p), .int .i64 sc, .int .i64 set] Y (Ret (corV ss sc (setI set) p.n) Y)) := fun sc Y h0 h1 hY => corners_any sc set p ss Y (HP.out.below hY hn) HOK.out h0 h1
  have HPR : Hid (∀ k, k ≤ K → trTo ss (setI set) p.n p.lo k <+: trTo ss (setI set) p.n p.lo K) := fun k hk => trTo_prefix _ _ _ _ hk
  unfold lookV sideV at HC
  rw [HT.out] at HY ⊢
  clear HT hK
  refine callsIn_of_wp Tryz.func136 rfl trivial ?_ rfl
  simp only [Tryz.ntmps136, List.size_toArray, List.length_cons, List.length_nil, Nat.reduceAdd, Nat.reduceSub, Array.replicate_succ, Array.replicate_zero, List.push_toArray, List.append_toArray, List.nil_append, List.cons_append]
  have HB := Lib.hid hb
  have HCC := Lib.hid hc
  obtain ⟨b0, b1, b2, b3, b4, b5, b6, b7, b8, b9, b10⟩ := hb
  gi_wp2
  clear b0 b1 b2 b3 b4 b5 b6 b7 b8 b9 b10 hc
  obtain ⟨wo, hwo⟩ : ∃ wo : World, wo = W := ⟨_, rfl⟩
  gi_loopw [4] (fun q wr => ∃ k : Nat, q = .int .i64 (p.lo + k) ∧ k ≤ K ∧ J (trTo ss (setI set) p.n p.lo k) wr ∧ Below n₀ w0 wr ∧ n₀ ≤ wr.heap.size ∧ BoxL wr B p ∧ wr.cell? ⟨C, 0, none⟩ = some (.int .i64 set)) (fun q _ => K - (intOf q - p.lo).toNat)
  case atStart => exact ⟨0, by simp, by omega, by simpa [trTo] using h0, hW, hnW, HB.out, HCC.out⟩
  case round =>
    obtain ⟨k, rfl, hk, hJk, hBr, hnr, hbr, hcr⟩ := hrel
    have hbr0 := Lib.hid hbr
    have hcr0 := Lib.hid hcr
    obtain ⟨b0, b1, b2, b3, b4, b5, b6, b7, b8, b9, b10⟩ := hbr
    by_cases hlt : k < K
    · have hd : decide (p.lo + (k : Int) ≤ p.hi) = true := by simp; omega
      have hs0 : 0 ≤ p.lo + (k : Int) ∧ p.lo + (k : Int) ≤ 1000 := by omega
      have hcor := HC.out (p.lo + k) wr hs0.1 hs0.2 hBr
      cases hB : corB ss (p.lo + k) (setI set) p.n
      · have hrow : Hid (trTo ss (setI set) p.n p.lo (k + 1) = trTo ss (setI set) p.n p.lo k) := by show _ = _; rw [trTo, trOf_no hB, List.append_nil]
        have hV : corV ss (p.lo + k) (setI set) p.n = .tuple #[.agg #[.int .i64 0, .int .i64 0, .int .i64 0, .int .i64 0], .bool false] := by unfold corV; rw [hB]; rfl
        rw [hV] at hcor
        have HCO := Lib.hid hcor
        clear hcor hV hB
        gi_wp2_with (refine ⟨trivial, ?_⟩; gi_at_call 137; refine (callsIn_wide.2 HCO.out).mono ?_; rintro e w1 ⟨rfl, hb1⟩)
        refine ⟨fun _ h => (by cases h), ?_⟩
        have hbz := BA hb1 (.cells #[.int .i64 0, .int .i64 0, .int .i64 0, .int .i64 0] 81)
        have hJz := hJ _ _ _ none hJk (gB0 hbz none) (fun r e => by cases e)
        have hcz := cellB hcr0.out hbz
        have hbz2 := hbr0.out.grown (hbr0.out.lt) hbz
        clear hb1 HCO
        gi_wp2
        go_roundw
        case rel => exact ⟨k + 1, by simp; omega, by omega, by rw [hrow.out]; exact hJz, hBr.trans (hbz.mono hnr), Nat.le_trans hnr hbz.size, hbz2, hcz⟩
        case measure => simp [intOf]; omega
      · obtain ⟨x, hx⟩ : ∃ x : Scl, x = ⟨p.lo + k, hs0, (corS ss (p.lo + k) (setI set) false p.n).1, (corS ss (p.lo + k) (setI set) false p.n).2, (corS ss (p.lo + k) (setI set) true p.n).1, (corS ss (p.lo + k) (setI set) true p.n).2⟩ := ⟨_, rfl⟩
        have hrow : Hid (trTo ss (setI set) p.n p.lo (k + 1) = trTo ss (setI set) p.n p.lo k ++ [x]) := by show _ = _; rw [trTo, trOf_yes hs0 hB, hx]
        have hpre : Hid (trTo ss (setI set) p.n p.lo k ++ [x] <+: trTo ss (setI set) p.n p.lo K) := by show _ <+: _; rw [← hrow.out]; exact HPR.out _ (by omega)
        have hlen : (trTo ss (setI set) p.n p.lo k).length < (trTo ss (setI set) p.n p.lo K).length := by have := hpre.out.length_le; simp at this ⊢; omega
        have hV : corV ss (p.lo + k) (setI set) p.n = .tuple #[.agg #[.int .i64 x.a, .int .i64 x.b, .int .i64 x.c, .int .i64 x.d], .bool true] := by unfold corV; rw [hB, hx]; rfl
        have hsc : Hid (x.sc = p.lo + k) := by show _ = _; rw [hx]
        rw [hV] at hcor
        have HCO := Lib.hid hcor
        have HYX := Lib.hid (fun Y hJ => HY.out (trTo ss (setI set) p.n p.lo k) x Y hJ hlen)
        unfold Scl.encs Scl.v at HYX
        rw [hsc.out] at HYX
        clear hcor hV hB hx HY HC HPR
        gi_wp2_with (refine ⟨trivial, ?_⟩; gi_at_call 137; refine (callsIn_wide.2 HCO.out).mono ?_; rintro e w1 ⟨rfl, hb1⟩; have hbz := BA hb1 (.cells #[.int .i64 x.a, .int .i64 x.b, .int .i64 x.c, .int .i64 x.d] 81); have hJz := hJ _ _ _ none hJk (gB0 hbz none) (fun r e => by cases e); obtain ⟨fn, tmps, assign, body, hy, hR⟩ := HYX.out _ hJz)
        have hcz := cellB hcr0.out hbz
        have hbz2 := hbr0.out.grown (hbr0.out.lt) hbz
        have hBZ := hBr.trans (hbz.mono hnr)
        have hnz := Nat.le_trans hnr hbz.size
        refine hR.mono ?_
        clear hb1 HCO HYX hR hJz hbz hy
        generalize w1.alloc (.cells #[.int .i64 x.a, .int .i64 x.b, .int .i64 x.c, .int .i64 x.d] 81) = Z at *
        rintro e W3 (⟨rfl, hJ3, hk3⟩ | ⟨rfl, hJx3⟩)
        · have hb3 := hbz2.same hk3.2.1
          have hc3 := (World.cell?_of_block (a := ⟨C, 0, none⟩) hk3.2.2).trans hcz
          have hB3 := hBZ.trans hk3.1
          have hn3 := Nat.le_trans hnz hk3.1.size
          gi_wp2
          go_roundw
          case rel => exact ⟨k + 1, by simp; omega, by omega, by rw [hrow.out]; exact hJ3, hB3, hn3, hb3, hc3⟩
          case measure => simp [intOf]; omega
        · gi_wp2
          refine bodyPost_ret (results_none rfl _ _ _) rfl ?_
          exact ⟨⟨_, rfl⟩, .inr ⟨_, hpre.out, hJx3⟩⟩
    · obtain rfl : k = K := by omega
      have hd : decide (p.lo + (k : Int) ≤ p.hi) = false := by simp; omega
      gi_wp2
      go_end0
      exact ⟨⟨_, rfl⟩, .inl ⟨_, rfl, hJk⟩⟩
/-- **The iterator over all scales has its contract.** -/
theorem scales_stops (m : Nat) (hm : 1 ≤ m) (B C n₀ : Nat) (p : Pl) (ss : List St) (set : Int) (w0 : World) (hP : PlAt p ss w0) (hok : PlOk p ss) (hn : w0.heap.size ≤ n₀)
    (w : World) (hW : Below n₀ w0 w) (hnw : n₀ ≤ w.heap.size) (hb : BoxL w B p) (hc : w.cell? ⟨C, 0, none⟩ = some (.int .i64 set)) :
    SeqStopsK Fence.wide m Tryz.prog 136 #[.pointer (some ⟨B, 0, none⟩), .pointer (some ⟨C, 0, none⟩)] (fun x : Scl => #[.int .i64 x.sc, .agg x.v]) (KpL n₀ B C) (fun xs => xs = trL p ss set) (fun pre => pre <+: trL p ss set) (trL p ss set).length w :=
  fun l J Jx W hw hJ _ hY h0 => scales1_any m hm l B C n₀ W.heap.size p ss set w0 hP hok hn J Jx hJ hY W (hW.trans (hw.mono hnw)) (Nat.le_trans hnw hw.size) (hb.grown hb.lt hw) (cellB hc hw) h0
set_option maxRecDepth 100000 in
theorem scales_any (p : Pl) (set : Int) (w : World) :
    Calls Tryz.prog 102 #[.agg (lookV p), .int .i64 set] w fun e w' => e = .returned (.func (.func 136) #[] #[.pointer (some ⟨w.heap.size, 0, none⟩), .pointer (some ⟨w.heap.size + 1, 0, none⟩)]) ∧ w' = (w.alloc (.cells (lookV p) 70)).alloc (.cells #[.int .i64 set] 101) := by
  have hmf : ∀ (fn : Fn) (first cap : Array Value) (w : World), (Instr.makeFunc fn first cap).run Tryz.prog w = .ok (.func fn first cap) w := fun _ _ _ _ => rfl
  unfold lookV sideV
  go_enter Tryz.func102, Tryz.ntmps102
  go_wp2
  go_ret
  exact ⟨rfl, rfl⟩
end Go.Proofs.YtdkegkacpdkjgaaGreat
