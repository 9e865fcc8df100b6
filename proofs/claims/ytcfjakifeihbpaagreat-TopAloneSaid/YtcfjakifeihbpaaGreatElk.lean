/- Eye: looking at a watch. -/
import Derived.Test.YtcfjakifeihbpaaGreatEwt
import Derived.Maps.OwnRows
import Derived.Maps.AppendAt
namespace Go.Proofs.YtcfjakifeihbpaaGreat
namespace Ey
open Go.RowKit

def spanV (s : Int × Int) : List Value := [.int .i64 s.1, .int .i64 s.2]
theorem infoSp : (Tryz.prog.info? 24).map (fun i => (i.zero, i.size, i.bytes)) = some (some (.agg #[.int .i64 0, .int .i64 0]), 2, 16) := by kernel_rfl
theorem infoSpP : ∃ i, Tryz.prog.info? 24 = some i ∧ i.zero = some (.agg #[.int .i64 0, .int .i64 0]) ∧ i.size = 2 ∧ i.bytes = 16 := by
  have h := infoSp
  cases h1 : Tryz.prog.info? 24 with
  | none => rw [h1] at h; cases h
  | some i =>
    rw [h1] at h
    simp only [Option.map_some, Option.some.injEq, Prod.mk.injEq] at h
    exact ⟨i, rfl, h.1, h.2.1, h.2.2⟩
/-- A watch that is looked at. -/
structure IsW (w0 w : World) (L : Nat) (h : Wd) (tv : Value) (ts : List (Int × Int)) : Prop where
  nl : w0.heap.size ≤ L
  cells : w.heap[L]? = some (.cells #[.slice h.a h.n h.cap, .int .i64 h.eLo, .int .i64 h.eHi, .int .i64 h.images, .int .i64 h.eyes, .int .i64 h.hLo, .int .i64 h.hHi, .slice h.la h.ln h.lcap, tv] 62 (0, 0))
  row : w.ownsRow w0.heap.size 24 2 tv ts.length (ts.flatMap spanV)
theorem IsW.lt {w0 w : World} {L : Nat} {h : Wd} {tv : Value} {ts : List (Int × Int)} (k : IsW w0 w L h tv ts) : L < w.heap.size := (Array.getElem?_eq_some_iff.1 k.cells).1
theorem IsW.box {w0 w : World} {L : Nat} {h : Wd} {tv : Value} {ts : List (Int × Int)} (k : IsW w0 w L h tv ts) : BoxW w L h := by
  constructor <;> rw [cell_of_row w L _ _ _ _ k.cells] <;> rfl
theorem IsW.c8 {w0 w : World} {L : Nat} {h : Wd} {tv : Value} {ts : List (Int × Int)} (k : IsW w0 w L h tv ts) : w.cell? ⟨L, 8, none⟩ = some tv := by
  rw [cell_of_row w L _ _ _ _ k.cells]; rfl
theorem IsW.z8 {w0 w : World} {L : Nat} {h : Wd} {tv : Value} {ts : List (Int × Int)} (k : IsW w0 w L h tv ts) : w.frozen? ⟨L, 8, none⟩ = false := frozen_of_row w L 8 _ 62 k.cells
theorem IsW.grown {w0 w w' : World} {L : Nat} {h : Wd} {tv : Value} {ts : List (Int × Int)} (k : IsW w0 w L h tv ts) (hb : Below w.heap.size w w') : IsW w0 w' L h tv ts :=
  ⟨k.nl, (hb.block L k.lt).trans k.cells, k.row.kept (row := none) ⟨hb.os, hb.tape, hb.output, hb.size, fun i hi _ => hb.block i hi⟩ (by cases tv.ownBlock <;> simp)⟩
theorem IsW.apart {w0 w : World} {L : Nat} {h : Wd} {tv : Value} {ts : List (Int × Int)} (k : IsW w0 w L h tv ts) : some L ≠ tv.ownBlock := fun e => by
  rcases k.row.2 with ⟨hv, _⟩ | ⟨g', cap, cur, hv, _, hh, _⟩
  · rw [hv] at e; simp [Value.ownBlock] at e
  · rw [hv] at e; simp [Value.ownBlock] at e
    subst e
    have := k.cells; rw [hh] at this; injection this with this; injection this with h1 h2; cases h2
theorem IsW.put {w0 w w3 : World} {L : Nat} {h : Wd} {tv v' : Value} {ts : List (Int × Int)} {t : Int × Int} (k : IsW w0 w L h tv ts) (hg : w.grownBy w3 tv.ownBlock)
    (hown : w3.ownsRow w0.heap.size 24 2 v' (ts.length + 1) (ts.flatMap spanV ++ spanV t)) : IsW w0 (w3.setCell ⟨L, 8, none⟩ v') L h v' (ts ++ [t]) := by
  have hc3 := (hg.block L k.lt k.apart).trans k.cells
  refine ⟨k.nl, ?_, ?_⟩
  · rw [heap_setCell_same _ _ _ _ _ _ hc3]; rfl
  · have : v'.ownBlock ≠ some L := by
      rcases hown.2 with ⟨_, h0⟩ | ⟨g', cap, cur, hv, _, hh, _⟩
      · omega
      · rw [hv]; intro e; simp [Value.ownBlock] at e; subst e
        rw [hc3] at hh; injection hh with hh; injection hh with h1 h2; cases h2
    have hk := hown.kept (w' := w3.setCell ⟨L, 8, none⟩ v') (row := some L) ⟨rfl, rfl, rfl, by simp, fun i _ hn => Below.heap_setCell _ _ _ _ (fun e => hn (by rw [e]))⟩ (.inr this)
    simpa using hk

def travOf (h : Wd) (xs : List (Int × Int)) (l : LkV) : Int × Int := (trav l.2.2 (xs.getD (l.2.2 / 1000).toNat (0, 0)).1 h.eLo, trav l.2.2 (xs.getD (l.2.2 / 1000).toNat (0, 0)).2 h.eHi)
theorem travelR_of (h : Wd) (xs : List (Int × Int)) (l : LkV) (hs : saysB xs h.eLo h.eHi l.2.2 = true) : travelR xs h.eLo h.eHi l.2.2 = .ok (.agg #[.int .i64 (travOf h xs l).1, .int .i64 (travOf h xs l).2]) := by
  unfold saysB at hs
  rw [Bool.and_eq_true] at hs
  unfold travelR
  rw [hs.1, hs.2]; rfl
theorem validW_look {h : Wd} {xs : List (Int × Int)} {ls : List LkV} (hv : validW h xs ls = true) : ls.length ≤ 12 ∧ ∀ k, k < ls.length → lookB h xs (ls.getD k (0, 0, 0)) = true := by
  unfold validW at hv
  simp only [Bool.and_eq_true, decide_eq_true_eq] at hv
  refine ⟨hv.1.2, fun k hk => ?_⟩
  have e : ls.getD k (0, 0, 0) = ls[k] := by simp [List.getD, hk]
  rw [e]
  exact (List.all_eq_true.1 hv.2) _ (List.getElem_mem hk)
theorem row_succ {w : World} {base : Nat} {v : Value} {n : Nat} {xs : List Value} (h : w.ownsRow base 24 2 v (n + 1) xs) : ∃ g cap, v = .slice (some ⟨g, 0, none⟩) (n + 1) cap := by
  rcases h.2 with ⟨_, h0⟩ | ⟨g, cap, cur, hv, _⟩
  · omega
  · exact ⟨g, cap, hv⟩
end Ey
end Go.Proofs.YtcfjakifeihbpaaGreat
