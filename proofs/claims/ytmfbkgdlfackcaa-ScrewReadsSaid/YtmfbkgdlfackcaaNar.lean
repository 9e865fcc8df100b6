/- The bounds: a block of 64 numbers; how it is narrowed, read, and opened. -/
import Derived.Test.YtmfbkgdlfackcaaLeaf
import Derived.RegionTactic
import Derived.BigRegion
namespace Go.Proofs.Ytmfbkgdlfackcaa
open Go.RowKit

def gx (M : List Int) (k : Nat) : Int := M.getD k 0
theorem gx_set (M : List Int) (k j : Nat) (x : Int) (hk : k < M.length) : gx (M.set k x) j = if k = j then x else gx M j := by
  unfold gx
  simp only [List.getD_eq_getElem?_getD, List.getElem?_set]
  split
  · rfl
  · rfl
/-- Block B holds the numbers M, and can be written. -/
def IsB (w : World) (B : Nat) (M : List Int) : Prop := M.length = 64 ∧ ∀ k, k < 64 → w.cell? ⟨B, k, none⟩ = some (.int .i64 (gx M k)) ∧ w.frozen? ⟨B, k, none⟩ = false
theorem IsB.lt {w : World} {B : Nat} {M : List Int} (h : IsB w B M) : B < w.heap.size := World.block_lt_of_cell? w _ (h.2 0 (by omega)).1
theorem IsB.below {w w' : World} {B N : Nat} {M : List Int} (h : IsB w B M) (hb : Below N w w') (hB : B < N) : IsB w' B M :=
  ⟨h.1, fun k hk => by rw [hb.cell (p := ⟨B, k, none⟩) hB, hb.frozen (p := ⟨B, k, none⟩) hB]; exact h.2 k hk⟩
theorem IsB.alloc {w : World} {B : Nat} {M : List Int} (h : IsB w B M) (o : Obj) : IsB (w.alloc o) B M := h.below ((Below.refl w.heap.size w).alloc (Nat.le_refl _) o) h.lt
theorem IsB.drew {w : World} {B : Nat} {M : List Int} (h : IsB w B M) : IsB w.drew B M := h
theorem IsB.set {w : World} {B : Nat} {M : List Int} (h : IsB w B M) (p : Nat) (hp : p < 64) (x : Int) : IsB (w.setCell ⟨B, p, none⟩ (.int .i64 x)) B (M.set p x) := by
  refine ⟨by rw [List.length_set]; exact h.1, fun k hk => ⟨?_, by rw [World.frozen?_setCell]; exact (h.2 k hk).2⟩⟩
  rw [gx_set _ _ _ _ (by rw [h.1]; exact hp)]
  by_cases e : p = k
  · subst e; rw [if_pos rfl]; exact World.cell?_setCell_same w _ _ (h.2 p hp).1
  · rw [if_neg e, World.cell?_setCell_other _ _ _ _ (by intro he; injection he; omega)]; exact (h.2 k hk).1
/-- All but block B is as it was. -/
structure BX (B : Nat) (w w' : World) : Prop where
  os : w'.os = w.os
  tape : w'.tape = w.tape
  output : w'.output = w.output
  size : w.heap.size ≤ w'.heap.size
  block : ∀ k, k < w.heap.size → k ≠ B → w'.heap[k]? = w.heap[k]?
theorem BX.refl (B : Nat) (w : World) : BX B w w := ⟨rfl, rfl, rfl, Nat.le_refl _, fun _ _ _ => rfl⟩
theorem BX.trans {B : Nat} {a b c : World} (h : BX B a b) (k : BX B b c) : BX B a c :=
  ⟨k.os.trans h.os, k.tape.trans h.tape, k.output.trans h.output, Nat.le_trans h.size k.size, fun i hi hn => (k.block i (Nat.lt_of_lt_of_le hi h.size) hn).trans (h.block i hi hn)⟩
theorem BX.of {B : Nat} {w w' : World} (h : Below w.heap.size w w') : BX B w w' := ⟨h.os, h.tape, h.output, h.size, fun k hk _ => h.block k hk⟩
theorem BX.set (B p : Nat) (w : World) (v : Value) : BX B w (w.setCell ⟨B, p, none⟩ v) :=
  ⟨rfl, rfl, rfl, by simp, fun k _ hn => Below.heap_setCell _ _ _ _ hn⟩
theorem BX.alloc (B : Nat) (w : World) (o : Obj) : BX B w (w.alloc o) := .of ((Below.refl w.heap.size w).alloc (Nat.le_refl _) o)
theorem BX.drew (B : Nat) (w : World) : BX B w w.drew := .of ((Below.refl w.heap.size w).drew)
/-- A block of one's own may be written. -/
theorem BX.below {B N : Nat} {a w w' : World} (h : Below N a w) (hx : BX B w w') (hN : N ≤ B) (hs : N ≤ w.heap.size) : Below N a w' :=
  h.trans ⟨hx.os, hx.tape, hx.output, hx.size, fun k hk => hx.block k (by omega) (by omega)⟩
theorem BX.cell {B : Nat} {w w' : World} (hx : BX B w w') (b o : Nat) (hb : b < w.heap.size) (hn : b ≠ B) : w'.cell? ⟨b, o, none⟩ = w.cell? ⟨b, o, none⟩ :=
  World.cell?_of_block (w := w) (a := ⟨b, o, none⟩) (hx.block b hb hn)
theorem BX.frozen {B : Nat} {w w' : World} (hx : BX B w w') (b o : Nat) (hb : b < w.heap.size) (hn : b ≠ B) : w'.frozen? ⟨b, o, none⟩ = w.frozen? ⟨b, o, none⟩ :=
  World.frozen?_of_block (w := w) (a := ⟨b, o, none⟩) (hx.block b hb hn)
theorem BX.slots {B : Nat} {w w' : World} (hx : BX B w w') {b n : Nat} (hs : Slots b n w) (hb : b < w.heap.size) (hn : b ≠ B) : Slots b n w' := fun o ho => by
  rw [hx.cell b o hb hn, hx.frozen b o hb hn]; exact hs o ho

/-- Go's min of two numbers, as the walk writes it. -/
def mn (x h : Int) : Int := if h < x then h else x
def narrow1 (M : List Int) (p : Nat) (h : Int) : List Int := M.set p (mn (gx M p) h)
def narrowM (M : List Int) (i j : Nat) (lo hi : Int) : List Int := narrow1 (narrow1 M (i * 8 + j) hi) (j * 8 + i) (wrap64 (-lo))

set_option maxRecDepth 100000 in
set_option maxHeartbeats 1000000 in
theorem narrow_any (B i j : Nat) (hi : i < 8) (hj : j < 8) (M : List Int) (lo hh : Int) (w : World) (h : IsB w B M) :
    Calls Try.prog 101 #[.pointer (some ⟨B, 0, none⟩), .int .i64 i, .int .i64 j, .agg #[.int .i64 lo, .int .i64 hh]] w (fun e w' => e = .returned (.tuple #[]) ∧ BX B w w' ∧ IsB w' B (narrowM M i j lo hh)) := by
  have HB := Lib.hid h; clear h
  obtain ⟨c1, f1⟩ := HB.out.2 (i * 8 + j) (by omega)
  have hbw : B < w.heap.size := HB.out.lt
  have E1 : Hid (narrow1 M (i * 8 + j) hh = M.set (i * 8 + j) (if hh < gx M (i * 8 + j) then hh else gx M (i * 8 + j))) := rfl
  generalize gx M (i * 8 + j) = x at *
  have i0 : (0 : Int) ≤ (i : Int) := by omega
  have i1 : (i : Int) < 8 := by omega
  have j0 : (0 : Int) ≤ (j : Int) := by omega
  have j1 : (j : Int) < 8 := by omega
  go_enter Try.func101, Try.ntmps101
  go_wp2_with fail
  go_region
  generalize hv : (if hh < x then hh else x) = v at *
  clear hv
  go_wp2_with fail
  obtain ⟨W, hW⟩ : ∃ W, ((w.setCell { block := B, off := i * 8 + j } (Value.int IntKind.i64 v)).alloc (Obj.cells #[Value.int IntKind.i64 lo, Value.int IntKind.i64 hh] 72)).drew = W := ⟨_, rfl⟩
  have HB2 : IsB W B (narrow1 M (i * 8 + j) hh) := by rw [← hW, E1.out]; exact ((HB.out.set _ (by omega) _).alloc _).drew
  have hX : BX B w W := by rw [← hW]; exact ((BX.set _ _ _ _).trans (BX.alloc _ _ _)).trans (BX.drew _ _)
  have s0 : W.heap.size = w.heap.size + 1 := by rw [← hW]; simp
  have b0 : W.cell? ⟨w.heap.size, 0, none⟩ = some (.int .i64 lo) := by rw [← hW]; simp [go_sem]
  rw [hW]
  clear hW
  have E2 : Hid (narrowM M i j lo hh = (narrow1 M (i * 8 + j) hh).set (j * 8 + i) (if wrap64 (-lo) < gx (narrow1 M (i * 8 + j) hh) (j * 8 + i) then wrap64 (-lo) else gx (narrow1 M (i * 8 + j) hh) (j * 8 + i))) := rfl
  generalize narrow1 M (i * 8 + j) hh = M' at *
  clear c1 f1
  obtain ⟨c2, f2⟩ := HB2.2 (j * 8 + i) (by omega)
  have HB3 := Lib.hid HB2; clear HB2
  have HX := Lib.hid hX; clear hX
  generalize gx M' (j * 8 + i) = y at *
  go_region
  generalize hv : (if wrap64 (-lo) < y then wrap64 (-lo) else y) = u at *
  clear hv
  go_wp2
  go_end0
  refine ⟨rfl, HX.out.trans ((BX.set _ _ _ _).trans (BX.drew _ _)), ?_⟩
  rw [E2.out]
  exact (HB3.out.set _ (by omega) _).drew

set_option maxRecDepth 100000 in
set_option maxHeartbeats 1000000 in
theorem between_any (B i j : Nat) (hi : i < 8) (hj : j < 8) (M : List Int) (w : World) (h : IsB w B M) :
    Calls Try.prog 60 #[.pointer (some ⟨B, 0, none⟩), .int .i64 i, .int .i64 j] w (Ret (.agg #[.int .i64 (wrap64 (-(gx M (j * 8 + i)))), .int .i64 (gx M (i * 8 + j))]) w) := by
  have HB := Lib.hid h; clear h
  obtain ⟨c1, f1⟩ := HB.out.2 (i * 8 + j) (by omega)
  obtain ⟨c2, f2⟩ := HB.out.2 (j * 8 + i) (by omega)
  have hbw : B < w.heap.size := HB.out.lt
  generalize gx M (i * 8 + j) = x at *
  generalize gx M (j * 8 + i) = y at *
  have i0 : (0 : Int) ≤ (i : Int) := by omega
  have i1 : (i : Int) < 8 := by omega
  have j0 : (0 : Int) ≤ (j : Int) := by omega
  have j1 : (j : Int) < 8 := by omega
  clear f1 f2
  go_enter Try.func60, Try.ntmps60
  go_wp2_with fail
  go_region
  go_wp2
  refine bodyPost_ret (v := .agg #[.int .i64 (wrap64 (-y)), .int .i64 x]) (by simp [results, Try.results60, go_sem]) rfl ⟨rfl, ?_⟩
  (repeat (first | assumption | exact Below.refl _ _ | refine BA ?_ _ | refine BC ?_ _ _ (by omega) _ | refine Below.drew ?_ | refine BT ?_ (by assumption)))

/-- No bound. -/
def farN : Int := 1073741824
def shortStep (M : List Int) (f b t : Nat) : List Int :=
  if (gx M (f * 8 + b) != 1073741824) = true ∧ (gx M (b * 8 + t) != 1073741824) = true then M.set (f * 8 + t) (if wrap64 (gx M (f * 8 + b) + gx M (b * 8 + t)) < gx M (f * 8 + t) then wrap64 (gx M (f * 8 + b) + gx M (b * 8 + t)) else gx M (f * 8 + t)) else M

set_option maxRecDepth 100000 in
set_option maxHeartbeats 1000000 in
theorem short1_any (B V f b t : Nat) (hf : f < 8) (hb : b < 8) (ht : t < 8) (M : List Int) (w : World) (h : IsB w B M) (hv : w.cell? ⟨V, 0, none⟩ = some (.pointer (some ⟨B, 0, none⟩))) :
    Calls Try.prog 106 #[.int .i64 f, .int .i64 b, .int .i64 t, .pointer (some ⟨V, 0, none⟩)] w (fun e w' => e = .returned (.tuple #[]) ∧ BX B w w' ∧ IsB w' B (shortStep M f b t)) := by
  have HB := Lib.hid h; clear h
  obtain ⟨c1, f1⟩ := HB.out.2 (f * 8 + b) (by omega)
  obtain ⟨c2, f2⟩ := HB.out.2 (b * 8 + t) (by omega)
  obtain ⟨c3, f3⟩ := HB.out.2 (f * 8 + t) (by omega)
  have E : Hid (shortStep M f b t = if (gx M (f * 8 + b) != 1073741824) = true ∧ (gx M (b * 8 + t) != 1073741824) = true then M.set (f * 8 + t) (if wrap64 (gx M (f * 8 + b) + gx M (b * 8 + t)) < gx M (f * 8 + t) then wrap64 (gx M (f * 8 + b) + gx M (b * 8 + t)) else gx M (f * 8 + t)) else M) := rfl
  generalize gx M (f * 8 + b) = x at *
  generalize gx M (b * 8 + t) = y at *
  generalize gx M (f * 8 + t) = z at *
  have i0 : (0 : Int) ≤ (f : Int) := by omega
  have i1 : (f : Int) < 8 := by omega
  have j0 : (0 : Int) ≤ (b : Int) := by omega
  have j1 : (b : Int) < 8 := by omega
  have k0 : (0 : Int) ≤ (t : Int) := by omega
  have k1 : (t : Int) < 8 := by omega
  clear f1 f2
  cases hx : (x != 1073741824)
  · have E2 : Hid (shortStep M f b t = M) := E.out.trans (if_neg (by simp [hx]))
    go_enter Try.func106, Try.ntmps106
    go_wp2
    go_end0
    exact ⟨rfl, BX.refl _ _, by rw [E2.out]; exact HB.out⟩
  · cases hy : (y != 1073741824)
    · have E2 : Hid (shortStep M f b t = M) := E.out.trans (if_neg (by simp [hy]))
      go_enter Try.func106, Try.ntmps106
      go_wp2
      go_end0
      exact ⟨rfl, BX.refl _ _, by rw [E2.out]; exact HB.out⟩
    · have E2 := Lib.hid (E.out.trans (if_pos ⟨hx, hy⟩))
      clear E
      go_enter Try.func106, Try.ntmps106
      go_wp2_with fail
      go_region
      generalize hu : (if wrap64 (x + y) < z then wrap64 (x + y) else z) = u at *
      clear hu
      go_wp2
      go_end0
      refine ⟨rfl, (BX.set _ _ _ _).trans (BX.drew _ _), ?_⟩
      rw [E2.out]
      exact (HB.out.set _ (by omega) _).drew

def contra (M : List Int) : Bool := (List.range 8).any fun i => decide (gx M (i * 8 + i) < 0)
theorem contradict_any (B : Nat) (M : List Int) (w : World) (h : IsB w B M) :
    Calls Try.prog 107 #[.pointer (some ⟨B, 0, none⟩)] w (fun e w' => e = .returned (.bool (contra M)) ∧ w' = w) := by
  have HB := Lib.hid h; clear h
  go_enter Try.func107, Try.ntmps107
  go_wp2
  go_loop [4] (fun i => ∃ k : Nat, k ≤ 8 ∧ i = .int .i64 k ∧ Hid ((List.range k).any (fun i => decide (gx M (i * 8 + i) < 0)) = false)) (fun i => 8 - (intOf i).toNat)
  case atStart => exact ⟨0, by omega, rfl, rfl⟩
  case round =>
    obtain ⟨k, hk, rfl, HR⟩ := hrel
    by_cases hlt : k < 8
    · have hc := (HB.out.2 (k * 8 + k) (by omega)).1
      have e1 : Hid (gx M (k * 8 + k) < 0 → contra M = true) := fun h => by
        unfold contra
        rw [List.any_eq_true]
        exact ⟨k, List.mem_range.2 hlt, by simpa using h⟩
      have e2 : Hid (0 ≤ gx M (k * 8 + k) → (List.range (k + 1)).any (fun i => decide (gx M (i * 8 + i) < 0)) = false) := fun h => by
        rw [List.range_succ, List.any_append, HR.out]
        simp; omega
      generalize gx M (k * 8 + k) = x at *
      by_cases hx : x < 0
      · go_wp2
        go_ret
        exact ⟨by rw [e1.out hx]; rfl, rfl⟩
      · go_wp2
        go_round
        case rel => exact ⟨k + 1, by omega, by go_num, e2.out (by omega)⟩
        case measure => simp [intOf]; omega
    · obtain rfl : k = 8 := by omega
      go_wp2
      go_ret
      exact ⟨by have := HR.out; unfold contra; rw [this]; rfl, rfl⟩
end Go.Proofs.Ytmfbkgdlfackcaa
