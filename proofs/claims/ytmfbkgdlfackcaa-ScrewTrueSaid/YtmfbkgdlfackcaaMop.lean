/- The bounds: a block of 64 numbers; how it is narrowed, read, and opened. -/
import Derived.Test.YtmfbkgdlfackcaaLeaf
import Derived.RegionTactic
import Derived.BigRegion
import Derived.Deep.MidRow
namespace Go.Proofs.Ytmfbkgdlfackcaa
open Go.RowKit

def gx (M : List Int) (k : Nat) : Int := M.getD k 0
theorem gx_set (M : List Int) (k j : Nat) (x : Int) (hk : k < M.length) : gx (M.set k x) j = if k = j then x else gx M j := by
  unfold gx
  simp only [List.getD_eq_getElem?_getD, List.getElem?_set]
  split
  · rfl
  · rfl
/-- Block B holds the numbers M, and can be written. -/
def IsB (w : World) (B : Nat) (M : List Int) : Prop := M.length = 64 ∧ ∀ k, k < 64 → w.cell? ⟨B, k, none⟩ = some (.int .i64 (gx M k)) ∧ w.frozen? ⟨B, k, none⟩ = false
theorem IsB.lt {w : World} {B : Nat} {M : List Int} (h : IsB w B M) : B < w.heap.size := World.block_lt_of_cell? w _ (h.2 0 (by omega)).1
theorem IsB.below {w w' : World} {B N : Nat} {M : List Int} (h : IsB w B M) (hb : Below N w w') (hB : B < N) : IsB w' B M :=
  ⟨h.1, fun k hk => by rw [hb.cell (p := ⟨B, k, none⟩) hB, hb.frozen (p := ⟨B, k, none⟩) hB]; exact h.2 k hk⟩
theorem IsB.alloc {w : World} {B : Nat} {M : List Int} (h : IsB w B M) (o : Obj) : IsB (w.alloc o) B M := h.below ((Below.refl w.heap.size w).alloc (Nat.le_refl _) o) h.lt
theorem IsB.drew {w : World} {B : Nat} {M : List Int} (h : IsB w B M) : IsB w.drew B M := h
theorem IsB.set {w : World} {B : Nat} {M : List Int} (h : IsB w B M) (p : Nat) (hp : p < 64) (x : Int) : IsB (w.setCell ⟨B, p, none⟩ (.int .i64 x)) B (M.set p x) := by
  refine ⟨by rw [List.length_set]; exact h.1, fun k hk => ⟨?_, by rw [World.frozen?_setCell]; exact (h.2 k hk).2⟩⟩
  rw [gx_set _ _ _ _ (by rw [h.1]; exact hp)]
  by_cases e : p = k
  · subst e; rw [if_pos rfl]; exact World.cell?_setCell_same w _ _ (h.2 p hp).1
  · rw [if_neg e, World.cell?_setCell_other _ _ _ _ (by intro he; injection he; omega)]; exact (h.2 k hk).1
/-- All but block B is as it was. -/
structure BX (B : Nat) (w w' : World) : Prop where
  os : w'.os = w.os
  tape : w'.tape = w.tape
  output : w'.output = w.output
  size : w.heap.size ≤ w'.heap.size
  block : ∀ k, k < w.heap.size → k ≠ B → w'.heap[k]? = w.heap[k]?
theorem BX.refl (B : Nat) (w : World) : BX B w w := ⟨rfl, rfl, rfl, Nat.le_refl _, fun _ _ _ => rfl⟩
theorem BX.trans {B : Nat} {a b c : World} (h : BX B a b) (k : BX B b c) : BX B a c :=
  ⟨k.os.trans h.os, k.tape.trans h.tape, k.output.trans h.output, Nat.le_trans h.size k.size, fun i hi hn => (k.block i (Nat.lt_of_lt_of_le hi h.size) hn).trans (h.block i hi hn)⟩
theorem BX.of {B : Nat} {w w' : World} (h : Below w.heap.size w w') : BX B w w' := ⟨h.os, h.tape, h.output, h.size, fun k hk _ => h.block k hk⟩
theorem BX.set (B p : Nat) (w : World) (v : Value) : BX B w (w.setCell ⟨B, p, none⟩ v) :=
  ⟨rfl, rfl, rfl, by simp, fun k _ hn => Below.heap_setCell _ _ _ _ hn⟩
theorem BX.alloc (B : Nat) (w : World) (o : Obj) : BX B w (w.alloc o) := .of ((Below.refl w.heap.size w).alloc (Nat.le_refl _) o)
theorem BX.drew (B : Nat) (w : World) : BX B w w.drew := .of ((Below.refl w.heap.size w).drew)
/-- A block of one's own may be written. -/
theorem BX.below {B N : Nat} {a w w' : World} (h : Below N a w) (hx : BX B w w') (hN : N ≤ B) (hs : N ≤ w.heap.size) : Below N a w' :=
  h.trans ⟨hx.os, hx.tape, hx.output, hx.size, fun k hk => hx.block k (by omega) (by omega)⟩
theorem BX.cell {B : Nat} {w w' : World} (hx : BX B w w') (b o : Nat) (hb : b < w.heap.size) (hn : b ≠ B) : w'.cell? ⟨b, o, none⟩ = w.cell? ⟨b, o, none⟩ :=
  World.cell?_of_block (w := w) (a := ⟨b, o, none⟩) (hx.block b hb hn)
theorem BX.frozen {B : Nat} {w w' : World} (hx : BX B w w') (b o : Nat) (hb : b < w.heap.size) (hn : b ≠ B) : w'.frozen? ⟨b, o, none⟩ = w.frozen? ⟨b, o, none⟩ :=
  World.frozen?_of_block (w := w) (a := ⟨b, o, none⟩) (hx.block b hb hn)
theorem BX.slots {B : Nat} {w w' : World} (hx : BX B w w') {b n : Nat} (hs : Slots b n w) (hb : b < w.heap.size) (hn : b ≠ B) : Slots b n w' := fun o ho => by
  rw [hx.cell b o hb hn, hx.frozen b o hb hn]; exact hs o ho

/-- Go's min of two numbers, as the walk writes it. -/
def mn (x h : Int) : Int := if h < x then h else x
def narrow1 (M : List Int) (p : Nat) (h : Int) : List Int := M.set p (mn (gx M p) h)
def narrowM (M : List Int) (i j : Nat) (lo hi : Int) : List Int := narrow1 (narrow1 M (i * 8 + j) hi) (j * 8 + i) (wrap64 (-lo))

set_option maxRecDepth 100000 in
set_option maxHeartbeats 1000000 in
theorem narrow_any (B i j : Nat) (hi : i < 8) (hj : j < 8) (M : List Int) (lo hh : Int) (w : World) (h : IsB w B M) :
    Calls Try.prog 101 #[.pointer (some ⟨B, 0, none⟩), .int .i64 i, .int .i64 j, .agg #[.int .i64 lo, .int .i64 hh]] w (fun e w' => e = .returned (.tuple #[]) ∧ BX B w w' ∧ IsB w' B (narrowM M i j lo hh)) := by
  have HB := Lib.hid h; clear h
  obtain ⟨c1, f1⟩ := HB.out.2 (i * 8 + j) (by omega)
  have hbw : B < w.heap.size := HB.out.lt
  have E1 : Hid (narrow1 M (i * 8 + j) hh = M.set (i * 8 + j) (if hh < gx M (i * 8 + j) then hh else gx M (i * 8 + j))) := rfl
  generalize gx M (i * 8 + j) = x at *
  have i0 : (0 : Int) ≤ (i : Int) := by omega
  have i1 : (i : Int) < 8 := by omega
  have j0 : (0 : Int) ≤ (j : Int) := by omega
  have j1 : (j : Int) < 8 := by omega
  go_enter Try.func101, Try.ntmps101
  go_wp2_with fail
  go_region
  generalize hv : (if hh < x then hh else x) = v at *
  clear hv
  go_wp2_with fail
  obtain ⟨W, hW⟩ : ∃ W, ((w.setCell { block := B, off := i * 8 + j } (Value.int IntKind.i64 v)).alloc (Obj.cells #[Value.int IntKind.i64 lo, Value.int IntKind.i64 hh] 72)).drew = W := ⟨_, rfl⟩
  have HB2 : IsB W B (narrow1 M (i * 8 + j) hh) := by rw [← hW, E1.out]; exact ((HB.out.set _ (by omega) _).alloc _).drew
  have hX : BX B w W := by rw [← hW]; exact ((BX.set _ _ _ _).trans (BX.alloc _ _ _)).trans (BX.drew _ _)
  have s0 : W.heap.size = w.heap.size + 1 := by rw [← hW]; simp
  have b0 : W.cell? ⟨w.heap.size, 0, none⟩ = some (.int .i64 lo) := by rw [← hW]; simp [go_sem]
  rw [hW]
  clear hW
  have E2 : Hid (narrowM M i j lo hh = (narrow1 M (i * 8 + j) hh).set (j * 8 + i) (if wrap64 (-lo) < gx (narrow1 M (i * 8 + j) hh) (j * 8 + i) then wrap64 (-lo) else gx (narrow1 M (i * 8 + j) hh) (j * 8 + i))) := rfl
  generalize narrow1 M (i * 8 + j) hh = M' at *
  clear c1 f1
  obtain ⟨c2, f2⟩ := HB2.2 (j * 8 + i) (by omega)
  have HB3 := Lib.hid HB2; clear HB2
  have HX := Lib.hid hX; clear hX
  generalize gx M' (j * 8 + i) = y at *
  go_region
  generalize hv : (if wrap64 (-lo) < y then wrap64 (-lo) else y) = u at *
  clear hv
  go_wp2
  go_end0
  refine ⟨rfl, HX.out.trans ((BX.set _ _ _ _).trans (BX.drew _ _)), ?_⟩
  rw [E2.out]
  exact (HB3.out.set _ (by omega) _).drew

set_option maxRecDepth 100000 in
set_option maxHeartbeats 1000000 in
theorem between_any (B i j : Nat) (hi : i < 8) (hj : j < 8) (M : List Int) (w : World) (h : IsB w B M) :
    Calls Try.prog 60 #[.pointer (some ⟨B, 0, none⟩), .int .i64 i, .int .i64 j] w (Ret (.agg #[.int .i64 (wrap64 (-(gx M (j * 8 + i)))), .int .i64 (gx M (i * 8 + j))]) w) := by
  have HB := Lib.hid h; clear h
  obtain ⟨c1, f1⟩ := HB.out.2 (i * 8 + j) (by omega)
  obtain ⟨c2, f2⟩ := HB.out.2 (j * 8 + i) (by omega)
  have hbw : B < w.heap.size := HB.out.lt
  generalize gx M (i * 8 + j) = x at *
  generalize gx M (j * 8 + i) = y at *
  have i0 : (0 : Int) ≤ (i : Int) := by omega
  have i1 : (i : Int) < 8 := by omega
  have j0 : (0 : Int) ≤ (j : Int) := by omega
  have j1 : (j : Int) < 8 := by omega
  clear f1 f2
  go_enter Try.func60, Try.ntmps60
  go_wp2_with fail
  go_region
  go_wp2
  refine bodyPost_ret (v := .agg #[.int .i64 (wrap64 (-y)), .int .i64 x]) (by simp [results, Try.results60, go_sem]) rfl ⟨rfl, ?_⟩
  (repeat (first | assumption | exact Below.refl _ _ | refine BA ?_ _ | refine BC ?_ _ _ (by omega) _ | refine Below.drew ?_ | refine BT ?_ (by assumption)))

/-- No bound. -/
def farN : Int := 1073741824
def shortStep (M : List Int) (f b t : Nat) : List Int :=
  if (gx M (f * 8 + b) != 1073741824) = true ∧ (gx M (b * 8 + t) != 1073741824) = true then M.set (f * 8 + t) (if wrap64 (gx M (f * 8 + b) + gx M (b * 8 + t)) < gx M (f * 8 + t) then wrap64 (gx M (f * 8 + b) + gx M (b * 8 + t)) else gx M (f * 8 + t)) else M

set_option maxRecDepth 100000 in
set_option maxHeartbeats 1000000 in
theorem short1_any (B V f b t : Nat) (hf : f < 8) (hb : b < 8) (ht : t < 8) (M : List Int) (w : World) (h : IsB w B M) (hv : w.cell? ⟨V, 0, none⟩ = some (.pointer (some ⟨B, 0, none⟩))) :
    Calls Try.prog 106 #[.int .i64 f, .int .i64 b, .int .i64 t, .pointer (some ⟨V, 0, none⟩)] w (fun e w' => e = .returned (.tuple #[]) ∧ BX B w w' ∧ IsB w' B (shortStep M f b t)) := by
  have HB := Lib.hid h; clear h
  obtain ⟨c1, f1⟩ := HB.out.2 (f * 8 + b) (by omega)
  obtain ⟨c2, f2⟩ := HB.out.2 (b * 8 + t) (by omega)
  obtain ⟨c3, f3⟩ := HB.out.2 (f * 8 + t) (by omega)
  have E : Hid (shortStep M f b t = if (gx M (f * 8 + b) != 1073741824) = true ∧ (gx M (b * 8 + t) != 1073741824) = true then M.set (f * 8 + t) (if wrap64 (gx M (f * 8 + b) + gx M (b * 8 + t)) < gx M (f * 8 + t) then wrap64 (gx M (f * 8 + b) + gx M (b * 8 + t)) else gx M (f * 8 + t)) else M) := rfl
  generalize gx M (f * 8 + b) = x at *
  generalize gx M (b * 8 + t) = y at *
  generalize gx M (f * 8 + t) = z at *
  have i0 : (0 : Int) ≤ (f : Int) := by omega
  have i1 : (f : Int) < 8 := by omega
  have j0 : (0 : Int) ≤ (b : Int) := by omega
  have j1 : (b : Int) < 8 := by omega
  have k0 : (0 : Int) ≤ (t : Int) := by omega
  have k1 : (t : Int) < 8 := by omega
  clear f1 f2
  cases hx : (x != 1073741824)
  · have E2 : Hid (shortStep M f b t = M) := E.out.trans (if_neg (by simp [hx]))
    go_enter Try.func106, Try.ntmps106
    go_wp2
    go_end0
    exact ⟨rfl, BX.refl _ _, by rw [E2.out]; exact HB.out⟩
  · cases hy : (y != 1073741824)
    · have E2 : Hid (shortStep M f b t = M) := E.out.trans (if_neg (by simp [hy]))
      go_enter Try.func106, Try.ntmps106
      go_wp2
      go_end0
      exact ⟨rfl, BX.refl _ _, by rw [E2.out]; exact HB.out⟩
    · have E2 := Lib.hid (E.out.trans (if_pos ⟨hx, hy⟩))
      clear E
      go_enter Try.func106, Try.ntmps106
      go_wp2_with fail
      go_region
      generalize hu : (if wrap64 (x + y) < z then wrap64 (x + y) else z) = u at *
      clear hu
      go_wp2
      go_end0
      refine ⟨rfl, (BX.set _ _ _ _).trans (BX.drew _ _), ?_⟩
      rw [E2.out]
      exact (HB.out.set _ (by omega) _).drew

def contra (M : List Int) : Bool := (List.range 8).any fun i => decide (gx M (i * 8 + i) < 0)
theorem contradict_any (B : Nat) (M : List Int) (w : World) (h : IsB w B M) :
    Calls Try.prog 107 #[.pointer (some ⟨B, 0, none⟩)] w (fun e w' => e = .returned (.bool (contra M)) ∧ w' = w) := by
  have HB := Lib.hid h; clear h
  go_enter Try.func107, Try.ntmps107
  go_wp2
  go_loop [4] (fun i => ∃ k : Nat, k ≤ 8 ∧ i = .int .i64 k ∧ Hid ((List.range k).any (fun i => decide (gx M (i * 8 + i) < 0)) = false)) (fun i => 8 - (intOf i).toNat)
  case atStart => exact ⟨0, by omega, rfl, rfl⟩
  case round =>
    obtain ⟨k, hk, rfl, HR⟩ := hrel
    by_cases hlt : k < 8
    · have hc := (HB.out.2 (k * 8 + k) (by omega)).1
      have e1 : Hid (gx M (k * 8 + k) < 0 → contra M = true) := fun h => by
        unfold contra
        rw [List.any_eq_true]
        exact ⟨k, List.mem_range.2 hlt, by simpa using h⟩
      have e2 : Hid (0 ≤ gx M (k * 8 + k) → (List.range (k + 1)).any (fun i => decide (gx M (i * 8 + i) < 0)) = false) := fun h => by
        rw [List.range_succ, List.any_append, HR.out]
        simp; omega
      generalize gx M (k * 8 + k) = x at *
      by_cases hx : x < 0
      · go_wp2
        go_ret
        exact ⟨by rw [e1.out hx]; rfl, rfl⟩
      · go_wp2
        go_round
        case rel => exact ⟨k + 1, by omega, by go_num, e2.out (by omega)⟩
        case measure => simp [intOf]; omega
    · obtain rfl : k = 8 := by omega
      go_wp2
      go_ret
      exact ⟨by have := HR.out; unfold contra; rw [this]; rfl, rfl⟩
end Go.Proofs.Ytmfbkgdlfackcaa

/- The bounds made as short as all of them together do. -/
namespace Go.Proofs.Ytmfbkgdlfackcaa
open Go.RowKit

def itS (f : Nat → List Int → List Int) : Nat → List Int → List Int
  | 0, M => M
  | k + 1, M => f k (itS f k M)
def rowS (b f : Nat) (M : List Int) : List Int := itS (fun t M => shortStep M f b t) 8 M
def roundS (b : Nat) (M : List Int) : List Int := itS (fun f M => rowS b f M) 8 M
/-- Whether no contradiction was found in the first rounds, and what the bounds are then. -/
def shortS : Nat → List Int → Bool × List Int
  | 0, M => (true, M)
  | k + 1, M => if (shortS k M).1 then (!contra (roundS k (shortS k M).2), roundS k (shortS k M).2) else shortS k M
theorem contradict_b (B : Nat) (M : List Int) (b : Bool) (w : World) (h : IsB w B M) (hb : contra M = b) :
    Calls Try.prog 107 #[.pointer (some ⟨B, 0, none⟩)] w (fun e w' => e = .returned (.bool b) ∧ w' = w) := by
  rw [← hb]; exact contradict_any B M w h
theorem shortS_stop (M : List Int) (k : Nat) (h : (shortS k M).1 = false) : ∀ j, shortS (k + j) M = shortS k M := by
  intro j
  induction j with
  | zero => rfl
  | succ j ih => show shortS ((k + j) + 1) M = _; rw [shortS, ih, h]; rfl

set_option maxRecDepth 100000 in
set_option maxHeartbeats 1000000 in
theorem shorten_any (B : Nat) (M : List Int) (w : World) (h : IsB w B M) :
    Calls Try.prog 102 #[.pointer (some ⟨B, 0, none⟩)] w (fun e w' => e = .returned (.bool (shortS 8 M).1) ∧ BX B w w' ∧ IsB w' B (shortS 8 M).2) := by
  have hbw : B < w.heap.size := h.lt
  have HB := Lib.hid h; clear h
  go_enter Try.func102, Try.ntmps102
  go_wp2
  go_loopw [8] (fun i wr => ∃ k : Nat, k ≤ 8 ∧ i = .int .i64 k ∧ Hid ((shortS k M).1 = true) ∧ IsB wr B (shortS k M).2 ∧ BX B w wr ∧ wr.cell? ⟨w.heap.size, 0, none⟩ = some (.pointer (some ⟨B, 0, none⟩)) ∧ w.heap.size < wr.heap.size) (fun i _ => 8 - (intOf i).toNat)
  case atStart => exact ⟨0, by omega, rfl, rfl, HB.out.alloc _, BX.alloc _ _ _, by simp, by simp⟩
  case round =>
    obtain ⟨k, hk, rfl, HT, hI, hX, hV, hN⟩ := hrel
    by_cases hlt : k < 8
    · have HE : Hid (shortS (k + 1) M = (!contra (roundS k (shortS k M).2), roundS k (shortS k M).2)) := by show _ = _; rw [shortS, if_pos HT.out]
      have HS := Lib.hid (shortS_stop M (k + 1))
      generalize (shortS k M).2 = M1 at *
      have hkb : decide ((k : Int) < 8) = true := by simp; omega
      obtain ⟨wo, rfl⟩ : ∃ wo : World, wo = wr := ⟨_, rfl⟩
      have HI := Lib.hid hI; clear hI
      have HX := Lib.hid hX; clear hX
      go_wp2_with fail
      go_loopw [11] (fun i wr => ∃ j : Nat, j ≤ 8 ∧ i = .int .i64 j ∧ IsB wr B (itS (fun f M => rowS k f M) j M1) ∧ BX B wo wr ∧ wr.cell? ⟨w.heap.size, 0, none⟩ = some (.pointer (some ⟨B, 0, none⟩)) ∧ w.heap.size < wr.heap.size) (fun i _ => 8 - (intOf i).toNat)
      case atStart => exact ⟨0, by omega, rfl, HI.out, BX.refl _ _, hV, hN⟩
      case round =>
        clear hV hN
        obtain ⟨j, hj, rfl, hI, hX, hV, hN⟩ := hrel
        by_cases hlj : j < 8
        · have HE2 : Hid (itS (fun f M => rowS k f M) (j + 1) M1 = rowS k j (itS (fun f M => rowS k f M) j M1)) := rfl
          generalize itS (fun f M => rowS k f M) j M1 = M2 at *
          have hjb : decide ((j : Int) < 8) = true := by simp; omega
          obtain ⟨wi, rfl⟩ : ∃ wi : World, wi = wr := ⟨_, rfl⟩
          have HI2 := Lib.hid hI; clear hI
          have HX2 := Lib.hid hX; clear hX
          go_wp2_with fail
          go_loopw [14] (fun i wr => ∃ t : Nat, t ≤ 8 ∧ i = .int .i64 t ∧ IsB wr B (itS (fun t M => shortStep M j k t) t M2) ∧ BX B wi wr ∧ wr.cell? ⟨w.heap.size, 0, none⟩ = some (.pointer (some ⟨B, 0, none⟩)) ∧ w.heap.size < wr.heap.size) (fun i _ => 8 - (intOf i).toNat)
          case atStart => exact ⟨0, by omega, rfl, HI2.out, BX.refl _ _, hV, hN⟩
          case round =>
            clear hV hN
            obtain ⟨t, ht, rfl, hI, hX, hV, hN⟩ := hrel
            by_cases hltt : t < 8
            · have HI3 := Lib.hid hI; clear hI
              have HX3 := Lib.hid hX; clear hX
              go_wp2_with (first | (go_at_call 106; refine (short1_any B w.heap.size j k t hlj hlt hltt _ _ HI3.out hV).mono ?_; rintro e w1 ⟨rfl, hx1, hi1⟩))
              go_roundw
              case rel => exact ⟨t + 1, by omega, by go_num, hi1, HX3.out.trans hx1, (hx1.cell _ _ hN (by omega)).trans hV, Nat.lt_of_lt_of_le hN hx1.size⟩
              case measure => simp [intOf]; omega
            · obtain rfl : t = 8 := by omega
              go_wp2_with fail
              go_roundw
              case rel => exact ⟨j + 1, by omega, by go_num, by rw [HE2.out]; exact hI, HX2.out.trans hX, hV, hN⟩
              case measure => simp [intOf]; omega
        · obtain rfl : j = 8 := by omega
          have HI2 := Lib.hid hI; clear hI
          have HX2 := Lib.hid hX; clear hX
          have hcc2 : (itS (fun f M => rowS k f M) 8 M1) = roundS k M1 := rfl
          rw [hcc2] at HI2
          clear hcc2
          generalize roundS k M1 = M3 at *
          cases hct : contra M3
          · have HC := Lib.hid hct; clear hct
            go_wp2_with (first | (go_at_call 107; refine (contradict_b B _ _ _ HI2.out HC.out).mono ?_; rintro e w1 ⟨rfl, rfl⟩))
            go_roundw
            case rel => exact ⟨k + 1, by omega, by go_num, by show _ = _; rw [HE.out, HC.out]; rfl, by rw [HE.out]; exact HI2.out, HX.out.trans HX2.out, hV, hN⟩
            case measure => simp [intOf]; omega
          · have HC := Lib.hid hct; clear hct
            go_wp2_with (first | (go_at_call 107; refine (contradict_b B _ _ _ HI2.out HC.out).mono ?_; rintro e w1 ⟨rfl, rfl⟩))
            go_ret
            have h8 : shortS 8 M = shortS (k + 1) M := by
              have := HS.out (by rw [HE.out, HC.out]; rfl) (7 - k)
              rwa [show k + 1 + (7 - k) = 8 by omega] at this
            exact ⟨by rw [h8, HE.out, HC.out]; rfl, HX.out.trans HX2.out, by rw [h8, HE.out]; exact HI2.out⟩
    · obtain rfl : k = 8 := by omega
      go_wp2
      go_ret
      exact ⟨by rw [HT.out]; rfl, hX, hI⟩
end Go.Proofs.Ytmfbkgdlfackcaa

/- The bounds of points of which nothing is known; arrays of bounds as values. -/
namespace Go.Proofs.Ytmfbkgdlfackcaa
open Go.RowKit

def ints (M : List Int) : List Value := M.map (Value.int .i64)
/-- Bounds, as a value. -/
def bv (M : List Int) : Value := .agg (ints M).toArray
def zero64 : Obj := .cells (ints (List.replicate 64 0)).toArray 78

theorem IsB.range {w : World} {B : Nat} {M : List Int} (h : IsB w B M) : w.rangeAt B 0 (ints M) := fun j v hv => by
  have hj : j < M.length := by have := (List.getElem?_eq_some_iff.1 hv).1; simpa [ints] using this
  have hv' : v = .int .i64 (gx M j) := by
    simp only [ints, List.getElem?_map, List.getElem?_eq_getElem hj, Option.map_some, Option.some.injEq] at hv
    rw [← hv]; simp [gx, List.getD, hj]
  rw [hv', Nat.zero_add]
  exact (h.2 j (by rw [h.1] at hj; exact hj)).1
theorem IsB.there {w : World} {B : Nat} {M : List Int} (h : IsB w B M) : w.there B 0 64 := fun j hj => by
  rw [Nat.zero_add]; exact ⟨by rw [(h.2 j hj).1]; rfl, (h.2 j hj).2⟩
theorem len_ints (M : List Int) : (ints M).length = M.length := by simp [ints]
theorem isB_stored {w : World} {B : Nat} {M : List Int} (hM : M.length = 64) (ht : w.there B 0 64) : IsB (w.setCells B 0 (ints M)) B M := by
  refine ⟨hM, fun k hk => ⟨?_, ?_⟩⟩
  · have := World.rangeAt_setCells_same w B 0 (ints M) (by rw [len_ints, hM]; exact ht) k (.int .i64 (gx M k)) (by
      simp [ints, gx, List.getD, hM, hk])
    rwa [Nat.zero_add] at this
  · rw [World.frozen?_setCells]
    have := (ht k hk).2
    rwa [Nat.zero_add] at this
theorem isB_new (w : World) (M : List Int) (hM : M.length = 64) : IsB (w.alloc (.cells (ints M).toArray 78)) w.heap.size M := by
  refine ⟨hM, fun k hk => ⟨?_, by simp⟩⟩
  rw [World.cell?_alloc_new]
  simp [ints, gx, List.getD, hM, hk]
theorem isB_zero (w : World) : IsB (w.alloc zero64) w.heap.size (List.replicate 64 0) := isB_new w _ rfl
theorem oneCell_ints (M : List Int) : (ints M).toArray.all (·.oneCell') = true :=
  all_oneCell_toArray fun v hv => by
    simp only [ints, List.mem_map] at hv
    obtain ⟨x, _, rfl⟩ := hv
    rfl
theorem info78 {n : Nat} (h : n = 64) : (Try.prog.info? 78).map (·.size) = some n := by subst h; kernel_rfl
theorem under78 : Try.prog.underlying 78 = some (.array 8 76) := by kernel_rfl
theorem load78 {ops : Array Oper} {rest : List Oper} {op : Oper} {a : Act} {w : World} {Q : Exit → Act → World → Prop} (hgd : op.guard = none) (x : Operand) (ho : op.op = .load 78 x)
    (B : Nat) (hx : a.eval x = .pointer (some ⟨B, 0, none⟩)) (M : List Int) (hc : IsB w B M)
    (h : wpList Try.prog ops Q rest (a.put op.dst (bv M)) w) : wpList Try.prog ops Q (op :: rest) a w :=
  wpList_load_mid hgd 78 x ho B 0 hx (ints M) _ hc.range under78 rfl (info78 (by rw [len_ints]; exact hc.1)) h
theorem store78 {ops : Array Oper} {rest : List Oper} {op : Oper} {a : Act} {w : World} {Q : Exit → Act → World → Prop} (hgd : op.guard = none) (x y : Operand) (ho : op.op = .store 78 x y)
    (B : Nat) (hx : a.eval x = .pointer (some ⟨B, 0, none⟩)) (M : List Int) (hM : M.length = 64) (hy : a.eval y = bv M) (ht : w.there B 0 64)
    (h : wpList Try.prog ops Q rest (a.put op.dst undef) (w.setCells B 0 (ints M))) : wpList Try.prog ops Q (op :: rest) a w :=
  wpList_store_mid hgd 78 x y ho B 0 (ints M).toArray hx hy (by rw [List.size_toArray, len_ints, hM]; exact ht) (info78 (by rw [List.size_toArray, len_ints, hM])) (oneCell_ints M) h
theorem BX.setCells (B : Nat) : ∀ (vs : List Value) (o : Nat) (w : World), BX B w (w.setCells B o vs)
  | [], _, w => BX.refl B w
  | v :: vs, o, w => (BX.set B o w v).trans (BX.setCells B vs (o + 1) _)
theorem results_bv {fn : Func} {p : Tmp} (h : fn.results = #[.cell p 78]) (tmps : Array Value) (w : World) (B : Nat) (M : List Int)
    (hp : tmps.getD p undef = .pointer (some ⟨B, 0, none⟩)) (hc : IsB w B M) : (results fn tmps).run Try.prog w = .ok (bv M) w := by
  have hp' : tmps[p]?.getD undef = .pointer (some ⟨B, 0, none⟩) := by simpa using hp
  simp [results, h, hp', asAddr, run_loadVar_mid (P := Try.prog) w B 0 78 (ints M) _ hc.range under78 rfl (info78 (by rw [len_ints]; exact hc.1)), bv]
theorem there_of_zero {w w' : World} {B N : Nat} (h : IsB w B (List.replicate 64 0)) (hb : Below N w w') (hB : B < N) : w'.there B 0 64 := (h.below hb hB).there

def opRow (f : Nat) (M : List Int) : List Int := itS (fun t M => if ((f : Int) != (t : Int)) = true then M.set (f * 8 + t) 1073741824 else M) 8 M
def openS : List Int := itS opRow 8 (List.replicate 64 0)
theorem len_itS (f : Nat → List Int → List Int) (hf : ∀ k M, (f k M).length = M.length) (M : List Int) : ∀ n, (itS f n M).length = M.length
  | 0 => rfl
  | n + 1 => (hf n _).trans (len_itS f hf M n)
theorem len_openS : openS.length = 64 := by
  unfold openS
  rw [len_itS opRow (fun k M => by unfold opRow; exact len_itS _ (fun t M => by split <;> simp) M 8)]
  rfl

set_option maxRecDepth 100000 in
set_option maxHeartbeats 1000000 in
theorem open_any (w : World) : Calls Try.prog 100 #[] w (Ret (bv openS) w) := by
  have Z1 := (isB_zero w).alloc zero64
  have Z2 := isB_zero (w.alloc zero64)
  have hZ : Below w.heap.size w ((w.alloc zero64).alloc zero64) := by (repeat (first | assumption | exact Below.refl _ _ | refine BA ?_ _ | refine BC ?_ _ _ (by omega) _ | refine Below.drew ?_ | refine BT ?_ (by assumption)))
  have hs : ((w.alloc zero64).alloc zero64).heap.size = w.heap.size + 2 := by simp
  rw [World.size_alloc] at Z2
  have hD : Hid (openS = itS opRow 8 (List.replicate 64 0)) := rfl
  have hl := Lib.hid len_openS
  generalize openS = R at *
  go_enter Try.func100, Try.ntmps100
  go_wp2
  change Code.wp _ _ _ _ ((w.alloc zero64).alloc zero64)
  generalize (w.alloc zero64).alloc zero64 = W at *
  generalize List.replicate 64 (0 : Int) = Z at *
  have HZ1 := Lib.hid Z1; clear Z1
  have HZ2 := Lib.hid Z2; clear Z2
  have HZ := Lib.hid hZ; clear hZ
  go_loopw [4] (fun i wr => ∃ k : Nat, k ≤ 8 ∧ i = .int .i64 k ∧ IsB wr (w.heap.size + 1) (itS opRow k Z) ∧ BX (w.heap.size + 1) W wr) (fun i _ => 8 - (intOf i).toNat)
  case atStart => exact ⟨0, by omega, rfl, HZ2.out, BX.refl _ _⟩
  case round =>
    obtain ⟨k, hk, rfl, hI, hX⟩ := hrel
    by_cases hlt : k < 8
    · have HE : Hid (itS opRow (k + 1) Z = opRow k (itS opRow k Z)) := rfl
      generalize itS opRow k Z = M1 at *
      obtain ⟨wo, rfl⟩ : ∃ wo : World, wo = wr := ⟨_, rfl⟩
      have HI := Lib.hid hI; clear hI
      have HX := Lib.hid hX; clear hX
      have hkb : decide ((k : Int) < 8) = true := by simp; omega
      have hB2 : Hid (opRow k M1 = itS (fun t M => if ((k : Int) != (t : Int)) = true then M.set (k * 8 + t) 1073741824 else M) 8 M1) := rfl
      go_wp2_with fail
      go_loopw [7] (fun i wr => ∃ t : Nat, t ≤ 8 ∧ i = .int .i64 t ∧ IsB wr (w.heap.size + 1) (itS (fun t M => if ((k : Int) != (t : Int)) = true then M.set (k * 8 + t) 1073741824 else M) t M1) ∧ BX (w.heap.size + 1) W wr) (fun i _ => 8 - (intOf i).toNat)
      case atStart => exact ⟨0, by omega, rfl, HI.out, HX.out⟩
      case round =>
        obtain ⟨t, ht, rfl, hI, hX⟩ := hrel
        have HI2 := Lib.hid hI; clear hI
        have HX2 := Lib.hid hX; clear hX
        by_cases hltt : t < 8
        · have HE2 : Hid (itS (fun t M => if ((k : Int) != (t : Int)) = true then M.set (k * 8 + t) 1073741824 else M) (t + 1) M1 = if ((k : Int) != (t : Int)) = true then (itS (fun t M => if ((k : Int) != (t : Int)) = true then M.set (k * 8 + t) 1073741824 else M) t M1).set (k * 8 + t) 1073741824 else itS (fun t M => if ((k : Int) != (t : Int)) = true then M.set (k * 8 + t) 1073741824 else M) t M1) := rfl
          generalize itS (fun t M => if ((k : Int) != (t : Int)) = true then M.set (k * 8 + t) 1073741824 else M) t M1 = M2 at *
          obtain ⟨c1, f1⟩ := HI2.out.2 (k * 8 + t) (by omega)
          cases hne : ((k : Int) != (t : Int))
          · go_wp2
            go_roundw
            case rel => exact ⟨t + 1, by omega, by go_num, by rw [HE2.out, if_neg (by simp [hne])]; exact HI2.out, HX2.out⟩
            case measure => simp [intOf]; omega
          · go_wp2
            go_roundw
            case rel => exact ⟨t + 1, by omega, by go_num, by rw [HE2.out, if_pos hne]; exact HI2.out.set _ (by omega) _, HX2.out.trans (BX.set _ _ _ _)⟩
            case measure => simp [intOf]; omega
        · obtain rfl : t = 8 := by omega
          go_wp2
          go_roundw
          case rel => exact ⟨k + 1, by omega, by go_num, by rw [HE.out, hB2.out]; exact HI2.out, HX2.out⟩
          case measure => simp [intOf]; omega
    · obtain rfl : k = 8 := by omega
      rw [← hD.out] at hI
      have HI := Lib.hid hI; clear hI
      have HX := Lib.hid hX; clear hX
      have ht : wr.there w.heap.size 0 64 := fun j hj => by
        have h1 := HZ1.out.2 j hj
        rw [Nat.zero_add, HX.out.cell _ _ (by omega) (by omega), HX.out.frozen _ _ (by omega) (by omega), h1.1, h1.2]
        exact ⟨rfl, rfl⟩
      have HT := Lib.hid ht; clear ht
      go_wp2_with (first | (refine load78 rfl _ rfl (w.heap.size + 1) rfl R HI.out ?_; dsimp only [Act.put, List.setIfInBounds_toArray, List.set_cons_zero, List.set_cons_succ]) | (refine store78 rfl _ _ rfl w.heap.size rfl R hl.out rfl HT.out ?_; dsimp only [Act.put, List.setIfInBounds_toArray, List.set_cons_zero, List.set_cons_succ]))
      refine bodyPost_ret (results_bv rfl _ _ w.heap.size R rfl (isB_stored hl.out HT.out)) rfl ⟨rfl, ?_⟩
      exact BX.below (BX.below HZ.out HX.out (by omega) (by omega)) (BX.setCells _ _ _ _) (Nat.le_refl _) (by have := HX.out.size; omega)
end Go.Proofs.Ytmfbkgdlfackcaa
