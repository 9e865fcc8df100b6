/- Bounds on differences of eight points: what remains when all of them have shortened each other says the same, and each of them is reached. Nothing here speaks of a program. -/
import Derived.Test.YtcfjakifeihbpaaGreatLeaf
import Derived.RegionTactic
import Derived.BigRegion
import Derived.Deep.MidRow
import Derived.MapKept
import Derived.Test.YtcfjakifeihbpaaGreatTrav
import Derived.Test.YtcfjakifeihbpaaGreatSeq
import Derived.Test.YtcfjakifeihbpaaGreatEv
import Derived.Test.YtcfjakifeihbpaaGreatMva
namespace Go.Proofs.YtcfjakifeihbpaaGreat
open Go.RowKit

def gx (M : List Int) (k : Nat) : Int := M.getD k 0
theorem gx_set (M : List Int) (k j : Nat) (x : Int) (hk : k < M.length) : gx (M.set k x) j = if k = j then x else gx M j := by
  unfold gx
  simp only [List.getD_eq_getElem?_getD, List.getElem?_set]
  split
  · rfl
  · rfl
/-- Block B holds the numbers M, and can be written. -/
def IsB (w : World) (B : Nat) (M : List Int) : Prop := M.length = 64 ∧ ∀ k, k < 64 → w.cell? ⟨B, k, none⟩ = some (.int .i64 (gx M k)) ∧ w.frozen? ⟨B, k, none⟩ = false
theorem IsB.lt {w : World} {B : Nat} {M : List Int} (h : IsB w B M) : B < w.heap.size := World.block_lt_of_cell? w _ (h.2 0 (by omega)).1
theorem IsB.below {w w' : World} {B N : Nat} {M : List Int} (h : IsB w B M) (hb : Below N w w') (hB : B < N) : IsB w' B M :=
  ⟨h.1, fun k hk => by rw [hb.cell (p := ⟨B, k, none⟩) hB, hb.frozen (p := ⟨B, k, none⟩) hB]; exact h.2 k hk⟩
theorem IsB.alloc {w : World} {B : Nat} {M : List Int} (h : IsB w B M) (o : Obj) : IsB (w.alloc o) B M := h.below ((Below.refl w.heap.size w).alloc (Nat.le_refl _) o) h.lt
theorem IsB.drew {w : World} {B : Nat} {M : List Int} (h : IsB w B M) : IsB w.drew B M := h
theorem IsB.set {w : World} {B : Nat} {M : List Int} (h : IsB w B M) (p : Nat) (hp : p < 64) (x : Int) : IsB (w.setCell ⟨B, p, none⟩ (.int .i64 x)) B (M.set p x) := by
  refine ⟨by rw [List.length_set]; exact h.1, fun k hk => ⟨?_, by rw [World.frozen?_setCell]; exact (h.2 k hk).2⟩⟩
  rw [gx_set _ _ _ _ (by rw [h.1]; exact hp)]
  by_cases e : p = k
  · subst e; rw [if_pos rfl]; exact World.cell?_setCell_same w _ _ (h.2 p hp).1
  · rw [if_neg e, World.cell?_setCell_other _ _ _ _ (by intro he; injection he; omega)]; exact (h.2 k hk).1
/-- All but block B is as it was. -/
structure BX (B : Nat) (w w' : World) : Prop where
  os : w'.os = w.os
  tape : w'.tape = w.tape
  output : w'.output = w.output
  size : w.heap.size ≤ w'.heap.size
  block : ∀ k, k < w.heap.size → k ≠ B → w'.heap[k]? = w.heap[k]?
theorem BX.refl (B : Nat) (w : World) : BX B w w := ⟨rfl, rfl, rfl, Nat.le_refl _, fun _ _ _ => rfl⟩
theorem BX.trans {B : Nat} {a b c : World} (h : BX B a b) (k : BX B b c) : BX B a c :=
  ⟨k.os.trans h.os, k.tape.trans h.tape, k.output.trans h.output, Nat.le_trans h.size k.size, fun i hi hn => (k.block i (Nat.lt_of_lt_of_le hi h.size) hn).trans (h.block i hi hn)⟩
theorem BX.of {B : Nat} {w w' : World} (h : Below w.heap.size w w') : BX B w w' := ⟨h.os, h.tape, h.output, h.size, fun k hk _ => h.block k hk⟩
theorem BX.set (B p : Nat) (w : World) (v : Value) : BX B w (w.setCell ⟨B, p, none⟩ v) :=
  ⟨rfl, rfl, rfl, by simp, fun k _ hn => Below.heap_setCell _ _ _ _ hn⟩
theorem BX.alloc (B : Nat) (w : World) (o : Obj) : BX B w (w.alloc o) := .of ((Below.refl w.heap.size w).alloc (Nat.le_refl _) o)
theorem BX.drew (B : Nat) (w : World) : BX B w w.drew := .of ((Below.refl w.heap.size w).drew)
/-- A block of one's own may be written. -/
theorem BX.below {B N : Nat} {a w w' : World} (h : Below N a w) (hx : BX B w w') (hN : N ≤ B) (hs : N ≤ w.heap.size) : Below N a w' :=
  h.trans ⟨hx.os, hx.tape, hx.output, hx.size, fun k hk => hx.block k (by omega) (by omega)⟩
theorem BX.cell {B : Nat} {w w' : World} (hx : BX B w w') (b o : Nat) (hb : b < w.heap.size) (hn : b ≠ B) : w'.cell? ⟨b, o, none⟩ = w.cell? ⟨b, o, none⟩ :=
  World.cell?_of_block (w := w) (a := ⟨b, o, none⟩) (hx.block b hb hn)
theorem BX.frozen {B : Nat} {w w' : World} (hx : BX B w w') (b o : Nat) (hb : b < w.heap.size) (hn : b ≠ B) : w'.frozen? ⟨b, o, none⟩ = w.frozen? ⟨b, o, none⟩ :=
  World.frozen?_of_block (w := w) (a := ⟨b, o, none⟩) (hx.block b hb hn)
theorem BX.slots {B : Nat} {w w' : World} (hx : BX B w w') {b n : Nat} (hs : Slots b n w) (hb : b < w.heap.size) (hn : b ≠ B) : Slots b n w' := fun o ho => by
  rw [hx.cell b o hb hn, hx.frozen b o hb hn]; exact hs o ho

/-- Go's min of two numbers, as the walk writes it. -/
def mn (x h : Int) : Int := if h < x then h else x
def narrow1 (M : List Int) (p : Nat) (h : Int) : List Int := M.set p (mn (gx M p) h)
def narrowM (M : List Int) (i j : Nat) (lo hi : Int) : List Int := narrow1 (narrow1 M (i * 8 + j) hi) (j * 8 + i) (wrap64 (-lo))

set_option maxRecDepth 100000 in
set_option maxHeartbeats 1000000 in
theorem narrow_any (B i j : Nat) (hi : i < 8) (hj : j < 8) (M : List Int) (lo hh : Int) (w : World) (h : IsB w B M) :
    Calls Tryz.prog 95 #[.pointer (some ⟨B, 0, none⟩), .int .i64 i, .int .i64 j, .agg #[.int .i64 lo, .int .i64 hh]] w (fun e w' => e = .returned (.tuple #[]) ∧ BX B w w' ∧ IsB w' B (narrowM M i j lo hh)) := by
  have HB := Lib.hid h; clear h
  obtain ⟨c1, f1⟩ := HB.out.2 (i * 8 + j) (by omega)
  have hbw : B < w.heap.size := HB.out.lt
  have E1 : Hid (narrow1 M (i * 8 + j) hh = M.set (i * 8 + j) (if hh < gx M (i * 8 + j) then hh else gx M (i * 8 + j))) := rfl
  generalize gx M (i * 8 + j) = x at *
  have i0 : (0 : Int) ≤ (i : Int) := by omega
  have i1 : (i : Int) < 8 := by omega
  have j0 : (0 : Int) ≤ (j : Int) := by omega
  have j1 : (j : Int) < 8 := by omega
  go_enter Tryz.func95, Tryz.ntmps95
  go_wp2_with fail
  go_region
  generalize hv : (if hh < x then hh else x) = v at *
  clear hv
  go_wp2_with fail
  obtain ⟨W, hW⟩ : ∃ W, ((w.setCell { block := B, off := i * 8 + j } (Value.int IntKind.i64 v)).alloc (Obj.cells #[Value.int IntKind.i64 lo, Value.int IntKind.i64 hh] 90)).drew = W := ⟨_, rfl⟩
  have HB2 : IsB W B (narrow1 M (i * 8 + j) hh) := by rw [← hW, E1.out]; exact ((HB.out.set _ (by omega) _).alloc _).drew
  have hX : BX B w W := by rw [← hW]; exact ((BX.set _ _ _ _).trans (BX.alloc _ _ _)).trans (BX.drew _ _)
  have s0 : W.heap.size = w.heap.size + 1 := by rw [← hW]; simp
  have b0 : W.cell? ⟨w.heap.size, 0, none⟩ = some (.int .i64 lo) := by rw [← hW]; simp [go_sem]
  rw [hW]
  clear hW
  have E2 : Hid (narrowM M i j lo hh = (narrow1 M (i * 8 + j) hh).set (j * 8 + i) (if wrap64 (-lo) < gx (narrow1 M (i * 8 + j) hh) (j * 8 + i) then wrap64 (-lo) else gx (narrow1 M (i * 8 + j) hh) (j * 8 + i))) := rfl
  generalize narrow1 M (i * 8 + j) hh = M' at *
  clear c1 f1
  obtain ⟨c2, f2⟩ := HB2.2 (j * 8 + i) (by omega)
  have HB3 := Lib.hid HB2; clear HB2
  have HX := Lib.hid hX; clear hX
  generalize gx M' (j * 8 + i) = y at *
  go_region
  generalize hv : (if wrap64 (-lo) < y then wrap64 (-lo) else y) = u at *
  clear hv
  go_wp2
  go_end0
  refine ⟨rfl, HX.out.trans ((BX.set _ _ _ _).trans (BX.drew _ _)), ?_⟩
  rw [E2.out]
  exact (HB3.out.set _ (by omega) _).drew

set_option maxRecDepth 100000 in
set_option maxHeartbeats 1000000 in
theorem between_any (B i j : Nat) (hi : i < 8) (hj : j < 8) (M : List Int) (w : World) (h : IsB w B M) :
    Calls Tryz.prog 50 #[.pointer (some ⟨B, 0, none⟩), .int .i64 i, .int .i64 j] w (Ret (.agg #[.int .i64 (wrap64 (-(gx M (j * 8 + i)))), .int .i64 (gx M (i * 8 + j))]) w) := by
  have HB := Lib.hid h; clear h
  obtain ⟨c1, f1⟩ := HB.out.2 (i * 8 + j) (by omega)
  obtain ⟨c2, f2⟩ := HB.out.2 (j * 8 + i) (by omega)
  have hbw : B < w.heap.size := HB.out.lt
  generalize gx M (i * 8 + j) = x at *
  generalize gx M (j * 8 + i) = y at *
  have i0 : (0 : Int) ≤ (i : Int) := by omega
  have i1 : (i : Int) < 8 := by omega
  have j0 : (0 : Int) ≤ (j : Int) := by omega
  have j1 : (j : Int) < 8 := by omega
  clear f1 f2
  go_enter Tryz.func50, Tryz.ntmps50
  go_wp2_with fail
  go_region
  go_wp2
  refine bodyPost_ret (v := .agg #[.int .i64 (wrap64 (-y)), .int .i64 x]) (by simp [results, Tryz.results50, go_sem]) rfl ⟨rfl, ?_⟩
  (repeat (first | assumption | exact Below.refl _ _ | refine BA ?_ _ | refine BC ?_ _ _ (by omega) _ | refine Below.drew ?_ | refine BT ?_ (by assumption)))

/-- No bound. -/
def farN : Int := 1073741824
def shortStep (M : List Int) (f b t : Nat) : List Int :=
  if (gx M (f * 8 + b) != 1073741824) = true ∧ (gx M (b * 8 + t) != 1073741824) = true then M.set (f * 8 + t) (if wrap64 (gx M (f * 8 + b) + gx M (b * 8 + t)) < gx M (f * 8 + t) then wrap64 (gx M (f * 8 + b) + gx M (b * 8 + t)) else gx M (f * 8 + t)) else M

set_option maxRecDepth 100000 in
set_option maxHeartbeats 1000000 in
theorem short1_any (B V f b t : Nat) (hf : f < 8) (hb : b < 8) (ht : t < 8) (M : List Int) (w : World) (h : IsB w B M) (hv : w.cell? ⟨V, 0, none⟩ = some (.pointer (some ⟨B, 0, none⟩))) :
    Calls Tryz.prog 100 #[.int .i64 f, .int .i64 b, .int .i64 t, .pointer (some ⟨V, 0, none⟩)] w (fun e w' => e = .returned (.tuple #[]) ∧ BX B w w' ∧ IsB w' B (shortStep M f b t)) := by
  have HB := Lib.hid h; clear h
  obtain ⟨c1, f1⟩ := HB.out.2 (f * 8 + b) (by omega)
  obtain ⟨c2, f2⟩ := HB.out.2 (b * 8 + t) (by omega)
  obtain ⟨c3, f3⟩ := HB.out.2 (f * 8 + t) (by omega)
  have E : Hid (shortStep M f b t = if (gx M (f * 8 + b) != 1073741824) = true ∧ (gx M (b * 8 + t) != 1073741824) = true then M.set (f * 8 + t) (if wrap64 (gx M (f * 8 + b) + gx M (b * 8 + t)) < gx M (f * 8 + t) then wrap64 (gx M (f * 8 + b) + gx M (b * 8 + t)) else gx M (f * 8 + t)) else M) := rfl
  generalize gx M (f * 8 + b) = x at *
  generalize gx M (b * 8 + t) = y at *
  generalize gx M (f * 8 + t) = z at *
  have i0 : (0 : Int) ≤ (f : Int) := by omega
  have i1 : (f : Int) < 8 := by omega
  have j0 : (0 : Int) ≤ (b : Int) := by omega
  have j1 : (b : Int) < 8 := by omega
  have k0 : (0 : Int) ≤ (t : Int) := by omega
  have k1 : (t : Int) < 8 := by omega
  clear f1 f2
  cases hx : (x != 1073741824)
  · have E2 : Hid (shortStep M f b t = M) := E.out.trans (if_neg (by simp [hx]))
    go_enter Tryz.func100, Tryz.ntmps100
    go_wp2
    go_end0
    exact ⟨rfl, BX.refl _ _, by rw [E2.out]; exact HB.out⟩
  · cases hy : (y != 1073741824)
    · have E2 : Hid (shortStep M f b t = M) := E.out.trans (if_neg (by simp [hy]))
      go_enter Tryz.func100, Tryz.ntmps100
      go_wp2
      go_end0
      exact ⟨rfl, BX.refl _ _, by rw [E2.out]; exact HB.out⟩
    · have E2 := Lib.hid (E.out.trans (if_pos ⟨hx, hy⟩))
      clear E
      go_enter Tryz.func100, Tryz.ntmps100
      go_wp2_with fail
      go_region
      generalize hu : (if wrap64 (x + y) < z then wrap64 (x + y) else z) = u at *
      clear hu
      go_wp2
      go_end0
      refine ⟨rfl, (BX.set _ _ _ _).trans (BX.drew _ _), ?_⟩
      rw [E2.out]
      exact (HB.out.set _ (by omega) _).drew

def contra (M : List Int) : Bool := (List.range 8).any fun i => decide (gx M (i * 8 + i) < 0)
theorem contradict_any (B : Nat) (M : List Int) (w : World) (h : IsB w B M) :
    Calls Tryz.prog 101 #[.pointer (some ⟨B, 0, none⟩)] w (fun e w' => e = .returned (.bool (contra M)) ∧ w' = w) := by
  have HB := Lib.hid h; clear h
  go_enter Tryz.func101, Tryz.ntmps101
  go_wp2
  go_loop [4] (fun i => ∃ k : Nat, k ≤ 8 ∧ i = .int .i64 k ∧ Hid ((List.range k).any (fun i => decide (gx M (i * 8 + i) < 0)) = false)) (fun i => 8 - (intOf i).toNat)
  case atStart => exact ⟨0, by omega, rfl, rfl⟩
  case round =>
    obtain ⟨k, hk, rfl, HR⟩ := hrel
    by_cases hlt : k < 8
    · have hc := (HB.out.2 (k * 8 + k) (by omega)).1
      have e1 : Hid (gx M (k * 8 + k) < 0 → contra M = true) := fun h => by
        unfold contra
        rw [List.any_eq_true]
        exact ⟨k, List.mem_range.2 hlt, by simpa using h⟩
      have e2 : Hid (0 ≤ gx M (k * 8 + k) → (List.range (k + 1)).any (fun i => decide (gx M (i * 8 + i) < 0)) = false) := fun h => by
        rw [List.range_succ, List.any_append, HR.out]
        simp; omega
      generalize gx M (k * 8 + k) = x at *
      by_cases hx : x < 0
      · go_wp2
        go_ret
        exact ⟨by rw [e1.out hx]; rfl, rfl⟩
      · go_wp2
        go_round
        case rel => exact ⟨k + 1, by omega, by go_num, e2.out (by omega)⟩
        case measure => simp [intOf]; omega
    · obtain rfl : k = 8 := by omega
      go_wp2
      go_ret
      exact ⟨by have := HR.out; unfold contra; rw [this]; rfl, rfl⟩
end Go.Proofs.YtcfjakifeihbpaaGreat

/- The bounds made as short as all of them together do. -/
namespace Go.Proofs.YtcfjakifeihbpaaGreat
open Go.RowKit

def itS (f : Nat → List Int → List Int) : Nat → List Int → List Int
  | 0, M => M
  | k + 1, M => f k (itS f k M)
def rowS (b f : Nat) (M : List Int) : List Int := itS (fun t M => shortStep M f b t) 8 M
def roundS (b : Nat) (M : List Int) : List Int := itS (fun f M => rowS b f M) 8 M
/-- Whether no contradiction was found in the first rounds, and what the bounds are then. -/
def shortS : Nat → List Int → Bool × List Int
  | 0, M => (true, M)
  | k + 1, M => if (shortS k M).1 then (!contra (roundS k (shortS k M).2), roundS k (shortS k M).2) else shortS k M
theorem contradict_b (B : Nat) (M : List Int) (b : Bool) (w : World) (h : IsB w B M) (hb : contra M = b) :
    Calls Tryz.prog 101 #[.pointer (some ⟨B, 0, none⟩)] w (fun e w' => e = .returned (.bool b) ∧ w' = w) := by
  rw [← hb]; exact contradict_any B M w h
theorem shortS_stop (M : List Int) (k : Nat) (h : (shortS k M).1 = false) : ∀ j, shortS (k + j) M = shortS k M := by
  intro j
  induction j with
  | zero => rfl
  | succ j ih => show shortS ((k + j) + 1) M = _; rw [shortS, ih, h]; rfl

set_option maxRecDepth 100000 in
set_option maxHeartbeats 1000000 in
theorem shorten_any (B : Nat) (M : List Int) (w : World) (h : IsB w B M) :
    Calls Tryz.prog 96 #[.pointer (some ⟨B, 0, none⟩)] w (fun e w' => e = .returned (.bool (shortS 8 M).1) ∧ BX B w w' ∧ IsB w' B (shortS 8 M).2) := by
  have hbw : B < w.heap.size := h.lt
  have HB := Lib.hid h; clear h
  go_enter Tryz.func96, Tryz.ntmps96
  go_wp2
  go_loopw [8] (fun i wr => ∃ k : Nat, k ≤ 8 ∧ i = .int .i64 k ∧ Hid ((shortS k M).1 = true) ∧ IsB wr B (shortS k M).2 ∧ BX B w wr ∧ wr.cell? ⟨w.heap.size, 0, none⟩ = some (.pointer (some ⟨B, 0, none⟩)) ∧ w.heap.size < wr.heap.size) (fun i _ => 8 - (intOf i).toNat)
  case atStart => exact ⟨0, by omega, rfl, rfl, HB.out.alloc _, BX.alloc _ _ _, by simp, by simp⟩
  case round =>
    obtain ⟨k, hk, rfl, HT, hI, hX, hV, hN⟩ := hrel
    by_cases hlt : k < 8
    · have HE : Hid (shortS (k + 1) M = (!contra (roundS k (shortS k M).2), roundS k (shortS k M).2)) := by show _ = _; rw [shortS, if_pos HT.out]
      have HS := Lib.hid (shortS_stop M (k + 1))
      generalize (shortS k M).2 = M1 at *
      have hkb : decide ((k : Int) < 8) = true := by simp; omega
      obtain ⟨wo, rfl⟩ : ∃ wo : World, wo = wr := ⟨_, rfl⟩
      have HI := Lib.hid hI; clear hI
      have HX := Lib.hid hX; clear hX
      go_wp2_with fail
      go_loopw [11] (fun i wr => ∃ j : Nat, j ≤ 8 ∧ i = .int .i64 j ∧ IsB wr B (itS (fun f M => rowS k f M) j M1) ∧ BX B wo wr ∧ wr.cell? ⟨w.heap.size, 0, none⟩ = some (.pointer (some ⟨B, 0, none⟩)) ∧ w.heap.size < wr.heap.size) (fun i _ => 8 - (intOf i).toNat)
      case atStart => exact ⟨0, by omega, rfl, HI.out, BX.refl _ _, hV, hN⟩
      case round =>
        clear hV hN
        obtain ⟨j, hj, rfl, hI, hX, hV, hN⟩ := hrel
        by_cases hlj : j < 8
        · have HE2 : Hid (itS (fun f M => rowS k f M) (j + 1) M1 = rowS k j (itS (fun f M => rowS k f M) j M1)) := rfl
          generalize itS (fun f M => rowS k f M) j M1 = M2 at *
          have hjb : decide ((j : Int) < 8) = true := by simp; omega
          obtain ⟨wi, rfl⟩ : ∃ wi : World, wi = wr := ⟨_, rfl⟩
          have HI2 := Lib.hid hI; clear hI
          have HX2 := Lib.hid hX; clear hX
          go_wp2_with fail
          go_loopw [14] (fun i wr => ∃ t : Nat, t ≤ 8 ∧ i = .int .i64 t ∧ IsB wr B (itS (fun t M => shortStep M j k t) t M2) ∧ BX B wi wr ∧ wr.cell? ⟨w.heap.size, 0, none⟩ = some (.pointer (some ⟨B, 0, none⟩)) ∧ w.heap.size < wr.heap.size) (fun i _ => 8 - (intOf i).toNat)
          case atStart => exact ⟨0, by omega, rfl, HI2.out, BX.refl _ _, hV, hN⟩
          case round =>
            clear hV hN
            obtain ⟨t, ht, rfl, hI, hX, hV, hN⟩ := hrel
            by_cases hltt : t < 8
            · have HI3 := Lib.hid hI; clear hI
              have HX3 := Lib.hid hX; clear hX
              go_wp2_with (first | (go_at_call 100; refine (short1_any B w.heap.size j k t hlj hlt hltt _ _ HI3.out hV).mono ?_; rintro e w1 ⟨rfl, hx1, hi1⟩))
              go_roundw
              case rel => exact ⟨t + 1, by omega, by go_num, hi1, HX3.out.trans hx1, (hx1.cell _ _ hN (by omega)).trans hV, Nat.lt_of_lt_of_le hN hx1.size⟩
              case measure => simp [intOf]; omega
            · obtain rfl : t = 8 := by omega
              go_wp2_with fail
              go_roundw
              case rel => exact ⟨j + 1, by omega, by go_num, by rw [HE2.out]; exact hI, HX2.out.trans hX, hV, hN⟩
              case measure => simp [intOf]; omega
        · obtain rfl : j = 8 := by omega
          have HI2 := Lib.hid hI; clear hI
          have HX2 := Lib.hid hX; clear hX
          have hcc2 : (itS (fun f M => rowS k f M) 8 M1) = roundS k M1 := rfl
          rw [hcc2] at HI2
          clear hcc2
          generalize roundS k M1 = M3 at *
          cases hct : contra M3
          · have HC := Lib.hid hct; clear hct
            go_wp2_with (first | (go_at_call 101; refine (contradict_b B _ _ _ HI2.out HC.out).mono ?_; rintro e w1 ⟨rfl, rfl⟩))
            go_roundw
            case rel => exact ⟨k + 1, by omega, by go_num, by show _ = _; rw [HE.out, HC.out]; rfl, by rw [HE.out]; exact HI2.out, HX.out.trans HX2.out, hV, hN⟩
            case measure => simp [intOf]; omega
          · have HC := Lib.hid hct; clear hct
            go_wp2_with (first | (go_at_call 101; refine (contradict_b B _ _ _ HI2.out HC.out).mono ?_; rintro e w1 ⟨rfl, rfl⟩))
            go_ret
            have h8 : shortS 8 M = shortS (k + 1) M := by
              have := HS.out (by rw [HE.out, HC.out]; rfl) (7 - k)
              rwa [show k + 1 + (7 - k) = 8 by omega] at this
            exact ⟨by rw [h8, HE.out, HC.out]; rfl, HX.out.trans HX2.out, by rw [h8, HE.out]; exact HI2.out⟩
    · obtain rfl : k = 8 := by omega
      go_wp2
      go_ret
      exact ⟨by rw [HT.out]; rfl, hX, hI⟩
end Go.Proofs.YtcfjakifeihbpaaGreat

/- The bounds of points of which nothing is known; arrays of bounds as values. -/
namespace Go.Proofs.YtcfjakifeihbpaaGreat
open Go.RowKit

def ints (M : List Int) : List Value := M.map (Value.int .i64)
/-- Bounds, as a value. -/
def bv (M : List Int) : Value := .agg (ints M).toArray
def zero64 : Obj := .cells (ints (List.replicate 64 0)).toArray 85

theorem IsB.range {w : World} {B : Nat} {M : List Int} (h : IsB w B M) : w.rangeAt B 0 (ints M) := fun j v hv => by
  have hj : j < M.length := by have := (List.getElem?_eq_some_iff.1 hv).1; simpa [ints] using this
  have hv' : v = .int .i64 (gx M j) := by
    simp only [ints, List.getElem?_map, List.getElem?_eq_getElem hj, Option.map_some, Option.some.injEq] at hv
    rw [← hv]; simp [gx, List.getD, hj]
  rw [hv', Nat.zero_add]
  exact (h.2 j (by rw [h.1] at hj; exact hj)).1
theorem IsB.there {w : World} {B : Nat} {M : List Int} (h : IsB w B M) : w.there B 0 64 := fun j hj => by
  rw [Nat.zero_add]; exact ⟨by rw [(h.2 j hj).1]; rfl, (h.2 j hj).2⟩
theorem len_ints (M : List Int) : (ints M).length = M.length := by simp [ints]
theorem isB_stored {w : World} {B : Nat} {M : List Int} (hM : M.length = 64) (ht : w.there B 0 64) : IsB (w.setCells B 0 (ints M)) B M := by
  refine ⟨hM, fun k hk => ⟨?_, ?_⟩⟩
  · have := World.rangeAt_setCells_same w B 0 (ints M) (by rw [len_ints, hM]; exact ht) k (.int .i64 (gx M k)) (by
      simp [ints, gx, List.getD, hM, hk])
    rwa [Nat.zero_add] at this
  · rw [World.frozen?_setCells]
    have := (ht k hk).2
    rwa [Nat.zero_add] at this
theorem isB_new (w : World) (M : List Int) (hM : M.length = 64) : IsB (w.alloc (.cells (ints M).toArray 85)) w.heap.size M := by
  refine ⟨hM, fun k hk => ⟨?_, by simp⟩⟩
  rw [World.cell?_alloc_new]
  simp [ints, gx, List.getD, hM, hk]
theorem isB_zero (w : World) : IsB (w.alloc zero64) w.heap.size (List.replicate 64 0) := isB_new w _ rfl
theorem oneCell_ints (M : List Int) : (ints M).toArray.all (·.oneCell') = true :=
  all_oneCell_toArray fun v hv => by
    simp only [ints, List.mem_map] at hv
    obtain ⟨x, _, rfl⟩ := hv
    rfl
theorem info78 {n : Nat} (h : n = 64) : (Tryz.prog.info? 85).map (·.size) = some n := by subst h; kernel_rfl
theorem under78 : Tryz.prog.underlying 85 = some (.array 8 83) := by kernel_rfl
theorem load78 {ops : Array Oper} {rest : List Oper} {op : Oper} {a : Act} {w : World} {Q : Exit → Act → World → Prop} (hgd : op.guard = none) (x : Operand) (ho : op.op = .load 85 x)
    (B : Nat) (hx : a.eval x = .pointer (some ⟨B, 0, none⟩)) (M : List Int) (hc : IsB w B M)
    (h : wpList Tryz.prog ops Q rest (a.put op.dst (bv M)) w) : wpList Tryz.prog ops Q (op :: rest) a w :=
  wpList_load_mid hgd 85 x ho B 0 hx (ints M) _ hc.range under78 rfl (info78 (by rw [len_ints]; exact hc.1)) h
theorem store78 {ops : Array Oper} {rest : List Oper} {op : Oper} {a : Act} {w : World} {Q : Exit → Act → World → Prop} (hgd : op.guard = none) (x y : Operand) (ho : op.op = .store 85 x y)
    (B : Nat) (hx : a.eval x = .pointer (some ⟨B, 0, none⟩)) (M : List Int) (hM : M.length = 64) (hy : a.eval y = bv M) (ht : w.there B 0 64)
    (h : wpList Tryz.prog ops Q rest (a.put op.dst undef) (w.setCells B 0 (ints M))) : wpList Tryz.prog ops Q (op :: rest) a w :=
  wpList_store_mid hgd 85 x y ho B 0 (ints M).toArray hx hy (by rw [List.size_toArray, len_ints, hM]; exact ht) (info78 (by rw [List.size_toArray, len_ints, hM])) (oneCell_ints M) h
theorem BX.setCells (B : Nat) : ∀ (vs : List Value) (o : Nat) (w : World), BX B w (w.setCells B o vs)
  | [], _, w => BX.refl B w
  | v :: vs, o, w => (BX.set B o w v).trans (BX.setCells B vs (o + 1) _)
theorem results_bv {fn : Func} {p : Tmp} (h : fn.results = #[.cell p 85]) (tmps : Array Value) (w : World) (B : Nat) (M : List Int)
    (hp : tmps.getD p undef = .pointer (some ⟨B, 0, none⟩)) (hc : IsB w B M) : (results fn tmps).run Tryz.prog w = .ok (bv M) w := by
  have hp' : tmps[p]?.getD undef = .pointer (some ⟨B, 0, none⟩) := by simpa using hp
  simp [results, h, hp', asAddr, run_loadVar_mid (P := Tryz.prog) w B 0 85 (ints M) _ hc.range under78 rfl (info78 (by rw [len_ints]; exact hc.1)), bv]
theorem there_of_zero {w w' : World} {B N : Nat} (h : IsB w B (List.replicate 64 0)) (hb : Below N w w') (hB : B < N) : w'.there B 0 64 := (h.below hb hB).there

def opRow (f : Nat) (M : List Int) : List Int := itS (fun t M => if ((f : Int) != (t : Int)) = true then M.set (f * 8 + t) 1073741824 else M) 8 M
def openS : List Int := itS opRow 8 (List.replicate 64 0)
theorem len_itS (f : Nat → List Int → List Int) (hf : ∀ k M, (f k M).length = M.length) (M : List Int) : ∀ n, (itS f n M).length = M.length
  | 0 => rfl
  | n + 1 => (hf n _).trans (len_itS f hf M n)
theorem len_openS : openS.length = 64 := by
  unfold openS
  rw [len_itS opRow (fun k M => by unfold opRow; exact len_itS _ (fun t M => by split <;> simp) M 8)]
  rfl

set_option maxRecDepth 100000 in
set_option maxHeartbeats 1000000 in
theorem open_any (w : World) : Calls Tryz.prog 94 #[] w (Ret (bv openS) w) := by
  have Z1 := (isB_zero w).alloc zero64
  have Z2 := isB_zero (w.alloc zero64)
  have hZ : Below w.heap.size w ((w.alloc zero64).alloc zero64) := by (repeat (first | assumption | exact Below.refl _ _ | refine BA ?_ _ | refine BC ?_ _ _ (by omega) _ | refine Below.drew ?_ | refine BT ?_ (by assumption)))
  have hs : ((w.alloc zero64).alloc zero64).heap.size = w.heap.size + 2 := by simp
  rw [World.size_alloc] at Z2
  have hD : Hid (openS = itS opRow 8 (List.replicate 64 0)) := rfl
  have hl := Lib.hid len_openS
  generalize openS = R at *
  go_enter Tryz.func94, Tryz.ntmps94
  go_wp2
  change Code.wp _ _ _ _ ((w.alloc zero64).alloc zero64)
  generalize (w.alloc zero64).alloc zero64 = W at *
  generalize List.replicate 64 (0 : Int) = Z at *
  have HZ1 := Lib.hid Z1; clear Z1
  have HZ2 := Lib.hid Z2; clear Z2
  have HZ := Lib.hid hZ; clear hZ
  go_loopw [4] (fun i wr => ∃ k : Nat, k ≤ 8 ∧ i = .int .i64 k ∧ IsB wr (w.heap.size + 1) (itS opRow k Z) ∧ BX (w.heap.size + 1) W wr) (fun i _ => 8 - (intOf i).toNat)
  case atStart => exact ⟨0, by omega, rfl, HZ2.out, BX.refl _ _⟩
  case round =>
    obtain ⟨k, hk, rfl, hI, hX⟩ := hrel
    by_cases hlt : k < 8
    · have HE : Hid (itS opRow (k + 1) Z = opRow k (itS opRow k Z)) := rfl
      generalize itS opRow k Z = M1 at *
      obtain ⟨wo, rfl⟩ : ∃ wo : World, wo = wr := ⟨_, rfl⟩
      have HI := Lib.hid hI; clear hI
      have HX := Lib.hid hX; clear hX
      have hkb : decide ((k : Int) < 8) = true := by simp; omega
      have hB2 : Hid (opRow k M1 = itS (fun t M => if ((k : Int) != (t : Int)) = true then M.set (k * 8 + t) 1073741824 else M) 8 M1) := rfl
      go_wp2_with fail
      go_loopw [7] (fun i wr => ∃ t : Nat, t ≤ 8 ∧ i = .int .i64 t ∧ IsB wr (w.heap.size + 1) (itS (fun t M => if ((k : Int) != (t : Int)) = true then M.set (k * 8 + t) 1073741824 else M) t M1) ∧ BX (w.heap.size + 1) W wr) (fun i _ => 8 - (intOf i).toNat)
      case atStart => exact ⟨0, by omega, rfl, HI.out, HX.out⟩
      case round =>
        obtain ⟨t, ht, rfl, hI, hX⟩ := hrel
        have HI2 := Lib.hid hI; clear hI
        have HX2 := Lib.hid hX; clear hX
        by_cases hltt : t < 8
        · have HE2 : Hid (itS (fun t M => if ((k : Int) != (t : Int)) = true then M.set (k * 8 + t) 1073741824 else M) (t + 1) M1 = if ((k : Int) != (t : Int)) = true then (itS (fun t M => if ((k : Int) != (t : Int)) = true then M.set (k * 8 + t) 1073741824 else M) t M1).set (k * 8 + t) 1073741824 else itS (fun t M => if ((k : Int) != (t : Int)) = true then M.set (k * 8 + t) 1073741824 else M) t M1) := rfl
          generalize itS (fun t M => if ((k : Int) != (t : Int)) = true then M.set (k * 8 + t) 1073741824 else M) t M1 = M2 at *
          obtain ⟨c1, f1⟩ := HI2.out.2 (k * 8 + t) (by omega)
          cases hne : ((k : Int) != (t : Int))
          · go_wp2
            go_roundw
            case rel => exact ⟨t + 1, by omega, by go_num, by rw [HE2.out, if_neg (by simp [hne])]; exact HI2.out, HX2.out⟩
            case measure => simp [intOf]; omega
          · go_wp2
            go_roundw
            case rel => exact ⟨t + 1, by omega, by go_num, by rw [HE2.out, if_pos hne]; exact HI2.out.set _ (by omega) _, HX2.out.trans (BX.set _ _ _ _)⟩
            case measure => simp [intOf]; omega
        · obtain rfl : t = 8 := by omega
          go_wp2
          go_roundw
          case rel => exact ⟨k + 1, by omega, by go_num, by rw [HE.out, hB2.out]; exact HI2.out, HX2.out⟩
          case measure => simp [intOf]; omega
    · obtain rfl : k = 8 := by omega
      rw [← hD.out] at hI
      have HI := Lib.hid hI; clear hI
      have HX := Lib.hid hX; clear hX
      have ht : wr.there w.heap.size 0 64 := fun j hj => by
        have h1 := HZ1.out.2 j hj
        rw [Nat.zero_add, HX.out.cell _ _ (by omega) (by omega), HX.out.frozen _ _ (by omega) (by omega), h1.1, h1.2]
        exact ⟨rfl, rfl⟩
      have HT := Lib.hid ht; clear ht
      go_wp2_with (first | (refine load78 rfl _ rfl (w.heap.size + 1) rfl R HI.out ?_; dsimp only [Act.put, List.setIfInBounds_toArray, List.set_cons_zero, List.set_cons_succ]) | (refine store78 rfl _ _ rfl w.heap.size rfl R hl.out rfl HT.out ?_; dsimp only [Act.put, List.setIfInBounds_toArray, List.set_cons_zero, List.set_cons_succ]))
      refine bodyPost_ret (results_bv rfl _ _ w.heap.size R rfl (isB_stored hl.out HT.out)) rfl ⟨rfl, ?_⟩
      exact BX.below (BX.below HZ.out HX.out (by omega) (by omega)) (BX.setCells _ _ _ _) (Nat.le_refl _) (by have := HX.out.size; omega)
end Go.Proofs.YtcfjakifeihbpaaGreat

namespace Go.Proofs.YtcfjakifeihbpaaGreat
open Go.RowKit

abbrev Cnt := Int × Int × Int
def cntKV (c : Cnt) : Value × Value := (.int .i64 c.1, .agg #[.int .i64 c.2.1, .int .i64 c.2.2])
def posC (k : Int) : List Cnt → Nat → Option (Nat × Int × Int)
  | [], _ => none
  | c :: cs, i => if k == c.1 then some (i, c.2) else posC k cs (i + 1)
def getC (k : Int) (cs : List Cnt) : Int × Int := match posC k cs 0 with | some p => p.2 | none => (0, 0)
def hasC (k : Int) (cs : List Cnt) : Bool := (posC k cs 0).isSome
def setC (k : Int) (v : Int × Int) (cs : List Cnt) : List Cnt := match posC k cs 0 with | some p => cs.set p.1 (k, v) | none => cs ++ [(k, v)]

/-- Block B is a map that holds these counts. -/
def IsMap (w : World) (B : Nat) (cs : List Cnt) : Prop := ∃ es clock, w.heap[B]? = some (.map es clock) ∧ es.toList.map (fun e => (e.key, e.val)) = cs.map cntKV

theorem findNow_posC (k : Int) : ∀ (l : List MapEntry) (cs : List Cnt) (i : Nat), l.map (fun e => (e.key, e.val)) = cs.map cntKV →
    Instr.findNow (.int .i64) (.int .i64 k) l i = some ((posC k cs i).map fun p => (p.1, .agg #[.int .i64 p.2.1, .int .i64 p.2.2]))
  | [], [], _, _ => rfl
  | [], _ :: _, _, h => by simp at h
  | _ :: _, [], _, h => by simp at h
  | e :: l, c :: cs, i, h => by
    simp only [List.map_cons, List.cons.injEq, cntKV, Prod.mk.injEq] at h
    obtain ⟨⟨h1, h2⟩, h3⟩ := h
    have ih := findNow_posC k l cs (i + 1) h3
    simp only [Instr.findNow, h1, Instr.sameNow, if_true, posC]
    cases hk : (k == c.1)
    · simp [ih]
    · simp [h2]
theorem posC_some {k : Int} : ∀ {cs : List Cnt} {i : Nat} {p : Nat × Int × Int}, posC k cs i = some p → ∃ j, p.1 = i + j ∧ cs[j]? = some (k, p.2)
  | [], _, _, h => by simp [posC] at h
  | c :: cs, i, p, h => by
    simp only [posC] at h
    cases hk : (k == c.1)
    · rw [hk] at h
      obtain ⟨j, h1, h2⟩ := posC_some (cs := cs) (by simpa using h)
      exact ⟨j + 1, by omega, by simpa using h2⟩
    · rw [hk] at h
      simp only [if_true, Option.some.injEq] at h
      subst h
      exact ⟨0, rfl, by simp; have : k = c.1 := by simpa using hk
                        rw [this]⟩
theorem run_lookup93 {w : World} {B : Nat} {cs : List Cnt} (h : IsMap w B cs) (k : Int) :
    (Instr.lookup 70 (.map (some B)) (.int .i64 k) false).run Tryz.prog w = .ok (.agg #[.int .i64 (getC k cs).1, .int .i64 (getC k cs).2]) w := by
  obtain ⟨es, clock, hb, hes⟩ := h
  have ht : Tryz.prog.underlying 70 = some (.map 3 115) := by kernel_rfl
  have hk : Tryz.prog.underlying 3 = some (.int .i64) := by kernel_rfl
  have hz : (zeroValue 115).run Tryz.prog w = .ok (.agg #[.int .i64 0, .int .i64 0]) w := by simp [go_sem]
  have hf := MapKept.run_findKey (P := Tryz.prog) (w := w) hk (findNow_posC k es.toList cs 0 hes)
  cases hp : posC k cs 0 with
  | none =>
    rw [hp] at hf
    simp [Instr.lookup, run_underlying ht, MapKept.run_getObj_map hb, MapKept.run_checkKey hk (show MapKept.IsKey (.int .i64) (.int .i64 k) from rfl), hf, hz, Result.andThen, getC, hp]
  | some p =>
    rw [hp] at hf
    simp [Instr.lookup, run_underlying ht, MapKept.run_getObj_map hb, MapKept.run_checkKey hk (show MapKept.IsKey (.int .i64) (.int .i64 k) from rfl), hf, Result.andThen, getC, hp]
theorem run_lookup93_ok {w : World} {B : Nat} {cs : List Cnt} (h : IsMap w B cs) (k : Int) :
    (Instr.lookup 70 (.map (some B)) (.int .i64 k) true).run Tryz.prog w = .ok (.tuple #[.agg #[.int .i64 (getC k cs).1, .int .i64 (getC k cs).2], .bool (hasC k cs)]) w := by
  obtain ⟨es, clock, hb, hes⟩ := h
  have ht : Tryz.prog.underlying 70 = some (.map 3 115) := by kernel_rfl
  have hk : Tryz.prog.underlying 3 = some (.int .i64) := by kernel_rfl
  have hz : (zeroValue 115).run Tryz.prog w = .ok (.agg #[.int .i64 0, .int .i64 0]) w := by simp [go_sem]
  have hf := MapKept.run_findKey (P := Tryz.prog) (w := w) hk (findNow_posC k es.toList cs 0 hes)
  cases hp : posC k cs 0 with
  | none =>
    rw [hp] at hf
    simp [Instr.lookup, run_underlying ht, MapKept.run_getObj_map hb, MapKept.run_checkKey hk (show MapKept.IsKey (.int .i64) (.int .i64 k) from rfl), hf, hz, Result.andThen, getC, hasC, hp]
  | some p =>
    rw [hp] at hf
    simp [Instr.lookup, run_underlying ht, MapKept.run_getObj_map hb, MapKept.run_checkKey hk (show MapKept.IsKey (.int .i64) (.int .i64 k) from rfl), hf, Result.andThen, getC, hasC, hp]
/-- A block of any kind is written. -/
def putB (w : World) (B : Nat) (o : Obj) : World := { w with heap := w.heap.setIfInBounds B o }
theorem BX.putB (B : Nat) (w : World) (o : Obj) : BX B w (putB w B o) :=
  ⟨rfl, rfl, rfl, by simp [YtcfjakifeihbpaaGreat.putB], fun k _ hn => by simp only [YtcfjakifeihbpaaGreat.putB]; rw [Array.getElem?_setIfInBounds_ne (fun h => hn h.symm)]⟩
theorem run_update93 {w : World} {B : Nat} {cs : List Cnt} (h : IsMap w B cs) (k u r : Int) :
    ∃ w', (Instr.mapUpdate 70 (.map (some B)) (.int .i64 k) (.agg #[.int .i64 u, .int .i64 r])).run Tryz.prog w = .ok () w' ∧ IsMap w' B (setC k (u, r) cs) ∧ BX B w w' := by
  obtain ⟨es, clock, hb, hes⟩ := h
  have hlt : B < w.heap.size := (Array.getElem?_eq_some_iff.1 hb).1
  have ht : Tryz.prog.underlying 70 = some (.map 3 115) := by kernel_rfl
  have hk : Tryz.prog.underlying 3 = some (.int .i64) := by kernel_rfl
  have hf := MapKept.run_findKey (P := Tryz.prog) (w := w) hk (findNow_posC k es.toList cs 0 hes)
  cases hp : posC k cs 0 with
  | none =>
    rw [hp] at hf
    refine ⟨putB w B (.map (es.push { key := .int .i64 k, val := .agg #[.int .i64 u, .int .i64 r], born := clock }) (clock + 1)), ?_, ⟨_, _, by simp [putB, hlt]; exact ⟨rfl, rfl⟩, ?_⟩, BX.putB _ _ _⟩
    · simp [Instr.mapUpdate, run_underlying ht, MapKept.run_getObj_map hb, MapKept.run_checkKey hk (show MapKept.IsKey (.int .i64) (.int .i64 k) from rfl), hf, MapKept.run_setObj_map _ hb, Result.andThen, putB]
    · simp [setC, hp, hes, cntKV]
  | some p =>
    rw [hp] at hf
    obtain ⟨j, hj, hc⟩ := posC_some hp
    obtain ⟨q, v⟩ := p
    obtain rfl : q = j := by simpa using hj
    have hjl : q < cs.length := (List.getElem?_eq_some_iff.1 hc).1
    have hlen : es.toList.length = cs.length := by have := congrArg List.length hes; simpa using this
    have hkey : (es[q]?).map (·.key) = some (.int .i64 k) := by
      have := congrArg (fun l => l[q]?) hes
      simp only [List.getElem?_map, hc, Option.map_some, cntKV] at this
      rw [Array.getElem?_toList] at this
      cases he : es[q]? with
      | none => rw [he] at this; simp at this
      | some e => rw [he] at this; simp at this; simp [this.1]
    refine ⟨putB w B (.map (es.modify q fun e => { e with key := .int .i64 k, val := .agg #[.int .i64 u, .int .i64 r] }) clock), ?_, ⟨_, _, by simp [putB, hlt]; exact ⟨rfl, rfl⟩, ?_⟩, BX.putB _ _ _⟩
    · simp [Instr.mapUpdate, run_underlying ht, MapKept.run_getObj_map hb, MapKept.run_checkKey hk (show MapKept.IsKey (.int .i64) (.int .i64 k) from rfl), hf, hkey, MapKept.run_keyThatStays (show MapKept.IsKey (.int .i64) (.int .i64 k) from rfl), MapKept.run_setObj_map _ hb, Result.andThen, putB]
    · simp only [Array.toList_modify, setC, hp]
      apply List.ext_getElem?
      intro i
      have hi := congrArg (fun l => l[i]?) hes
      simp only [List.getElem?_map] at hi
      simp only [List.getElem?_map, List.getElem?_modify, List.getElem?_set]
      by_cases e : q = i
      · subst e
        have he : q < es.toList.length := by omega
        simp [hjl, cntKV, List.getElem?_eq_getElem he]
      · simp only [e, if_false]
        simpa using hi
theorem IsMap.kept {w w' : World} {B : Nat} {cs : List Cnt} (h : IsMap w B cs) (hb : w'.heap[B]? = w.heap[B]?) : IsMap w' B cs := by
  obtain ⟨es, c, h1, h2⟩ := h
  exact ⟨es, c, hb.trans h1, h2⟩
theorem isMap_new (w : World) : IsMap (w.alloc (.map #[] 0)) w.heap.size [] := ⟨#[], 0, heap_new _ _, rfl⟩
theorem IsMap.lt {w : World} {B : Nat} {cs : List Cnt} (h : IsMap w B cs) : B < w.heap.size := by
  obtain ⟨es, c, h1, _⟩ := h
  exact (Array.getElem?_eq_some_iff.1 h1).1
end Go.Proofs.YtcfjakifeihbpaaGreat

namespace Go.Proofs.YtcfjakifeihbpaaGreat
open Go.RowKit

/-- The cells of a measure. -/
structure Hd where
  a : Option Addr
  n : Nat
  cap : Nat
  eLo : Int
  eHi : Int
  images : Int
  sLo : Int
  sHi : Int
  sa : Option Addr
  ns : Nat
  scap : Nat
def Hd.val (h : Hd) : Value := .agg #[.slice h.a h.n h.cap, .int .i64 h.eLo, .int .i64 h.eHi, .int .i64 h.images, .int .i64 h.sLo, .int .i64 h.sHi, .slice h.sa h.ns h.scap]
abbrev Tell := Bool × Int × Int × Int
def tellV (t : Tell) : Value := .iface (if t.1 then 134 else 135) (.agg #[.int .i64 t.2.1, .int .i64 t.2.2.1, .int .i64 t.2.2.2])
/-- Block L is a measure that is looked at; all of it was made since w0. -/
structure IsLook (w0 w : World) (L mb : Nat) (h : Hd) (tv : Value) (ts : List Tell) (cs : List Cnt) : Prop where
  nl : w0.heap.size ≤ L
  nm : w0.heap.size ≤ mb
  cells : w.heap[L]? = some (.cells #[.slice h.a h.n h.cap, .int .i64 h.eLo, .int .i64 h.eHi, .int .i64 h.images, .int .i64 h.sLo, .int .i64 h.sHi, .slice h.sa h.ns h.scap, tv, .map (some mb)] 72 (0, 0))
  row : w.ownsRow w0.heap.size 138 1 tv ts.length (ts.map tellV)
  map : IsMap w mb cs
theorem IsLook.lt {w0 w : World} {L mb : Nat} {h : Hd} {tv : Value} {ts : List Tell} {cs : List Cnt} (k : IsLook w0 w L mb h tv ts cs) : L < w.heap.size := (Array.getElem?_eq_some_iff.1 k.cells).1
theorem IsLook.cell {w0 w : World} {L mb : Nat} {h : Hd} {tv : Value} {ts : List Tell} {cs : List Cnt} (k : IsLook w0 w L mb h tv ts cs) :
    w.cell? ⟨L, 0, none⟩ = some (.slice h.a h.n h.cap) ∧ w.cell? ⟨L, 1, none⟩ = some (.int .i64 h.eLo) ∧ w.cell? ⟨L, 2, none⟩ = some (.int .i64 h.eHi) ∧ w.cell? ⟨L, 3, none⟩ = some (.int .i64 h.images) ∧
    w.cell? ⟨L, 4, none⟩ = some (.int .i64 h.sLo) ∧ w.cell? ⟨L, 5, none⟩ = some (.int .i64 h.sHi) ∧ w.cell? ⟨L, 6, none⟩ = some (.slice h.sa h.ns h.scap) ∧ w.cell? ⟨L, 7, none⟩ = some tv ∧ w.cell? ⟨L, 8, none⟩ = some (.map (some mb)) ∧
    w.frozen? ⟨L, 7, none⟩ = false := by
  refine ⟨?_, ?_, ?_, ?_, ?_, ?_, ?_, ?_, ?_, frozen_of_row w L 7 _ 72 k.cells⟩ <;> rw [cell_of_row w L _ _ _ _ k.cells] <;> rfl
theorem IsLook.grown {w0 w w' : World} {L mb : Nat} {h : Hd} {tv : Value} {ts : List Tell} {cs : List Cnt} (k : IsLook w0 w L mb h tv ts cs) (hb : Below w.heap.size w w') : IsLook w0 w' L mb h tv ts cs :=
  ⟨k.nl, k.nm, (hb.block L k.lt).trans k.cells, k.row.kept (row := none) ⟨hb.os, hb.tape, hb.output, hb.size, fun i hi _ => hb.block i hi⟩ (by cases tv.ownBlock <;> simp), k.map.kept (hb.block mb k.map.lt)⟩

theorem slook {N mb : Nat} {W w w' : World} {cs : List Cnt} (hB : Below w.heap.size w w') (h : N ≤ w.heap.size ∧ ∀ b o, b < N → w.cell? ⟨b, o, none⟩ = W.cell? ⟨b, o, none⟩) (hm : IsMap w mb cs) :
    (N ≤ w'.heap.size ∧ ∀ b o, b < N → w'.cell? ⟨b, o, none⟩ = W.cell? ⟨b, o, none⟩) ∧ ∀ k, (Instr.lookup 70 (.map (some mb)) (.int .i64 k) false).run Tryz.prog w' = .ok (.agg #[.int .i64 (getC k cs).1, .int .i64 (getC k cs).2]) w' :=
  ⟨keepS hB h, fun k => run_lookup93 (hm.kept (hB.block mb hm.lt)) k⟩
theorem tmps_eta (x : Array Value) (n : Nat) (h : x.size = n) : x = ((List.range n).map fun k => x.getD k undef).toArray := by
  subst h
  apply Array.ext
  · simp
  · intro i h1 h2
    simp [Array.getElem?_eq_getElem h1]
theorem IsLook.bx {w0 w w' : World} {L mb B : Nat} {h : Hd} {tv : Value} {ts : List Tell} {cs : List Cnt} (k : IsLook w0 w L mb h tv ts cs) (hb : BX B w w') (h1 : L ≠ B) (h2 : mb ≠ B) (h3 : ∀ g, tv.ownBlock = some g → g ≠ B) : IsLook w0 w' L mb h tv ts cs :=
  ⟨k.nl, k.nm, (hb.block L k.lt h1).trans k.cells, k.row.kept (row := some B) ⟨hb.os, hb.tape, hb.output, hb.size, fun i hi hn => hb.block i hi (fun e => hn (by rw [e]))⟩ (by
    cases hv : tv.ownBlock with
    | none => exact .inl rfl
    | some g => exact .inr (fun e => h3 g hv (by simpa using e))), k.map.kept (hb.block mb k.map.lt h2)⟩
theorem IsLook.apart {w0 w : World} {L mb : Nat} {h : Hd} {tv : Value} {ts : List Tell} {cs : List Cnt} (k : IsLook w0 w L mb h tv ts cs) : L ≠ mb ∧ ∀ g, tv.ownBlock = some g → g ≠ L ∧ g ≠ mb ∧ w0.heap.size ≤ g ∧ g < w.heap.size := by
  obtain ⟨es, c, hm, _⟩ := k.map
  refine ⟨fun e => ?_, fun g hg => ⟨fun e => ?_, fun e => ?_, k.row.lt g hg⟩⟩
  · have := k.cells; rw [e, hm] at this; cases this
  · rcases k.row.2 with ⟨hv, _⟩ | ⟨g', cap, cur, hv, _, hh, _⟩
    · rw [hv] at hg; simp [Value.ownBlock] at hg
    · rw [hv] at hg; simp [Value.ownBlock] at hg
      subst hg; subst e
      have := k.cells; rw [hh] at this; injection this with this; injection this with h1 h2; cases h2
  · rcases k.row.2 with ⟨hv, _⟩ | ⟨g', cap, cur, hv, _, hh, _⟩
    · rw [hv] at hg; simp [Value.ownBlock] at hg
    · rw [hv] at hg; simp [Value.ownBlock] at hg
      subst hg; subst e
      rw [hh] at hm; cases hm
theorem row_succ {w : World} {base : Nat} {v : Value} {n : Nat} {xs : List Value} (h : w.ownsRow base 138 1 v (n + 1) xs) : ∃ g cap, v = .slice (some ⟨g, 0, none⟩) (n + 1) cap := by
  rcases h.2 with ⟨_, h0⟩ | ⟨g, cap, cur, hv, _⟩
  · omega
  · exact ⟨g, cap, hv⟩
theorem info99 : (Tryz.prog.info? 138).map (fun i => (i.zero, i.size, i.bytes)) = some (some .nilIface, 1, 16) := by kernel_rfl
/-- Behind the store of the tells: the measure that is looked at, with one more. -/
theorem look_put {w0 w w3 : World} {L mb : Nat} {h : Hd} {tv v' : Value} {ts : List Tell} {cs : List Cnt} {t : Tell} (k : IsLook w0 w L mb h tv ts cs) (hg : w.grownBy w3 tv.ownBlock)
    (hown : w3.ownsRow w0.heap.size 138 1 v' (ts.length + 1) (ts.map tellV ++ [tellV t])) : IsLook w0 (w3.setCell ⟨L, 7, none⟩ v') L mb h v' (ts ++ [t]) cs := by
  obtain ⟨hap, hgs⟩ := k.apart
  have hne : some L ≠ tv.ownBlock := fun e => (hgs L e.symm).1 rfl
  have hne2 : some mb ≠ tv.ownBlock := fun e => (hgs mb e.symm).2.1 rfl
  have hc3 := (hg.block L k.lt hne).trans k.cells
  have hm3 := k.map.kept (hg.block mb k.map.lt hne2)
  refine ⟨k.nl, k.nm, ?_, ?_, hm3.kept (Below.heap_setCell _ _ _ _ (Ne.symm hap))⟩
  · rw [heap_setCell_same _ _ _ _ _ _ hc3]; rfl
  · have : v'.ownBlock ≠ some L := by
      rcases hown.2 with ⟨_, h0⟩ | ⟨g', cap, cur, hv, _, hh, _⟩
      · omega
      · rw [hv]; intro e; simp [Value.ownBlock] at e; subst e
        rw [hc3] at hh; injection hh with hh; injection hh with h1 h2; cases h2
    have hk := hown.kept (w' := w3.setCell ⟨L, 7, none⟩ v') (row := some L) ⟨rfl, rfl, rfl, by simp, fun i _ hn => Below.heap_setCell _ _ _ _ (fun e => hn (by rw [e]))⟩ (.inr this)
    simpa using hk
def bump (rev : Bool) (p : Int × Int) : Int × Int := if rev then (p.1, wrap64 (p.2 + 1)) else (wrap64 (p.1 + 1), p.2)

set_option maxHeartbeats 2000000 in
theorem ladd_any (w0 : World) (L mb : Nat) (h : Hd) (tv : Value) (ts : List Tell) (cs : List Cnt) (xs : List (Int × Int)) (im rd : Int) (rev : Bool) (w : World)
    (hL : IsLook w0 w L mb h tv ts cs) (hx : Spans w0 h.a xs) (hB : Below w0.heap.size w0 w) (hn : xs.length = h.n) (hr0 : 0 ≤ rd) (hr1 : rd ≤ 9223372036854775807) (hr2 : rd / 1000 < h.n) (ht : ts.length < 1000) :
    Calls Tryz.prog 73 #[.pointer (some ⟨L, 0, none⟩), .agg #[.int .i64 im, .int .i64 rd, .bool rev]] w (fun e w' => e = .returned (.tuple #[]) ∧ Below w0.heap.size w0 w' ∧ ∃ tv', IsLook w0 w' L mb h tv' (ts ++ [(rev, im, trav rd (xs.getD (rd / 1000).toNat (0, 0)).1 h.eLo, trav rd (xs.getD (rd / 1000).toNat (0, 0)).2 h.eHi)]) (setC im (bump rev (getC im cs)) cs)) := by
  have hlt := hL.lt
  have HTL := Lib.hid ht; clear ht
  obtain ⟨k0, k1, k2, k3, k4, k5, k6, k7, k8, k9⟩ := hL.cell
  have HL := Lib.hid hL; clear hL
  have HX := Lib.hid hx; clear hx
  have HB := Lib.hid hB; clear hB
  have HN := Lib.hid hn; clear hn
  have HR := Lib.hid (And.intro hr0 (And.intro hr1 hr2)); clear hr0 hr1 hr2
  obtain ⟨ha, hnn, hcap, heLo, heHi, him, hsLo, hsHi, hsa, hns, hscap⟩ := h
  dsimp only at k0 k1 k2 k3 k4 k5 k6
  obtain ⟨b, o, q, hab, hb0, hq0, hqn, e1, e2⟩ : ∃ b o q : Nat, ha = some ⟨b, o, none⟩ ∧ b < w0.heap.size ∧ rd / 1000 = q ∧ q < hnn ∧
      w0.cell? ⟨b, o + q * 2, none⟩ = some (.int .i64 (xs.getD q (0, 0)).1) ∧ w0.cell? ⟨b, o + q * 2 + 1, none⟩ = some (.int .i64 (xs.getD q (0, 0)).2) := by
    obtain ⟨r0, r1, r2⟩ := HR.out
    have hn := HN.out
    rcases HX.out with h | ⟨b, o, h1, h2, h3⟩
    · exfalso; rw [h] at hn; simp at hn; dsimp only at r2; omega
    · dsimp only at r2 h1 hn
      have hq : (rd / 1000).toNat < xs.length := by omega
      exact ⟨b, o, (rd / 1000).toNat, h1, h2, by omega, by omega, (h3 _ hq).1, (h3 _ hq).2⟩
  subst hab
  have hqx : Hid (q = (rd / 1000).toNat) := by show q = _; omega
  rw [← HB.out.cell (p := ⟨b, o + q * 2, none⟩) hb0] at e1
  rw [← HB.out.cell (p := ⟨b, o + q * 2 + 1, none⟩) hb0] at e2
  have hbw : b < w.heap.size := by have := HB.out.size; omega
  have HT : Hid (∀ Y, Below w.heap.size w Y → Calls Tryz.prog 59 #[.agg #[.slice (some ⟨b, o, none⟩) hnn hcap, .int .i64 heLo, .int .i64 heHi], .int .i64 rd] Y
      (Ret (.agg #[.int .i64 (trav rd (xs.getD q (0, 0)).1 heLo), .int .i64 (trav rd (xs.getD q (0, 0)).2 heHi)]) Y)) := fun Y hY =>
    travel_any b o hnn hcap q rd heLo heHi _ _ Y HR.out.1 HR.out.2.1 hq0 hqn (by have := hY.size; omega)
      ((hY.cell (p := ⟨b, o + q * 2, none⟩) hbw).trans e1) ((hY.cell (p := ⟨b, o + q * 2 + 1, none⟩) hbw).trans e2)
  clear e1 e2 hq0
  dsimp only
  rw [← hqx.out]
  generalize trav rd (xs.getD q (0, 0)).1 heLo = lo at *
  generalize trav rd (xs.getD q (0, 0)).2 heHi = hi at *
  have hlb : Hid (∀ w', IsMap w' mb cs → ∀ k, (Instr.lookup 70 (.map (some mb)) (.int .i64 k) false).run Tryz.prog w' = .ok (.agg #[.int .i64 (getC k cs).1, .int .i64 (getC k cs).2]) w') := fun w' h k => run_lookup93 h k
  go_enter Tryz.func73, Tryz.ntmps73
  go_wp2_with fail
  obtain ⟨W, hW⟩ : ∃ W, w.alloc (Obj.cells #[Value.int IntKind.i64 im, Value.int IntKind.i64 rd, Value.bool rev] 38) = W := ⟨_, rfl⟩
  have s0 : W.heap.size = w.heap.size + 1 := by rw [← hW]; simp
  have c0_0 : W.cell? ⟨w.heap.size, 0, none⟩ = some (Value.int IntKind.i64 im) := by rw [← hW]; simp [go_sem]
  have c0_1 : W.cell? ⟨w.heap.size, 1, none⟩ = some (Value.int IntKind.i64 rd) := by rw [← hW]; simp [go_sem]
  have c0_2 : W.cell? ⟨w.heap.size, 2, none⟩ = some (Value.bool rev) := by rw [← hW]; simp [go_sem]
  have hBW : Below w.heap.size w W := by rw [← hW]; (repeat (first | assumption | exact Below.refl _ _ | refine BA ?_ _ | refine BC ?_ _ _ (by omega) _ | refine Below.drew ?_ | refine BT ?_ (by assumption)))
  have d0 : W.cell? ⟨L, 0, none⟩ = some (.slice (some ⟨b, o, none⟩) hnn hcap) := by rw [← hW]; simp [go_sem, hlt, k0]
  have d1 : W.cell? ⟨L, 1, none⟩ = some (.int .i64 heLo) := by rw [← hW]; simp [go_sem, hlt, k1]
  have d2 : W.cell? ⟨L, 2, none⟩ = some (.int .i64 heHi) := by rw [← hW]; simp [go_sem, hlt, k2]
  have d7 : W.cell? ⟨L, 7, none⟩ = some tv := by rw [← hW]; simp [go_sem, hlt, k7]
  have d8 : W.cell? ⟨L, 8, none⟩ = some (.map (some mb)) := by rw [← hW]; simp [go_sem, hlt, k8]
  have HLW : IsLook w0 W L mb ⟨some ⟨b, o, none⟩, hnn, hcap, heLo, heHi, him, hsLo, hsHi, hsa, hns, hscap⟩ tv ts cs := HL.out.grown hBW
  have hl1 : L < w.heap.size + 1 := by omega
  rw [hW]
  clear k0 k1 k2 k3 k4 k5 k6 k7 k8 k9
  have hHW := Lib.hid HLW
  have HBW := Lib.hid hBW
  clear HLW hBW
  have hS : Hid (w.heap.size + 1 ≤ W.heap.size ∧ ∀ b' o', b' < w.heap.size + 1 → W.cell? ⟨b', o', none⟩ = W.cell? ⟨b', o', none⟩) := ⟨(by (first | omega | (simp; done) | (simp; omega))), fun _ _ _ => rfl⟩
  refine wp_region_seq [(0, true), (1, true), (2, true), (3, true), (4, true), (5, true), (6, true), (7, false), (8, false)]
    (fun w' => (w.heap.size + 1 ≤ w'.heap.size ∧ ∀ b' o', b' < w.heap.size + 1 → w'.cell? ⟨b', o', none⟩ = W.cell? ⟨b', o', none⟩) ∧ ∀ k, (Instr.lookup 70 (.map (some mb)) (.int .i64 k) false).run Tryz.prog w' = .ok (.agg #[.int .i64 (getC k cs).1, .int .i64 (getC k cs).2]) w') (by kernel_rfl) (by kernel_rfl) (fun _ _ d _ _ h => by cases d <;> exact h) (slook (by (repeat (first | assumption | exact Below.refl _ _ | refine BA ?_ _ | refine BC ?_ _ _ (by omega) _ | refine Below.drew ?_ | refine BT ?_ (by assumption)))) hS.out hHW.out.map) ?_
  repeat (first | (refine seq_read rfl (by rfl) _ (fun w' hS => by (try dsimp only at hS); go_simp; (try with_reducible rfl)) ?_; (try simp only [Act.put, List.setIfInBounds_toArray, List.set_cons_zero, List.set_cons_succ])) | (refine seq_skip rfl (by rfl) ?_; (try simp only [Act.put, List.setIfInBounds_toArray, List.set_cons_zero, List.set_cons_succ])))
  (refine seq_do rfl (by rfl) (fun K hK => ?_); go_simp)
  refine hK _ _ (slook (by (repeat (first | assumption | exact Below.refl _ _ | refine BA ?_ _ | refine BC ?_ _ _ (by omega) _ | refine Below.drew ?_ | refine BT ?_ (by assumption)))) hS.out hHW.out.map) ?_
  clear hK K
  (refine seq_do rfl (by rfl) (fun K hK => ?_); go_simp)
  refine hK _ _ (slook (by (repeat (first | assumption | exact Below.refl _ _ | refine BA ?_ _ | refine BC ?_ _ _ (by omega) _ | refine Below.drew ?_ | refine BT ?_ (by assumption)))) hS.out hHW.out.map) ?_
  clear hK K
  apply seq_end
  generalize hgu : (getC im cs).1 = gu
  generalize hgr : (getC im cs).2 = gr
  have HGU := Lib.hid hgu; clear hgu
  have HGR := Lib.hid hgr; clear hgr
  go_wp2_with fail
  have hWX : Below W.heap.size W (W.alloc (Obj.cells #[Value.int IntKind.i64 gu, Value.int IntKind.i64 gr] 115)).drew := by (repeat (first | assumption | exact Below.refl _ _ | refine BA ?_ _ | refine BC ?_ _ _ (by omega) _ | refine Below.drew ?_ | refine BT ?_ (by assumption)))
  have hLX := hHW.out.grown hWX
  have hBX : Below w.heap.size w (W.alloc (Obj.cells #[Value.int IntKind.i64 gu, Value.int IntKind.i64 gr] 115)).drew := BT HBW.out hWX
  obtain ⟨X, hX⟩ : ∃ X, (W.alloc (Obj.cells #[Value.int IntKind.i64 gu, Value.int IntKind.i64 gr] 115)).drew = X := ⟨_, rfl⟩
  have t0 : X.heap.size = w.heap.size + 2 := by rw [← hX]; simp [s0]
  have x0 : X.cell? ⟨L, 0, none⟩ = some (.slice (some ⟨b, o, none⟩) hnn hcap) := by rw [hX] at hLX; exact hLX.cell.1
  have x1 : X.cell? ⟨L, 1, none⟩ = some (.int .i64 heLo) := by rw [hX] at hLX; exact hLX.cell.2.1
  have x2 : X.cell? ⟨L, 2, none⟩ = some (.int .i64 heHi) := by rw [hX] at hLX; exact hLX.cell.2.2.1
  have y0 : X.cell? ⟨w.heap.size, 0, none⟩ = some (.int .i64 im) := by rw [← hX]; simp [go_sem, s0, c0_0]
  have y1 : X.cell? ⟨w.heap.size, 1, none⟩ = some (.int .i64 rd) := by rw [← hX]; simp [go_sem, s0, c0_1]
  have y2 : X.cell? ⟨w.heap.size, 2, none⟩ = some (.bool rev) := by rw [← hX]; simp [go_sem, s0, c0_2]
  have z0 : X.cell? ⟨w.heap.size + 1, 0, none⟩ = some (.int .i64 gu) := by rw [← hX, ← s0]; simp [go_sem]
  have z1 : X.cell? ⟨w.heap.size + 1, 1, none⟩ = some (.int .i64 gr) := by rw [← hX, ← s0]; simp [go_sem]
  have zf0 : X.frozen? ⟨w.heap.size + 1, 0, none⟩ = false := by rw [← hX, ← s0]; simp [go_sem]
  have zf1 : X.frozen? ⟨w.heap.size + 1, 1, none⟩ = false := by rw [← hX, ← s0]; simp [go_sem]
  clear c0_0 c0_1 c0_2 d0 d1 d2 d7 d8 hW hWX
  rw [hX] at hLX hBX ⊢
  clear hX hS HBW hHW s0
  have hl2 : L < w.heap.size + 2 := by omega
  have HLX := Lib.hid hLX; clear hLX
  have HBX := Lib.hid hBX; clear hBX
  refine wp_cut (fun a' w' => ∃ (vb : Nat) (v13 v14 v15 v16 v17 v18 v19 v20 : Value), a' = { tmps := #[.pointer (some ⟨L, 0, none⟩), .agg #[.int .i64 im, .int .i64 rd, .bool rev], undef, .pointer (some ⟨w.heap.size, 0, none⟩), .pointer (some ⟨w.heap.size + 1, 0, none⟩), .pointer (some ⟨vb, 0, none⟩), .pointer (some ⟨L, 0, none⟩), .pointer (some ⟨L, 0, none⟩), .pointer (some ⟨L, 8, none⟩), .map (some mb), .pointer (some ⟨w.heap.size, 0, none⟩), .int .i64 im, .agg #[.int .i64 gu, .int .i64 gr], v13, v14, v15, v16, v17, v18, v19, v20, undef, undef, undef, undef, undef, undef, undef, undef, undef, undef, undef, undef, undef, undef, undef, undef, undef, undef, undef, undef, undef, undef, undef, undef, undef, undef, undef, undef, undef, undef, undef, undef, undef, undef, undef, undef, undef, undef, undef, undef, undef, undef, undef, undef, undef], defers := [] } ∧
    Below X.heap.size X w' ∧ w'.cell? ⟨vb, 0, none⟩ = some (.int .i64 lo) ∧ w'.cell? ⟨vb, 1, none⟩ = some (.int .i64 hi) ∧ X.heap.size ≤ vb) ?_ ?_
  · have hS : Hid (w.heap.size + 2 ≤ X.heap.size ∧ ∀ b' o', b' < w.heap.size + 2 → X.cell? ⟨b', o', none⟩ = X.cell? ⟨b', o', none⟩) := ⟨(by (first | omega | (simp; done) | (simp; omega))), fun _ _ _ => rfl⟩
    refine wp_region_fork [(0, true), (1, true), (2, true), (3, true), (4, true), (5, true), (6, true)] [(7, false), (8, false), (9, false)] [(8, false), (7, false), (9, false)]
      (fun w' => w.heap.size + 2 ≤ w'.heap.size ∧ ∀ b' o', b' < w.heap.size + 2 → w'.cell? ⟨b', o', none⟩ = X.cell? ⟨b', o', none⟩) (by kernel_rfl) (by kernel_rfl) (fun _ _ d _ _ h => by cases d <;> exact h) (keepS (by (repeat (first | assumption | exact Below.refl _ _ | refine BA ?_ _ | refine BC ?_ _ _ (by omega) _ | refine Below.drew ?_ | refine BT ?_ (by assumption)))) hS.out) ?_
    repeat (first | (refine seq_read rfl (by rfl) _ (fun w' hS => by (try dsimp only at hS); go_simp; (try with_reducible rfl)) ?_; (try simp only [Act.put, List.setIfInBounds_toArray, List.set_cons_zero, List.set_cons_succ])) | (refine seq_skip rfl (by rfl) ?_; (try simp only [Act.put, List.setIfInBounds_toArray, List.set_cons_zero, List.set_cons_succ])))
    apply seq_end
    intro hSd
    constructor
    · (refine seq_do rfl (by rfl) (fun K hK => ?_); go_simp)
      refine (HT.out _ (BT HBX.out (by (repeat (first | assumption | exact Below.refl _ _ | refine BA ?_ _ | refine BC ?_ _ _ (by omega) _ | refine Below.drew ?_ | refine BT ?_ (by assumption)))))).mono ?_
      rintro e w1 ⟨rfl, hb1⟩
      have hXw : Below X.heap.size X w1 := by (repeat (first | assumption | exact Below.refl _ _ | refine BA ?_ _ | refine BC ?_ _ _ (by omega) _ | refine Below.drew ?_ | refine BT ?_ (by assumption)))
      refine hK _ _ (keepS hXw hS.out) ?_
      clear hK K hSd hb1
      (refine seq_do rfl (by rfl) (fun K hK => ?_); go_simp)
      refine hK _ _ (keepS (by (repeat (first | assumption | exact Below.refl _ _ | refine BA ?_ _ | refine BC ?_ _ _ (by omega) _ | refine Below.drew ?_ | refine BT ?_ (by assumption)))) hS.out) ?_
      clear hK K
      (refine seq_do rfl (by rfl) (fun K hK => ?_); go_simp)
      refine hK _ _ (keepS (by (repeat (first | assumption | exact Below.refl _ _ | refine BA ?_ _ | refine BC ?_ _ _ (by omega) _ | refine Below.drew ?_ | refine BT ?_ (by assumption)))) hS.out) ?_
      clear hK K
      apply seq_end
      exact ⟨w1.heap.size, _, _, _, _, _, _, _, _, rfl, by (repeat (first | assumption | exact Below.refl _ _ | refine BA ?_ _ | refine BC ?_ _ _ (by omega) _ | refine Below.drew ?_ | refine BT ?_ (by assumption))), by simp, by simp, hXw.size⟩
    · (refine seq_do rfl (by rfl) (fun K hK => ?_); go_simp)
      have hXa : Below X.heap.size X (X.alloc (Obj.cells #[Value.int IntKind.i64 0, Value.int IntKind.i64 0] 90)).drew := by (repeat (first | assumption | exact Below.refl _ _ | refine BA ?_ _ | refine BC ?_ _ _ (by omega) _ | refine Below.drew ?_ | refine BT ?_ (by assumption)))
      refine hK _ _ (keepS hXa hS.out) ?_
      clear hK K hSd
      (refine seq_do rfl (by rfl) (fun K hK => ?_); go_simp)
      refine (HT.out _ (BT HBX.out (by (repeat (first | assumption | exact Below.refl _ _ | refine BA ?_ _ | refine BC ?_ _ _ (by omega) _ | refine Below.drew ?_ | refine BT ?_ (by assumption)))))).mono ?_
      rintro e w1 ⟨rfl, hb1⟩
      have hXw : Below X.heap.size X w1 := by (repeat (first | assumption | exact Below.refl _ _ | refine BA ?_ _ | refine BC ?_ _ _ (by omega) _ | refine Below.drew ?_ | refine BT ?_ (by assumption)))
      have q0 : w1.cell? ⟨X.heap.size, 0, none⟩ = some (.int .i64 0) := by rw [hb1.cell (p := ⟨X.heap.size, 0, none⟩) (by simp)]; simp
      have q1 : w1.cell? ⟨X.heap.size, 1, none⟩ = some (.int .i64 0) := by rw [hb1.cell (p := ⟨X.heap.size, 1, none⟩) (by simp)]; simp
      have q2 : w1.frozen? ⟨X.heap.size, 0, none⟩ = false := by rw [hb1.frozen (p := ⟨X.heap.size, 0, none⟩) (by simp)]; simp
      have q3 : w1.frozen? ⟨X.heap.size, 1, none⟩ = false := by rw [hb1.frozen (p := ⟨X.heap.size, 1, none⟩) (by simp)]; simp
      rw [t0] at q0 q1 q2 q3
      refine hK _ _ (keepS hXw hS.out) ?_
      clear hK K hb1 hXa
      (refine seq_do rfl (by rfl) (fun K hK => ?_); go_simp)
      refine hK _ _ (keepS (by (repeat (first | assumption | exact Below.refl _ _ | refine BA ?_ _ | refine BC ?_ _ _ (by omega) _ | refine Below.drew ?_ | refine BT ?_ (by assumption)))) hS.out) ?_
      clear hK K
      apply seq_end
      exact ⟨w.heap.size + 2, _, _, _, _, _, _, _, _, rfl, by (repeat (first | assumption | exact Below.refl _ _ | refine BA ?_ _ | refine BC ?_ _ _ (by omega) _ | refine Below.drew ?_ | refine BT ?_ (by assumption))), by simp [go_sem, q0], by simp [go_sem, q1], by omega⟩
  · rintro a' w' ⟨vb, v13, v14, v15, v16, v17, v18, v19, v20, rfl, hXw, b0, b1, hvb⟩
    have HLw := Lib.hid (HLX.out.grown hXw)
    have HBw := Lib.hid (BT HBX.out hXw)
    have hL7 := HLw.out.cell.2.2.2.2.2.2.2.1
    have hLf := HLw.out.cell.2.2.2.2.2.2.2.2.2
    have y0' := (hXw.cell (p := ⟨w.heap.size, 0, none⟩) (by rw [t0]; show w.heap.size < _; omega)).trans y0
    have y2' := (hXw.cell (p := ⟨w.heap.size, 2, none⟩) (by rw [t0]; show w.heap.size < _; omega)).trans y2
    have z0' := (hXw.cell (p := ⟨w.heap.size + 1, 0, none⟩) (by rw [t0]; show w.heap.size + 1 < _; omega)).trans z0
    have z1' := (hXw.cell (p := ⟨w.heap.size + 1, 1, none⟩) (by rw [t0]; show w.heap.size + 1 < _; omega)).trans z1
    have zf0' := (hXw.frozen (p := ⟨w.heap.size + 1, 0, none⟩) (by rw [t0]; show w.heap.size + 1 < _; omega)).trans zf0
    have zf1' := (hXw.frozen (p := ⟨w.heap.size + 1, 1, none⟩) (by rw [t0]; show w.heap.size + 1 < _; omega)).trans zf1
    have hsz : w.heap.size + 2 ≤ w'.heap.size := by have := hXw.size; omega
    have HXw := Lib.hid hXw
    clear x0 x1 x2 y0 y1 y2 z0 z1 zf0 zf1 hXw
    have hht : Hid (ts.length < 1000) := HTL.out
    have hrow : ∀ g, tv.ownBlock = some g → g < w.heap.size := fun g hg => (HL.out.apart.2 g hg).2.2.2
    have hmb : mb < w.heap.size := HL.out.map.lt
    have hvb2 : vb < w'.heap.size := World.block_lt_of_cell? w' _ b0
    cases rev
    · go_wp2_with fail
      have hXY : BX (w.heap.size + 1) w' (w'.setCell ⟨w.heap.size + 1, 0, none⟩ (.int .i64 (wrap64 (gu + 1)))) := BX.set _ _ _ _
      have u0 : (w'.setCell ⟨w.heap.size + 1, 0, none⟩ (.int .i64 (wrap64 (gu + 1)))).cell? ⟨w.heap.size + 1, 0, none⟩ = some (.int .i64 (wrap64 (gu + 1))) := by simp [go_sem, z0']
      have u1 : (w'.setCell ⟨w.heap.size + 1, 0, none⟩ (.int .i64 (wrap64 (gu + 1)))).cell? ⟨w.heap.size + 1, 1, none⟩ = some (.int .i64 (gr)) := by simp [go_sem, z1']
      obtain ⟨Y, hY⟩ : ∃ Y, w'.setCell ⟨w.heap.size + 1, 0, none⟩ (.int .i64 (wrap64 (gu + 1))) = Y := ⟨_, rfl⟩
      rw [hY] at hXY u0 u1 ⊢
      clear hY
      have r1 : Y.cell? ⟨L, 7, none⟩ = some tv := (hXY.cell _ _ (by omega) (by omega)).trans hL7
      have r2 : Y.cell? ⟨w.heap.size, 0, none⟩ = some (.int .i64 im) := (hXY.cell _ _ (by omega) (by omega)).trans y0'
      have r3 : Y.cell? ⟨vb, 0, none⟩ = some (.int .i64 lo) := (hXY.cell _ _ hvb2 (by omega)).trans b0
      have r4 : Y.cell? ⟨vb, 1, none⟩ = some (.int .i64 hi) := (hXY.cell _ _ hvb2 (by omega)).trans b1
      have HLY := Lib.hid (HLw.out.bx hXY (by omega) (by omega) (fun g hg => by have := hrow g hg; omega))
      have HBY := Lib.hid (BX.below (N := w.heap.size) HBw.out hXY (by omega) (by omega))
      have hYs : w.heap.size + 2 ≤ Y.heap.size := by have := hXY.size; omega
      clear hXY z0' z1' zf0' zf1' b0 b1 y0' y2' hL7 hLf
      refine wp_cut (fun a' w'' => ∃ (v' : Value), a'.tmps.size = 66 ∧ a'.defers = [] ∧ a'.tmps.getD 0 undef = .pointer (some ⟨L, 0, none⟩) ∧ a'.tmps.getD 3 undef = .pointer (some ⟨w.heap.size, 0, none⟩) ∧ a'.tmps.getD 4 undef = .pointer (some ⟨w.heap.size + 1, 0, none⟩) ∧
        IsLook w0 w'' L mb ⟨some ⟨b, o, none⟩, hnn, hcap, heLo, heHi, him, hsLo, hsHi, hsa, hns, hscap⟩ v' (ts ++ [(false, im, lo, hi)]) cs ∧ Below w0.heap.size w0 w'' ∧
        w''.cell? ⟨w.heap.size, 0, none⟩ = some (.int .i64 im) ∧ w''.cell? ⟨w.heap.size + 1, 0, none⟩ = some (.int .i64 (wrap64 (gu + 1))) ∧ w''.cell? ⟨w.heap.size + 1, 1, none⟩ = some (.int .i64 (gr))) ?_ ?_
      · refine wp_region_seq [(0, true), (1, true), (2, true), (3, true), (4, true), (5, true), (6, true), (7, true), (8, true), (9, true), (10, false), (11, false), (12, true), (13, true), (14, false)]
          (fun w' => w'.cell? ⟨L, 7, none⟩ = some tv ∧ w'.cell? ⟨w.heap.size, 0, none⟩ = some (.int .i64 im) ∧ w'.cell? ⟨vb, 0, none⟩ = some (.int .i64 lo) ∧ w'.cell? ⟨vb, 1, none⟩ = some (.int .i64 hi)) (by kernel_rfl) (by kernel_rfl) (fun _ _ d _ _ h => by cases d <;> exact h) ⟨r1, r2, r3, r4⟩ ?_
        repeat (first | (refine seq_read rfl (by rfl) _ (fun w' hS => by (try dsimp only at hS); go_simp; (try with_reducible rfl)) ?_; (try simp only [Act.put, List.setIfInBounds_toArray, List.set_cons_zero, List.set_cons_succ])) | (refine seq_skip rfl (by rfl) ?_; (try simp only [Act.put, List.setIfInBounds_toArray, List.set_cons_zero, List.set_cons_succ])))
        (refine seq_do rfl (by rfl) (fun K hK => ?_); go_simp)
        have hBd : Below Y.heap.size Y (Y.alloc (Obj.cells #[Value.iface 135 (Value.agg #[Value.int IntKind.i64 im, Value.int IntKind.i64 lo, Value.int IntKind.i64 hi])] 138)).drew := by (repeat (first | assumption | exact Below.refl _ _ | refine BA ?_ _ | refine BC ?_ _ _ (by omega) _ | refine Below.drew ?_ | refine BT ?_ (by assumption)))
        have s1 := (hBd.cell (p := ⟨L, 7, none⟩) (World.block_lt_of_cell? Y _ r1)).trans r1
        have s2 := (hBd.cell (p := ⟨w.heap.size, 0, none⟩) (World.block_lt_of_cell? Y _ r2)).trans r2
        have s3 := (hBd.cell (p := ⟨vb, 0, none⟩) (World.block_lt_of_cell? Y _ r3)).trans r3
        have s4 := (hBd.cell (p := ⟨vb, 1, none⟩) (World.block_lt_of_cell? Y _ r4)).trans r4
        have p0 := (hBd.cell (p := ⟨w.heap.size + 1, 0, none⟩) (World.block_lt_of_cell? Y _ u0)).trans u0
        have p1 := (hBd.cell (p := ⟨w.heap.size + 1, 1, none⟩) (World.block_lt_of_cell? Y _ u1)).trans u1
        have hLd := HLY.out.grown hBd
        have hnew : ∀ j u, [tellV (false, im, lo, hi)][j]? = some u → (Y.alloc (Obj.cells #[Value.iface 135 (Value.agg #[Value.int IntKind.i64 im, Value.int IntKind.i64 lo, Value.int IntKind.i64 hi])] 138)).drew.cell? ((⟨Y.heap.size, 0, none⟩ : Addr).add j) = some u := by
          intro j u hu
          cases j with
          | zero => simp at hu; subst hu; simp [Addr.add, tellV]
          | succ j => simp at hu
        have hBW2 : Below w0.heap.size w0 (Y.alloc (Obj.cells #[Value.iface 135 (Value.agg #[Value.int IntKind.i64 im, Value.int IntKind.i64 lo, Value.int IntKind.i64 hi])] 138)).drew := BT (BT HB.out HBY.out) hBd
        have hsz3 : w0.heap.size ≤ (Y.alloc (Obj.cells #[Value.iface 135 (Value.agg #[Value.int IntKind.i64 im, Value.int IntKind.i64 lo, Value.int IntKind.i64 hi])] 138)).drew.heap.size := hBW2.size
        refine hK _ _ ⟨s1, s2, s3, s4⟩ ?_
        clear hK K
        (try simp only [Act.put, List.setIfInBounds_toArray, List.set_cons_zero, List.set_cons_succ])
        obtain ⟨i0, hi9, hz0, hz1, hz2⟩ := info_parts info99
        refine seq_do rfl (by rfl) (fun K hK => ?_)
        refine wp_append_own _ _ _ 69 rfl w0.heap.size 138 i0 .nilIface 1 16 Tryz.underlying69 hi9 hz0 hz1 hz2 rfl (by decide) tv ts.length (ts.map tellV) rfl hLd.row ⟨Y.heap.size, 0, none⟩ 1 1 [tellV (false, im, lo, hi)] rfl rfl hnew (by simp [tellV, Value.oneCell']) (by have := hht.out; unfold maxLen; omega) (by have := hht.out; omega) hsz3 ?_
        intro v' w3 hown hg _
        obtain ⟨g', cap', rfl⟩ := row_succ hown
        have hne1 : some L ≠ tv.ownBlock := fun e => (hLd.apart.2 L e.symm).1 rfl
        have hne2 : ∀ B, w.heap.size ≤ B → some B ≠ tv.ownBlock := fun B hB e => by have := hrow B e.symm; omega
        refine hK _ _ ⟨hg.cell s1 hne1, hg.cell s2 (hne2 _ (by show w.heap.size ≤ w.heap.size; omega)), hg.cell s3 (hne2 _ (by show w.heap.size ≤ vb; omega)), hg.cell s4 (hne2 _ (by show w.heap.size ≤ vb; omega))⟩ ?_
        clear hK K
        (try simp only [Act.put, List.setIfInBounds_toArray, List.set_cons_zero, List.set_cons_succ])
        have hl := look_put (t := (false, im, lo, hi)) hLd hg hown
        have hb3 : Below w0.heap.size w0 w3 := hBW2.grown hg hsz3 (fun k hk => (hLd.apart.2 k hk).2.2.1)
        have hb4 : Below w0.heap.size w0 (w3.setCell ⟨L, 7, none⟩ (.slice (some ⟨g', 0, none⟩) (ts.length + 1) cap')) := BC hb3 L 7 hLd.nl _
        have m1 := hg.cell s1 hne1
        have m2 := hg.cell s2 (hne2 _ (by show w.heap.size ≤ w.heap.size; omega))
        have m3 := hg.cell p0 (hne2 _ (by show w.heap.size ≤ w.heap.size + 1; omega))
        have m4 := hg.cell p1 (hne2 _ (by show w.heap.size ≤ w.heap.size + 1; omega))
        have mf : w3.frozen? ⟨L, 7, none⟩ = false := (World.frozen?_of_block (a := ⟨L, 7, none⟩) (hg.block L hLd.lt hne1)).trans hLd.cell.2.2.2.2.2.2.2.2.2
        have n2 : (w3.setCell ⟨L, 7, none⟩ (.slice (some ⟨g', 0, none⟩) (ts.length + 1) cap')).cell? ⟨w.heap.size, 0, none⟩ = some (.int .i64 im) := by rw [World.cell?_setCell_other _ _ _ _ (by intro he; injection he; omega)]; exact m2
        have n3 : (w3.setCell ⟨L, 7, none⟩ (.slice (some ⟨g', 0, none⟩) (ts.length + 1) cap')).cell? ⟨w.heap.size + 1, 0, none⟩ = some (.int .i64 (wrap64 (gu + 1))) := by rw [World.cell?_setCell_other _ _ _ _ (by intro he; injection he; omega)]; exact m3
        have n4 : (w3.setCell ⟨L, 7, none⟩ (.slice (some ⟨g', 0, none⟩) (ts.length + 1) cap')).cell? ⟨w.heap.size + 1, 1, none⟩ = some (.int .i64 (gr)) := by rw [World.cell?_setCell_other _ _ _ _ (by intro he; injection he; omega)]; exact m4
        have HK := Lib.hid (And.intro hl (And.intro hb4 (And.intro n2 (And.intro n3 n4))))
        clear hl hb3 hb4 n2 n3 n4 m2 m3 m4 hown hg s1 s2 s3 s4 p0 p1 hLd hnew hBW2 hBd u0 u1 r1 r2 r3 r4
        repeat (first | (refine seq_read rfl (by rfl) _ (fun w' hS => by (try dsimp only at hS); go_simp; (try with_reducible rfl)) ?_; (try simp only [Act.put, List.setIfInBounds_toArray, List.set_cons_zero, List.set_cons_succ])) | (refine seq_skip rfl (by rfl) ?_; (try simp only [Act.put, List.setIfInBounds_toArray, List.set_cons_zero, List.set_cons_succ])))
        refine seq_last rfl (by rfl) (by kernel_rfl) (fun K hK => ?_)
        go_simp
        refine hK _ _ ?_
        exact ⟨_, rfl, rfl, rfl, rfl, rfl, HK.out.1, HK.out.2.1, HK.out.2.2.1, HK.out.2.2.2.1, HK.out.2.2.2.2⟩
      · rintro ⟨tm, df⟩ w'' ⟨v', hs, hd, g0, g3, g4, hl, hb, n2, n3, n4⟩
        dsimp only at hs hd g0 g3 g4
        subst hd
        have hx : tm = #[tm.getD 0 undef, tm.getD 1 undef, tm.getD 2 undef, tm.getD 3 undef, tm.getD 4 undef, tm.getD 5 undef, tm.getD 6 undef, tm.getD 7 undef, tm.getD 8 undef, tm.getD 9 undef, tm.getD 10 undef, tm.getD 11 undef, tm.getD 12 undef, tm.getD 13 undef, tm.getD 14 undef, tm.getD 15 undef, tm.getD 16 undef, tm.getD 17 undef, tm.getD 18 undef, tm.getD 19 undef, tm.getD 20 undef, tm.getD 21 undef, tm.getD 22 undef, tm.getD 23 undef, tm.getD 24 undef, tm.getD 25 undef, tm.getD 26 undef, tm.getD 27 undef, tm.getD 28 undef, tm.getD 29 undef, tm.getD 30 undef, tm.getD 31 undef, tm.getD 32 undef, tm.getD 33 undef, tm.getD 34 undef, tm.getD 35 undef, tm.getD 36 undef, tm.getD 37 undef, tm.getD 38 undef, tm.getD 39 undef, tm.getD 40 undef, tm.getD 41 undef, tm.getD 42 undef, tm.getD 43 undef, tm.getD 44 undef, tm.getD 45 undef, tm.getD 46 undef, tm.getD 47 undef, tm.getD 48 undef, tm.getD 49 undef, tm.getD 50 undef, tm.getD 51 undef, tm.getD 52 undef, tm.getD 53 undef, tm.getD 54 undef, tm.getD 55 undef, tm.getD 56 undef, tm.getD 57 undef, tm.getD 58 undef, tm.getD 59 undef, tm.getD 60 undef, tm.getD 61 undef, tm.getD 62 undef, tm.getD 63 undef, tm.getD 64 undef, tm.getD 65 undef] := tmps_eta tm 66 hs
        rw [g0, g3, g4] at hx
        rw [hx]
        clear hx g0 g3 g4 hs
        clear u0 u1 r1 r2 r3 r4
        have n8 := hl.cell.2.2.2.2.2.2.2.2.1
        have hap := hl.apart
        obtain ⟨w5, hrun, hm5, hx5⟩ := run_update93 (w := w''.drew) (hl.map.kept rfl) im (wrap64 (gu + 1)) (gr)
        have HF : Hid (Below w0.heap.size w0 w5 ∧ ∃ tv', IsLook w0 w5 L mb ⟨some ⟨b, o, none⟩, hnn, hcap, heLo, heHi, him, hsLo, hsHi, hsa, hns, hscap⟩ tv' (ts ++ [(false, im, lo, hi)]) (setC im (bump false (getC im cs)) cs)) := by
          refine ⟨BX.below (hb.drew) hx5 hl.nm hb.size, v', hl.nl, hl.nm, (hx5.block L hl.lt hap.1).trans hl.cells, hl.row.kept (row := some mb) ⟨hx5.os, hx5.tape, hx5.output, hx5.size, fun i hi hn => hx5.block i hi (fun e => hn (by rw [e]))⟩ ?_, ?_⟩
          · cases hv : v'.ownBlock with
            | none => exact .inl rfl
            | some g => exact .inr (fun e => (hap.2 g hv).2.1 (by simpa using e))
          · have e : bump false (getC im cs) = (wrap64 (gu + 1), gr) := by rw [← HGU.out, ← HGR.out]; rfl
            rw [e]; exact hm5
        clear hm5 hx5 hap hb
        have hl9 := Lib.hid hl; clear hl
        go_wp2_with fail
        refine wp_region_seq [(0, true), (1, true), (2, true), (3, true), (4, true), (5, true), (6, true), (7, false)]
          (fun w' => w'.cell? ⟨L, 8, none⟩ = some (.map (some mb)) ∧ w'.cell? ⟨w.heap.size, 0, none⟩ = some (.int .i64 im) ∧ w'.cell? ⟨w.heap.size + 1, 0, none⟩ = some (.int .i64 (wrap64 (gu + 1))) ∧ w'.cell? ⟨w.heap.size + 1, 1, none⟩ = some (.int .i64 (gr))) (by kernel_rfl) (by kernel_rfl) (fun _ _ d _ _ h => by cases d <;> exact h) ⟨n8, n2, n3, n4⟩ ?_
        repeat (first | (refine seq_read rfl (by rfl) _ (fun w' hS => by (try dsimp only at hS); go_simp; (try with_reducible rfl)) ?_; (try simp only [Act.put, List.setIfInBounds_toArray, List.set_cons_zero, List.set_cons_succ])) | (refine seq_skip rfl (by rfl) ?_; (try simp only [Act.put, List.setIfInBounds_toArray, List.set_cons_zero, List.set_cons_succ])))
        refine seq_last rfl (by rfl) (by kernel_rfl) (fun K hK => ?_)
        go_simp
        refine hK _ _ ?_
        go_end0
        exact ⟨rfl, HF.out⟩
    · go_wp2_with fail
      have hXY : BX (w.heap.size + 1) w' (w'.setCell ⟨w.heap.size + 1, 1, none⟩ (.int .i64 (wrap64 (gr + 1)))) := BX.set _ _ _ _
      have u0 : (w'.setCell ⟨w.heap.size + 1, 1, none⟩ (.int .i64 (wrap64 (gr + 1)))).cell? ⟨w.heap.size + 1, 0, none⟩ = some (.int .i64 (gu)) := by simp [go_sem, z0']
      have u1 : (w'.setCell ⟨w.heap.size + 1, 1, none⟩ (.int .i64 (wrap64 (gr + 1)))).cell? ⟨w.heap.size + 1, 1, none⟩ = some (.int .i64 (wrap64 (gr + 1))) := by simp [go_sem, z1']
      obtain ⟨Y, hY⟩ : ∃ Y, w'.setCell ⟨w.heap.size + 1, 1, none⟩ (.int .i64 (wrap64 (gr + 1))) = Y := ⟨_, rfl⟩
      rw [hY] at hXY u0 u1 ⊢
      clear hY
      have r1 : Y.cell? ⟨L, 7, none⟩ = some tv := (hXY.cell _ _ (by omega) (by omega)).trans hL7
      have r2 : Y.cell? ⟨w.heap.size, 0, none⟩ = some (.int .i64 im) := (hXY.cell _ _ (by omega) (by omega)).trans y0'
      have r3 : Y.cell? ⟨vb, 0, none⟩ = some (.int .i64 lo) := (hXY.cell _ _ hvb2 (by omega)).trans b0
      have r4 : Y.cell? ⟨vb, 1, none⟩ = some (.int .i64 hi) := (hXY.cell _ _ hvb2 (by omega)).trans b1
      have HLY := Lib.hid (HLw.out.bx hXY (by omega) (by omega) (fun g hg => by have := hrow g hg; omega))
      have HBY := Lib.hid (BX.below (N := w.heap.size) HBw.out hXY (by omega) (by omega))
      have hYs : w.heap.size + 2 ≤ Y.heap.size := by have := hXY.size; omega
      clear hXY z0' z1' zf0' zf1' b0 b1 y0' y2' hL7 hLf
      refine wp_cut (fun a' w'' => ∃ (v' : Value), a'.tmps.size = 66 ∧ a'.defers = [] ∧ a'.tmps.getD 0 undef = .pointer (some ⟨L, 0, none⟩) ∧ a'.tmps.getD 3 undef = .pointer (some ⟨w.heap.size, 0, none⟩) ∧ a'.tmps.getD 4 undef = .pointer (some ⟨w.heap.size + 1, 0, none⟩) ∧
        IsLook w0 w'' L mb ⟨some ⟨b, o, none⟩, hnn, hcap, heLo, heHi, him, hsLo, hsHi, hsa, hns, hscap⟩ v' (ts ++ [(true, im, lo, hi)]) cs ∧ Below w0.heap.size w0 w'' ∧
        w''.cell? ⟨w.heap.size, 0, none⟩ = some (.int .i64 im) ∧ w''.cell? ⟨w.heap.size + 1, 0, none⟩ = some (.int .i64 (gu)) ∧ w''.cell? ⟨w.heap.size + 1, 1, none⟩ = some (.int .i64 (wrap64 (gr + 1)))) ?_ ?_
      · refine wp_region_seq [(0, true), (1, true), (2, true), (3, true), (4, true), (5, true), (6, true), (7, true), (8, true), (9, true), (10, false), (11, false), (12, true), (13, true), (14, false)]
          (fun w' => w'.cell? ⟨L, 7, none⟩ = some tv ∧ w'.cell? ⟨w.heap.size, 0, none⟩ = some (.int .i64 im) ∧ w'.cell? ⟨vb, 0, none⟩ = some (.int .i64 lo) ∧ w'.cell? ⟨vb, 1, none⟩ = some (.int .i64 hi)) (by kernel_rfl) (by kernel_rfl) (fun _ _ d _ _ h => by cases d <;> exact h) ⟨r1, r2, r3, r4⟩ ?_
        repeat (first | (refine seq_read rfl (by rfl) _ (fun w' hS => by (try dsimp only at hS); go_simp; (try with_reducible rfl)) ?_; (try simp only [Act.put, List.setIfInBounds_toArray, List.set_cons_zero, List.set_cons_succ])) | (refine seq_skip rfl (by rfl) ?_; (try simp only [Act.put, List.setIfInBounds_toArray, List.set_cons_zero, List.set_cons_succ])))
        (refine seq_do rfl (by rfl) (fun K hK => ?_); go_simp)
        have hBd : Below Y.heap.size Y (Y.alloc (Obj.cells #[Value.iface 134 (Value.agg #[Value.int IntKind.i64 im, Value.int IntKind.i64 lo, Value.int IntKind.i64 hi])] 138)).drew := by (repeat (first | assumption | exact Below.refl _ _ | refine BA ?_ _ | refine BC ?_ _ _ (by omega) _ | refine Below.drew ?_ | refine BT ?_ (by assumption)))
        have s1 := (hBd.cell (p := ⟨L, 7, none⟩) (World.block_lt_of_cell? Y _ r1)).trans r1
        have s2 := (hBd.cell (p := ⟨w.heap.size, 0, none⟩) (World.block_lt_of_cell? Y _ r2)).trans r2
        have s3 := (hBd.cell (p := ⟨vb, 0, none⟩) (World.block_lt_of_cell? Y _ r3)).trans r3
        have s4 := (hBd.cell (p := ⟨vb, 1, none⟩) (World.block_lt_of_cell? Y _ r4)).trans r4
        have p0 := (hBd.cell (p := ⟨w.heap.size + 1, 0, none⟩) (World.block_lt_of_cell? Y _ u0)).trans u0
        have p1 := (hBd.cell (p := ⟨w.heap.size + 1, 1, none⟩) (World.block_lt_of_cell? Y _ u1)).trans u1
        have hLd := HLY.out.grown hBd
        have hnew : ∀ j u, [tellV (true, im, lo, hi)][j]? = some u → (Y.alloc (Obj.cells #[Value.iface 134 (Value.agg #[Value.int IntKind.i64 im, Value.int IntKind.i64 lo, Value.int IntKind.i64 hi])] 138)).drew.cell? ((⟨Y.heap.size, 0, none⟩ : Addr).add j) = some u := by
          intro j u hu
          cases j with
          | zero => simp at hu; subst hu; simp [Addr.add, tellV]
          | succ j => simp at hu
        have hBW2 : Below w0.heap.size w0 (Y.alloc (Obj.cells #[Value.iface 134 (Value.agg #[Value.int IntKind.i64 im, Value.int IntKind.i64 lo, Value.int IntKind.i64 hi])] 138)).drew := BT (BT HB.out HBY.out) hBd
        have hsz3 : w0.heap.size ≤ (Y.alloc (Obj.cells #[Value.iface 134 (Value.agg #[Value.int IntKind.i64 im, Value.int IntKind.i64 lo, Value.int IntKind.i64 hi])] 138)).drew.heap.size := hBW2.size
        refine hK _ _ ⟨s1, s2, s3, s4⟩ ?_
        clear hK K
        (try simp only [Act.put, List.setIfInBounds_toArray, List.set_cons_zero, List.set_cons_succ])
        obtain ⟨i0, hi9, hz0, hz1, hz2⟩ := info_parts info99
        refine seq_do rfl (by rfl) (fun K hK => ?_)
        refine wp_append_own _ _ _ 69 rfl w0.heap.size 138 i0 .nilIface 1 16 Tryz.underlying69 hi9 hz0 hz1 hz2 rfl (by decide) tv ts.length (ts.map tellV) rfl hLd.row ⟨Y.heap.size, 0, none⟩ 1 1 [tellV (true, im, lo, hi)] rfl rfl hnew (by simp [tellV, Value.oneCell']) (by have := hht.out; unfold maxLen; omega) (by have := hht.out; omega) hsz3 ?_
        intro v' w3 hown hg _
        obtain ⟨g', cap', rfl⟩ := row_succ hown
        have hne1 : some L ≠ tv.ownBlock := fun e => (hLd.apart.2 L e.symm).1 rfl
        have hne2 : ∀ B, w.heap.size ≤ B → some B ≠ tv.ownBlock := fun B hB e => by have := hrow B e.symm; omega
        refine hK _ _ ⟨hg.cell s1 hne1, hg.cell s2 (hne2 _ (by show w.heap.size ≤ w.heap.size; omega)), hg.cell s3 (hne2 _ (by show w.heap.size ≤ vb; omega)), hg.cell s4 (hne2 _ (by show w.heap.size ≤ vb; omega))⟩ ?_
        clear hK K
        (try simp only [Act.put, List.setIfInBounds_toArray, List.set_cons_zero, List.set_cons_succ])
        have hl := look_put (t := (true, im, lo, hi)) hLd hg hown
        have hb3 : Below w0.heap.size w0 w3 := hBW2.grown hg hsz3 (fun k hk => (hLd.apart.2 k hk).2.2.1)
        have hb4 : Below w0.heap.size w0 (w3.setCell ⟨L, 7, none⟩ (.slice (some ⟨g', 0, none⟩) (ts.length + 1) cap')) := BC hb3 L 7 hLd.nl _
        have m1 := hg.cell s1 hne1
        have m2 := hg.cell s2 (hne2 _ (by show w.heap.size ≤ w.heap.size; omega))
        have m3 := hg.cell p0 (hne2 _ (by show w.heap.size ≤ w.heap.size + 1; omega))
        have m4 := hg.cell p1 (hne2 _ (by show w.heap.size ≤ w.heap.size + 1; omega))
        have mf : w3.frozen? ⟨L, 7, none⟩ = false := (World.frozen?_of_block (a := ⟨L, 7, none⟩) (hg.block L hLd.lt hne1)).trans hLd.cell.2.2.2.2.2.2.2.2.2
        have n2 : (w3.setCell ⟨L, 7, none⟩ (.slice (some ⟨g', 0, none⟩) (ts.length + 1) cap')).cell? ⟨w.heap.size, 0, none⟩ = some (.int .i64 im) := by rw [World.cell?_setCell_other _ _ _ _ (by intro he; injection he; omega)]; exact m2
        have n3 : (w3.setCell ⟨L, 7, none⟩ (.slice (some ⟨g', 0, none⟩) (ts.length + 1) cap')).cell? ⟨w.heap.size + 1, 0, none⟩ = some (.int .i64 (gu)) := by rw [World.cell?_setCell_other _ _ _ _ (by intro he; injection he; omega)]; exact m3
        have n4 : (w3.setCell ⟨L, 7, none⟩ (.slice (some ⟨g', 0, none⟩) (ts.length + 1) cap')).cell? ⟨w.heap.size + 1, 1, none⟩ = some (.int .i64 (wrap64 (gr + 1))) := by rw [World.cell?_setCell_other _ _ _ _ (by intro he; injection he; omega)]; exact m4
        have HK := Lib.hid (And.intro hl (And.intro hb4 (And.intro n2 (And.intro n3 n4))))
        clear hl hb3 hb4 n2 n3 n4 m2 m3 m4 hown hg s1 s2 s3 s4 p0 p1 hLd hnew hBW2 hBd u0 u1 r1 r2 r3 r4
        repeat (first | (refine seq_read rfl (by rfl) _ (fun w' hS => by (try dsimp only at hS); go_simp; (try with_reducible rfl)) ?_; (try simp only [Act.put, List.setIfInBounds_toArray, List.set_cons_zero, List.set_cons_succ])) | (refine seq_skip rfl (by rfl) ?_; (try simp only [Act.put, List.setIfInBounds_toArray, List.set_cons_zero, List.set_cons_succ])))
        refine seq_last rfl (by rfl) (by kernel_rfl) (fun K hK => ?_)
        go_simp
        refine hK _ _ ?_
        exact ⟨_, rfl, rfl, rfl, rfl, rfl, HK.out.1, HK.out.2.1, HK.out.2.2.1, HK.out.2.2.2.1, HK.out.2.2.2.2⟩
      · rintro ⟨tm, df⟩ w'' ⟨v', hs, hd, g0, g3, g4, hl, hb, n2, n3, n4⟩
        dsimp only at hs hd g0 g3 g4
        subst hd
        have hx : tm = #[tm.getD 0 undef, tm.getD 1 undef, tm.getD 2 undef, tm.getD 3 undef, tm.getD 4 undef, tm.getD 5 undef, tm.getD 6 undef, tm.getD 7 undef, tm.getD 8 undef, tm.getD 9 undef, tm.getD 10 undef, tm.getD 11 undef, tm.getD 12 undef, tm.getD 13 undef, tm.getD 14 undef, tm.getD 15 undef, tm.getD 16 undef, tm.getD 17 undef, tm.getD 18 undef, tm.getD 19 undef, tm.getD 20 undef, tm.getD 21 undef, tm.getD 22 undef, tm.getD 23 undef, tm.getD 24 undef, tm.getD 25 undef, tm.getD 26 undef, tm.getD 27 undef, tm.getD 28 undef, tm.getD 29 undef, tm.getD 30 undef, tm.getD 31 undef, tm.getD 32 undef, tm.getD 33 undef, tm.getD 34 undef, tm.getD 35 undef, tm.getD 36 undef, tm.getD 37 undef, tm.getD 38 undef, tm.getD 39 undef, tm.getD 40 undef, tm.getD 41 undef, tm.getD 42 undef, tm.getD 43 undef, tm.getD 44 undef, tm.getD 45 undef, tm.getD 46 undef, tm.getD 47 undef, tm.getD 48 undef, tm.getD 49 undef, tm.getD 50 undef, tm.getD 51 undef, tm.getD 52 undef, tm.getD 53 undef, tm.getD 54 undef, tm.getD 55 undef, tm.getD 56 undef, tm.getD 57 undef, tm.getD 58 undef, tm.getD 59 undef, tm.getD 60 undef, tm.getD 61 undef, tm.getD 62 undef, tm.getD 63 undef, tm.getD 64 undef, tm.getD 65 undef] := tmps_eta tm 66 hs
        rw [g0, g3, g4] at hx
        rw [hx]
        clear hx g0 g3 g4 hs
        clear u0 u1 r1 r2 r3 r4
        have n8 := hl.cell.2.2.2.2.2.2.2.2.1
        have hap := hl.apart
        obtain ⟨w5, hrun, hm5, hx5⟩ := run_update93 (w := w''.drew) (hl.map.kept rfl) im (gu) (wrap64 (gr + 1))
        have HF : Hid (Below w0.heap.size w0 w5 ∧ ∃ tv', IsLook w0 w5 L mb ⟨some ⟨b, o, none⟩, hnn, hcap, heLo, heHi, him, hsLo, hsHi, hsa, hns, hscap⟩ tv' (ts ++ [(true, im, lo, hi)]) (setC im (bump true (getC im cs)) cs)) := by
          refine ⟨BX.below (hb.drew) hx5 hl.nm hb.size, v', hl.nl, hl.nm, (hx5.block L hl.lt hap.1).trans hl.cells, hl.row.kept (row := some mb) ⟨hx5.os, hx5.tape, hx5.output, hx5.size, fun i hi hn => hx5.block i hi (fun e => hn (by rw [e]))⟩ ?_, ?_⟩
          · cases hv : v'.ownBlock with
            | none => exact .inl rfl
            | some g => exact .inr (fun e => (hap.2 g hv).2.1 (by simpa using e))
          · have e : bump true (getC im cs) = (gu, wrap64 (gr + 1)) := by rw [← HGU.out, ← HGR.out]; rfl
            rw [e]; exact hm5
        clear hm5 hx5 hap hb
        have hl9 := Lib.hid hl; clear hl
        go_wp2_with fail
        refine wp_region_seq [(0, true), (1, true), (2, true), (3, true), (4, true), (5, true), (6, true), (7, false)]
          (fun w' => w'.cell? ⟨L, 8, none⟩ = some (.map (some mb)) ∧ w'.cell? ⟨w.heap.size, 0, none⟩ = some (.int .i64 im) ∧ w'.cell? ⟨w.heap.size + 1, 0, none⟩ = some (.int .i64 (gu)) ∧ w'.cell? ⟨w.heap.size + 1, 1, none⟩ = some (.int .i64 (wrap64 (gr + 1)))) (by kernel_rfl) (by kernel_rfl) (fun _ _ d _ _ h => by cases d <;> exact h) ⟨n8, n2, n3, n4⟩ ?_
        repeat (first | (refine seq_read rfl (by rfl) _ (fun w' hS => by (try dsimp only at hS); go_simp; (try with_reducible rfl)) ?_; (try simp only [Act.put, List.setIfInBounds_toArray, List.set_cons_zero, List.set_cons_succ])) | (refine seq_skip rfl (by rfl) ?_; (try simp only [Act.put, List.setIfInBounds_toArray, List.set_cons_zero, List.set_cons_succ])))
        refine seq_last rfl (by rfl) (by kernel_rfl) (fun K hK => ?_)
        go_simp
        refine hK _ _ ?_
        go_end0
        exact ⟨rfl, HF.out⟩
end Go.Proofs.YtcfjakifeihbpaaGreat

namespace Go.Proofs.YtcfjakifeihbpaaGreat
open Go.RowKit

abbrev Sett := Int × Int × Bool
def tellOf (xs : List (Int × Int)) (eLo eHi : Int) (s : Sett) : Tell := (s.2.2, s.1, trav s.2.1 (xs.getD (s.2.1 / 1000).toNat (0, 0)).1 eLo, trav s.2.1 (xs.getD (s.2.1 / 1000).toNat (0, 0)).2 eHi)
def tellsOf (xs : List (Int × Int)) (eLo eHi : Int) (ss : List Sett) : List Tell := ss.map (tellOf xs eLo eHi)
def cntOf (cs : List Cnt) (s : Sett) : List Cnt := setC s.1 (bump s.2.2 (getC s.1 cs)) cs
def cntsOf (ss : List Sett) : List Cnt := ss.foldl cntOf []
theorem take_snoc' {α : Type} (l : List α) (d : α) (k : Nat) (h : k < l.length) : l.take (k + 1) = l.take k ++ [l.getD k d] := by
  rw [List.take_succ_eq_append_getElem h]; simp [List.getD, h]
theorem tellsOf_snoc (xs : List (Int × Int)) (eLo eHi : Int) (ss : List Sett) (s : Sett) : tellsOf xs eLo eHi (ss ++ [s]) = tellsOf xs eLo eHi ss ++ [tellOf xs eLo eHi s] := by simp [tellsOf]
theorem cntsOf_snoc (ss : List Sett) (s : Sett) : cntsOf (ss ++ [s]) = cntOf (cntsOf ss) s := by simp [cntsOf]

/-- The lists that a measure's slices hold. -/
structure HasM (w : World) (h : Hd) (xs : List (Int × Int)) (ss : List Sett) : Prop where
  sp : Spans w h.a xs
  st : Setts w h.sa ss
  nx : xs.length = h.n
  ns : ss.length = h.ns
  lx : xs.length ≤ 9223372036854775807
  ls : ss.length ≤ 9223372036854775807
theorem HasM.below {w w' : World} {h : Hd} {xs : List (Int × Int)} {ss : List Sett} (k : HasM w h xs ss) {M : Nat} (hM : w.heap.size ≤ M) (hb : Below M w w') : HasM w' h xs ss :=
  ⟨k.sp.below hM hb, k.st.below hM hb, k.nx, k.ns, k.lx, k.ls⟩
def validH (h : Hd) (xs : List (Int × Int)) (ss : List Sett) : Bool := validM xs h.eLo h.eHi h.images h.sLo h.sHi ss
theorem validH_any {w : World} {h : Hd} {xs : List (Int × Int)} {ss : List Sett} (k : HasM w h xs ss) : Calls Tryz.prog 72 #[h.val] w (Ret (.bool (validH h xs ss)) w) := by
  have := validM_any h.a h.sa xs ss h.cap h.scap h.eLo h.eHi h.images h.sLo h.sHi w k.lx k.sp k.ls k.st
  rw [k.nx, k.ns] at this
  exact this

set_option maxHeartbeats 1000000 in
theorem lookAt_no (h : Hd) (xs : List (Int × Int)) (ss : List Sett) (w : World) (hm : HasM w h xs ss) (hv : validH h xs ss = false) : Calls Tryz.prog 29 #[h.val] w (Pan 1 w) := by
  have HM := Lib.hid hm; clear hm
  have HV := Lib.hid hv; clear hv
  have hc : Hid (∀ Y, Below w.heap.size w Y → Calls Tryz.prog 72 #[h.val] Y (Ret (.bool false) Y)) := fun Y hY => by rw [← HV.out]; exact validH_any (HM.out.below (Nat.le_refl _) hY)
  unfold Hd.val at hc ⊢
  go_enter Tryz.func29, Tryz.ntmps29
  go_wp2_with (first | (go_at_call 72; refine (hc.out _ (by (repeat (first | assumption | exact Below.refl _ _ | refine BA ?_ _ | refine BC ?_ _ _ (by omega) _ | refine Below.drew ?_ | refine BT ?_ (by assumption))))).mono ?_; rintro e w1 ⟨rfl, hb1⟩) | (go_at_call 47; refine (insist_no _ _).mono ?_; rintro e w2 ⟨rfl, hb2⟩))
  exact ⟨rfl, rfl, by (repeat (first | assumption | exact Below.refl _ _ | refine BA ?_ _ | refine BC ?_ _ _ (by omega) _ | refine Below.drew ?_ | refine BT ?_ (by assumption)))⟩

theorem setsB_at {t : Nat} {im : Int} {ss : List Sett} (h : setsB t im ss = true) {k : Nat} (hk : k < ss.length) : setB t im (ss.getD k (0, 0, false)) = true := by
  unfold setsB at h
  rw [List.all_eq_true] at h
  have e : ss.getD k (0, 0, false) = ss[k] := by simp [List.getD, hk]
  rw [e]; exact h _ (List.getElem_mem hk)

/-- The call returns a measure that is looked at. -/
def LookOut (w : World) (h : Hd) (ts : List Tell) (cs : List Cnt) (e : Ending) (w' : World) : Prop :=
  ∃ L mb tv, e = .returned (.pointer (some ⟨L, 0, none⟩)) ∧ Below w.heap.size w w' ∧ IsLook w w' L mb h tv ts cs

set_option maxHeartbeats 2000000 in
theorem lookAt_yes (h : Hd) (xs : List (Int × Int)) (ss : List Sett) (w : World) (hm : HasM w h xs ss) (hv : validH h xs ss = true) :
    Calls Tryz.prog 29 #[h.val] w (LookOut w h (tellsOf xs h.eLo h.eHi ss) (cntsOf ss)) := by
  have HM := Lib.hid hm; clear hm
  have HV := Lib.hid hv; clear hv
  have hc : Hid (∀ Y, Below w.heap.size w Y → Calls Tryz.prog 72 #[h.val] Y (Ret (.bool true) Y)) := fun Y hY => by rw [← HV.out]; exact validH_any (HM.out.below (Nat.le_refl _) hY)
  have h12 : Hid (ss.length ≤ 12 ∧ setsB xs.length h.images ss = true) := by
    have := HV.out
    simp only [validH, validM, headB, Bool.and_eq_true, decide_eq_true_eq] at this
    exact ⟨this.1.2, this.2⟩
  obtain ⟨ha, hnn, hcap, heLo, heHi, him, hsLo, hsHi, hsa, hns, hscap⟩ := h
  unfold Hd.val at hc ⊢
  dsimp only at hc ⊢
  have hmm := @run_makeMap Tryz.prog
  have hnn2 : Hid (ss.length = hns) := HM.out.ns
  have hb63 : hns ≤ 9223372036854775807 := by rw [← hnn2.out]; exact HM.out.ls
  go_enter Tryz.func29, Tryz.ntmps29
  go_wp2_with (first | (go_at_call 72; refine (hc.out _ (by (repeat (first | assumption | exact Below.refl _ _ | refine BA ?_ _ | refine BC ?_ _ _ (by omega) _ | refine Below.drew ?_ | refine BT ?_ (by assumption))))).mono ?_; rintro e w1 ⟨rfl, hb1⟩; have hcc := (bcell hb1).1; have hz1 : w.heap.size < w1.heap.size := (by have := hb1.size; simp at this; omega)) | (go_at_call 47; refine (insist_yes _ _).mono ?_; rintro e w2 ⟨rfl, hb2⟩; have hcc2 := (bcell hb2).1))
  have hB2 : Below w.heap.size w w2 := by (repeat (first | assumption | exact Below.refl _ _ | refine BA ?_ _ | refine BC ?_ _ _ (by omega) _ | refine Below.drew ?_ | refine BT ?_ (by assumption)))
  have hk : IsLook w ((w2.alloc (Obj.map #[] 0)).alloc (Obj.cells #[.slice ha hnn hcap, .int .i64 heLo, .int .i64 heHi, .int .i64 him, .int .i64 hsLo, .int .i64 hsHi, .slice hsa hns hscap, .slice none 0 0, .map (some w2.heap.size)] 72)) (w2.heap.size + 1) w2.heap.size ⟨ha, hnn, hcap, heLo, heHi, him, hsLo, hsHi, hsa, hns, hscap⟩ (.slice none 0 0) [] [] := by
    refine ⟨by have := hB2.size; omega, hB2.size, ?_, World.ownsRow_nil _ _ _ _, ?_⟩
    · have := heap_new (w2.alloc (Obj.map #[] 0)) (Obj.cells #[.slice ha hnn hcap, .int .i64 heLo, .int .i64 heHi, .int .i64 him, .int .i64 hsLo, .int .i64 hsHi, .slice hsa hns hscap, .slice none 0 0, .map (some w2.heap.size)] 72)
      rwa [World.size_alloc] at this
    · exact (isMap_new w2).kept (Below.heap_alloc _ _ _ (by simp))
  have HK := Lib.hid hk; clear hk
  have HB2 := Lib.hid hB2; clear hB2 hb1 hb2 hcc hcc2
  clear hc hmm hz1
  go_loopw [19] (fun i wr => ∃ k : Nat, k ≤ hns ∧ i = .int .i64 k ∧ (∃ tv, IsLook w wr (w2.heap.size + 1) w2.heap.size ⟨ha, hnn, hcap, heLo, heHi, him, hsLo, hsHi, hsa, hns, hscap⟩ tv (tellsOf xs heLo heHi (ss.take k)) (cntsOf (ss.take k))) ∧ Below w.heap.size w wr) (fun i _ => hns - (intOf i).toNat)
  case atStart => exact ⟨0, by omega, rfl, ⟨_, HK.out⟩, BA (BA HB2.out _) _⟩
  case round =>
    obtain ⟨k, hk, rfl, ⟨tv, hL⟩, hB⟩ := hrel
    have HL := Lib.hid hL; clear hL
    have HB := Lib.hid hB; clear hB
    by_cases hlt : k < hns
    · have hkl : Hid (k < ss.length) := by show k < _; rw [hnn2.out]; exact hlt
      have hsb := setsB_at h12.out.2 hkl.out
      have hts := take_snoc' ss (0, 0, false) k hkl.out
      rcases HM.out.st with h | ⟨b, o, hsa', hb, hcl⟩
      · exfalso; have := hkl.out; rw [h] at this; simp at this
      · dsimp only at hsa'
        subst hsa'
        obtain ⟨d1, d2, d3, hrd⟩ := hcl k hkl.out
        clear hcl
        generalize ss.getD k (0, 0, false) = s at *
        obtain ⟨im, rd, rv⟩ := s
        dsimp only at d1 d2 d3 hrd
        have f1 := (HB.out.cell (p := ⟨b, o + k * 3, none⟩) hb).trans d1
        have f2 := (HB.out.cell (p := ⟨b, o + k * 3 + 1, none⟩) hb).trans d2
        have f3 := (HB.out.cell (p := ⟨b, o + k * 3 + 2, none⟩) hb).trans d3
        clear d1 d2 d3
        have hbr : b < wr.heap.size := by have := HB.out.size; omega
        have hrd2 : Hid (0 ≤ rd ∧ rd / 1000 < hnn) := by
          have hnx := HM.out.nx
          dsimp only at hnx
          simp only [setB, hasTrn, Bool.and_eq_true, decide_eq_true_eq] at hsb
          exact ⟨hsb.2.1, by rw [← hnx]; exact hsb.2.2⟩
        have hrd3 : Hid (rd ≤ 9223372036854775807) := hrd
        have hTS := Lib.hid hts
        clear hsb hrd hts
        have htl : Hid ((tellsOf xs heLo heHi (ss.take k)).length < 1000) := by
          show _ < 1000; simp only [tellsOf, List.length_map, List.length_take]; have := h12.out.1; omega
        have hE1 : Hid (tellsOf xs heLo heHi (ss.take (k + 1)) = tellsOf xs heLo heHi (ss.take k) ++ [(rv, im, trav rd (xs.getD (rd / 1000).toNat (0, 0)).1 heLo, trav rd (xs.getD (rd / 1000).toNat (0, 0)).2 heHi)]) := by
          show _ = _; rw [hTS.out, tellsOf_snoc]; rfl
        have hE2 : Hid (cntsOf (ss.take (k + 1)) = setC im (bump rv (getC im (cntsOf (ss.take k)))) (cntsOf (ss.take k))) := by
          show _ = _; rw [hTS.out, cntsOf_snoc]; rfl
        go_wp2_with (first | (go_at_call 73; refine (ladd_any w (w2.heap.size + 1) w2.heap.size _ tv _ _ xs im rd rv _ (HL.out.grown (by (repeat (first | assumption | exact Below.refl _ _ | refine BA ?_ _ | refine BC ?_ _ _ (by omega) _ | refine Below.drew ?_ | refine BT ?_ (by assumption))))) HM.out.sp (BT HB.out (by (repeat (first | assumption | exact Below.refl _ _ | refine BA ?_ _ | refine BC ?_ _ _ (by omega) _ | refine Below.drew ?_ | refine BT ?_ (by assumption))))) HM.out.nx hrd2.out.1 hrd3.out hrd2.out.2 htl.out).mono ?_; rintro e w3 ⟨rfl, hb3, tv', hk3⟩))
        go_roundw
        case rel => exact ⟨k + 1, by omega, by go_num, ⟨tv', by rw [hE1.out, hE2.out]; exact hk3⟩, hb3⟩
        case measure => simp [intOf]; omega
    · obtain rfl : k = hns := by omega
      go_wp2
      go_ret
      refine ⟨w2.heap.size + 1, w2.heap.size, tv, rfl, HB.out, ?_⟩
      have := HL.out
      rwa [List.take_of_length_le (by rw [hnn2.out]; omega)] at this
end Go.Proofs.YtcfjakifeihbpaaGreat

namespace Go.Proofs.YtcfjakifeihbpaaGreat
open Go.RowKit

set_option maxHeartbeats 1000000 in
theorem told_up (im lo hi : Int) (w : World) : Calls Tryz.prog 121 #[.agg #[.int .i64 im, .int .i64 lo, .int .i64 hi]] w (Ret (.tuple #[.int .i64 0, .int .i64 (wrap64 (2 + im)), .agg #[.int .i64 lo, .int .i64 hi]]) w) := by
  go_enter Tryz.func121, Tryz.ntmps121
  go_wp2_with fail
  obtain ⟨W, hW⟩ : ∃ W, (w.alloc (Obj.cells #[Value.int IntKind.i64 im, Value.int IntKind.i64 lo, Value.int IntKind.i64 hi] 135)).alloc (Obj.cells #[Value.int IntKind.i64 0, Value.int IntKind.i64 0] 90) = W := ⟨_, rfl⟩
  have s0 : W.heap.size = w.heap.size + 2 := by rw [← hW]; simp
  have c0 : W.cell? ⟨w.heap.size, 0, none⟩ = some (.int .i64 im) := by rw [← hW]; simp [go_sem]
  have c1 : W.cell? ⟨w.heap.size, 1, none⟩ = some (.int .i64 lo) := by rw [← hW]; simp [go_sem]
  have c2 : W.cell? ⟨w.heap.size, 2, none⟩ = some (.int .i64 hi) := by rw [← hW]; simp [go_sem]
  have hsl : Slots (w.heap.size + 1) 2 W := by
    rw [← hW]; intro o ho
    have : o = 0 ∨ o = 1 := by omega
    rcases this with rfl | rfl <;> simp [go_sem]
  have hBW : Below w.heap.size w W := by rw [← hW]; (repeat (first | assumption | exact Below.refl _ _ | refine BA ?_ _ | refine BC ?_ _ _ (by omega) _ | refine Below.drew ?_ | refine BT ?_ (by assumption)))
  rw [hW]
  clear hW
  have HSL := Lib.hid hsl; clear hsl
  have hS : Hid (w.heap.size + 1 ≤ W.heap.size ∧ ∀ b' o', b' < w.heap.size + 1 → W.cell? ⟨b', o', none⟩ = W.cell? ⟨b', o', none⟩) := ⟨(by (first | omega | (simp; done) | (simp; omega))), fun _ _ _ => rfl⟩
  refine wp_region_seq [(0, true), (1, true), (3, true), (4, true), (2, false), (5, true), (6, true), (7, false)]
    (fun w' => w.heap.size + 1 ≤ w'.heap.size ∧ ∀ b' o', b' < w.heap.size + 1 → w'.cell? ⟨b', o', none⟩ = W.cell? ⟨b', o', none⟩) (by kernel_rfl) (by kernel_rfl) (fun _ _ d _ _ h => by cases d <;> exact h) (keepS (by (repeat (first | assumption | exact Below.refl _ _ | refine BA ?_ _ | refine BC ?_ _ _ (by omega) _ | refine Below.drew ?_ | refine BT ?_ (by assumption)))) hS.out) ?_
  repeat (first | (refine seq_read rfl (by rfl) _ (fun w' hS => by (try dsimp only at hS); go_simp; (try with_reducible rfl)) ?_; (try simp only [Act.put, List.setIfInBounds_toArray, List.set_cons_zero, List.set_cons_succ])) | (refine seq_skip rfl (by rfl) ?_; (try simp only [Act.put, List.setIfInBounds_toArray, List.set_cons_zero, List.set_cons_succ])))
  (refine seq_do rfl (by rfl) (fun K hK => ?_); go_simp)
  refine (placeOf_any _ _).mono ?_
  rintro e w1 ⟨rfl, hb1⟩
  have hX : Below W.heap.size W w1 := by (repeat (first | assumption | exact Below.refl _ _ | refine BA ?_ _ | refine BC ?_ _ _ (by omega) _ | refine Below.drew ?_ | refine BT ?_ (by assumption)))
  obtain ⟨x0, hx0, hxf0⟩ := (HSL.out.below hX (by omega)).get 0 (by omega)
  obtain ⟨x1, hx1, hxf1⟩ := (HSL.out.below hX (by omega)).get 1 (by omega)
  refine hK _ _ (keepS hX hS.out) ?_
  clear hK K hb1
  repeat (first | (refine seq_read rfl (by rfl) _ (fun w' hS => by (try dsimp only at hS); go_simp; (try with_reducible rfl)) ?_; (try simp only [Act.put, List.setIfInBounds_toArray, List.set_cons_zero, List.set_cons_succ])) | (refine seq_skip rfl (by rfl) ?_; (try simp only [Act.put, List.setIfInBounds_toArray, List.set_cons_zero, List.set_cons_succ])))
  refine seq_last rfl (by rfl) (by kernel_rfl) (fun K hK => ?_)
  go_simp
  refine hK _ _ ?_
  go_wp2
  refine bodyPost_ret (v := .tuple #[.int .i64 0, .int .i64 (wrap64 (2 + im)), .agg #[.int .i64 lo, .int .i64 hi]]) (by simp [results, Tryz.results121, go_sem, hx0, hx1]) rfl ⟨rfl, ?_⟩
  (repeat (first | assumption | exact Below.refl _ _ | refine BA ?_ _ | refine BC ?_ _ _ (by omega) _ | refine Below.drew ?_ | refine BT ?_ (by assumption)))
set_option maxHeartbeats 1000000 in
theorem told_re (im lo hi : Int) (w : World) : Calls Tryz.prog 120 #[.agg #[.int .i64 im, .int .i64 lo, .int .i64 hi]] w (Ret (.tuple #[.int .i64 (wrap64 (2 + im)), .int .i64 1, .agg #[.int .i64 lo, .int .i64 hi]]) w) := by
  go_enter Tryz.func120, Tryz.ntmps120
  go_wp2_with fail
  obtain ⟨W, hW⟩ : ∃ W, (w.alloc (Obj.cells #[Value.int IntKind.i64 im, Value.int IntKind.i64 lo, Value.int IntKind.i64 hi] 134)).alloc (Obj.cells #[Value.int IntKind.i64 0, Value.int IntKind.i64 0] 90) = W := ⟨_, rfl⟩
  have s0 : W.heap.size = w.heap.size + 2 := by rw [← hW]; simp
  have c0 : W.cell? ⟨w.heap.size, 0, none⟩ = some (.int .i64 im) := by rw [← hW]; simp [go_sem]
  have c1 : W.cell? ⟨w.heap.size, 1, none⟩ = some (.int .i64 lo) := by rw [← hW]; simp [go_sem]
  have c2 : W.cell? ⟨w.heap.size, 2, none⟩ = some (.int .i64 hi) := by rw [← hW]; simp [go_sem]
  have hsl : Slots (w.heap.size + 1) 2 W := by
    rw [← hW]; intro o ho
    have : o = 0 ∨ o = 1 := by omega
    rcases this with rfl | rfl <;> simp [go_sem]
  have hBW : Below w.heap.size w W := by rw [← hW]; (repeat (first | assumption | exact Below.refl _ _ | refine BA ?_ _ | refine BC ?_ _ _ (by omega) _ | refine Below.drew ?_ | refine BT ?_ (by assumption)))
  rw [hW]
  clear hW
  have HSL := Lib.hid hsl; clear hsl
  have hS : Hid (w.heap.size + 1 ≤ W.heap.size ∧ ∀ b' o', b' < w.heap.size + 1 → W.cell? ⟨b', o', none⟩ = W.cell? ⟨b', o', none⟩) := ⟨(by (first | omega | (simp; done) | (simp; omega))), fun _ _ _ => rfl⟩
  refine wp_region_seq [(0, true), (1, true), (3, true), (4, true), (2, false), (5, true), (6, true), (7, false)]
    (fun w' => w.heap.size + 1 ≤ w'.heap.size ∧ ∀ b' o', b' < w.heap.size + 1 → w'.cell? ⟨b', o', none⟩ = W.cell? ⟨b', o', none⟩) (by kernel_rfl) (by kernel_rfl) (fun _ _ d _ _ h => by cases d <;> exact h) (keepS (by (repeat (first | assumption | exact Below.refl _ _ | refine BA ?_ _ | refine BC ?_ _ _ (by omega) _ | refine Below.drew ?_ | refine BT ?_ (by assumption)))) hS.out) ?_
  repeat (first | (refine seq_read rfl (by rfl) _ (fun w' hS => by (try dsimp only at hS); go_simp; (try with_reducible rfl)) ?_; (try simp only [Act.put, List.setIfInBounds_toArray, List.set_cons_zero, List.set_cons_succ])) | (refine seq_skip rfl (by rfl) ?_; (try simp only [Act.put, List.setIfInBounds_toArray, List.set_cons_zero, List.set_cons_succ])))
  (refine seq_do rfl (by rfl) (fun K hK => ?_); go_simp)
  refine (placeOf_any _ _).mono ?_
  rintro e w1 ⟨rfl, hb1⟩
  have hX : Below W.heap.size W w1 := by (repeat (first | assumption | exact Below.refl _ _ | refine BA ?_ _ | refine BC ?_ _ _ (by omega) _ | refine Below.drew ?_ | refine BT ?_ (by assumption)))
  obtain ⟨x0, hx0, hxf0⟩ := (HSL.out.below hX (by omega)).get 0 (by omega)
  obtain ⟨x1, hx1, hxf1⟩ := (HSL.out.below hX (by omega)).get 1 (by omega)
  refine hK _ _ (keepS hX hS.out) ?_
  clear hK K hb1
  repeat (first | (refine seq_read rfl (by rfl) _ (fun w' hS => by (try dsimp only at hS); go_simp; (try with_reducible rfl)) ?_; (try simp only [Act.put, List.setIfInBounds_toArray, List.set_cons_zero, List.set_cons_succ])) | (refine seq_skip rfl (by rfl) ?_; (try simp only [Act.put, List.setIfInBounds_toArray, List.set_cons_zero, List.set_cons_succ])))
  refine seq_last rfl (by rfl) (by kernel_rfl) (fun K hK => ?_)
  go_simp
  refine hK _ _ ?_
  go_wp2
  refine bodyPost_ret (v := .tuple #[.int .i64 (wrap64 (2 + im)), .int .i64 1, .agg #[.int .i64 lo, .int .i64 hi]]) (by simp [results, Tryz.results120, go_sem, hx0, hx1]) rfl ⟨rfl, ?_⟩
  (repeat (first | assumption | exact Below.refl _ _ | refine BA ?_ _ | refine BC ?_ _ _ (by omega) _ | refine Below.drew ?_ | refine BT ?_ (by assumption)))

theorem insistImage_any (w0 : World) (L mb : Nat) (h : Hd) (tv : Value) (ts : List Tell) (cs : List Cnt) (im : Int) (w : World) (hL : IsLook w0 w L mb h tv ts cs) :
    Calls Tryz.prog 45 #[.pointer (some ⟨L, 0, none⟩), .int .i64 im] w (Out (if isImg h.images im then .ok (.tuple #[]) else .error 2) w) := by
  obtain ⟨k0, k1, k2, k3, k4, k5, k6, k7, k8, k9⟩ := hL.cell
  clear hL k7 k8 k9
  cases hi : isImg h.images im
  · have HI := Lib.hid hi; clear hi
    go_enter Tryz.func45, Tryz.ntmps45
    go_wp2_with (first | (go_at_call 79; refine (isImage_any _ _ _ _ _ _ _ _ _).mono ?_; rw [HI.out]; rintro e w1 ⟨rfl, hb1⟩) | (go_at_call 47; refine (insist_no _ _).mono ?_; rintro e w2 ⟨rfl, hb2⟩))
    exact ⟨rfl, rfl, by (repeat (first | assumption | exact Below.refl _ _ | refine BA ?_ _ | refine BC ?_ _ _ (by omega) _ | refine Below.drew ?_ | refine BT ?_ (by assumption)))⟩
  · have HI := Lib.hid hi; clear hi
    go_enter Tryz.func45, Tryz.ntmps45
    go_wp2_with (first | (go_at_call 79; refine (isImage_any _ _ _ _ _ _ _ _ _).mono ?_; rw [HI.out]; rintro e w1 ⟨rfl, hb1⟩) | (go_at_call 47; refine (insist_yes _ _).mono ?_; rintro e w2 ⟨rfl, hb2⟩))
    go_end0
    exact ⟨rfl, by (repeat (first | assumption | exact Below.refl _ _ | refine BA ?_ _ | refine BC ?_ _ _ (by omega) _ | refine Below.drew ?_ | refine BT ?_ (by assumption)))⟩
theorem isSet_any (w0 : World) (L mb : Nat) (h : Hd) (tv : Value) (ts : List Tell) (cs : List Cnt) (im : Int) (w : World) (hL : IsLook w0 w L mb h tv ts cs) :
    Calls Tryz.prog 48 #[.pointer (some ⟨L, 0, none⟩), .int .i64 im] w (Ret (.bool (hasC im cs)) w) := by
  obtain ⟨k0, k1, k2, k3, k4, k5, k6, k7, k8, k9⟩ := hL.cell
  have hrun := run_lookup93_ok hL.map im
  generalize hasC im cs = b at *
  generalize (getC im cs).1 = u at *
  generalize (getC im cs).2 = r at *
  clear hL k0 k1 k2 k3 k4 k5 k6 k7 k9
  go_enter Tryz.func48, Tryz.ntmps48
  go_wp2
  go_ret
  exact ⟨rfl, by (repeat (first | assumption | exact Below.refl _ _ | refine BA ?_ _ | refine BC ?_ _ _ (by omega) _ | refine Below.drew ?_ | refine BT ?_ (by assumption)))⟩
theorem all_any (w0 : World) (L mb : Nat) (h : Hd) (tv : Value) (ts : List Tell) (cs : List Cnt) (w : World) (hL : IsLook w0 w L mb h tv ts cs) (ht : ts.length ≤ 12) :
    Calls Tryz.prog 31 #[.pointer (some ⟨L, 0, none⟩)] w (fun e w' => e = .returned (.int .i64 (2 ^ ts.length - 1)) ∧ w' = w) := by
  obtain ⟨k0, k1, k2, k3, k4, k5, k6, k7, k8, k9⟩ := hL.cell
  have hv : ∃ a cap, tv = .slice a ts.length cap := by
    rcases hL.row.2 with ⟨h1, h2⟩ | ⟨g, cap, cur, h1, _⟩
    · exact ⟨none, 0, by rw [h1, h2]⟩
    · exact ⟨_, cap, h1⟩
  obtain ⟨a, cap, rfl⟩ := hv
  clear hL k0 k1 k2 k3 k4 k5 k6 k8 k9
  generalize ts.length = n at *
  have hn0 : (0 : Int) ≤ (n : Int) := by omega
  have hn1 : (n : Int) ≤ 12 := by omega
  go_enter Tryz.func31, Tryz.ntmps31
  have hp : Hid (wrap64 (wrap64 (2 ^ n) - 1) = 2 ^ n - 1) := by
    have h := (by decide +kernel : ∀ k : Fin 13, wrap64 (wrap64 (2 ^ k.val) - 1) = 2 ^ k.val - 1) ⟨n, by omega⟩
    exact h
  go_wp2
  go_ret
  exact ⟨by rw [← hp.out]; rfl, rfl⟩
end Go.Proofs.YtcfjakifeihbpaaGreat

namespace Go.Proofs.YtcfjakifeihbpaaGreat
open Go.RowKit

def setI (set : Int) (k : Nat) : Bool := bits .and .i64 set (wrap64 (2 ^ k)) != 0
def narrowT (M : List Int) (t : Tell) : List Int :=
  if t.1 then narrowM M (2 + t.2.1.toNat) 1 t.2.2.1 t.2.2.2 else narrowM M 0 (2 + t.2.1.toNat) t.2.2.1 t.2.2.2
def boundsTo (sLo sHi : Int) (ts : List Tell) (set : Int) : Nat → List Int
  | 0 => narrowM openS 0 1 sLo sHi
  | k + 1 => if setI set k then narrowT (boundsTo sLo sHi ts set k) (ts.getD k (false, 0, 0, 0)) else boundsTo sLo sHi ts set k
def boundsS (sLo sHi : Int) (ts : List Tell) (set : Int) : Bool × List Int := shortS 8 (boundsTo sLo sHi ts set ts.length)
theorem len_narrowM (M : List Int) (i j : Nat) (a b : Int) : (narrowM M i j a b).length = M.length := by simp [narrowM, narrow1]
theorem len_boundsTo (sLo sHi : Int) (ts : List Tell) (set : Int) : ∀ k, (boundsTo sLo sHi ts set k).length = 64
  | 0 => by rw [boundsTo, len_narrowM]; exact len_openS
  | k + 1 => by
    rw [boundsTo]
    split
    · unfold narrowT; split <;> rw [len_narrowM] <;> exact len_boundsTo sLo sHi ts set k
    · exact len_boundsTo sLo sHi ts set k

theorem store78x {ops : Array Oper} {rest : List Oper} {op : Oper} {a : Act} {w : World} {Q : Exit → Act → World → Prop} (hgd : op.guard = none) (x y : Operand) (ho : op.op = .store 85 x y)
    (B : Nat) (hx : a.eval x = .pointer (some ⟨B, 0, none⟩)) (M : List Int) (hM : M.length = 64) (hy : a.eval y = bv M) (ht : w.there B 0 64)
    (h : ∀ X, IsB X B M → BX B w X → wpList Tryz.prog ops Q rest (a.put op.dst undef) X) : wpList Tryz.prog ops Q (op :: rest) a w :=
  store78 hgd x y ho B hx M hM hy ht (h _ (isB_stored hM ht) (BX.setCells _ _ _ _))

theorem results_bv2 {fn : Func} {p u : Tmp} (h : fn.results = #[.cell p 85, .tmp u]) (tmps : Array Value) (w : World) (B : Nat) (M : List Int) (v : Value)
    (hp : tmps.getD p undef = .pointer (some ⟨B, 0, none⟩)) (hu : tmps.getD u undef = v) (hc : IsB w B M) : (results fn tmps).run Tryz.prog w = .ok (.tuple #[bv M, v]) w := by
  have hp' : tmps[p]?.getD undef = .pointer (some ⟨B, 0, none⟩) := by simpa using hp
  have hu' : tmps[u]?.getD undef = v := by simpa using hu
  simp [results, h, hp', hu', asAddr, run_loadVar_mid (P := Tryz.prog) w B 0 85 (ints M) _ hc.range under78 rfl (info78 (by rw [len_ints]; exact hc.1)), bv]

/-- The name of the method, put together. -/
def toldS : String := "zoneworks" ++ (String.singleton (Char.ofNat 47) ++ "screw.told")
theorem told_m123 (v : Value) (s : String) (hs : s = toldS) (w : World) : (method 262 135 v s).run Tryz.prog w = .ok (121, v) w := by subst hs; kernel_rfl
theorem told_m122 (v : Value) (s : String) (hs : s = toldS) (w : World) : (method 262 134 v s).run Tryz.prog w = .ok (120, v) w := by subst hs; kernel_rfl
theorem wrap2 (m : Nat) (h : m < 6) : wrap64 (2 + (m : Int)) = ((2 + m : Nat) : Int) := by unfold wrap64; omega

/-- What stays while the bounds in block B are narrowed. -/
def Fr (w0 w : World) (L mb : Nat) (h : Hd) (tv : Value) (ts : List Tell) (cs : List Cnt) (B : Nat) (X : World) : Prop :=
  IsLook w0 X L mb h tv ts cs ∧ X.there w.heap.size 0 64 ∧ Below w.heap.size w X ∧ w.heap.size < B ∧ B < X.heap.size
theorem Fr.bx {w0 w : World} {L mb : Nat} {h : Hd} {tv : Value} {ts : List Tell} {cs : List Cnt} {B : Nat} {X X' : World} (hL : IsLook w0 w L mb h tv ts cs) (f : Fr w0 w L mb h tv ts cs B X) (hx : BX B X X') : Fr w0 w L mb h tv ts cs B X' := by
  obtain ⟨f1, f2, f3, f4, f5⟩ := f
  have h1 := hL.lt
  have h2 := hL.map.lt
  have h3 := f3.size
  refine ⟨f1.bx hx (by omega) (by omega) (fun g hg => by have := (hL.apart.2 g hg).2.2.2; omega), fun j hj => ?_, BX.below f3 hx (by omega) f3.size, f4, Nat.lt_of_lt_of_le f5 hx.size⟩
  rw [hx.cell _ _ (by omega) (by omega), hx.frozen _ _ (by omega) (by omega)]; exact f2 j hj
theorem Fr.below {w0 w : World} {L mb : Nat} {h : Hd} {tv : Value} {ts : List Tell} {cs : List Cnt} {B : Nat} {X X' : World} (f : Fr w0 w L mb h tv ts cs B X) (hb : Below X.heap.size X X') : Fr w0 w L mb h tv ts cs B X' := by
  obtain ⟨f1, f2, f3, f4, f5⟩ := f
  refine ⟨f1.grown hb, fun j hj => ?_, BT f3 hb, f4, Nat.lt_of_lt_of_le f5 hb.size⟩
  have h3 := f3.size
  rw [hb.cell (p := ⟨w.heap.size, 0 + j, none⟩) (by show w.heap.size < _; omega), hb.frozen (p := ⟨w.heap.size, 0 + j, none⟩) (by show w.heap.size < _; omega)]; exact f2 j hj

set_option maxRecDepth 100000 in
set_option maxHeartbeats 2000000 in
theorem bounds_any (w0 : World) (L mb : Nat) (h : Hd) (tv : Value) (ts : List Tell) (cs : List Cnt) (set : Int) (w : World) (hL : IsLook w0 w L mb h tv ts cs) (ht : ts.length ≤ 12) (him : ∀ t ∈ ts, 0 ≤ t.2.1 ∧ t.2.1 < 6) :
    Calls Tryz.prog 74 #[.pointer (some ⟨L, 0, none⟩), .int .i64 set] w (Ret (.tuple #[bv (boundsS h.sLo h.sHi ts set).2, .bool (boundsS h.sLo h.sHi ts set).1]) w) := by
  have hv : ∃ a cap, tv = .slice a ts.length cap := by
    rcases hL.row.2 with ⟨h1, h2⟩ | ⟨g, cap, cur, h1, _⟩
    · exact ⟨none, 0, by rw [h1, h2]⟩
    · exact ⟨_, cap, h1⟩
  obtain ⟨ta, tcap, rfl⟩ := hv
  have HL := Lib.hid hL; clear hL
  have hn12 : ts.length ≤ 9223372036854775807 := by omega
  have HIM := Lib.hid him; clear him
  go_enter Tryz.func74, Tryz.ntmps74
  have hZ0 := isB_zero w
  have hzb : Below w.heap.size w (w.alloc zero64) := by (repeat (first | assumption | exact Below.refl _ _ | refine BA ?_ _ | refine BC ?_ _ _ (by omega) _ | refine Below.drew ?_ | refine BT ?_ (by assumption)))
  go_wp2_with fail
  change Calls _ _ _ (w.alloc zero64) _
  generalize hWz : w.alloc zero64 = Wz at *
  have hz1 : w.heap.size < Wz.heap.size := hZ0.lt
  clear hWz
  refine (open_any _).mono ?_
  rintro e w1 ⟨rfl, hb1⟩
  have hZ1 := hZ0.below hb1 hz1
  have hB1 : Below w.heap.size w w1 := by (repeat (first | assumption | exact Below.refl _ _ | refine BA ?_ _ | refine BC ?_ _ _ (by omega) _ | refine Below.drew ?_ | refine BT ?_ (by assumption)))
  clear hZ0 hzb hb1
  have hZ2 := hZ1.alloc zero64
  have hB2 : Below w.heap.size w (w1.alloc zero64) := by (repeat (first | assumption | exact Below.refl _ _ | refine BA ?_ _ | refine BC ?_ _ _ (by omega) _ | refine Below.drew ?_ | refine BT ?_ (by assumption)))
  have hN0 := isB_zero w1
  have hLw1 := HL.out.grown hB1
  have hw1 : w.heap.size < w1.heap.size := World.block_lt_of_cell? w1 _ (hZ1.2 0 (by omega)).1
  go_wp2_with (refine store78x rfl _ _ rfl w1.heap.size rfl openS len_openS rfl hN0.there ?_; intro X hIX hBX; have hLX := (hLw1.grown ((Below.refl _ _).alloc (Nat.le_refl _) _)).bx hBX (by have := hLw1.lt; omega) (by have := hLw1.map.lt; omega) (fun g hg => by have := (hLw1.apart.2 g hg).2.2.2; omega); have hZX : X.there w.heap.size 0 64 := (fun j hj => by rw [hBX.cell _ _ (by simp; omega) (by omega), hBX.frozen _ _ (by simp; omega) (by omega)]; exact (hZ2.there j hj)); have hBw := BX.below hB2 hBX (by omega) (by simp; omega); have hXs := hBX.size; rw [World.size_alloc] at hXs; obtain ⟨k0, k1, k2, k3, k4, k5, k6, k7, k8, k9⟩ := hLX.cell; clear hBX)
  have hF : Fr w0 w L mb h (.slice ta ts.length tcap) ts cs w1.heap.size X := ⟨hLX, hZX, hBw, hw1, by omega⟩
  have hw63 : Hid (w1.heap.size = w1.heap.size) := rfl
  clear hZX hBw hXs k0 k1 k2 k3 k4 k5 k6 k7 k8 k9 hLX hN0 hZ1 hZ2 hB1 hB2 hLw1 hz1 hw1
  generalize w1.heap.size = B at *
  refine (known_any _ _ _).mono ?_
  rintro e w2 ⟨rfl, hb2⟩
  have hF2 := hF.below hb2
  have hI2 := hIX.below hb2 hF.2.2.2.2
  clear hF hIX hb2
  have hl0 : openS.length = 64 := len_openS
  go_wp2_with (first | (go_at_call 95; refine (narrow_any B 0 1 (by omega) (by omega) _ _ _ _ hI2).mono ?_; rintro e w3 ⟨rfl, hx3, hi3⟩; have hF3 := hF2.bx HL.out hx3; obtain ⟨k0, k1, k2, k3, k4, k5, k6, k7, k8, k9⟩ := hF3.1.cell; clear k0 k1 k2 k3 k4 k5 k6 k8 k9 hx3 hI2 hF2))
  have HF3 := Lib.hid hF3; clear hF3
  have HI3 := Lib.hid hi3; clear hi3
  clear hw63 hl0 k7
  go_loopw [23] (fun i wr => ∃ k : Nat, k ≤ ts.length ∧ i = .int .i64 k ∧ IsB wr B (boundsTo h.sLo h.sHi ts set k) ∧ Fr w0 w L mb h (.slice ta ts.length tcap) ts cs B wr) (fun i _ => ts.length - (intOf i).toNat)
  case atStart => exact ⟨0, by omega, rfl, HI3.out, HF3.out⟩
  case round =>
    obtain ⟨k, hk, rfl, hI, hF⟩ := hrel
    have HI := Lib.hid hI; clear hI
    have HF := Lib.hid hF; clear hF
    by_cases hlt : k < ts.length
    · have hc : ∃ g, ta = some ⟨g, 0, none⟩ ∧ wr.cell? ⟨g, k, none⟩ = some (tellV (ts.getD k (false, 0, 0, 0))) := by
        rcases HF.out.1.row.2 with ⟨h1, h2⟩ | ⟨g, cap, cur, h1, _⟩
        · omega
        · have ht := HF.out.1.row.cells (g := g) (by rw [h1]; rfl) k (tellV (ts.getD k (false, 0, 0, 0))) (by simp [List.getD, hlt])
          injection h1 with h1
          refine ⟨g, h1, ?_⟩
          rwa [Addr.add_mid, Nat.zero_add] at ht
      obtain ⟨g, rfl, hcell⟩ := hc
      have hmem : ts.getD k (false, 0, 0, 0) ∈ ts := by simp [List.getD, hlt]
      have him := HIM.out _ hmem
      have HE : Hid (boundsTo h.sLo h.sHi ts set (k + 1) = if setI set k then narrowT (boundsTo h.sLo h.sHi ts set k) (ts.getD k (false, 0, 0, 0)) else boundsTo h.sLo h.sHi ts set k) := rfl
      generalize ts.getD k (false, 0, 0, 0) = t at *
      generalize boundsTo h.sLo h.sHi ts set k = M at *
      clear hmem
      obtain ⟨rv, im, lo, hi⟩ := t
      dsimp only [tellV] at hcell him
      have hk12 : (k : Int) < 12 := by omega
      have hk0 : (0 : Int) ≤ (k : Int) := by omega
      cases hb : setI set k
      · have hb' : (bits .and .i64 set (wrap64 (2 ^ k)) != 0) = false := hb
        have HB := Lib.hid hb; clear hb
        have HC := Lib.hid hcell
        cases rv
        all_goals
          simp only [if_true, if_false, Bool.false_eq_true] at hcell
          go_wp2
          go_roundw
          case rel => exact ⟨k + 1, by omega, by go_num, by rw [HE.out, HB.out]; exact HI.out, HF.out⟩
          case measure => simp [intOf]; omega
      · have hb' : (bits .and .i64 set (wrap64 (2 ^ k)) != 0) = true := hb
        have HB := Lib.hid hb; clear hb
        cases rv
        · simp only [if_false, Bool.false_eq_true] at hcell
          obtain ⟨m, rfl⟩ := Int.eq_ofNat_of_zero_le him.1
          have hm6 : m < 6 := by have := him.2; omega
          have hE2 : Hid (boundsTo h.sLo h.sHi ts set (k + 1) = narrowM M 0 (2 + m) lo hi) := by
            show _ = _
            rw [HE.out, HB.out]
            simp [narrowT]
          clear HE HB
          go_wp2_with fail
          rw [told_m123 _ _ (by kernel_rfl)]
          go_simp
          refine (told_up _ _ _ _).mono ?_
          rintro e w4 ⟨rfl, hb4⟩
          rw [wrap2 m hm6]
          have HF4 := HF.out.below hb4
          have HI4 := HI.out.below hb4 HF.out.2.2.2.2
          clear hb4 hcell
          go_wp2_with (first | (go_at_call 95; refine (narrow_any B 0 (2 + m) (by omega) (by omega) _ _ _ _ HI4).mono ?_; rintro e w5 ⟨rfl, hx5, hi5⟩; have hF5 := HF4.bx HL.out hx5; clear hx5 HI4 HF4))
          go_roundw
          case rel => exact ⟨k + 1, by omega, by go_num, by rw [hE2.out]; exact hi5, hF5⟩
          case measure => simp [intOf]; omega
        · simp only [if_true] at hcell
          obtain ⟨m, rfl⟩ := Int.eq_ofNat_of_zero_le him.1
          have hm6 : m < 6 := by have := him.2; omega
          have hE2 : Hid (boundsTo h.sLo h.sHi ts set (k + 1) = narrowM M (2 + m) 1 lo hi) := by
            show _ = _
            rw [HE.out, HB.out]
            simp [narrowT]
          clear HE HB
          go_wp2_with fail
          rw [told_m122 _ _ (by kernel_rfl)]
          go_simp
          refine (told_re _ _ _ _).mono ?_
          rintro e w4 ⟨rfl, hb4⟩
          rw [wrap2 m hm6]
          have HF4 := HF.out.below hb4
          have HI4 := HI.out.below hb4 HF.out.2.2.2.2
          clear hb4 hcell
          go_wp2_with (first | (go_at_call 95; refine (narrow_any B (2 + m) 1 (by omega) (by omega) _ _ _ _ HI4).mono ?_; rintro e w5 ⟨rfl, hx5, hi5⟩; have hF5 := HF4.bx HL.out hx5; clear hx5 HI4 HF4))
          go_roundw
          case rel => exact ⟨k + 1, by omega, by go_num, by rw [hE2.out]; exact hi5, hF5⟩
          case measure => simp [intOf]; omega
    · obtain rfl : k = ts.length := by omega
      have HE : Hid (boundsS h.sLo h.sHi ts set = shortS 8 (boundsTo h.sLo h.sHi ts set ts.length)) := rfl
      have hml := len_boundsTo h.sLo h.sHi ts set ts.length
      generalize boundsTo h.sLo h.sHi ts set ts.length = M at *
      go_wp2_with (first | (go_at_call 96; refine (shorten_any B _ _ HI.out).mono ?_; rintro e w6 ⟨rfl, hx6, hi6⟩; have hF6 := Lib.hid (HF.out.bx HL.out hx6); have HI6 := Lib.hid hi6; clear hx6 hi6; rw [← HE.out] at HI6 ⊢; generalize boundsS h.sLo h.sHi ts set = R at *; obtain ⟨rb, rm⟩ := R; dsimp only at HI6 ⊢) | (refine load78 rfl _ rfl B rfl rm HI6.out ?_; dsimp only [Act.put, List.setIfInBounds_toArray, List.set_cons_zero, List.set_cons_succ]) | (refine store78x rfl _ _ rfl w.heap.size rfl rm HI6.out.1 rfl hF6.out.2.1 ?_; intro X hIX hBX; dsimp only [Act.put, List.setIfInBounds_toArray, List.set_cons_zero, List.set_cons_succ]))
      refine bodyPost_ret (results_bv2 rfl _ _ w.heap.size rm _ rfl rfl hIX) rfl ⟨rfl, ?_⟩
      exact BX.below hF6.out.2.2.1 hBX (Nat.le_refl _) hF6.out.2.2.1.size
end Go.Proofs.YtcfjakifeihbpaaGreat

namespace Go.Proofs.YtcfjakifeihbpaaGreat
open Go.RowKit

theorem len_shortStep (M : List Int) (f b t : Nat) : (shortStep M f b t).length = M.length := by unfold shortStep; split <;> simp
theorem len_roundS (b : Nat) (M : List Int) : (roundS b M).length = M.length := len_itS _ (fun f M => len_itS _ (fun t M => len_shortStep M f b t) M 8) M 8
theorem len_shortS (M : List Int) : ∀ k, (shortS k M).2.length = M.length
  | 0 => rfl
  | k + 1 => by
    rw [shortS]
    split
    · rw [len_roundS]; exact len_shortS M k
    · exact len_shortS M k
theorem len_boundsS (sLo sHi : Int) (ts : List Tell) (set : Int) : (boundsS sLo sHi ts set).2.length = 64 := by
  unfold boundsS; rw [len_shortS, len_boundsTo]

set_option maxRecDepth 100000 in
set_option maxHeartbeats 2000000 in
theorem can_any (w0 : World) (L mb : Nat) (h : Hd) (tv : Value) (ts : List Tell) (cs : List Cnt) (set : Int) (w : World) (hL : IsLook w0 w L mb h tv ts cs) (ht : ts.length ≤ 12) (him : ∀ t ∈ ts, 0 ≤ t.2.1 ∧ t.2.1 < 6) :
    Calls Tryz.prog 30 #[.pointer (some ⟨L, 0, none⟩), .int .i64 set] w (Ret (.bool (boundsS h.sLo h.sHi ts set).1) w) := by
  have HL := Lib.hid hL; clear hL
  have HIM := Lib.hid him; clear him
  have hl := len_boundsS h.sLo h.sHi ts set
  have hc : Hid (Calls Tryz.prog 74 #[.pointer (some ⟨L, 0, none⟩), .int .i64 set] w (Ret (.tuple #[bv (boundsS h.sLo h.sHi ts set).2, .bool (boundsS h.sLo h.sHi ts set).1]) w)) := bounds_any w0 L mb h tv ts cs set w HL.out ht HIM.out
  generalize (boundsS h.sLo h.sHi ts set).2 = M at *
  generalize (boundsS h.sLo h.sHi ts set).1 = b at *
  have HM := Lib.hid hl; clear hl
  go_enter Tryz.func30, Tryz.ntmps30
  go_wp2_with fail
  refine hc.out.mono ?_
  rintro e w1 ⟨rfl, hb1⟩
  go_wp2_with (refine store78x rfl _ _ rfl w1.heap.size rfl M HM.out rfl (isB_zero w1).there ?_; intro X hIX hBX; dsimp only [Act.put, List.setIfInBounds_toArray, List.set_cons_zero, List.set_cons_succ])
  go_ret
  exact ⟨rfl, BX.below (BA hb1 zero64) hBX hb1.size (by have := hb1.size; simp; omega)⟩

set_option maxRecDepth 100000 in
set_option maxHeartbeats 2000000 in
theorem truths_any (w0 : World) (L mb : Nat) (h : Hd) (tv : Value) (ts : List Tell) (cs : List Cnt) (w : World) (hL : IsLook w0 w L mb h tv ts cs) (ht : ts.length ≤ 12) (him : ∀ t ∈ ts, 0 ≤ t.2.1 ∧ t.2.1 < 6) :
    Calls Tryz.prog 46 #[.pointer (some ⟨L, 0, none⟩)] w (Out (if (boundsS h.sLo h.sHi ts (2 ^ ts.length - 1)).1 then .ok (bv (boundsS h.sLo h.sHi ts (2 ^ ts.length - 1)).2) else .error 10) w) := by
  have HL := Lib.hid hL; clear hL
  have HIM := Lib.hid him; clear him
  have hl := len_boundsS h.sLo h.sHi ts (2 ^ ts.length - 1)
  have hc : Hid (∀ Y, Below w.heap.size w Y → Calls Tryz.prog 74 #[.pointer (some ⟨L, 0, none⟩), .int .i64 (2 ^ ts.length - 1)] Y (Ret (.tuple #[bv (boundsS h.sLo h.sHi ts (2 ^ ts.length - 1)).2, .bool (boundsS h.sLo h.sHi ts (2 ^ ts.length - 1)).1]) Y)) :=
    fun Y hY => bounds_any w0 L mb h tv ts cs _ Y (HL.out.grown hY) ht HIM.out
  have ha : Hid (∀ Y, Below w.heap.size w Y → Calls Tryz.prog 31 #[.pointer (some ⟨L, 0, none⟩)] Y (fun e w' => e = .returned (.int .i64 (2 ^ ts.length - 1)) ∧ w' = Y)) := fun Y hY => all_any w0 L mb h tv ts cs Y (HL.out.grown hY) ht
  generalize (2 : Int) ^ ts.length - 1 = set at *
  generalize (boundsS h.sLo h.sHi ts set).2 = M at *
  generalize (boundsS h.sLo h.sHi ts set).1 = b at *
  have HM := Lib.hid hl; clear hl
  have hZ0 := isB_zero w
  have hzb : Below w.heap.size w (w.alloc zero64) := by (repeat (first | assumption | exact Below.refl _ _ | refine BA ?_ _ | refine BC ?_ _ _ (by omega) _ | refine Below.drew ?_ | refine BT ?_ (by assumption)))
  cases b
  · go_enter Tryz.func46, Tryz.ntmps46
    go_wp2_with fail
    change Calls _ _ _ (w.alloc zero64) _
    generalize hWz : w.alloc zero64 = Wz at *
    have hz1 : w.heap.size < Wz.heap.size := hZ0.lt
    clear hWz
    refine (ha.out _ hzb).mono ?_
    rintro e w1 ⟨rfl, rfl⟩
    go_wp2_with fail
    refine (hc.out _ hzb).mono ?_
    rintro e w2 ⟨rfl, hb1⟩
    have hB2 := BT hzb hb1
    clear hb1
    go_wp2_with (first | (refine store78x rfl _ _ rfl w2.heap.size rfl M HM.out rfl (isB_zero w2).there ?_; intro X hIX hBX; have hBw := BX.below (BA hB2 zero64) hBX hB2.size (by have := hB2.size; simp; omega); clear hBX; dsimp only [Act.put, List.setIfInBounds_toArray, List.set_cons_zero, List.set_cons_succ]) | (go_at_call 47; refine (insist_no _ _).mono ?_; rintro e w3 ⟨rfl, hb3⟩))
    exact ⟨rfl, rfl, BT hBw hb3⟩
  · go_enter Tryz.func46, Tryz.ntmps46
    go_wp2_with fail
    change Calls _ _ _ (w.alloc zero64) _
    generalize hWz : w.alloc zero64 = Wz at *
    have hz1 : w.heap.size < Wz.heap.size := hZ0.lt
    clear hWz
    refine (ha.out _ hzb).mono ?_
    rintro e w1 ⟨rfl, rfl⟩
    go_wp2_with fail
    refine (hc.out _ hzb).mono ?_
    rintro e w2 ⟨rfl, hb1⟩
    have hB2 := BT hzb hb1
    have hZ2 := (hZ0.below hb1 hz1).alloc zero64
    have hsz : w.heap.size < w2.heap.size := Nat.lt_of_lt_of_le hz1 hb1.size
    clear hb1
    go_wp2_with (first | (refine store78x rfl _ _ rfl w2.heap.size rfl M HM.out rfl (isB_zero w2).there ?_; intro X hIX hBX; have hBw := BX.below (BA hB2 zero64) hBX hB2.size (by have := hB2.size; simp; omega); have hZX : X.there w.heap.size 0 64 := (fun j hj => by rw [hBX.cell _ _ (by simp; omega) (by omega), hBX.frozen _ _ (by simp; omega) (by omega)]; exact (hZ2.there j hj)); have hXs := hBX.size; rw [World.size_alloc] at hXs; clear hBX; dsimp only [Act.put, List.setIfInBounds_toArray, List.set_cons_zero, List.set_cons_succ]) | (go_at_call 47; refine (insist_yes _ _).mono ?_; rintro e w3 ⟨rfl, hb3⟩; have hI3 := hIX.below hb3 (by omega); have hB3 := BT hBw hb3; have hZ3 : w3.there w.heap.size 0 64 := (fun j hj => by rw [hb3.cell (p := ⟨w.heap.size, 0 + j, none⟩) (by show w.heap.size < _; omega), hb3.frozen (p := ⟨w.heap.size, 0 + j, none⟩) (by show w.heap.size < _; omega)]; exact hZX j hj)) | (refine load78 rfl _ rfl w2.heap.size rfl M hI3 ?_; dsimp only [Act.put, List.setIfInBounds_toArray, List.set_cons_zero, List.set_cons_succ]) | (refine store78x rfl _ _ rfl w.heap.size rfl M HM.out rfl hZ3 ?_; intro X2 hIX2 hBX2; dsimp only [Act.put, List.setIfInBounds_toArray, List.set_cons_zero, List.set_cons_succ]))
    exact bodyPost_ret (results_bv rfl _ _ w.heap.size M rfl hIX2) rfl ⟨rfl, BX.below hB3 hBX2 (Nat.le_refl _) hB3.size⟩
end Go.Proofs.YtcfjakifeihbpaaGreat

namespace Go.Proofs.YtcfjakifeihbpaaGreat
open Go.RowKit

/-- The box of the look. -/
structure BoxL (w0 w : World) (B L mb : Nat) (h : Hd) (tv : Value) (ts : List Tell) (cs : List Cnt) : Prop where
  box : w.cell? ⟨B, 0, none⟩ = some (.pointer (some ⟨L, 0, none⟩))
  look : IsLook w0 w L mb h tv ts cs
  len : ts.length ≤ 12
  im : ∀ t ∈ ts, 0 ≤ t.2.1 ∧ t.2.1 < 6
theorem BoxL.grown {w0 w w' : World} {B L mb : Nat} {h : Hd} {tv : Value} {ts : List Tell} {cs : List Cnt} (k : BoxL w0 w B L mb h tv ts cs) (hb : Below w.heap.size w w') : BoxL w0 w' B L mb h tv ts cs :=
  ⟨(hb.cell (World.block_lt_of_cell? _ _ k.box)).trans k.box, k.look.grown hb, k.len, k.im⟩

set_option maxRecDepth 100000 in
set_option maxHeartbeats 2000000 in
theorem clash1_any (w0 : World) (B L mb : Nat) (h : Hd) (tv : Value) (ts : List Tell) (cs : List Cnt) (x : Int) (w : World) (k : BoxL w0 w B L mb h tv ts cs) :
    Calls Tryz.prog 33 #[.int .i64 x, .pointer (some ⟨B, 0, none⟩)] w (Ret (.bool (!(boundsS h.sLo h.sHi ts x).1)) w) := by
  have hc := can_any w0 L mb h tv ts cs x w k.look k.len k.im
  have hbx := k.box
  clear k
  generalize (boundsS h.sLo h.sHi ts x).1 = b at *
  go_enter Tryz.func33, Tryz.ntmps33
  go_wp2_with (go_at_call 30; refine hc.mono ?_; rintro e w1 ⟨rfl, hb1⟩)
  go_ret
  exact ⟨rfl, by (repeat (first | assumption | exact Below.refl _ _ | refine BA ?_ _ | refine BC ?_ _ _ (by omega) _ | refine Below.drew ?_ | refine BT ?_ (by assumption)))⟩

/-- All settings but those of a set. -/
def butS (n : Nat) (x : Int) : Int := bits .andNot .i64 (2 ^ n - 1) x
set_option maxRecDepth 100000 in
set_option maxHeartbeats 2000000 in
theorem drop1_any (w0 : World) (B L mb : Nat) (h : Hd) (tv : Value) (ts : List Tell) (cs : List Cnt) (x : Int) (w : World) (k : BoxL w0 w B L mb h tv ts cs) :
    Calls Tryz.prog 37 #[.int .i64 x, .pointer (some ⟨B, 0, none⟩)] w (Ret (.bool (boundsS h.sLo h.sHi ts (butS ts.length x)).1) w) := by
  have K := Lib.hid k
  have hbx := k.box
  clear k
  have hd : Below w.heap.size w w.drew := by (repeat (first | assumption | exact Below.refl _ _ | refine BA ?_ _ | refine BC ?_ _ _ (by omega) _ | refine Below.drew ?_ | refine BT ?_ (by assumption)))
  have hc : Hid (∀ y, Calls Tryz.prog 30 #[.pointer (some ⟨L, 0, none⟩), .int .i64 y] w.drew (Ret (.bool (boundsS h.sLo h.sHi ts y).1) w.drew)) := fun y => can_any w0 L mb h tv ts cs y w.drew (K.out.look.grown hd) K.out.len K.out.im
  have ha : Hid (Calls Tryz.prog 31 #[.pointer (some ⟨L, 0, none⟩)] w.drew (fun e w' => e = .returned (.int .i64 (2 ^ ts.length - 1)) ∧ w' = w.drew)) := all_any w0 L mb h tv ts cs w.drew (K.out.look.grown hd) K.out.len
  have hu : Hid (butS ts.length x = bits .andNot .i64 (2 ^ ts.length - 1) x) := rfl
  generalize butS ts.length x = u at *
  have hcu := hc.out u
  clear hc
  generalize (boundsS h.sLo h.sHi ts u).1 = b at *
  generalize (2 : Int) ^ ts.length - 1 = z at *
  have hbd : w.drew.cell? ⟨B, 0, none⟩ = some (.pointer (some ⟨L, 0, none⟩)) := hbx
  go_enter Tryz.func37, Tryz.ntmps37
  go_wp2_with fail
  refine wp_region_seq [(0, true), (1, true), (3, true), (2, false), (4, true), (5, false), (6, true)]
    (fun w' => w'.cell? ⟨B, 0, none⟩ = some (.pointer (some ⟨L, 0, none⟩))) (by kernel_rfl) (by kernel_rfl) (fun _ _ d _ _ h => by cases d <;> exact h) hbd ?_
  repeat (first | (refine seq_read rfl (by rfl) _ (fun w' hS => by (try dsimp only at hS); go_simp; (try with_reducible rfl)) ?_; (try simp only [Act.put, List.setIfInBounds_toArray, List.set_cons_zero, List.set_cons_succ])) | (refine seq_skip rfl (by rfl) ?_; (try simp only [Act.put, List.setIfInBounds_toArray, List.set_cons_zero, List.set_cons_succ])))
  (refine seq_do rfl (by rfl) (fun K hK => ?_); go_simp)
  refine ha.out.mono ?_
  rintro e w1 ⟨rfl, rfl⟩
  refine hK _ _ hbd ?_
  clear hK
  (refine seq_read rfl (by rfl) _ (fun w' hS => by (try dsimp only at hS); go_simp; (try with_reducible rfl)) ?_; (try simp only [Act.put, List.setIfInBounds_toArray, List.set_cons_zero, List.set_cons_succ]))
  rw [← hu.out]
  (refine seq_do rfl (by rfl) (fun K hK => ?_); go_simp)
  refine hcu.mono ?_
  rintro e w2 ⟨rfl, hb2⟩
  refine hK _ _ ((hb2.cell (World.block_lt_of_cell? _ _ hbd)).trans hbd) ?_
  clear hK
  (refine seq_read rfl (by rfl) _ (fun w' hS => by (try dsimp only at hS); go_simp; (try with_reducible rfl)) ?_; (try simp only [Act.put, List.setIfInBounds_toArray, List.set_cons_zero, List.set_cons_succ]))
  refine seq_end ?_
  go_wp2
  go_ret
  exact ⟨rfl, by (repeat (first | assumption | exact Below.refl _ _ | refine BA ?_ _ | refine BC ?_ _ _ (by omega) _ | refine Below.drew ?_ | refine BT ?_ (by assumption)))⟩
end Go.Proofs.YtcfjakifeihbpaaGreat

namespace Go.Proofs.YtcfjakifeihbpaaGreat
open Go.RowKit

/-- The box of a measure. -/
structure BoxM (w : World) (B : Nat) (h : Hd) (xs : List (Int × Int)) (ss : List Sett) : Prop where
  c0 : w.cell? ⟨B, 0, none⟩ = some (.slice h.a h.n h.cap)
  c1 : w.cell? ⟨B, 1, none⟩ = some (.int .i64 h.eLo)
  c2 : w.cell? ⟨B, 2, none⟩ = some (.int .i64 h.eHi)
  c3 : w.cell? ⟨B, 3, none⟩ = some (.int .i64 h.images)
  c4 : w.cell? ⟨B, 4, none⟩ = some (.int .i64 h.sLo)
  c5 : w.cell? ⟨B, 5, none⟩ = some (.int .i64 h.sHi)
  c6 : w.cell? ⟨B, 6, none⟩ = some (.slice h.sa h.ns h.scap)
  has : HasM w h xs ss
theorem BoxM.grown {w w' : World} {B : Nat} {h : Hd} {xs : List (Int × Int)} {ss : List Sett} (k : BoxM w B h xs ss) (hb : Below w.heap.size w w') : BoxM w' B h xs ss := by
  have hlt := World.block_lt_of_cell? _ _ k.c0
  exact ⟨(hb.cell (p := ⟨B, 0, none⟩) hlt).trans k.c0, (hb.cell (p := ⟨B, 1, none⟩) hlt).trans k.c1, (hb.cell (p := ⟨B, 2, none⟩) hlt).trans k.c2, (hb.cell (p := ⟨B, 3, none⟩) hlt).trans k.c3, (hb.cell (p := ⟨B, 4, none⟩) hlt).trans k.c4, (hb.cell (p := ⟨B, 5, none⟩) hlt).trans k.c5, (hb.cell (p := ⟨B, 6, none⟩) hlt).trans k.c6, k.has.below (Nat.le_refl _) hb⟩

theorem tells_ok {h : Hd} {xs : List (Int × Int)} {ss : List Sett} (hv : validH h xs ss = true) :
    (tellsOf xs h.eLo h.eHi ss).length ≤ 12 ∧ ∀ t ∈ tellsOf xs h.eLo h.eHi ss, 0 ≤ t.2.1 ∧ t.2.1 < 6 := by
  simp only [validH, validM, headB, holdB, setsB, Bool.and_eq_true, decide_eq_true_eq] at hv
  obtain ⟨⟨⟨⟨_, him⟩, _⟩, hn⟩, hs⟩ := hv
  rw [List.all_eq_true] at hs
  refine ⟨by simpa [tellsOf] using hn, ?_⟩
  intro t ht
  obtain ⟨s, hs1, rfl⟩ := List.mem_map.1 ht
  have := hs s hs1
  simp only [setB, isImg, Bool.and_eq_true, decide_eq_true_eq] at this
  simp only [tellOf]
  omega

end Go.Proofs.YtcfjakifeihbpaaGreat

namespace Go.Proofs.YtcfjakifeihbpaaGreat
open Go.RowKit

/-- The truths of a measure: whether there are, and their bounds. -/
def truthsS (h : Hd) (xs : List (Int × Int)) (ss : List Sett) : Bool × List Int := boundsS h.sLo h.sHi (tellsOf xs h.eLo h.eHi ss) (2 ^ (tellsOf xs h.eLo h.eHi ss).length - 1)
theorem len_truthsS (h : Hd) (xs : List (Int × Int)) (ss : List Sett) : (truthsS h xs ss).2.length = 64 := len_boundsS _ _ _ _
/-- By how much a point is greater than another one. -/
def spanS (M : List Int) (i j : Nat) : Value := .agg #[.int .i64 (wrap64 (-(gx M (j * 8 + i)))), .int .i64 (gx M (i * 8 + j))]
def placeR (h : Hd) (xs : List (Int × Int)) (ss : List Sett) (im : Int) : Except Int Value :=
  if isImg h.images im then if (truthsS h xs ss).1 then if hasC im (cntsOf ss) then .ok (spanS (truthsS h xs ss).2 0 (2 + im).toNat) else .error 12 else .error 10 else .error 2

theorem isB_grown {w w' : World} {B : Nat} {M : List Int} (h : IsB w B M) (hb : Below w.heap.size w w') : IsB w' B M := h.below hb h.lt
theorem img_of {h : Hd} {xs : List (Int × Int)} {ss : List Sett} (hv : validH h xs ss = true) {im : Int} (hi : isImg h.images im = true) : ∃ k : Nat, im = (k : Int) ∧ k < 6 := by
  simp only [validH, validM, headB, holdB, Bool.and_eq_true, decide_eq_true_eq] at hv
  simp only [isImg, Bool.and_eq_true, decide_eq_true_eq] at hi
  obtain ⟨⟨⟨⟨_, him⟩, _⟩, hn⟩, hs⟩ := hv
  exact ⟨im.toNat, by omega, by omega⟩

set_option maxRecDepth 100000 in
set_option maxHeartbeats 2000000 in
theorem placeC_no (B C : Nat) (h : Hd) (xs : List (Int × Int)) (ss : List Sett) (w : World) (hm : BoxM w B h xs ss) (hv : validH h xs ss = false) : Calls Tryz.prog 44 #[.pointer (some ⟨B, 0, none⟩), .pointer (some ⟨C, 0, none⟩)] w (Pan 1 w) := by
  have hg : BoxM (w.alloc (Obj.cells #[.int .i64 0, .int .i64 0] 24)) B h xs ss := hm.grown (by (repeat (first | assumption | exact Below.refl _ _ | refine BA ?_ _ | refine BC ?_ _ _ (by omega) _ | refine Below.drew ?_ | refine BT ?_ (by assumption))))
  obtain ⟨c0, c1, c2, c3, c4, c5, c6, hh⟩ := hg
  have hc := lookAt_no h xs ss _ hh hv
  clear hm hh hv
  obtain ⟨ha, hnn, hcap, heLo, heHi, him, hsLo, hsHi, hsa, hns, hscap⟩ := h
  unfold Hd.val at hc
  dsimp only at *
  go_enter Tryz.func44, Tryz.ntmps44
  go_wp2_with (go_at_call 29; refine hc.mono ?_; rintro e w1 ⟨rfl, hb1⟩)
  exact ⟨rfl, rfl, by (repeat (first | assumption | exact Below.refl _ _ | refine BA ?_ _ | refine BC ?_ _ _ (by omega) _ | refine Below.drew ?_ | refine BT ?_ (by assumption)))⟩

set_option maxRecDepth 100000 in
set_option maxHeartbeats 2000000 in
theorem placeC_yes (B C : Nat) (im : Int) (h : Hd) (xs : List (Int × Int)) (ss : List Sett) (w : World) (hm : BoxM w B h xs ss) (hC : w.cell? ⟨C, 0, none⟩ = some (.int .i64 im)) (hv : validH h xs ss = true) :
    Calls Tryz.prog 44 #[.pointer (some ⟨B, 0, none⟩), .pointer (some ⟨C, 0, none⟩)] w (Out (placeR h xs ss im) w) := by
  obtain ⟨hts, htm⟩ := tells_ok hv
  have hg : BoxM (w.alloc (Obj.cells #[.int .i64 0, .int .i64 0] 24)) B h xs ss := hm.grown (by (repeat (first | assumption | exact Below.refl _ _ | refine BA ?_ _ | refine BC ?_ _ _ (by omega) _ | refine Below.drew ?_ | refine BT ?_ (by assumption))))
  obtain ⟨c0, c1, c2, c3, c4, c5, c6, hh⟩ := hg
  have hc := lookAt_yes h xs ss _ hh hv
  have hpk : isImg h.images im = true → ∃ k : Nat, im = (k : Int) ∧ k < 6 := img_of hv
  have ht : Hid (∀ L mb tv w1, IsLook (w.alloc (Obj.cells #[.int .i64 0, .int .i64 0] 24)) w1 L mb h tv (tellsOf xs h.eLo h.eHi ss) (cntsOf ss) → Calls Tryz.prog 46 #[.pointer (some ⟨L, 0, none⟩)] w1 (Out (if (truthsS h xs ss).1 then .ok (bv (truthsS h xs ss).2) else .error 10) w1)) :=
    fun L mb tv w1 hL => truths_any (w.alloc (Obj.cells #[.int .i64 0, .int .i64 0] 24)) L mb h tv _ _ w1 hL hts htm
  have hl := len_truthsS h xs ss
  have hi : Hid (∀ L mb tv w1, IsLook (w.alloc (Obj.cells #[.int .i64 0, .int .i64 0] 24)) w1 L mb h tv (tellsOf xs h.eLo h.eHi ss) (cntsOf ss) → Calls Tryz.prog 45 #[.pointer (some ⟨L, 0, none⟩), .int .i64 im] w1 (Out (if isImg h.images im then .ok (.tuple #[]) else .error 2) w1)) :=
    fun L mb tv w1 hL => insistImage_any (w.alloc (Obj.cells #[.int .i64 0, .int .i64 0] 24)) L mb h tv _ _ im w1 hL
  have hs : Hid (∀ L mb tv w1, IsLook (w.alloc (Obj.cells #[.int .i64 0, .int .i64 0] 24)) w1 L mb h tv (tellsOf xs h.eLo h.eHi ss) (cntsOf ss) → Calls Tryz.prog 48 #[.pointer (some ⟨L, 0, none⟩), .int .i64 im] w1 (Ret (.bool (hasC im (cntsOf ss))) w1)) :=
    fun L mb tv w1 hL => isSet_any (w.alloc (Obj.cells #[.int .i64 0, .int .i64 0] 24)) L mb h tv _ _ im w1 hL
  unfold placeR
  generalize tellsOf xs h.eLo h.eHi ss = ts at *
  generalize (truthsS h xs ss).2 = M at *
  generalize (truthsS h xs ss).1 = b at *
  have s0 : (w.alloc (Obj.cells #[.int .i64 0, .int .i64 0] 24)).heap.size = w.heap.size + 1 := by simp
  have hW : Hid ((w.alloc (Obj.cells #[.int .i64 0, .int .i64 0] 24)).cell? ⟨w.heap.size, 0, none⟩ = some (.int .i64 0) ∧ (w.alloc (Obj.cells #[.int .i64 0, .int .i64 0] 24)).frozen? ⟨w.heap.size, 0, none⟩ = false ∧ (w.alloc (Obj.cells #[.int .i64 0, .int .i64 0] 24)).cell? ⟨w.heap.size, 1, none⟩ = some (.int .i64 0) ∧ (w.alloc (Obj.cells #[.int .i64 0, .int .i64 0] 24)).frozen? ⟨w.heap.size, 1, none⟩ = false) := ⟨by simp [go_sem], by simp, by simp [go_sem], by simp⟩
  have hBW : Below w.heap.size w (w.alloc (Obj.cells #[.int .i64 0, .int .i64 0] 24)) := by (repeat (first | assumption | exact Below.refl _ _ | refine BA ?_ _ | refine BC ?_ _ _ (by omega) _ | refine Below.drew ?_ | refine BT ?_ (by assumption)))
  have hCl := World.block_lt_of_cell? _ _ hC
  have HC := Lib.hid ((hBW.cell (p := ⟨C, 0, none⟩) hCl).trans hC)
  clear hC
  have HM := Lib.hid hl; clear hl
  clear hm hh hv
  unfold Hd.val at hc
  cases hii : isImg h.images im
  · rw [hii] at hi
    clear hii hpk ht hs
    go_enter Tryz.func44, Tryz.ntmps44
    go_wp2_with (first
      | (go_at_call 29; refine hc.mono ?_; rintro e w1 ⟨L, mb, tv, rfl, hb1, hL⟩; have hC1 := (hb1.cell (p := ⟨C, 0, none⟩) (by simp; omega)).trans HC.out)
      | (go_at_call 45; refine (hi.out _ _ _ _ hL).mono ?_; rintro e w2 ⟨rfl, hb2⟩; have hL2 := hL.grown hb2; have hC2 := (hb2.cell (p := ⟨C, 0, none⟩) (World.block_lt_of_cell? _ _ hC1)).trans hC1)
      | (go_at_call 46; refine (ht.out _ _ _ _ hL2).mono ?_; rintro e w3 ⟨rfl, hb3⟩; have hL3 := hL2.grown hb3; have hC3 := (hb3.cell (p := ⟨C, 0, none⟩) (World.block_lt_of_cell? _ _ hC2)).trans hC2)
      | (refine store78x rfl _ _ rfl w3.heap.size rfl M HM.out rfl (isB_zero w3).there ?_; intro X hIX hBX; dsimp only [Act.put, List.setIfInBounds_toArray, List.set_cons_zero, List.set_cons_succ]; have hX : Below w3.heap.size w3 X := BX.below ((Below.refl _ w3).alloc (Nat.le_refl _) _) hBX (Nat.le_refl _) (by simp); have hL4 := hL3.grown hX; have hC4 := (hX.cell (p := ⟨C, 0, none⟩) (World.block_lt_of_cell? _ _ hC3)).trans hC3))
    exact ⟨rfl, rfl, by (repeat (first | assumption | exact Below.refl _ _ | refine BA ?_ _ | refine BC ?_ _ _ (by omega) _ | refine Below.drew ?_ | refine BT ?_ (by assumption)))⟩
  obtain ⟨k, rfl, hk⟩ := hpk hii
  rw [hii] at hi
  clear hpk hii
  generalize hss : hasC (k : Int) (cntsOf ss) = s at *
  have hp : Hid (∀ w', Calls Tryz.prog 51 #[.int .i64 (k : Int)] w' (Ret (.int .i64 ((2 + k : Nat) : Int)) w')) := fun w' => by
    have := placeOf_any (k : Int) w'
    rwa [show wrap64 (2 + (k : Int)) = ((2 + k : Nat) : Int) by simp [wrap64]; omega] at this
  have hbt : Hid (∀ B' w', IsB w' B' M → Calls Tryz.prog 50 #[.pointer (some ⟨B', 0, none⟩), .int .i64 0, .int .i64 ((2 + k : Nat) : Int)] w' (Ret (spanS M 0 (2 + k)) w')) := fun B' w' h => between_any B' 0 (2 + k) (by omega) (by omega) M w' h
  have hsp : Hid (spanS M 0 (2 + (k : Int)).toNat = spanS M 0 (2 + k)) := by
    show _ = _
    rw [show (2 + (k : Int)).toNat = 2 + k by omega]
  rw [hsp.out]
  clear hsp
  generalize ((2 + k : Nat) : Int) = q at *
  have hsv : ∃ lo hi, spanS M 0 (2 + k) = .agg #[.int .i64 lo, .int .i64 hi] := ⟨_, _, rfl⟩
  obtain ⟨lo, hh, hsv⟩ := hsv
  rw [hsv] at hbt ⊢
  clear hsv
  generalize (k : Int) = im at *
  cases b
  · go_enter Tryz.func44, Tryz.ntmps44
    go_wp2_with (first
      | (go_at_call 29; refine hc.mono ?_; rintro e w1 ⟨L, mb, tv, rfl, hb1, hL⟩; have hC1 := (hb1.cell (p := ⟨C, 0, none⟩) (by simp; omega)).trans HC.out)
      | (go_at_call 45; refine (hi.out _ _ _ _ hL).mono ?_; rintro e w2 ⟨rfl, hb2⟩; have hL2 := hL.grown hb2; have hC2 := (hb2.cell (p := ⟨C, 0, none⟩) (World.block_lt_of_cell? _ _ hC1)).trans hC1)
      | (go_at_call 46; refine (ht.out _ _ _ _ hL2).mono ?_; rintro e w3 ⟨rfl, hb3⟩; have hL3 := hL2.grown hb3; have hC3 := (hb3.cell (p := ⟨C, 0, none⟩) (World.block_lt_of_cell? _ _ hC2)).trans hC2)
      | (refine store78x rfl _ _ rfl w3.heap.size rfl M HM.out rfl (isB_zero w3).there ?_; intro X hIX hBX; dsimp only [Act.put, List.setIfInBounds_toArray, List.set_cons_zero, List.set_cons_succ]; have hX : Below w3.heap.size w3 X := BX.below ((Below.refl _ w3).alloc (Nat.le_refl _) _) hBX (Nat.le_refl _) (by simp); have hL4 := hL3.grown hX; have hC4 := (hX.cell (p := ⟨C, 0, none⟩) (World.block_lt_of_cell? _ _ hC3)).trans hC3))
    exact ⟨rfl, rfl, by (repeat (first | assumption | exact Below.refl _ _ | refine BA ?_ _ | refine BC ?_ _ _ (by omega) _ | refine Below.drew ?_ | refine BT ?_ (by assumption)))⟩
  cases s
  · go_enter Tryz.func44, Tryz.ntmps44
    go_wp2_with (first
      | (go_at_call 29; refine hc.mono ?_; rintro e w1 ⟨L, mb, tv, rfl, hb1, hL⟩; have hC1 := (hb1.cell (p := ⟨C, 0, none⟩) (by simp; omega)).trans HC.out)
      | (go_at_call 45; refine (hi.out _ _ _ _ hL).mono ?_; rintro e w2 ⟨rfl, hb2⟩; have hL2 := hL.grown hb2; have hC2 := (hb2.cell (p := ⟨C, 0, none⟩) (World.block_lt_of_cell? _ _ hC1)).trans hC1)
      | (go_at_call 46; refine (ht.out _ _ _ _ hL2).mono ?_; rintro e w3 ⟨rfl, hb3⟩; have hL3 := hL2.grown hb3; have hC3 := (hb3.cell (p := ⟨C, 0, none⟩) (World.block_lt_of_cell? _ _ hC2)).trans hC2)
      | (refine store78x rfl _ _ rfl w3.heap.size rfl M HM.out rfl (isB_zero w3).there ?_; intro X hIX hBX; dsimp only [Act.put, List.setIfInBounds_toArray, List.set_cons_zero, List.set_cons_succ]; have hX : Below w3.heap.size w3 X := BX.below ((Below.refl _ w3).alloc (Nat.le_refl _) _) hBX (Nat.le_refl _) (by simp); have hL4 := hL3.grown hX; have hC4 := (hX.cell (p := ⟨C, 0, none⟩) (World.block_lt_of_cell? _ _ hC3)).trans hC3))
    refine (hs.out _ _ _ _ hL4).mono ?_
    rintro e w5 ⟨rfl, hb5⟩
    go_wp2_with (go_at_call 47; refine (insist_no _ _).mono ?_; rintro e w6 ⟨rfl, hb6⟩)
    exact ⟨rfl, rfl, by (repeat (first | assumption | exact Below.refl _ _ | refine BA ?_ _ | refine BC ?_ _ _ (by omega) _ | refine Below.drew ?_ | refine BT ?_ (by assumption)))⟩
  · go_enter Tryz.func44, Tryz.ntmps44
    go_wp2_with (first
      | (go_at_call 29; refine hc.mono ?_; rintro e w1 ⟨L, mb, tv, rfl, hb1, hL⟩; have hC1 := (hb1.cell (p := ⟨C, 0, none⟩) (by simp; omega)).trans HC.out)
      | (go_at_call 45; refine (hi.out _ _ _ _ hL).mono ?_; rintro e w2 ⟨rfl, hb2⟩; have hL2 := hL.grown hb2; have hC2 := (hb2.cell (p := ⟨C, 0, none⟩) (World.block_lt_of_cell? _ _ hC1)).trans hC1)
      | (go_at_call 46; refine (ht.out _ _ _ _ hL2).mono ?_; rintro e w3 ⟨rfl, hb3⟩; have hL3 := hL2.grown hb3; have hC3 := (hb3.cell (p := ⟨C, 0, none⟩) (World.block_lt_of_cell? _ _ hC2)).trans hC2)
      | (refine store78x rfl _ _ rfl w3.heap.size rfl M HM.out rfl (isB_zero w3).there ?_; intro X hIX hBX; dsimp only [Act.put, List.setIfInBounds_toArray, List.set_cons_zero, List.set_cons_succ]; have hX : Below w3.heap.size w3 X := BX.below ((Below.refl _ w3).alloc (Nat.le_refl _) _) hBX (Nat.le_refl _) (by simp); have hL4 := hL3.grown hX; have hC4 := (hX.cell (p := ⟨C, 0, none⟩) (World.block_lt_of_cell? _ _ hC3)).trans hC3))
    refine (hs.out _ _ _ _ hL4).mono ?_
    rintro e w5 ⟨rfl, hb5⟩
    have hC5 := (hb5.cell (p := ⟨C, 0, none⟩) (World.block_lt_of_cell? _ _ hC4)).trans hC4
    go_wp2_with (first
      | (go_at_call 47; refine (insist_yes _ _).mono ?_; rintro e w6 ⟨rfl, hb6⟩; have hC6 := (hb6.cell (p := ⟨C, 0, none⟩) (World.block_lt_of_cell? _ _ hC5)).trans hC5)
      | (go_at_call 51; refine (hp.out _).mono ?_; rintro e w7 ⟨rfl, hb7⟩)
      | (go_at_call 50; refine (hbt.out _ _ (isB_grown (isB_grown (isB_grown hIX hb5) hb6) hb7)).mono ?_; rintro e w8 ⟨rfl, hb8⟩)
      | (go_at_call 49; refine (span_any _ _ _).mono ?_; rintro e w9 ⟨rfl, hb9⟩
         have hA : Below (w.alloc (Obj.cells #[.int .i64 0, .int .i64 0] 24)).heap.size (w.alloc (Obj.cells #[.int .i64 0, .int .i64 0] 24)) w9 := by (repeat (first | assumption | exact Below.refl _ _ | refine BA ?_ _ | refine BC ?_ _ _ (by omega) _ | refine Below.drew ?_ | refine BT ?_ (by assumption)))
         have hB : Below w.heap.size w w9 := BT hBW hA
         have d0 := (hA.cell (p := ⟨w.heap.size, 0, none⟩) (by simp)).trans hW.out.1
         have f0 := (hA.frozen (p := ⟨w.heap.size, 0, none⟩) (by simp)).trans hW.out.2.1
         have d1 := (hA.cell (p := ⟨w.heap.size, 1, none⟩) (by simp)).trans hW.out.2.2.1
         have f1 := (hA.frozen (p := ⟨w.heap.size, 1, none⟩) (by simp)).trans hW.out.2.2.2
         clear hc ht hbt hb1 hL hb2 hIX hX hb3 hA hW hBW hb5 hb6 hb7 hb8 hb9))
    exact bodyPost_ret (v := .agg #[.int .i64 lo, .int .i64 hh]) (by simp [results, Tryz.results44, go_sem, d0, d1]) rfl ⟨rfl, by (repeat (first | assumption | exact Below.refl _ _ | refine BA ?_ _ | refine BC ?_ _ _ (by omega) _ | refine Below.drew ?_ | refine BT ?_ (by assumption)))⟩
end Go.Proofs.YtcfjakifeihbpaaGreat

namespace Go.Proofs.YtcfjakifeihbpaaGreat.Fw

/-- No bound. -/
abbrev F : Int := 1073741824
abbrev Mat := Nat → Nat → Int
/-- Numbers that keep all bounds. -/
def Sol (E : Mat) (x : Nat → Int) : Prop := ∀ i j, i < 8 → j < 8 → E i j ≠ F → x j - x i ≤ E i j
def Bd (E : Mat) (B : Int) : Prop := ∀ i j, i < 8 → j < 8 → E i j ≠ F → -B ≤ E i j ∧ E i j ≤ B
def Cl (E : Mat) (l : Nat) : Prop := ∀ i j, i < 8 → j < 8 → E i l ≠ F → E l j ≠ F → E i j ≠ F ∧ E i j ≤ E i l + E l j
/-- By way of b. -/
def upd (E : Mat) (b : Nat) : Mat := fun i j =>
  if E i b ≠ F ∧ E b j ≠ F then (if E i b + E b j < E i j then E i b + E b j else E i j) else E i j

theorem upd_le (E : Mat) (b i j : Nat) : upd E b i j ≤ E i j := by
  unfold upd; split
  · split <;> omega
  · omega
theorem upd_cases (E : Mat) (b i j : Nat) : (upd E b i j = E i j) ∨ (E i b ≠ F ∧ E b j ≠ F ∧ upd E b i j = E i b + E b j) := by
  unfold upd; split
  · rename_i h; split
    · exact .inr ⟨h.1, h.2, rfl⟩
    · exact .inl rfl
  · exact .inl rfl
theorem upd_sum (E : Mat) (b i j : Nat) (h1 : E i b ≠ F) (h2 : E b j ≠ F) : upd E b i j ≤ E i b + E b j := by
  unfold upd; rw [if_pos ⟨h1, h2⟩]; split <;> omega
theorem upd_col (E : Mat) (b i : Nat) (h : E b b = 0) : upd E b i b = E i b := by
  unfold upd; split
  · rw [h]; split <;> omega
  · rfl
theorem upd_row (E : Mat) (b j : Nat) (h : E b b = 0) : upd E b b j = E b j := by
  unfold upd; split
  · rw [h]; split <;> omega
  · rfl

theorem upd_bd {E : Mat} {B : Int} {b : Nat} (hb : b < 8) (h : Bd E B) (h0 : 0 ≤ B) : Bd (upd E b) (2 * B) := fun i j hi hj hne => by
  have _ := h0
  rcases upd_cases E b i j with e | ⟨h1, h2, e⟩
  · rw [e] at hne ⊢; have := h i j hi hj hne; omega
  · have a := h i b hi hb h1; have c := h b j hb hj h2; omega
/-- What is a bound stays one; what is none has none that leads there. -/
theorem upd_fin {E : Mat} {B : Int} {b : Nat} (hb : b < 8) (h : Bd E B) (h2 : 2 * B < F) {i j : Nat} (hi : i < 8) (hj : j < 8) : upd E b i j ≠ F ↔ (E i j ≠ F ∨ (E i b ≠ F ∧ E b j ≠ F)) := by
  constructor
  · intro hne
    rcases upd_cases E b i j with e | ⟨a, c, _⟩
    · exact .inl (e ▸ hne)
    · exact .inr ⟨a, c⟩
  · intro hh e
    rcases hh with hh | ⟨a, c⟩
    · have := h i j hi hj hh
      have l := upd_le E b i j
      rw [e] at l
      have hF : F = 1073741824 := rfl
      omega
    · have p := h i b hi hb a; have q := h b j hb hj c
      have l := upd_sum E b i j a c
      rw [e] at l
      omega
theorem upd_sol {E : Mat} {B : Int} {b : Nat} (hb : b < 8) (h : Bd E B) (h2 : 2 * B < F) (x : Nat → Int) : Sol (upd E b) x ↔ Sol E x := by
  constructor
  · intro hs i j hi hj hne
    have := hs i j hi hj ((upd_fin hb h h2 hi hj).2 (.inl hne))
    have := upd_le E b i j
    omega
  · intro hs i j hi hj hne
    rcases upd_cases E b i j with e | ⟨a, c, e⟩
    · rw [e] at hne ⊢; exact hs i j hi hj hne
    · have p := hs i b hi hb a; have q := hs b j hb hj c; omega
theorem upd_cl_new {E : Mat} {B : Int} {b : Nat} (hb : b < 8) (h : Bd E B) (h2 : 2 * B < F) (h0 : E b b = 0) : Cl (upd E b) b := fun i j hi hj h1 h3 => by
  rw [upd_col E b i h0] at h1 ⊢
  rw [upd_row E b j h0] at h3 ⊢
  exact ⟨(upd_fin hb h h2 hi hj).2 (.inr ⟨h1, h3⟩), upd_sum E b i j h1 h3⟩
theorem upd_cl_old {E : Mat} {B : Int} {b l : Nat} (hb : b < 8) (h : Bd E B) (h2 : 2 * B < F) (h0 : E b b = 0) (hc : Cl E l) : Cl (upd E b) l := fun i j hi hj h1 h3 => by
  rcases upd_cases E b i l with e1 | ⟨p1, p2, e1⟩ <;> rcases upd_cases E b l j with e2 | ⟨q1, q2, e2⟩
  · rw [e1] at h1 ⊢; rw [e2] at h3 ⊢
    obtain ⟨c1, c2⟩ := hc i j hi hj h1 h3
    exact ⟨(upd_fin hb h h2 hi hj).2 (.inl c1), Int.le_trans (upd_le _ _ _ _) c2⟩
  · rw [e1] at h1 ⊢; rw [e2]
    obtain ⟨c1, c2⟩ := hc i b hi hb h1 q1
    exact ⟨(upd_fin hb h h2 hi hj).2 (.inr ⟨c1, q2⟩), by have := upd_sum E b i j c1 q2; omega⟩
  · rw [e1]; rw [e2] at h3 ⊢
    obtain ⟨c1, c2⟩ := hc b j hb hj p2 h3
    exact ⟨(upd_fin hb h h2 hi hj).2 (.inr ⟨p1, c1⟩), by have := upd_sum E b i j p1 c1; omega⟩
  · rw [e1, e2]
    obtain ⟨_, c2⟩ := hc b b hb hb p2 q1
    exact ⟨(upd_fin hb h h2 hi hj).2 (.inr ⟨p1, q2⟩), by have := upd_sum E b i j p1 q2; omega⟩

/-- Bounds that have shortened each other. -/
structure Short (D : Mat) (B : Int) : Prop where
  zero : ∀ i, i < 8 → D i i = 0
  bd : Bd D B
  cl : ∀ l, l < 8 → Cl D l

theorem least (f : Nat → Int) (ok : Nat → Bool) : ∀ n, (∃ m, m < n ∧ ok m = true) → ∃ m, m < n ∧ ok m = true ∧ ∀ k, k < n → ok k = true → f m ≤ f k
  | 0, h => by obtain ⟨m, hm, _⟩ := h; omega
  | n + 1, h => by
    by_cases hn : ∃ m, m < n ∧ ok m = true
    · obtain ⟨m, hm, ho, hl⟩ := least f ok n hn
      by_cases hon : ok n = true
      · by_cases hf : f m ≤ f n
        · refine ⟨m, by omega, ho, fun k hk hok => ?_⟩
          by_cases e : k = n
          · subst e; exact hf
          · exact hl k (by omega) hok
        · refine ⟨n, by omega, hon, fun k hk hok => ?_⟩
          by_cases e : k = n
          · subst e; omega
          · have := hl k (by omega) hok; omega
      · refine ⟨m, by omega, ho, fun k hk hok => ?_⟩
        by_cases e : k = n
        · subst e; exact absurd hok hon
        · exact hl k (by omega) hok
    · obtain ⟨m, hm, ho⟩ := h
      have e : m = n := by
        by_cases e : m = n
        · exact e
        · exact absurd ⟨m, by omega, ho⟩ hn
      subst e
      refine ⟨m, hm, ho, fun k hk hok => ?_⟩
      by_cases e : k = m
      · subst e; omega
      · exact absurd ⟨k, by omega, hok⟩ hn

/-- Each bound is reached. -/
theorem Short.reach {D : Mat} {B : Int} (h : Short D B) {i j : Nat} (hi : i < 8) (hj : j < 8) (hne : D i j ≠ F) : ∃ x, Sol D x ∧ x i = 0 ∧ x j = D i j := by
  let c : Nat → Int := fun m => if m = i then 0 else 3 * B + 1
  have hx : ∀ k, ∃ v : Int, k < 8 → (∃ m, m < 8 ∧ D m k ≠ F ∧ v = c m + D m k) ∧ ∀ m, m < 8 → D m k ≠ F → v ≤ c m + D m k := fun k => by
    by_cases hk : k < 8
    · obtain ⟨m, hm, ho, hl⟩ := least (fun m => c m + D m k) (fun m => decide (D m k ≠ F)) 8 ⟨k, hk, by rw [h.zero k hk]; decide⟩
      exact ⟨c m + D m k, fun _ => ⟨⟨m, hm, by simpa using ho, rfl⟩, fun q hq hne => hl q hq (by simpa using hne)⟩⟩
    · exact ⟨0, fun h => absurd h hk⟩
  obtain ⟨x, hx⟩ := Classical.axiomOfChoice hx
  have ci : c i = 0 := if_pos rfl
  have cm : ∀ m, m ≠ i → c m = 3 * B + 1 := fun m hm => if_neg hm
  have xi : x i = 0 := by
    obtain ⟨⟨m, hm, hf, e⟩, hl⟩ := hx i hi
    have h1 := hl i hi (by rw [h.zero i hi]; decide)
    rw [ci, h.zero i hi] at h1
    by_cases hmi : m = i
    · subst hmi; rw [e, ci, h.zero m hi]; rfl
    · rw [cm m hmi] at e
      have := h.bd m i hm hi hf
      omega
  refine ⟨x, fun a b ha hb hf => ?_, xi, ?_⟩
  · obtain ⟨⟨m, hm, hma, e⟩, _⟩ := hx a ha
    obtain ⟨_, hl⟩ := hx b hb
    obtain ⟨c1, c2⟩ := h.cl a ha m b hm hb hma hf
    have := hl m hm c1
    omega
  · obtain ⟨⟨m, hm, hf, e⟩, hl⟩ := hx j hj
    have h1 := hl i hi hne
    rw [ci] at h1
    by_cases hmi : m = i
    · subst hmi; rw [e, ci]; omega
    · rw [cm m hmi] at e
      have p := h.bd m j hm hj hf
      have q := h.bd i j hi hj hne
      omega
end Go.Proofs.YtcfjakifeihbpaaGreat.Fw

/- The program's bounds, as lists of 64 numbers, shorten each other as the theory of bounds says. -/
namespace Go.Proofs.YtcfjakifeihbpaaGreat
open Fw Go.RowKit

def ent (M : List Int) : Mat := fun i j => gx M (i * 8 + j)
theorem Sol.congr {E E' : Mat} (h : ∀ i j, i < 8 → j < 8 → E i j = E' i j) (x : Nat → Int) : Sol E x ↔ Sol E' x :=
  ⟨fun hs i j hi hj hne => by rw [← h i j hi hj] at hne ⊢; exact hs i j hi hj hne, fun hs i j hi hj hne => by rw [h i j hi hj] at hne ⊢; exact hs i j hi hj hne⟩
theorem Bd.congr {E E' : Mat} {B : Int} (h : ∀ i j, i < 8 → j < 8 → E i j = E' i j) (hb : Bd E B) : Bd E' B := fun i j hi hj hne => by rw [← h i j hi hj] at hne ⊢; exact hb i j hi hj hne
theorem Cl.congr {E E' : Mat} {l : Nat} (hl : l < 8) (h : ∀ i j, i < 8 → j < 8 → E i j = E' i j) (hb : Cl E l) : Cl E' l := fun i j hi hj h1 h2 => by
  rw [← h i l hi hl] at h1 ⊢; rw [← h l j hl hj] at h2 ⊢; rw [← h i j hi hj]; exact hb i j hi hj h1 h2

theorem len_shortStep' (M : List Int) (f b t : Nat) : (shortStep M f b t).length = M.length := by unfold shortStep; split <;> simp
theorem gx_ent {M : List Int} {i j : Nat} : gx M (i * 8 + j) = ent M i j := rfl
theorem shortStep_ent {M : List Int} (hl : M.length = 64) {f b t : Nat} (hf : f < 8) (ht : t < 8)
    (hw : ent M f b ≠ F → ent M b t ≠ F → wrap64 (ent M f b + ent M b t) = ent M f b + ent M b t) {i j : Nat} (hj : j < 8) :
    ent (shortStep M f b t) i j = if i = f ∧ j = t then upd (ent M) b f t else ent M i j := by
  unfold shortStep upd ent
  unfold ent at hw
  simp only [bne_iff_ne]
  by_cases hc : gx M (f * 8 + b) ≠ F ∧ gx M (b * 8 + t) ≠ F
  · simp only [if_pos hc, hw hc.1 hc.2]
    rw [gx_set _ _ _ _ (by omega)]
    by_cases e : i = f ∧ j = t
    · rw [if_pos e, if_pos (by omega)]
    · rw [if_neg e, if_neg (by omega)]
  · simp only [if_neg hc]
    split
    · rename_i e; rw [e.1, e.2]
    · rfl
theorem row_ent {M : List Int} (hl : M.length = 64) {f b : Nat} (hf : f < 8) (hb : b < 8) (h0 : ent M b b = 0)
    (hw : ∀ t, t < 8 → ent M f b ≠ F → ent M b t ≠ F → wrap64 (ent M f b + ent M b t) = ent M f b + ent M b t) :
    ∀ n, n ≤ 8 → (itS (fun t M => shortStep M f b t) n M).length = 64 ∧ ∀ i j, i < 8 → j < 8 → ent (itS (fun t M => shortStep M f b t) n M) i j = if i = f ∧ j < n then upd (ent M) b f j else ent M i j
  | 0, _ => ⟨hl, fun i j _ _ => by rw [if_neg (by omega)]; rfl⟩
  | n + 1, hn => by
    obtain ⟨l1, h1⟩ := row_ent hl hf hb h0 hw n (by omega)
    rw [itS]
    have e1 : ent (itS (fun t M => shortStep M f b t) n M) f b = ent M f b := by
      rw [h1 f b hf hb]; split
      · exact upd_col _ _ _ h0
      · rfl
    have e2 : ent (itS (fun t M => shortStep M f b t) n M) b n = ent M b n := by
      rw [h1 b n hb (by omega), if_neg (by omega)]
    have e3 : ent (itS (fun t M => shortStep M f b t) n M) f n = ent M f n := by
      rw [h1 f n hf (by omega), if_neg (by omega)]
    refine ⟨by rw [len_shortStep']; exact l1, fun i j hi hj => ?_⟩
    rw [shortStep_ent l1 hf (by omega) (by rw [e1, e2]; exact hw n (by omega)) hj]
    have e4 : upd (ent (itS (fun t M => shortStep M f b t) n M)) b f n = upd (ent M) b f n := by unfold upd; rw [e1, e2, e3]
    by_cases e : i = f ∧ j = n
    · rw [if_pos e, if_pos (by omega), e4, e.2]
    · rw [if_neg e, h1 i j hi hj]
      by_cases e' : i = f ∧ j < n
      · rw [if_pos e', if_pos (by omega)]
      · rw [if_neg e', if_neg (by omega)]
theorem round_ent {M : List Int} (hl : M.length = 64) {b : Nat} {B : Int} (hb : b < 8) (h0 : ent M b b = 0) (hB : Bd (ent M) B) (h2 : 2 * B < F) :
    ∀ n, n ≤ 8 → (itS (fun f M => rowS b f M) n M).length = 64 ∧ ∀ i j, i < 8 → j < 8 → ent (itS (fun f M => rowS b f M) n M) i j = if i < n then upd (ent M) b i j else ent M i j
  | 0, _ => ⟨hl, fun i j _ _ => by rw [if_neg (by omega)]; rfl⟩
  | n + 1, hn => by
    obtain ⟨l1, h1⟩ := round_ent hl hb h0 hB h2 n (by omega)
    rw [itS]
    have eb : ∀ j, j < 8 → ent (itS (fun f M => rowS b f M) n M) b j = ent M b j := fun j hj => by
      rw [h1 b j hb hj]; split
      · exact upd_row _ _ _ h0
      · rfl
    have ef : ∀ j, j < 8 → ent (itS (fun f M => rowS b f M) n M) n j = ent M n j := fun j hj => by
      rw [h1 n j (by omega) hj, if_neg (by omega)]
    obtain ⟨l2, h3⟩ := row_ent l1 (f := n) (b := b) (by omega) hb (by rw [eb b hb]; exact h0) (fun t ht n1 n2 => by
      rw [ef b hb] at n1 ⊢; rw [eb t ht] at n2 ⊢
      have p := hB n b (by omega) hb n1; have q := hB b t hb ht n2
      have hF : F = 1073741824 := rfl
      unfold wrap64; omega) 8 (Nat.le_refl _)
    refine ⟨l2, fun i j hi hj => ?_⟩
    show ent (itS (fun t M => shortStep M n b t) 8 _) i j = _
    rw [h3 i j hi hj]
    by_cases e : i = n
    · subst e
      rw [if_pos ⟨rfl, hj⟩, if_pos (by omega)]
      unfold upd; rw [ef b hb, eb j hj, ef j hj]
    · rw [if_neg (by omega), h1 i j hi hj]
      by_cases e' : i < n
      · rw [if_pos e', if_pos (by omega)]
      · rw [if_neg e', if_neg (by omega)]

theorem contra_iff (M : List Int) : contra M = true ↔ ∃ i, i < 8 ∧ ent M i i < 0 := by
  unfold contra ent
  rw [List.any_eq_true]
  simp only [List.mem_range, decide_eq_true_eq]

/-- After some rounds. -/
theorem shortS_spec {M : List Int} (hl : M.length = 64) {B : Int} (hB0 : 0 ≤ B) (hB : Bd (ent M) B) (h2 : 256 * B < F) (h0 : ∀ i, i < 8 → ent M i i = 0) :
    ∀ k, k ≤ 8 → (shortS k M).2.length = 64 ∧
      ((shortS k M).1 = true → (∀ i, i < 8 → ent (shortS k M).2 i i = 0) ∧ Bd (ent (shortS k M).2) (2 ^ k * B) ∧ (∀ l, l < k → Cl (ent (shortS k M).2) l) ∧ (∀ i j, i < 8 → j < 8 → ent M i j ≠ F → ent (shortS k M).2 i j ≠ F) ∧ ∀ x, Sol (ent (shortS k M).2) x ↔ Sol (ent M) x) ∧
      ((shortS k M).1 = false → ¬∃ x, Sol (ent M) x)
  | 0, _ => ⟨hl, fun _ => ⟨h0, by simpa [shortS] using hB, fun l h => by omega, fun _ _ _ _ h => h, fun x => Iff.rfl⟩, fun h => by cases h⟩
  | k + 1, hk => by
    obtain ⟨l1, ht, hf⟩ := shortS_spec hl hB0 hB h2 h0 k (by omega)
    rw [shortS]
    cases hb : (shortS k M).1
    · rw [if_neg (by simp)]
      exact ⟨l1, ⟨(fun h => by rw [hb] at h; cases h), fun _ => hf hb⟩⟩
    · rw [if_pos rfl]
      obtain ⟨z, bd, cl, fin, sol⟩ := ht hb
      have hp : (2 : Int) ^ k ≤ 128 := by
        have : ∀ k : Fin 8, (2 : Int) ^ k.val ≤ 128 := by decide
        exact this ⟨k, by omega⟩
      have hp0 : (0 : Int) ≤ 2 ^ k := by
        have : ∀ k : Fin 8, (0 : Int) ≤ 2 ^ k.val := by decide
        exact this ⟨k, by omega⟩
      have hm : (2 : Int) ^ k * B ≤ 128 * B := Int.mul_le_mul_of_nonneg_right hp hB0
      have hm0 : (0 : Int) ≤ 2 ^ k * B := Int.mul_nonneg hp0 hB0
      have h2' : 2 * (2 ^ k * B) < F := by omega
      obtain ⟨l2, hr⟩ := round_ent l1 (b := k) (by omega) (z k (by omega)) bd h2' 8 (Nat.le_refl _)
      have hr' : ∀ i j, i < 8 → j < 8 → upd (ent (shortS k M).2) k i j = ent (roundS k (shortS k M).2) i j := fun i j hi hj => by
        have := hr i j hi hj
        rw [if_pos hi] at this; exact this.symm
      have e2 : (2 : Int) ^ (k + 1) * B = 2 * (2 ^ k * B) := by rw [Int.pow_succ, Int.mul_comm (2 ^ k) 2, Int.mul_assoc]
      have hsol : ∀ x, Sol (ent (roundS k (shortS k M).2)) x ↔ Sol (ent M) x := fun x => ((Sol.congr hr' x).symm.trans (upd_sol (by omega) bd h2' x)).trans (sol x)
      have hfin : ∀ i j, i < 8 → j < 8 → ent M i j ≠ F → ent (roundS k (shortS k M).2) i j ≠ F := fun i j hi hj h => by
        rw [← hr' i j hi hj]; exact (upd_fin (by omega) bd h2' hi hj).2 (.inl (fin i j hi hj h))
      have l2' : (roundS k (shortS k M).2).length = 64 := l2
      clear l2 hr
      dsimp only
      generalize roundS k (shortS k M).2 = R at *
      refine ⟨l2', ⟨fun h => ⟨fun i hi => ?_, ?_, fun l hlk => ?_, hfin, hsol⟩, fun h => ?_⟩⟩
      · have hc : ¬ ent R i i < 0 := fun hn => by
          have := (contra_iff R).2 ⟨i, hi, hn⟩
          rw [this] at h; cases h
        have hle := upd_le (ent (shortS k M).2) k i i
        rw [hr' i i hi hi, z i hi] at hle
        omega
      · rw [e2]; exact Bd.congr hr' (upd_bd (by omega) bd hm0)
      · refine Cl.congr (by omega) hr' ?_
        by_cases e : l = k
        · subst e; exact upd_cl_new (by omega) bd h2' (z l (by omega))
        · exact upd_cl_old (by omega) bd h2' (z k (by omega)) (cl l (by omega))
      · rintro ⟨x, hx⟩
        have hc : contra R = true := by simpa using h
        obtain ⟨i, hi, hn⟩ := (contra_iff _).1 hc
        have := (hsol x).2 hx i i hi hi (by have hF : F = 1073741824 := rfl; omega)
        omega
theorem short_yes {M : List Int} (hl : M.length = 64) {B : Int} (hB0 : 0 ≤ B) (hB : Bd (ent M) B) (h2 : 256 * B < F) (h0 : ∀ i, i < 8 → ent M i i = 0) (h : (shortS 8 M).1 = true) :
    Short (ent (shortS 8 M).2) (256 * B) ∧ (∀ i j, i < 8 → j < 8 → ent M i j ≠ F → ent (shortS 8 M).2 i j ≠ F) ∧ ∀ x, Sol (ent (shortS 8 M).2) x ↔ Sol (ent M) x := by
  obtain ⟨_, ht, _⟩ := shortS_spec hl hB0 hB h2 h0 8 (Nat.le_refl _)
  obtain ⟨z, bd, cl, fin, sol⟩ := ht h
  exact ⟨⟨z, bd, cl⟩, fin, sol⟩
theorem short_no {M : List Int} (hl : M.length = 64) {B : Int} (hB0 : 0 ≤ B) (hB : Bd (ent M) B) (h2 : 256 * B < F) (h0 : ∀ i, i < 8 → ent M i i = 0) (h : (shortS 8 M).1 = false) : ¬∃ x, Sol (ent M) x :=
  (shortS_spec hl hB0 hB h2 h0 8 (Nat.le_refl _)).2.2 h

/-! What the settings of a set tell, as bounds. -/

def dfl : Tell := (false, 0, 0, 0)
/-- Numbers (the zero, the sum, and the places from 2 on) are as a setting tells. -/
def Keeps (t : Tell) (x : Nat → Int) : Prop :=
  if t.1 then t.2.2.1 ≤ x 1 - x (2 + t.2.1.toNat) ∧ x 1 - x (2 + t.2.1.toNat) ≤ t.2.2.2 else t.2.2.1 ≤ x (2 + t.2.1.toNat) - x 0 ∧ x (2 + t.2.1.toNat) - x 0 ≤ t.2.2.2
/-- They are as the sum, and the first settings, so far as they are in a set, tell. -/
def Tells (sLo sHi : Int) (ts : List Tell) (set : Int) (n : Nat) (x : Nat → Int) : Prop :=
  (sLo ≤ x 1 - x 0 ∧ x 1 - x 0 ≤ sHi) ∧ ∀ k, k < n → setI set k = true → Keeps (ts.getD k dfl) x
/-- A setting's numbers are as those of a valid measure. -/
def Fair (B : Int) (t : Tell) : Prop := (0 ≤ t.2.1 ∧ t.2.1 < 6) ∧ (-B ≤ t.2.2.1 ∧ t.2.2.1 ≤ B) ∧ -B ≤ t.2.2.2 ∧ t.2.2.2 ≤ B

theorem ent_openS : ∀ i j, i < 8 → j < 8 → ent openS i j = if i = j then 0 else F := fun i j hi hj => by
  have : ∀ i j : Fin 8, ent openS i.val j.val = if i.val = j.val then 0 else F := by decide +kernel
  exact this ⟨i, hi⟩ ⟨j, hj⟩
theorem ent_narrow1 {M : List Int} (hl : M.length = 64) {i j : Nat} (hi : i < 8) (hj : j < 8) (h : Int) {p q : Nat} (hq : q < 8) :
    ent (narrow1 M (i * 8 + j) h) p q = if p = i ∧ q = j then mn (ent M i j) h else ent M p q := by
  unfold ent narrow1
  rw [gx_set _ _ _ _ (by omega)]
  by_cases e : p = i ∧ q = j
  · rw [if_pos e, if_pos (by omega)]
  · rw [if_neg e, if_neg (by omega)]
theorem narrow1_sol {M : List Int} (hl : M.length = 64) {i j : Nat} (hi : i < 8) (hj : j < 8) {h : Int} (hF : h < F) (x : Nat → Int) :
    Sol (ent (narrow1 M (i * 8 + j) h)) x ↔ Sol (ent M) x ∧ x j - x i ≤ h := by
  constructor
  · intro hs
    have h1 := hs i j hi hj
    rw [ent_narrow1 hl hi hj h hj, if_pos ⟨rfl, rfl⟩] at h1
    have hm : mn (ent M i j) h ≠ F := by unfold mn; split <;> omega
    have h2 := h1 hm
    have hle : mn (ent M i j) h ≤ ent M i j ∧ mn (ent M i j) h ≤ h := by unfold mn; split <;> omega
    refine ⟨fun p q hp hq hne => ?_, by omega⟩
    by_cases e : p = i ∧ q = j
    · rw [e.1, e.2] at hne ⊢; omega
    · have := hs p q hp hq
      rw [ent_narrow1 hl hi hj h hq, if_neg e] at this
      exact this hne
  · rintro ⟨hs, hx⟩ p q hp hq hne
    rw [ent_narrow1 hl hi hj h hq] at hne ⊢
    split
    · rename_i e
      rw [if_pos e] at hne
      rw [e.1, e.2]
      unfold mn at hne ⊢
      split
      · exact hx
      · rename_i hn
        rw [if_neg hn] at hne
        exact hs i j hi hj hne
    · rename_i e
      rw [if_neg e] at hne
      exact hs p q hp hq hne
/-- What stays while bounds are narrowed. -/
structure Ready (M : List Int) (B : Int) : Prop where
  len : M.length = 64
  bd : Bd (ent M) B
  top : ∀ i j, i < 8 → j < 8 → ent M i j ≤ F
  zero : ∀ i, i < 8 → ent M i i = 0
theorem Ready.narrow1 {M : List Int} {B : Int} (r : Ready M B) {i j : Nat} (hi : i < 8) (hj : j < 8) (hne : i ≠ j) {h : Int} (h1 : -B ≤ h ∧ h ≤ B) : Ready (narrow1 M (i * 8 + j) h) B := by
  refine ⟨by rw [Go.Proofs.YtcfjakifeihbpaaGreat.narrow1, List.length_set]; exact r.len, fun p q hp hq hn => ?_, fun p q hp hq => ?_, fun p hp => ?_⟩
  · rw [ent_narrow1 r.len hi hj h hq] at hn ⊢
    split
    · rename_i e
      rw [if_pos e] at hn
      unfold mn at hn ⊢
      split
      · exact h1
      · rename_i hh; rw [if_neg hh] at hn; exact r.bd i j hi hj hn
    · rename_i e
      rw [if_neg e] at hn
      exact r.bd p q hp hq hn
  · rw [ent_narrow1 r.len hi hj h hq]
    have := r.top i j hi hj
    have := r.top p q hp hq
    unfold mn
    split
    · split <;> omega
    · omega
  · rw [ent_narrow1 r.len hi hj h hp, if_neg (by omega)]; exact r.zero p hp
theorem narrowM_ok {M : List Int} {B : Int} (r : Ready M B) (hB : 0 ≤ B ∧ B < F) {i j : Nat} (hi : i < 8) (hj : j < 8) (hne : i ≠ j) {lo hh : Int} (h1 : -B ≤ lo ∧ lo ≤ B) (h2 : -B ≤ hh ∧ hh ≤ B) :
    Ready (narrowM M i j lo hh) B ∧ (∀ x, Sol (ent (narrowM M i j lo hh)) x ↔ Sol (ent M) x ∧ lo ≤ x j - x i ∧ x j - x i ≤ hh) ∧ ent (narrowM M i j lo hh) i j ≠ F ∧ ent (narrowM M i j lo hh) j i ≠ F ∧
      ∀ p q, p < 8 → q < 8 → ent M p q ≠ F → ent (narrowM M i j lo hh) p q ≠ F := by
  have hF : F = 1073741824 := rfl
  have hw : wrap64 (-lo) = -lo := by unfold wrap64; omega
  have r1 := r.narrow1 hi hj hne h2
  have r2 := r1.narrow1 (i := j) (j := i) (h := -lo) hj hi (Ne.symm hne) ⟨by omega, by omega⟩
  have fin1 : ∀ {M : List Int}, Ready M B → ∀ {i j : Nat}, i < 8 → j < 8 → ∀ {h : Int}, h ≤ B → ∀ p q, p < 8 → q < 8 → (ent M p q ≠ F ∨ (p = i ∧ q = j)) → ent (Go.Proofs.YtcfjakifeihbpaaGreat.narrow1 M (i * 8 + j) h) p q ≠ F := fun {M} r {i j} hi hj {h} hh p q hp hq ho => by
    rw [ent_narrow1 r.len hi hj h hq]
    split
    · have := r.top i j hi hj; unfold mn; split <;> omega
    · rename_i e; exact ho.resolve_right e
  unfold narrowM
  rw [hw]
  refine ⟨r2, fun x => ?_, ?_, ?_, fun p q hp hq hn => ?_⟩
  · rw [narrow1_sol r1.len hj hi (by omega), narrow1_sol r.len hi hj (by omega)]
    constructor
    · rintro ⟨⟨a, b⟩, c⟩; exact ⟨a, by omega, b⟩
    · rintro ⟨a, b, c⟩; exact ⟨⟨a, c⟩, by omega⟩
  · exact fin1 r1 hj hi (by omega) i j hi hj (.inl (fin1 r hi hj h2.2 i j hi hj (.inr ⟨rfl, rfl⟩)))
  · exact fin1 r1 hj hi (by omega) j i hj hi (.inr ⟨rfl, rfl⟩)
  · exact fin1 r1 hj hi (by omega) p q hp hq (.inl (fin1 r hi hj h2.2 p q hp hq (.inl hn)))
theorem ready_open (B : Int) (hB : 0 ≤ B) : Ready openS B := by
  refine ⟨len_openS, fun i j hi hj hn => ?_, fun i j hi hj => ?_, fun i hi => by rw [ent_openS i i hi hi, if_pos rfl]⟩
  · rw [ent_openS i j hi hj] at hn ⊢
    split
    · omega
    · rename_i e; rw [if_neg e] at hn; exact absurd rfl hn
  · rw [ent_openS i j hi hj]; split <;> decide
theorem sol_open (x : Nat → Int) : Sol (ent openS) x := fun i j hi hj hn => by
  rw [ent_openS i j hi hj] at hn ⊢
  by_cases e : i = j
  · subst e; rw [if_pos rfl]; omega
  · rw [if_neg e] at hn; exact absurd rfl hn

/-- The bounds that the first settings tell. -/
theorem boundsTo_ok {sLo sHi : Int} {ts : List Tell} {B : Int} (hB : 0 ≤ B ∧ B < F) (hs : (-B ≤ sLo ∧ sLo ≤ B) ∧ -B ≤ sHi ∧ sHi ≤ B) (ht : ∀ t ∈ ts, Fair B t) (set : Int) :
    ∀ n, n ≤ ts.length → Ready (boundsTo sLo sHi ts set n) B ∧ (∀ x, Sol (ent (boundsTo sLo sHi ts set n)) x ↔ Tells sLo sHi ts set n x) ∧ ent (boundsTo sLo sHi ts set n) 0 1 ≠ F ∧ ent (boundsTo sLo sHi ts set n) 1 0 ≠ F ∧
      ∀ k, k < n → setI set k = true → if (ts.getD k dfl).1 then ent (boundsTo sLo sHi ts set n) (2 + (ts.getD k dfl).2.1.toNat) 1 ≠ F ∧ ent (boundsTo sLo sHi ts set n) 1 (2 + (ts.getD k dfl).2.1.toNat) ≠ F else
        ent (boundsTo sLo sHi ts set n) 0 (2 + (ts.getD k dfl).2.1.toNat) ≠ F ∧ ent (boundsTo sLo sHi ts set n) (2 + (ts.getD k dfl).2.1.toNat) 0 ≠ F
  | 0, _ => by
    obtain ⟨a, b, c, d, _⟩ := narrowM_ok (i := 0) (j := 1) (ready_open B hB.1) hB (by omega) (by omega) (by omega) hs.1 hs.2
    refine ⟨a, fun x => ?_, c, d, fun k hk => by omega⟩
    rw [boundsTo, b x]
    exact ⟨fun h => ⟨h.2, fun k hk => by omega⟩, fun h => ⟨sol_open x, h.1⟩⟩
  | n + 1, hn => by
    obtain ⟨r, sol, f0, f1, fk⟩ := boundsTo_ok hB hs ht set n (by omega)
    have hmem : ts.getD n dfl ∈ ts := by simp [List.getD, show n < ts.length by omega]
    obtain ⟨⟨him0, him1⟩, hlo, hhi⟩ := ht _ hmem
    have step : ∀ x, Tells sLo sHi ts set (n + 1) x ↔ Tells sLo sHi ts set n x ∧ (setI set n = true → Keeps (ts.getD n dfl) x) := fun x => by
      constructor
      · rintro ⟨a, b⟩; exact ⟨⟨a, fun k hk => b k (by omega)⟩, b n (by omega)⟩
      · rintro ⟨⟨a, b⟩, c⟩
        refine ⟨a, fun k hk => ?_⟩
        by_cases e : k = n
        · subst e; exact c
        · exact b k (by omega)
    rw [boundsTo]
    cases hset : setI set n
    · rw [if_neg (by simp)]
      refine ⟨r, fun x => ?_, f0, f1, fun k hk hks => ?_⟩
      · rw [sol x, step x]; exact ⟨fun h => ⟨h, fun e => by rw [hset] at e; cases e⟩, fun h => h.1⟩
      · by_cases e : k = n
        · subst e; rw [hset] at hks; cases hks
        · exact fk k (by omega) hks
    · rw [if_pos rfl]
      rw [show ((false, 0, 0, 0) : Tell) = dfl from rfl]
      generalize hR : narrowT (boundsTo sLo sHi ts set n) (ts.getD n dfl) = R at *
      have key : Ready R B ∧ (∀ x, Sol (ent R) x ↔ Sol (ent (boundsTo sLo sHi ts set n)) x ∧ Keeps (ts.getD n dfl) x) ∧ (if (ts.getD n dfl).1 then ent R (2 + (ts.getD n dfl).2.1.toNat) 1 ≠ F ∧ ent R 1 (2 + (ts.getD n dfl).2.1.toNat) ≠ F else
          ent R 0 (2 + (ts.getD n dfl).2.1.toNat) ≠ F ∧ ent R (2 + (ts.getD n dfl).2.1.toNat) 0 ≠ F) ∧ ∀ p q, p < 8 → q < 8 → ent (boundsTo sLo sHi ts set n) p q ≠ F → ent R p q ≠ F := by
        subst hR
        unfold narrowT Keeps
        cases (ts.getD n dfl).1
        · simp only [Bool.false_eq_true, if_false]
          obtain ⟨a, b, c, d, e⟩ := narrowM_ok (i := 0) (j := 2 + (ts.getD n dfl).2.1.toNat) r hB (by omega) (by omega) (by omega) hlo hhi
          exact ⟨a, b, ⟨c, d⟩, e⟩
        · simp only [if_true]
          obtain ⟨a, b, c, d, e⟩ := narrowM_ok (i := 2 + (ts.getD n dfl).2.1.toNat) (j := 1) r hB (by omega) (by omega) (by omega) hlo hhi
          exact ⟨a, b, ⟨c, d⟩, e⟩
      obtain ⟨kr, ks, kf, kp⟩ := key
      refine ⟨kr, fun x => ?_, kp 0 1 (by omega) (by omega) f0, kp 1 0 (by omega) (by omega) f1, fun k hk hks => ?_⟩
      · show Sol (ent R) x ↔ _
        rw [ks x, sol x, step x]; exact ⟨fun h => ⟨h.1, fun _ => h.2⟩, fun h => ⟨h.1, h.2 hset⟩⟩
      · by_cases e : k = n
        · subst e; exact kf
        · have hk' := fk k (by omega) hks
          have hm2 : ts.getD k dfl ∈ ts := by simp [List.getD, show k < ts.length by omega]
          obtain ⟨⟨i0, i1⟩, _⟩ := ht _ hm2
          show if (ts.getD k dfl).1 then ent R _ 1 ≠ F ∧ ent R 1 _ ≠ F else ent R 0 _ ≠ F ∧ ent R _ 0 ≠ F
          split
          · rename_i h; rw [if_pos h] at hk'; exact ⟨kp _ _ (by omega) (by omega) hk'.1, kp _ _ (by omega) (by omega) hk'.2⟩
          · rename_i h; rw [if_neg h] at hk'; exact ⟨kp _ _ (by omega) (by omega) hk'.1, kp _ _ (by omega) (by omega) hk'.2⟩

/-- All that is within lies between both ends, and both ends are reached. -/
def Ext (S : (Nat → Int) → Prop) (i j : Nat) (lo hi : Int) : Prop :=
  (∀ x, S x → lo ≤ x j - x i ∧ x j - x i ≤ hi) ∧ (∃ x, S x ∧ x j - x i = lo) ∧ ∃ x, S x ∧ x j - x i = hi
theorem Ext.unique {S : (Nat → Int) → Prop} {i j : Nat} {lo hi lo' hi' : Int} (h : Ext S i j lo hi) (h' : Ext S i j lo' hi') : lo = lo' ∧ hi = hi' := by
  obtain ⟨a, ⟨x, hx, ex⟩, y, hy, ey⟩ := h
  obtain ⟨a', ⟨x', hx', ex'⟩, y', hy', ey'⟩ := h'
  have := a x' hx'; have := a y' hy'; have := a' x hx; have := a' y hy
  omega
/-- Whether a set leaves a truth, and what is known then. -/
theorem bounds_no {sLo sHi : Int} {ts : List Tell} {B : Int} (hB : 0 ≤ B ∧ 256 * B < F) (hs : (-B ≤ sLo ∧ sLo ≤ B) ∧ -B ≤ sHi ∧ sHi ≤ B) (ht : ∀ t ∈ ts, Fair B t) (set : Int) (h : (boundsS sLo sHi ts set).1 = false) :
    ¬∃ x, Tells sLo sHi ts set ts.length x := by
  obtain ⟨r, sol, _⟩ := boundsTo_ok ⟨hB.1, by have := hB.2; omega⟩ hs ht set ts.length (Nat.le_refl _)
  rintro ⟨x, hx⟩
  exact short_no r.len hB.1 r.bd hB.2 r.zero h ⟨x, (sol x).2 hx⟩
theorem bounds_yes {sLo sHi : Int} {ts : List Tell} {B : Int} (hB : 0 ≤ B ∧ 256 * B < F) (hs : (-B ≤ sLo ∧ sLo ≤ B) ∧ -B ≤ sHi ∧ sHi ≤ B) (ht : ∀ t ∈ ts, Fair B t) (set : Int) (h : (boundsS sLo sHi ts set).1 = true) :
    Short (ent (boundsS sLo sHi ts set).2) (256 * B) ∧ (∀ x, Sol (ent (boundsS sLo sHi ts set).2) x ↔ Tells sLo sHi ts set ts.length x) ∧
      (∀ i j, i < 8 → j < 8 → ent (boundsS sLo sHi ts set).2 i j ≠ F → ent (boundsS sLo sHi ts set).2 j i ≠ F → Ext (Tells sLo sHi ts set ts.length) i j (wrap64 (-(ent (boundsS sLo sHi ts set).2 j i))) (ent (boundsS sLo sHi ts set).2 i j)) ∧
      (ent (boundsS sLo sHi ts set).2 0 1 ≠ F ∧ ent (boundsS sLo sHi ts set).2 1 0 ≠ F) ∧
      ∀ k, k < ts.length → setI set k = true → ∀ a, a < 2 → ent (boundsS sLo sHi ts set).2 a (2 + (ts.getD k dfl).2.1.toNat) ≠ F ∧ ent (boundsS sLo sHi ts set).2 (2 + (ts.getD k dfl).2.1.toNat) a ≠ F := by
  obtain ⟨r, sol, f0, f1, fk⟩ := boundsTo_ok ⟨hB.1, by have := hB.2; omega⟩ hs ht set ts.length (Nat.le_refl _)
  obtain ⟨sh, fin, sl⟩ := short_yes r.len hB.1 r.bd hB.2 r.zero h
  have e : ∀ x, Sol (ent (boundsS sLo sHi ts set).2) x ↔ Tells sLo sHi ts set ts.length x := fun x => (sl x).trans (sol x)
  have g0 := fin 0 1 (by omega) (by omega) f0
  have g1 := fin 1 0 (by omega) (by omega) f1
  refine ⟨sh, e, fun i j hi hj n1 n2 => ?_, ⟨g0, g1⟩, fun k hk hks a ha => ?_⟩
  · change ent (shortS 8 (boundsTo sLo sHi ts set ts.length)).2 i j ≠ F at n1
    change ent (shortS 8 (boundsTo sLo sHi ts set ts.length)).2 j i ≠ F at n2
    obtain ⟨x, hx, xi, xj⟩ := sh.reach hi hj n1
    obtain ⟨y, hy, yj, yi⟩ := sh.reach hj hi n2
    have b2 := sh.bd j i hj hi n2
    have hw : wrap64 (-(ent (boundsS sLo sHi ts set).2 j i)) = -(ent (boundsS sLo sHi ts set).2 j i) := by
      change wrap64 (-(ent (shortS 8 (boundsTo sLo sHi ts set ts.length)).2 j i)) = -(ent (shortS 8 (boundsTo sLo sHi ts set ts.length)).2 j i)
      have hF : F = 1073741824 := rfl
      have := hB.2
      unfold wrap64; omega
    rw [hw]
    refine ⟨fun z hz => ?_, ⟨y, (e y).1 hy, ?_⟩, ⟨x, (e x).1 hx, ?_⟩⟩
    · have s1 := (e z).2 hz i j hi hj n1
      have s2 := (e z).2 hz j i hj hi n2
      omega
    · change y j - y i = -(ent (shortS 8 (boundsTo sLo sHi ts set ts.length)).2 j i)
      omega
    · change x j - x i = ent (shortS 8 (boundsTo sLo sHi ts set ts.length)).2 i j
      omega
  · have hm2 : ts.getD k dfl ∈ ts := by simp [List.getD, hk]
    obtain ⟨⟨i0, i1⟩, _⟩ := ht _ hm2
    have hk' := fk k hk hks
    have z := sh.zero
    have cl := sh.cl
    change ent (shortS 8 (boundsTo sLo sHi ts set ts.length)).2 a (2 + (ts.getD k dfl).2.1.toNat) ≠ F ∧ ent (shortS 8 (boundsTo sLo sHi ts set ts.length)).2 (2 + (ts.getD k dfl).2.1.toNat) a ≠ F
    have hm : 2 + (ts.getD k dfl).2.1.toNat < 8 := by omega
    clear i0 i1
    generalize (ts.getD k dfl).2.1.toNat = m at *
    generalize shortS 8 (boundsTo sLo sHi ts set ts.length) = R at *
    generalize boundsTo sLo sHi ts set ts.length = M at *
    by_cases hr : (ts.getD k dfl).1 = true
    · rw [if_pos hr] at hk'
      have p1 := fin _ _ hm (by omega) hk'.1
      have p2 := fin _ _ (by omega) hm hk'.2
      have ha' : a = 0 ∨ a = 1 := by omega
      rcases ha' with rfl | rfl
      · exact ⟨(cl 1 (by omega) 0 (2 + m) (by omega) hm g0 p2).1, (cl 1 (by omega) (2 + m) 0 hm (by omega) p1 g1).1⟩
      · exact ⟨p2, p1⟩
    · rw [if_neg hr] at hk'
      have p1 := fin _ _ (by omega) hm hk'.1
      have p2 := fin _ _ hm (by omega) hk'.2
      have ha' : a = 0 ∨ a = 1 := by omega
      rcases ha' with rfl | rfl
      · exact ⟨p1, p2⟩
      · exact ⟨(cl 0 (by omega) 1 (2 + m) (by omega) hm g1 p1).1, (cl 0 (by omega) (2 + m) 1 hm (by omega) p2 g0).1⟩
end Go.Proofs.YtcfjakifeihbpaaGreat
