/- The bounds of points of which nothing is known; arrays of bounds as values. -/
import Derived.Test.YtmfbkgdlfackcaaSho
import Derived.Deep.MidRow
namespace Go.Proofs.Ytmfbkgdlfackcaa
open Go.RowKit

def ints (M : List Int) : List Value := M.map (Value.int .i64)
/-- Bounds, as a value. -/
def bv (M : List Int) : Value := .agg (ints M).toArray
def zero64 : Obj := .cells (ints (List.replicate 64 0)).toArray 78

theorem IsB.range {w : World} {B : Nat} {M : List Int} (h : IsB w B M) : w.rangeAt B 0 (ints M) := fun j v hv => by
  have hj : j < M.length := by have := (List.getElem?_eq_some_iff.1 hv).1; simpa [ints] using this
  have hv' : v = .int .i64 (gx M j) := by
    simp only [ints, List.getElem?_map, List.getElem?_eq_getElem hj, Option.map_some, Option.some.injEq] at hv
    rw [← hv]; simp [gx, List.getD, hj]
  rw [hv', Nat.zero_add]
  exact (h.2 j (by rw [h.1] at hj; exact hj)).1
theorem IsB.there {w : World} {B : Nat} {M : List Int} (h : IsB w B M) : w.there B 0 64 := fun j hj => by
  rw [Nat.zero_add]; exact ⟨by rw [(h.2 j hj).1]; rfl, (h.2 j hj).2⟩
theorem len_ints (M : List Int) : (ints M).length = M.length := by simp [ints]
theorem isB_stored {w : World} {B : Nat} {M : List Int} (hM : M.length = 64) (ht : w.there B 0 64) : IsB (w.setCells B 0 (ints M)) B M := by
  refine ⟨hM, fun k hk => ⟨?_, ?_⟩⟩
  · have := World.rangeAt_setCells_same w B 0 (ints M) (by rw [len_ints, hM]; exact ht) k (.int .i64 (gx M k)) (by
      simp [ints, gx, List.getD, hM, hk])
    rwa [Nat.zero_add] at this
  · rw [World.frozen?_setCells]
    have := (ht k hk).2
    rwa [Nat.zero_add] at this
theorem isB_new (w : World) (M : List Int) (hM : M.length = 64) : IsB (w.alloc (.cells (ints M).toArray 78)) w.heap.size M := by
  refine ⟨hM, fun k hk => ⟨?_, by simp⟩⟩
  rw [World.cell?_alloc_new]
  simp [ints, gx, List.getD, hM, hk]
theorem isB_zero (w : World) : IsB (w.alloc zero64) w.heap.size (List.replicate 64 0) := isB_new w _ rfl
theorem oneCell_ints (M : List Int) : (ints M).toArray.all (·.oneCell') = true :=
  all_oneCell_toArray fun v hv => by
    simp only [ints, List.mem_map] at hv
    obtain ⟨x, _, rfl⟩ := hv
    rfl
theorem info78 {n : Nat} (h : n = 64) : (Try.prog.info? 78).map (·.size) = some n := by subst h; kernel_rfl
theorem under78 : Try.prog.underlying 78 = some (.array 8 76) := by kernel_rfl
theorem load78 {ops : Array Oper} {rest : List Oper} {op : Oper} {a : Act} {w : World} {Q : Exit → Act → World → Prop} (hgd : op.guard = none) (x : Operand) (ho : op.op = .load 78 x)
    (B : Nat) (hx : a.eval x = .pointer (some ⟨B, 0, none⟩)) (M : List Int) (hc : IsB w B M)
    (h : wpList Try.prog ops Q rest (a.put op.dst (bv M)) w) : wpList Try.prog ops Q (op :: rest) a w :=
  wpList_load_mid hgd 78 x ho B 0 hx (ints M) _ hc.range under78 rfl (info78 (by rw [len_ints]; exact hc.1)) h
theorem store78 {ops : Array Oper} {rest : List Oper} {op : Oper} {a : Act} {w : World} {Q : Exit → Act → World → Prop} (hgd : op.guard = none) (x y : Operand) (ho : op.op = .store 78 x y)
    (B : Nat) (hx : a.eval x = .pointer (some ⟨B, 0, none⟩)) (M : List Int) (hM : M.length = 64) (hy : a.eval y = bv M) (ht : w.there B 0 64)
    (h : wpList Try.prog ops Q rest (a.put op.dst undef) (w.setCells B 0 (ints M))) : wpList Try.prog ops Q (op :: rest) a w :=
  wpList_store_mid hgd 78 x y ho B 0 (ints M).toArray hx hy (by rw [List.size_toArray, len_ints, hM]; exact ht) (info78 (by rw [List.size_toArray, len_ints, hM])) (oneCell_ints M) h
theorem BX.setCells (B : Nat) : ∀ (vs : List Value) (o : Nat) (w : World), BX B w (w.setCells B o vs)
  | [], _, w => BX.refl B w
  | v :: vs, o, w => (BX.set B o w v).trans (BX.setCells B vs (o + 1) _)
theorem results_bv {fn : Func} {p : Tmp} (h : fn.results = #[.cell p 78]) (tmps : Array Value) (w : World) (B : Nat) (M : List Int)
    (hp : tmps.getD p undef = .pointer (some ⟨B, 0, none⟩)) (hc : IsB w B M) : (results fn tmps).run Try.prog w = .ok (bv M) w := by
  have hp' : tmps[p]?.getD undef = .pointer (some ⟨B, 0, none⟩) := by simpa using hp
  simp [results, h, hp', asAddr, run_loadVar_mid (P := Try.prog) w B 0 78 (ints M) _ hc.range under78 rfl (info78 (by rw [len_ints]; exact hc.1)), bv]
theorem there_of_zero {w w' : World} {B N : Nat} (h : IsB w B (List.replicate 64 0)) (hb : Below N w w') (hB : B < N) : w'.there B 0 64 := (h.below hb hB).there

def opRow (f : Nat) (M : List Int) : List Int := itS (fun t M => if ((f : Int) != (t : Int)) = true then M.set (f * 8 + t) 1073741824 else M) 8 M
def openS : List Int := itS opRow 8 (List.replicate 64 0)
theorem len_itS (f : Nat → List Int → List Int) (hf : ∀ k M, (f k M).length = M.length) (M : List Int) : ∀ n, (itS f n M).length = M.length
  | 0 => rfl
  | n + 1 => (hf n _).trans (len_itS f hf M n)
theorem len_openS : openS.length = 64 := by
  unfold openS
  rw [len_itS opRow (fun k M => by unfold opRow; exact len_itS _ (fun t M => by split <;> simp) M 8)]
  rfl

set_option maxRecDepth 100000 in
set_option maxHeartbeats 1000000 in
theorem open_any (w : World) : Calls Try.prog 100 #[] w (Ret (bv openS) w) := by
  have Z1 := (isB_zero w).alloc zero64
  have Z2 := isB_zero (w.alloc zero64)
  have hZ : Below w.heap.size w ((w.alloc zero64).alloc zero64) := by (repeat (first | assumption | exact Below.refl _ _ | refine BA ?_ _ | refine BC ?_ _ _ (by omega) _ | refine Below.drew ?_ | refine BT ?_ (by assumption)))
  have hs : ((w.alloc zero64).alloc zero64).heap.size = w.heap.size + 2 := by simp
  rw [World.size_alloc] at Z2
  have hD : Hid (openS = itS opRow 8 (List.replicate 64 0)) := rfl
  have hl := Lib.hid len_openS
  generalize openS = R at *
  go_enter Try.func100, Try.ntmps100
  go_wp2
  change Code.wp _ _ _ _ ((w.alloc zero64).alloc zero64)
  generalize (w.alloc zero64).alloc zero64 = W at *
  generalize List.replicate 64 (0 : Int) = Z at *
  have HZ1 := Lib.hid Z1; clear Z1
  have HZ2 := Lib.hid Z2; clear Z2
  have HZ := Lib.hid hZ; clear hZ
  go_loopw [4] (fun i wr => ∃ k : Nat, k ≤ 8 ∧ i = .int .i64 k ∧ IsB wr (w.heap.size + 1) (itS opRow k Z) ∧ BX (w.heap.size + 1) W wr) (fun i _ => 8 - (intOf i).toNat)
  case atStart => exact ⟨0, by omega, rfl, HZ2.out, BX.refl _ _⟩
  case round =>
    obtain ⟨k, hk, rfl, hI, hX⟩ := hrel
    by_cases hlt : k < 8
    · have HE : Hid (itS opRow (k + 1) Z = opRow k (itS opRow k Z)) := rfl
      generalize itS opRow k Z = M1 at *
      obtain ⟨wo, rfl⟩ : ∃ wo : World, wo = wr := ⟨_, rfl⟩
      have HI := Lib.hid hI; clear hI
      have HX := Lib.hid hX; clear hX
      have hkb : decide ((k : Int) < 8) = true := by simp; omega
      have hB2 : Hid (opRow k M1 = itS (fun t M => if ((k : Int) != (t : Int)) = true then M.set (k * 8 + t) 1073741824 else M) 8 M1) := rfl
      go_wp2_with fail
      go_loopw [7] (fun i wr => ∃ t : Nat, t ≤ 8 ∧ i = .int .i64 t ∧ IsB wr (w.heap.size + 1) (itS (fun t M => if ((k : Int) != (t : Int)) = true then M.set (k * 8 + t) 1073741824 else M) t M1) ∧ BX (w.heap.size + 1) W wr) (fun i _ => 8 - (intOf i).toNat)
      case atStart => exact ⟨0, by omega, rfl, HI.out, HX.out⟩
      case round =>
        obtain ⟨t, ht, rfl, hI, hX⟩ := hrel
        have HI2 := Lib.hid hI; clear hI
        have HX2 := Lib.hid hX; clear hX
        by_cases hltt : t < 8
        · have HE2 : Hid (itS (fun t M => if ((k : Int) != (t : Int)) = true then M.set (k * 8 + t) 1073741824 else M) (t + 1) M1 = if ((k : Int) != (t : Int)) = true then (itS (fun t M => if ((k : Int) != (t : Int)) = true then M.set (k * 8 + t) 1073741824 else M) t M1).set (k * 8 + t) 1073741824 else itS (fun t M => if ((k : Int) != (t : Int)) = true then M.set (k * 8 + t) 1073741824 else M) t M1) := rfl
          generalize itS (fun t M => if ((k : Int) != (t : Int)) = true then M.set (k * 8 + t) 1073741824 else M) t M1 = M2 at *
          obtain ⟨c1, f1⟩ := HI2.out.2 (k * 8 + t) (by omega)
          cases hne : ((k : Int) != (t : Int))
          · go_wp2
            go_roundw
            case rel => exact ⟨t + 1, by omega, by go_num, by rw [HE2.out, if_neg (by simp [hne])]; exact HI2.out, HX2.out⟩
            case measure => simp [intOf]; omega
          · go_wp2
            go_roundw
            case rel => exact ⟨t + 1, by omega, by go_num, by rw [HE2.out, if_pos hne]; exact HI2.out.set _ (by omega) _, HX2.out.trans (BX.set _ _ _ _)⟩
            case measure => simp [intOf]; omega
        · obtain rfl : t = 8 := by omega
          go_wp2
          go_roundw
          case rel => exact ⟨k + 1, by omega, by go_num, by rw [HE.out, hB2.out]; exact HI2.out, HX2.out⟩
          case measure => simp [intOf]; omega
    · obtain rfl : k = 8 := by omega
      rw [← hD.out] at hI
      have HI := Lib.hid hI; clear hI
      have HX := Lib.hid hX; clear hX
      have ht : wr.there w.heap.size 0 64 := fun j hj => by
        have h1 := HZ1.out.2 j hj
        rw [Nat.zero_add, HX.out.cell _ _ (by omega) (by omega), HX.out.frozen _ _ (by omega) (by omega), h1.1, h1.2]
        exact ⟨rfl, rfl⟩
      have HT := Lib.hid ht; clear ht
      go_wp2_with (first | (refine load78 rfl _ rfl (w.heap.size + 1) rfl R HI.out ?_; dsimp only [Act.put, List.setIfInBounds_toArray, List.set_cons_zero, List.set_cons_succ]) | (refine store78 rfl _ _ rfl w.heap.size rfl R hl.out rfl HT.out ?_; dsimp only [Act.put, List.setIfInBounds_toArray, List.set_cons_zero, List.set_cons_succ]))
      refine bodyPost_ret (results_bv rfl _ _ w.heap.size R rfl (isB_stored hl.out HT.out)) rfl ⟨rfl, ?_⟩
      exact BX.below (BX.below HZ.out HX.out (by omega) (by omega)) (BX.setCells _ _ _ _) (Nat.le_refl _) (by have := HX.out.size; omega)
end Go.Proofs.Ytmfbkgdlfackcaa
