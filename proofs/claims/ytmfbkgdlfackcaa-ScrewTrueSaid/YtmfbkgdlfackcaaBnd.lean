/- The bounds that the settings of a set tell. -/
import Derived.Test.YtmfbkgdlfackcaaMeth
namespace Go.Proofs.Ytmfbkgdlfackcaa
open Go.RowKit

def setI (set : Int) (k : Nat) : Bool := bits .and .i64 set (wrap64 (2 ^ k)) != 0
def narrowT (M : List Int) (t : Tell) : List Int :=
  if t.1 then narrowM M (2 + t.2.1.toNat) 1 t.2.2.1 t.2.2.2 else narrowM M 0 (2 + t.2.1.toNat) t.2.2.1 t.2.2.2
def boundsTo (sLo sHi : Int) (ts : List Tell) (set : Int) : Nat → List Int
  | 0 => narrowM openS 0 1 sLo sHi
  | k + 1 => if setI set k then narrowT (boundsTo sLo sHi ts set k) (ts.getD k (false, 0, 0, 0)) else boundsTo sLo sHi ts set k
def boundsS (sLo sHi : Int) (ts : List Tell) (set : Int) : Bool × List Int := shortS 8 (boundsTo sLo sHi ts set ts.length)
theorem len_narrowM (M : List Int) (i j : Nat) (a b : Int) : (narrowM M i j a b).length = M.length := by simp [narrowM, narrow1]
theorem len_boundsTo (sLo sHi : Int) (ts : List Tell) (set : Int) : ∀ k, (boundsTo sLo sHi ts set k).length = 64
  | 0 => by rw [boundsTo, len_narrowM]; exact len_openS
  | k + 1 => by
    rw [boundsTo]
    split
    · unfold narrowT; split <;> rw [len_narrowM] <;> exact len_boundsTo sLo sHi ts set k
    · exact len_boundsTo sLo sHi ts set k

theorem store78x {ops : Array Oper} {rest : List Oper} {op : Oper} {a : Act} {w : World} {Q : Exit → Act → World → Prop} (hgd : op.guard = none) (x y : Operand) (ho : op.op = .store 78 x y)
    (B : Nat) (hx : a.eval x = .pointer (some ⟨B, 0, none⟩)) (M : List Int) (hM : M.length = 64) (hy : a.eval y = bv M) (ht : w.there B 0 64)
    (h : ∀ X, IsB X B M → BX B w X → wpList Try.prog ops Q rest (a.put op.dst undef) X) : wpList Try.prog ops Q (op :: rest) a w :=
  store78 hgd x y ho B hx M hM hy ht (h _ (isB_stored hM ht) (BX.setCells _ _ _ _))

theorem results_bv2 {fn : Func} {p u : Tmp} (h : fn.results = #[.cell p 78, .tmp u]) (tmps : Array Value) (w : World) (B : Nat) (M : List Int) (v : Value)
    (hp : tmps.getD p undef = .pointer (some ⟨B, 0, none⟩)) (hu : tmps.getD u undef = v) (hc : IsB w B M) : (results fn tmps).run Try.prog w = .ok (.tuple #[bv M, v]) w := by
  have hp' : tmps[p]?.getD undef = .pointer (some ⟨B, 0, none⟩) := by simpa using hp
  have hu' : tmps[u]?.getD undef = v := by simpa using hu
  simp [results, h, hp', hu', asAddr, run_loadVar_mid (P := Try.prog) w B 0 78 (ints M) _ hc.range under78 rfl (info78 (by rw [len_ints]; exact hc.1)), bv]

/-- The name of the method, put together. -/
def toldS : String := "zoneworks" ++ (String.singleton (Char.ofNat 47) ++ "screw.told")
theorem told_m123 (v : Value) (s : String) (hs : s = toldS) (w : World) : (method 246 123 v s).run Try.prog w = .ok (126, v) w := by subst hs; kernel_rfl
theorem told_m122 (v : Value) (s : String) (hs : s = toldS) (w : World) : (method 246 122 v s).run Try.prog w = .ok (125, v) w := by subst hs; kernel_rfl
theorem wrap2 (m : Nat) (h : m < 6) : wrap64 (2 + (m : Int)) = ((2 + m : Nat) : Int) := by unfold wrap64; omega

/-- What stays while the bounds in block B are narrowed. -/
def Fr (w0 w : World) (L mb : Nat) (h : Hd) (tv : Value) (ts : List Tell) (cs : List Cnt) (B : Nat) (X : World) : Prop :=
  IsLook w0 X L mb h tv ts cs ∧ X.there w.heap.size 0 64 ∧ Below w.heap.size w X ∧ w.heap.size < B ∧ B < X.heap.size
theorem Fr.bx {w0 w : World} {L mb : Nat} {h : Hd} {tv : Value} {ts : List Tell} {cs : List Cnt} {B : Nat} {X X' : World} (hL : IsLook w0 w L mb h tv ts cs) (f : Fr w0 w L mb h tv ts cs B X) (hx : BX B X X') : Fr w0 w L mb h tv ts cs B X' := by
  obtain ⟨f1, f2, f3, f4, f5⟩ := f
  have h1 := hL.lt
  have h2 := hL.map.lt
  have h3 := f3.size
  refine ⟨f1.bx hx (by omega) (by omega) (fun g hg => by have := (hL.apart.2 g hg).2.2.2; omega), fun j hj => ?_, BX.below f3 hx (by omega) f3.size, f4, Nat.lt_of_lt_of_le f5 hx.size⟩
  rw [hx.cell _ _ (by omega) (by omega), hx.frozen _ _ (by omega) (by omega)]; exact f2 j hj
theorem Fr.below {w0 w : World} {L mb : Nat} {h : Hd} {tv : Value} {ts : List Tell} {cs : List Cnt} {B : Nat} {X X' : World} (f : Fr w0 w L mb h tv ts cs B X) (hb : Below X.heap.size X X') : Fr w0 w L mb h tv ts cs B X' := by
  obtain ⟨f1, f2, f3, f4, f5⟩ := f
  refine ⟨f1.grown hb, fun j hj => ?_, BT f3 hb, f4, Nat.lt_of_lt_of_le f5 hb.size⟩
  have h3 := f3.size
  rw [hb.cell (p := ⟨w.heap.size, 0 + j, none⟩) (by show w.heap.size < _; omega), hb.frozen (p := ⟨w.heap.size, 0 + j, none⟩) (by show w.heap.size < _; omega)]; exact f2 j hj

set_option maxRecDepth 100000 in
set_option maxHeartbeats 2000000 in
theorem bounds_any (w0 : World) (L mb : Nat) (h : Hd) (tv : Value) (ts : List Tell) (cs : List Cnt) (set : Int) (w : World) (hL : IsLook w0 w L mb h tv ts cs) (ht : ts.length ≤ 12) (him : ∀ t ∈ ts, 0 ≤ t.2.1 ∧ t.2.1 < 6) :
    Calls Try.prog 83 #[.pointer (some ⟨L, 0, none⟩), .int .i64 set] w (Ret (.tuple #[bv (boundsS h.sLo h.sHi ts set).2, .bool (boundsS h.sLo h.sHi ts set).1]) w) := by
  have hv : ∃ a cap, tv = .slice a ts.length cap := by
    rcases hL.row.2 with ⟨h1, h2⟩ | ⟨g, cap, cur, h1, _⟩
    · exact ⟨none, 0, by rw [h1, h2]⟩
    · exact ⟨_, cap, h1⟩
  obtain ⟨ta, tcap, rfl⟩ := hv
  have HL := Lib.hid hL; clear hL
  have hn12 : ts.length ≤ 9223372036854775807 := by omega
  have HIM := Lib.hid him; clear him
  go_enter Try.func83, Try.ntmps83
  have hZ0 := isB_zero w
  have hzb : Below w.heap.size w (w.alloc zero64) := by (repeat (first | assumption | exact Below.refl _ _ | refine BA ?_ _ | refine BC ?_ _ _ (by omega) _ | refine Below.drew ?_ | refine BT ?_ (by assumption)))
  go_wp2_with fail
  change Calls _ _ _ (w.alloc zero64) _
  generalize hWz : w.alloc zero64 = Wz at *
  have hz1 : w.heap.size < Wz.heap.size := hZ0.lt
  clear hWz
  refine (open_any _).mono ?_
  rintro e w1 ⟨rfl, hb1⟩
  have hZ1 := hZ0.below hb1 hz1
  have hB1 : Below w.heap.size w w1 := by (repeat (first | assumption | exact Below.refl _ _ | refine BA ?_ _ | refine BC ?_ _ _ (by omega) _ | refine Below.drew ?_ | refine BT ?_ (by assumption)))
  clear hZ0 hzb hb1
  have hZ2 := hZ1.alloc zero64
  have hB2 : Below w.heap.size w (w1.alloc zero64) := by (repeat (first | assumption | exact Below.refl _ _ | refine BA ?_ _ | refine BC ?_ _ _ (by omega) _ | refine Below.drew ?_ | refine BT ?_ (by assumption)))
  have hN0 := isB_zero w1
  have hLw1 := HL.out.grown hB1
  have hw1 : w.heap.size < w1.heap.size := World.block_lt_of_cell? w1 _ (hZ1.2 0 (by omega)).1
  go_wp2_with (refine store78x rfl _ _ rfl w1.heap.size rfl openS len_openS rfl hN0.there ?_; intro X hIX hBX; have hLX := (hLw1.grown ((Below.refl _ _).alloc (Nat.le_refl _) _)).bx hBX (by have := hLw1.lt; omega) (by have := hLw1.map.lt; omega) (fun g hg => by have := (hLw1.apart.2 g hg).2.2.2; omega); have hZX : X.there w.heap.size 0 64 := (fun j hj => by rw [hBX.cell _ _ (by simp; omega) (by omega), hBX.frozen _ _ (by simp; omega) (by omega)]; exact (hZ2.there j hj)); have hBw := BX.below hB2 hBX (by omega) (by simp; omega); have hXs := hBX.size; rw [World.size_alloc] at hXs; obtain ⟨k0, k1, k2, k3, k4, k5, k6, k7, k8, k9⟩ := hLX.cell; clear hBX)
  have hF : Fr w0 w L mb h (.slice ta ts.length tcap) ts cs w1.heap.size X := ⟨hLX, hZX, hBw, hw1, by omega⟩
  have hw63 : Hid (w1.heap.size = w1.heap.size) := rfl
  clear hZX hBw hXs k0 k1 k2 k3 k4 k5 k6 k7 k8 k9 hLX hN0 hZ1 hZ2 hB1 hB2 hLw1 hz1 hw1
  generalize w1.heap.size = B at *
  refine (known_any _ _ _).mono ?_
  rintro e w2 ⟨rfl, hb2⟩
  have hF2 := hF.below hb2
  have hI2 := hIX.below hb2 hF.2.2.2.2
  clear hF hIX hb2
  have hl0 : openS.length = 64 := len_openS
  go_wp2_with (first | (go_at_call 101; refine (narrow_any B 0 1 (by omega) (by omega) _ _ _ _ hI2).mono ?_; rintro e w3 ⟨rfl, hx3, hi3⟩; have hF3 := hF2.bx HL.out hx3; obtain ⟨k0, k1, k2, k3, k4, k5, k6, k7, k8, k9⟩ := hF3.1.cell; clear k0 k1 k2 k3 k4 k5 k6 k8 k9 hx3 hI2 hF2))
  have HF3 := Lib.hid hF3; clear hF3
  have HI3 := Lib.hid hi3; clear hi3
  clear hw63 hl0 k7
  go_loopw [23] (fun i wr => ∃ k : Nat, k ≤ ts.length ∧ i = .int .i64 k ∧ IsB wr B (boundsTo h.sLo h.sHi ts set k) ∧ Fr w0 w L mb h (.slice ta ts.length tcap) ts cs B wr) (fun i _ => ts.length - (intOf i).toNat)
  case atStart => exact ⟨0, by omega, rfl, HI3.out, HF3.out⟩
  case round =>
    obtain ⟨k, hk, rfl, hI, hF⟩ := hrel
    have HI := Lib.hid hI; clear hI
    have HF := Lib.hid hF; clear hF
    by_cases hlt : k < ts.length
    · have hc : ∃ g, ta = some ⟨g, 0, none⟩ ∧ wr.cell? ⟨g, k, none⟩ = some (tellV (ts.getD k (false, 0, 0, 0))) := by
        rcases HF.out.1.row.2 with ⟨h1, h2⟩ | ⟨g, cap, cur, h1, _⟩
        · omega
        · have ht := HF.out.1.row.cells (g := g) (by rw [h1]; rfl) k (tellV (ts.getD k (false, 0, 0, 0))) (by simp [List.getD, hlt])
          injection h1 with h1
          refine ⟨g, h1, ?_⟩
          rwa [Addr.add_mid, Nat.zero_add] at ht
      obtain ⟨g, rfl, hcell⟩ := hc
      have hmem : ts.getD k (false, 0, 0, 0) ∈ ts := by simp [List.getD, hlt]
      have him := HIM.out _ hmem
      have HE : Hid (boundsTo h.sLo h.sHi ts set (k + 1) = if setI set k then narrowT (boundsTo h.sLo h.sHi ts set k) (ts.getD k (false, 0, 0, 0)) else boundsTo h.sLo h.sHi ts set k) := rfl
      generalize ts.getD k (false, 0, 0, 0) = t at *
      generalize boundsTo h.sLo h.sHi ts set k = M at *
      clear hmem
      obtain ⟨rv, im, lo, hi⟩ := t
      dsimp only [tellV] at hcell him
      have hk12 : (k : Int) < 12 := by omega
      have hk0 : (0 : Int) ≤ (k : Int) := by omega
      cases hb : setI set k
      · have hb' : (bits .and .i64 set (wrap64 (2 ^ k)) != 0) = false := hb
        have HB := Lib.hid hb; clear hb
        have HC := Lib.hid hcell
        cases rv
        all_goals
          simp only [if_true, if_false, Bool.false_eq_true] at hcell
          go_wp2
          go_roundw
          case rel => exact ⟨k + 1, by omega, by go_num, by rw [HE.out, HB.out]; exact HI.out, HF.out⟩
          case measure => simp [intOf]; omega
      · have hb' : (bits .and .i64 set (wrap64 (2 ^ k)) != 0) = true := hb
        have HB := Lib.hid hb; clear hb
        cases rv
        · simp only [if_false, Bool.false_eq_true] at hcell
          obtain ⟨m, rfl⟩ := Int.eq_ofNat_of_zero_le him.1
          have hm6 : m < 6 := by have := him.2; omega
          have hE2 : Hid (boundsTo h.sLo h.sHi ts set (k + 1) = narrowM M 0 (2 + m) lo hi) := by
            show _ = _
            rw [HE.out, HB.out]
            simp [narrowT]
          clear HE HB
          go_wp2_with fail
          rw [told_m123 _ _ (by kernel_rfl)]
          go_simp
          refine (told_up _ _ _ _).mono ?_
          rintro e w4 ⟨rfl, hb4⟩
          rw [wrap2 m hm6]
          have HF4 := HF.out.below hb4
          have HI4 := HI.out.below hb4 HF.out.2.2.2.2
          clear hb4 hcell
          go_wp2_with (first | (go_at_call 101; refine (narrow_any B 0 (2 + m) (by omega) (by omega) _ _ _ _ HI4).mono ?_; rintro e w5 ⟨rfl, hx5, hi5⟩; have hF5 := HF4.bx HL.out hx5; clear hx5 HI4 HF4))
          go_roundw
          case rel => exact ⟨k + 1, by omega, by go_num, by rw [hE2.out]; exact hi5, hF5⟩
          case measure => simp [intOf]; omega
        · simp only [if_true] at hcell
          obtain ⟨m, rfl⟩ := Int.eq_ofNat_of_zero_le him.1
          have hm6 : m < 6 := by have := him.2; omega
          have hE2 : Hid (boundsTo h.sLo h.sHi ts set (k + 1) = narrowM M (2 + m) 1 lo hi) := by
            show _ = _
            rw [HE.out, HB.out]
            simp [narrowT]
          clear HE HB
          go_wp2_with fail
          rw [told_m122 _ _ (by kernel_rfl)]
          go_simp
          refine (told_re _ _ _ _).mono ?_
          rintro e w4 ⟨rfl, hb4⟩
          rw [wrap2 m hm6]
          have HF4 := HF.out.below hb4
          have HI4 := HI.out.below hb4 HF.out.2.2.2.2
          clear hb4 hcell
          go_wp2_with (first | (go_at_call 101; refine (narrow_any B (2 + m) 1 (by omega) (by omega) _ _ _ _ HI4).mono ?_; rintro e w5 ⟨rfl, hx5, hi5⟩; have hF5 := HF4.bx HL.out hx5; clear hx5 HI4 HF4))
          go_roundw
          case rel => exact ⟨k + 1, by omega, by go_num, by rw [hE2.out]; exact hi5, hF5⟩
          case measure => simp [intOf]; omega
    · obtain rfl : k = ts.length := by omega
      have HE : Hid (boundsS h.sLo h.sHi ts set = shortS 8 (boundsTo h.sLo h.sHi ts set ts.length)) := rfl
      have hml := len_boundsTo h.sLo h.sHi ts set ts.length
      generalize boundsTo h.sLo h.sHi ts set ts.length = M at *
      go_wp2_with (first | (go_at_call 102; refine (shorten_any B _ _ HI.out).mono ?_; rintro e w6 ⟨rfl, hx6, hi6⟩; have hF6 := Lib.hid (HF.out.bx HL.out hx6); have HI6 := Lib.hid hi6; clear hx6 hi6; rw [← HE.out] at HI6 ⊢; generalize boundsS h.sLo h.sHi ts set = R at *; obtain ⟨rb, rm⟩ := R; dsimp only at HI6 ⊢) | (refine load78 rfl _ rfl B rfl rm HI6.out ?_; dsimp only [Act.put, List.setIfInBounds_toArray, List.set_cons_zero, List.set_cons_succ]) | (refine store78x rfl _ _ rfl w.heap.size rfl rm HI6.out.1 rfl hF6.out.2.1 ?_; intro X hIX hBX; dsimp only [Act.put, List.setIfInBounds_toArray, List.set_cons_zero, List.set_cons_succ]))
      refine bodyPost_ret (results_bv2 rfl _ _ w.heap.size rm _ rfl rfl hIX) rfl ⟨rfl, ?_⟩
      exact BX.below hF6.out.2.2.1 hBX (Nat.le_refl _) hF6.out.2.2.1.size
end Go.Proofs.Ytmfbkgdlfackcaa
