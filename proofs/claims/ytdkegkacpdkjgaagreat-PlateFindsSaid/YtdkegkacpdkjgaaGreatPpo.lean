/- Plate: the closure behind Poor. -/
import Derived.Test.YtdkegkacpdkjgaaGreatPcl
namespace Go.Proofs.YtdkegkacpdkjgaaGreat
open Go.RowKit Go.Maps

def starF (ss : List St) (k : Nat) (d : Bool) (x : Scl) : Int × Int := plS x.sc (x.lo d) (x.hi d) (ss.getD k default) d
/-- Where a star is, in all truths. -/
def starV (p : Pl) (ss : List St) (k : Nat) : Except Int Value := alongR (kepL (starF ss k false) (trA p ss)) (kepL (starF ss k true) (trA p ss))
theorem starV_four (p : Pl) (ss : List St) (k : Nat) : isFour (starV p ss k) := along_four _ _
def numB (v : Value) (i : Nat) : Int := match v with | .agg x => (match x.getD i .nilIface with | .int _ n => n | _ => 0) | _ => 0
/-- How wide a place is, in both directions together. -/
def widV (v : Value) : Int := IntKind.i64.wrap (wrap64 (numB v 1 - numB v 0) + wrap64 (numB v 3 - numB v 2))
/-- The worst of the first k stars. -/
def poorTo (p : Pl) (ss : List St) : Nat → Except Int (Int × Int)
  | 0 => .ok (0, 0)
  | k + 1 => match poorTo p ss k with
    | .error c => .error c
    | .ok b => match starV p ss k with
      | .error c => .error c
      | .ok v => .ok (if b.2 < widV v then ((k : Int), widV v) else b)
def poorV : Except Int (Int × Int) → Except Int Value
  | .ok b => .ok (.agg #[.int .i64 b.1, .int .i64 b.2])
  | .error c => .error c
def poorR (p : Pl) (ss : List St) : Except Int Value := if plB p ss then (if trA p ss = [] then .error 10 else if knownTo ss p.n = 0 then .error 12 else poorV (poorTo p ss p.n)) else .error 1
theorem poor_err {p : Pl} {ss : List St} {c : Int} {k : Nat} (h : poorTo p ss k = .error c) : ∀ {n : Nat}, k ≤ n → poorTo p ss n = .error c
  | 0, hn => by obtain rfl : k = 0 := by omega
                exact h
  | n + 1, hn => by
    by_cases he : k = n + 1
    · subst he; exact h
    · rw [poorTo, poor_err h (by omega : k ≤ n)]
theorem widW_any (a b : Int) (w : World) : Calls Tryz.prog 81 #[.agg #[.int .i64 a, .int .i64 b]] w (Ret (.int .i64 (wrap64 (b - a))) w) := by
  go_enter Tryz.func81, Tryz.ntmps81
  go_wp2
  go_ret
  exact ⟨rfl, (by (repeat (first | assumption | exact Below.refl _ _ | refine BA ?_ _ | refine BC ?_ _ _ (by first | omega | (simp; done) | (simp; omega)) _ | refine Below.drew ?_ | refine BT ?_ (by assumption))))⟩
structure Worst (X : World) (P : Nat) (s x : Int) : Prop where
  c0 : X.cell? ⟨P, 0, none⟩ = some (.int .i64 s)
  c1 : X.cell? ⟨P, 1, none⟩ = some (.int .i64 x)
  f0 : X.frozen? ⟨P, 0, none⟩ = false
  f1 : X.frozen? ⟨P, 1, none⟩ = false
theorem Worst.grown {X X' : World} {P : Nat} {s x : Int} (h : Worst X P s x) (hb : Below X.heap.size X X') : Worst X' P s x := ⟨cellB h.c0 hb, cellB h.c1 hb, frozenB h.c0 h.f0 hb, frozenB h.c1 h.f1 hb⟩
theorem Worst.set {X : World} {P : Nat} {s x : Int} (h : Worst X P s x) (s' x' : Int) : Worst ((X.setCell ⟨P, 0, none⟩ (.int .i64 s')).setCell ⟨P, 1, none⟩ (.int .i64 x')) P s' x' := by
  obtain ⟨c0, c1, f0, f1⟩ := h
  constructor <;> simp [go_sem, c0, c1, f0, f1]
theorem worst_new (w : World) (s x : Int) (T : TypeId) : Worst (w.alloc (.cells #[.int .i64 s, .int .i64 x] T)) w.heap.size s x := ⟨by simp [go_sem], by simp [go_sem], by simp, by simp⟩
theorem Worst.lt {X : World} {P : Nat} {s x : Int} (h : Worst X P s x) : P < X.heap.size := World.block_lt_of_cell? _ _ h.c0
set_option maxRecDepth 100000 in
set_option maxHeartbeats 8000000 in
theorem poorT_any (B : Nat) (p : Pl) (ss : List St) (w : World) (hbp : BoxP w B p) (hm : PlAt p ss w) :
    Calls Tryz.prog 79 #[.pointer (some ⟨B, 0, none⟩)] w (Out (poorR p ss) w) := by
  have hmf : ∀ (fn : Fn) (first cap : Array Value) (w : World), (Instr.makeFunc fn first cap).run Tryz.prog w = .ok (.func fn first cap) w := fun _ _ _ _ => rfl
  have hst := @store_fn Tryz.prog
  obtain ⟨R, hR⟩ : ∃ R, poorR p ss = R := ⟨_, rfl⟩
  rw [hR]
  unfold poorR at hR
  have HR := Lib.hid hR
  clear hR
  go_enter Tryz.func79, Tryz.ntmps79
  obtain ⟨W0, hW0⟩ : ∃ X, w.alloc (.cells #[.int .i64 0, .int .i64 0] 107) = X := ⟨_, rfl⟩
  have hsl : Slots w.heap.size 2 W0 := by
    rw [← hW0]; intro o ho
    have : o = 0 ∨ o = 1 := by omega
    rcases this with rfl | rfl <;> simp [go_sem]
  have hTlt : w.heap.size < W0.heap.size := by rw [← hW0]; simp
  have hB : Below w.heap.size w W0 := by rw [← hW0]; exact newB _ _
  have hx0 : Below w.heap.size w W0 := hB
  have hbp_ := hbp.grown hx0
  clear hbp
  have hbp := hbp_
  clear hbp_
  have hm_ := hm.below hx0 (Nat.le_refl _)
  clear hm
  have hm := hm_
  clear hm_
  clear hx0
  obtain ⟨b0, b1, b2⟩ := id hbp
  go_wp2_with fail
  clear hW0 b0 b1 b2
  cases hv : plB p ss
  · have hRe : R = .error 1 := by rw [← HR.out, hv]; rfl
    refine (lookAt_no p ss W0 hm hv).mono ?_
    rintro e X ⟨rfl, hX⟩
    rw [hRe]
    exact ⟨rfl, rfl, BT hB hX⟩
  have hok := plOk hm hv
  have HR1 := Lib.hid HR.out
  rw [hv, if_pos rfl] at HR1
  refine (lookAt_ok p ss W0 hm hv).mono ?_
  rintro e X1 ⟨rfl, hx1⟩
  have hbp_ := hbp.grown hx1
  clear hbp
  have hbp := hbp_
  clear hbp_
  have hm_ := hm.below hx1 (Nat.le_refl _)
  clear hm
  have hm := hm_
  clear hm_
  have hsl_ := hsl.below hx1 hTlt
  clear hsl
  have hsl := hsl_
  clear hsl_
  have hTlt_ := Nat.lt_of_lt_of_le hTlt hx1.size
  clear hTlt
  have hTlt := hTlt_
  clear hTlt_
  have hB_ := BT hB hx1
  clear hB
  have hB := hB_
  clear hB_
  clear hx1
  unfold lookV sideV
  simp only [List.append_toArray, List.cons_append, List.nil_append]
  clear HR hv
  obtain ⟨XL, hXL⟩ : ∃ X, X1.alloc (.cells #[.int .i64 p.lo, .int .i64 p.hi, .slice p.a p.n p.cap, .int .i64 p.lo, .int .i64 p.hi, .slice p.a p.n p.cap, .func (.func 133) #[] #[], .int .i64 p.lo, .int .i64 p.hi, .slice p.a p.n p.cap, .func (.func 134) #[] #[]] 70) = X := ⟨_, rfl⟩
  have hL : BoxL XL X1.heap.size p := by rw [← hXL]; exact boxL_newE X1 p
  have hxL : Below X1.heap.size X1 XL := by rw [← hXL]; exact newB _ _
  have hbp_ := hbp.grown hxL
  clear hbp
  have hbp := hbp_
  clear hbp_
  have hm_ := hm.below hxL (Nat.le_refl _)
  clear hm
  have hm := hm_
  clear hm_
  have hsl_ := hsl.below hxL hTlt
  clear hsl
  have hsl := hsl_
  clear hsl_
  have hTlt_ := Nat.lt_of_lt_of_le hTlt hxL.size
  clear hTlt
  have hTlt := hTlt_
  clear hTlt_
  have hB_ := BT hB hxL
  clear hB
  have hB := hB_
  clear hB_
  clear hxL
  obtain ⟨b0, b1, b2, b3, b4, b5, b6, b7, b8, b9, b10⟩ := id hL
  go_wp2_with fail
  clear hXL b0 b1 b2 b3 b4 b5 b6 b7 b8 b9 b10 
  generalize X1.heap.size = G at *
  by_cases ht : trA p ss = []
  · have hRe : R = .error 10 := by rw [← HR1.out, if_pos ht]
    refine (truths_no p ss XL hm hok ht).mono ?_
    rintro e X ⟨rfl, hX⟩
    rw [hRe]
    exact ⟨rfl, rfl, BT hB hX⟩
  have HR2 := Lib.hid HR1.out
  rw [if_neg ht] at HR2
  clear HR1
  refine (truths_ok p ss XL hm hok ht).mono ?_
  rintro e X2 ⟨mb, ⟨rfl, hO⟩, hmb, hx2⟩
  have hbp_ := hbp.grown hx2
  clear hbp
  have hbp := hbp_
  clear hbp_
  have hm_ := hm.below hx2 (Nat.le_refl _)
  clear hm
  have hm := hm_
  clear hm_
  have hsl_ := hsl.below hx2 hTlt
  clear hsl
  have hsl := hsl_
  clear hsl_
  have hTlt_ := Nat.lt_of_lt_of_le hTlt hx2.size
  clear hTlt
  have hTlt := hTlt_
  clear hTlt_
  have hB_ := BT hB hx2
  clear hB
  have hB := hB_
  clear hB_
  have hL_ := hL.grown hL.lt hx2
  clear hL
  have hL := hL_
  clear hL_
  clear hx2
  unfold truV sideV
  simp only [List.append_toArray, List.cons_append, List.nil_append]
  obtain ⟨XT, hXT⟩ : ∃ X, X2.alloc (.cells #[.int .i64 p.lo, .int .i64 p.hi, .slice p.a p.n p.cap, .func (.func 133) #[] #[], .int .i64 p.lo, .int .i64 p.hi, .slice p.a p.n p.cap, .func (.func 134) #[] #[], .map (some mb)] 74) = X := ⟨_, rfl⟩
  have hQ := boxT_new X2 p mb
  rw [hXT] at hQ
  have hxT : Below X2.heap.size X2 XT := by rw [← hXT]; exact newB _ _
  have hbp_ := hbp.grown hxT
  clear hbp
  have hbp := hbp_
  clear hbp_
  have hm_ := hm.below hxT (Nat.le_refl _)
  clear hm
  have hm := hm_
  clear hm_
  have hsl_ := hsl.below hxT hTlt
  clear hsl
  have hsl := hsl_
  clear hsl_
  have hTlt_ := Nat.lt_of_lt_of_le hTlt hxT.size
  clear hTlt
  have hTlt := hTlt_
  clear hTlt_
  have hB_ := BT hB hxT
  clear hB
  have hB := hB_
  clear hB_
  have hL_ := hL.grown hL.lt hxT
  clear hL
  have hL := hL_
  clear hL_
  have hO_ := hO.kept (gB hxT none) (by simp)
  clear hO
  have hO := hO_
  clear hO_
  clear hxT
  obtain ⟨b0, b1, b2, b3, b4, b5, b6, b7, b8, b9, b10⟩ := id hL
  go_wp2_with fail
  clear hXT b0 b1 b2 b3 b4 b5 b6 b7 b8 b9 b10
  generalize X2.heap.size = H at *
  have hn12 : p.n ≤ 12 := by have := hok.n10; omega
  by_cases hkn : knownTo ss p.n = 0
  · have hRe : R = .error 12 := by rw [← HR2.out, if_pos hkn]
    refine (insistKnown_no p ss XT hm hn12 hkn).mono ?_
    rintro e X ⟨rfl, hX⟩
    rw [hRe]
    exact ⟨rfl, rfl, BT hB hX⟩
  have HR3 := Lib.hid HR2.out
  rw [if_neg hkn] at HR3
  clear HR2
  refine (insistKnown_ok p ss XT hm hn12 hkn).mono ?_
  rintro e X3 ⟨rfl, hx3⟩
  have hbp_ := hbp.grown hx3
  clear hbp
  have hbp := hbp_
  clear hbp_
  have hm_ := hm.below hx3 (Nat.le_refl _)
  clear hm
  have hm := hm_
  clear hm_
  have hsl_ := hsl.below hx3 hTlt
  clear hsl
  have hsl := hsl_
  clear hsl_
  have hTlt_ := Nat.lt_of_lt_of_le hTlt hx3.size
  clear hTlt
  have hTlt := hTlt_
  clear hTlt_
  have hB_ := BT hB hx3
  clear hB
  have hB := hB_
  clear hB_
  have hL_ := hL.grown hL.lt hx3
  clear hL
  have hL := hL_
  clear hL_
  have hO_ := hO.kept (gB hx3 none) (by simp)
  clear hO
  have hO := hO_
  clear hO_
  have hQ_ := And.intro (hQ.1.grown hx3) (cellB hQ.2 hx3)
  clear hQ
  have hQ := hQ_
  clear hQ_
  clear hx3
  obtain ⟨P, hPd⟩ : ∃ P, X3.heap.size = P := ⟨_, rfl⟩
  obtain ⟨XP, hXP⟩ : ∃ X, X3.alloc (.cells #[.int .i64 0, .int .i64 0] 107) = X := ⟨_, rfl⟩
  have hWP : Worst XP X3.heap.size 0 0 := by rw [← hXP]; exact worst_new _ _ _ _
  have hVP : Below X3.heap.size X3 XP := by rw [← hXP]; exact newB _ _
  have HALL : Hid (∀ Y, Below X3.heap.size X3 Y → BoxL Y G p ∧ (BoxT Y H p ∧ Y.cell? ⟨H, 8, none⟩ = some (.map (some mb))) ∧ Y.ownsMap Tryz.prog 3 quadElem mb (trA p ss).length (mapD (trA p ss)) ∧ PlAt p ss Y ∧ Slots w.heap.size 2 Y ∧ w.heap.size < Y.heap.size ∧ Below w.heap.size w Y) := fun Y hY => ⟨hL.grown hL.lt hY, And.intro (hQ.1.grown hY) (cellB hQ.2 hY), hO.kept (gB hY none) (by simp), hm.below hY (Nat.le_refl _), hsl.below hY hTlt, Nat.lt_of_lt_of_le hTlt hY.size, BT hB hY⟩
  have hVw : w.heap.size ≤ P := by rw [← hPd]; exact Nat.le_of_lt hTlt
  rw [hPd] at hWP hVP HALL
  have hHlt : Hid (∀ Y, Below P X3 Y → P ≤ Y.heap.size) := fun Y hY => by rw [← hPd]; exact hY.size
  obtain ⟨hL, hQ, hO, hm, hsl, hTlt, hB⟩ := HALL.out XP hVP
  obtain ⟨b0, b1, b2, b3, b4, b5, b6, b7, b8, b9, b10⟩ := id hL
  have hnb : (p.n : Int) ≤ 10 := by have := hok.n10; omega
  go_wp2_with fail
  clear hXP b0 b1 b2 b3 b4 b5 b6 b7 b8 b9 b10 hL hQ hO hm hsl hTlt hB hbp
  try rw [hPd]
  clear hPd
  go_loopw [18] (fun i wr => ∃ (k : Nat) (s x : Int), k ≤ p.n ∧ i = .int .i64 k ∧ Hid (poorTo p ss k = .ok (s, x)) ∧ Below P X3 wr ∧ Worst wr P s x) (fun i _ => p.n - (intOf i).toNat)
  case atStart => exact ⟨0, 0, 0, by omega, rfl, rfl, hVP, hWP⟩
  case round =>
    clear hVP hWP
    obtain ⟨k, s, x, hk, rfl, hPk, hVr, hWr⟩ := hrel
    have hk0 : (0 : Int) ≤ (k : Int) := by omega
    by_cases hlt : k < p.n
    · have hki : (k : Int) < (p.n : Int) := by omega
      obtain ⟨XN, hXN⟩ : ∃ X, wr.alloc (.cells #[.int .i64 k] 3) = X := ⟨_, rfl⟩
      have hc : XN.cell? ⟨wr.heap.size, 0, none⟩ = some (.int .i64 k) := by rw [← hXN]; simp [go_sem]
      have hxN : Below wr.heap.size wr XN := by rw [← hXN]; exact newB _ _
      have hVN := hVr.trans (hxN.mono (hHlt.out wr hVr))
      have hWN := hWr.grown hxN
      obtain ⟨hL, hQ, hO, hm, hsl, hTlt, hB⟩ := HALL.out XN hVN
      obtain ⟨⟨t0, t1, t2, t3, t4, t5, t6, t7⟩, t8⟩ := id hQ
      go_wp2_with fail
      clear t0 t1 t2 t3 t4 t5 t6 t7 t8 hXN
      generalize wr.heap.size = C at *
      have hkl : k < ss.length := by rw [hok.nl]; exact hlt
      have hA : Calls Tryz.prog 43 #[.agg (truV p mb), .func (.func 80) #[] #[.pointer (some ⟨C, 0, none⟩)]] XN (Out (starV p ss k) XN) := along_any p mb (trA p ss).length (trA p ss) (trL_apart p ss _) 80 #[.pointer (some ⟨C, 0, none⟩)] (starF ss k) XN (enters_of Tryz.func80 (by kernel_rfl) rfl) hO (fun d x hx Y hY => by have hs := trL_ok hok hx; exact poorC_any d x.sc (x.lo d) (x.hi d) p ss k C Y (hm.below hY (Nat.le_refl _)) hok hkl (by have := hs.s0; omega) hs.s1 (hs.lo d) (hs.hi d) (cellB hc hY))
      have hfour := starV_four p ss k
      have hst1 : Hid (poorTo p ss (k + 1) = match starV p ss k with | .error c => .error c | .ok v => .ok (if x < widV v then ((k : Int), widV v) else (s, x))) := by show _ = _; rw [poorTo, hPk.out]
      generalize starV p ss k = r at *
      unfold truV sideV at hA
      simp only [List.append_toArray, List.cons_append, List.nil_append] at hA
      cases r with
      | error c =>
        have hRe : R = .error c := by rw [← HR3.out, poor_err (c := c) hst1.out (by omega)]; rfl
        refine hA.mono ?_
        rintro e X ⟨rfl, hX⟩
        have hfin : Out R w (.panicked [{ v := .iface 29 (.int .i64 c), recovered := false }]) X := by rw [hRe]; exact ⟨rfl, BT hB hX⟩
        exact ⟨rfl, hfin⟩
      | ok v =>
        obtain ⟨va, vb, vc, vd, rfl⟩ := hfour v rfl
        refine hA.mono ?_
        rintro e X ⟨rfl, hX⟩
        have hVX := hVN.trans (hX.mono (hHlt.out XN hVN))
        have hWX := hWN.grown hX
        have hc1 := cellB hc hX
        clear hA hX hVN hWN hL hQ hO hm hsl hTlt hB hc hfour
        obtain ⟨XA, hXA⟩ : ∃ Y, X.alloc (.cells #[.int .i64 va, .int .i64 vb, .int .i64 vc, .int .i64 vd] 81) = Y := ⟨_, rfl⟩
        have hq : Quad XA X.heap.size va vb vc vd := by rw [← hXA]; exact quad_new _ _ _ _ _ _
        have hxA : Below X.heap.size X XA := by rw [← hXA]; exact newB _ _
        have hVA := hVX.trans (hxA.mono (hHlt.out X hVX))
        have hWA := hWX.grown hxA
        have hc2 := cellB hc1 hxA
        clear hc1
        go_wp2_with fail
        clear hXA hxA hVX hWX
        generalize X.heap.size = A at *
        have hS : Hid (∀ Y, Below XA.heap.size XA Y → Y.cell? ⟨A, 0, none⟩ = some (.int .i64 va) ∧ Y.cell? ⟨A, 1, none⟩ = some (.int .i64 vb) ∧ Y.cell? ⟨A, 2, none⟩ = some (.int .i64 vc) ∧ Y.cell? ⟨A, 3, none⟩ = some (.int .i64 vd)) := fun Y hY => ⟨cellB hq.c0 hY, cellB hq.c1 hY, cellB hq.c2 hY, cellB hq.c3 hY⟩
        have hbD : Below XA.heap.size XA XA.drew := Below.drew (Below.refl _ XA)
        refine wp_region_seq [(0, true), (1, true), (3, true), (4, true), (2, false), (5, false), (6, true), (7, true)] (fun Y => Y.cell? ⟨A, 0, none⟩ = some (.int .i64 va) ∧ Y.cell? ⟨A, 1, none⟩ = some (.int .i64 vb) ∧ Y.cell? ⟨A, 2, none⟩ = some (.int .i64 vc) ∧ Y.cell? ⟨A, 3, none⟩ = some (.int .i64 vd)) (by kernel_rfl) (by kernel_rfl) (fun _ _ d _ _ h => by cases d <;> exact h) (hS.out _ hbD) ?_
        repeat (first | (refine seq_read rfl (by rfl) _ (fun w' hS => by (try dsimp only at hS); go_simp; (try with_reducible rfl)) ?_; (try simp only [Act.put, List.setIfInBounds_toArray, List.set_cons_zero, List.set_cons_succ])) | (refine seq_skip rfl (by rfl) ?_; (try simp only [Act.put, List.setIfInBounds_toArray, List.set_cons_zero, List.set_cons_succ])))
        refine seq_do rfl (by rfl) (fun K hK => ?_)
        go_simp
        refine (widW_any va vb XA.drew).mono ?_
        rintro e w2 ⟨rfl, hb2⟩
        have hb2 := BT hbD hb2
        refine hK _ _ (hS.out _ hb2) ?_
        clear hK K
        (try simp only [Act.put, List.setIfInBounds_toArray, List.set_cons_zero, List.set_cons_succ])
        repeat (first | (refine seq_read rfl (by rfl) _ (fun w' hS => by (try dsimp only at hS); go_simp; (try with_reducible rfl)) ?_; (try simp only [Act.put, List.setIfInBounds_toArray, List.set_cons_zero, List.set_cons_succ])) | (refine seq_skip rfl (by rfl) ?_; (try simp only [Act.put, List.setIfInBounds_toArray, List.set_cons_zero, List.set_cons_succ])))
        refine seq_do rfl (by rfl) (fun K hK => ?_)
        go_simp
        refine (widW_any vc vd w2).mono ?_
        rintro e w3 ⟨rfl, hb3⟩
        have hb3 := BT hb2 hb3
        refine hK _ _ (hS.out _ hb3) ?_
        clear hK K
        (try simp only [Act.put, List.setIfInBounds_toArray, List.set_cons_zero, List.set_cons_succ])
        repeat (first | (refine seq_read rfl (by rfl) _ (fun w' hS => by (try dsimp only at hS); go_simp; (try with_reducible rfl)) ?_; (try simp only [Act.put, List.setIfInBounds_toArray, List.set_cons_zero, List.set_cons_succ])) | (refine seq_skip rfl (by rfl) ?_; (try simp only [Act.put, List.setIfInBounds_toArray, List.set_cons_zero, List.set_cons_succ])))
        apply seq_end
        first | show Exit.inBlock _ _ Exit.normal _ _ | show Exit.then _ _ Exit.normal _ _ | skip
        have hV3 := hVA.trans (hb3.mono (hHlt.out XA hVA))
        have hW3 := hWA.grown hb3
        have hc3 := cellB hc2 hb3
        clear hc2
        have hzw : widV (.agg #[.int .i64 va, .int .i64 vb, .int .i64 vc, .int .i64 vd]) = IntKind.i64.wrap (wrap64 (vb - va) + wrap64 (vd - vc)) := rfl
        have hst2 : Hid (poorTo p ss (k + 1) = .ok (if x < IntKind.i64.wrap (wrap64 (vb - va) + wrap64 (vd - vc)) then ((k : Int), IntKind.i64.wrap (wrap64 (vb - va) + wrap64 (vd - vc))) else (s, x))) := by show _ = _; rw [hst1.out, ← hzw]
        clear hzw hst1 hbD hb2 hb3 hS hq hVA hWA
        generalize IntKind.i64.wrap (wrap64 (vb - va) + wrap64 (vd - vc)) = z at *
        obtain ⟨p0, p1, f0, f1⟩ := id hW3
        by_cases hgt : x < z
        · have hst3 : Hid (poorTo p ss (k + 1) = .ok ((k : Int), z)) := by show _ = _; rw [hst2.out, if_pos hgt]
          have hV4 : Below P X3 ((w3.setCell ⟨P, 0, none⟩ (.int .i64 k)).setCell ⟨P, 1, none⟩ (.int .i64 z)) := (hV3.setCell (p := ⟨P, 0, none⟩) (Nat.le_refl _) _).setCell (p := ⟨P, 1, none⟩) (Nat.le_refl _) _
          have hW4 := hW3.set k z
          clear hst2 hV3
          go_wp2_with fail
          go_roundw
          case rel => exact ⟨k + 1, k, z, by omega, by go_num, hst3, hV4, hW4⟩
          case measure => simp [intOf]; omega
        · have hst3 : Hid (poorTo p ss (k + 1) = .ok (s, x)) := by show _ = _; rw [hst2.out, if_neg hgt]
          clear hst2
          go_wp2_with fail
          go_roundw
          case rel => exact ⟨k + 1, s, x, by omega, by go_num, hst3, hV3, hW3⟩
          case measure => simp [intOf]; omega
    · obtain rfl : k = p.n := by omega
      have hRf : Hid (R = .ok (.agg #[.int .i64 s, .int .i64 x])) := by show _ = _; rw [← HR3.out, hPk.out]; rfl
      obtain ⟨hL, hQ, hO, hm, hsl, hTlt, hB⟩ := HALL.out wr hVr
      obtain ⟨p0, p1, f0, f1⟩ := hWr
      obtain ⟨x0, q0, z0⟩ := hsl.get 0 (by omega)
      obtain ⟨x1, q1, z1⟩ := hsl.get 1 (by omega)
      have hfin := (BC (BC hB (w.heap.size) 0 (by omega) (.int .i64 s)) (w.heap.size) 1 (by omega) (.int .i64 x))
      clear hL hQ hO hm hsl hTlt hB
      go_wp2_with fail
      rw [hRf.out]
      exact bodyPost_ret (v := .agg #[.int .i64 s, .int .i64 x]) (by simp [results, Tryz.results79, go_sem, q0, q1]) rfl ⟨rfl, hfin⟩
end Go.Proofs.YtdkegkacpdkjgaaGreat
