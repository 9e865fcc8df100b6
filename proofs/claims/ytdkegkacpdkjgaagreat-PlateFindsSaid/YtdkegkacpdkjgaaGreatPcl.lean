/- Plate: the closures behind the functions. -/
import Derived.Test.YtdkegkacpdkjgaaGreatPic
namespace Go.Proofs.YtdkegkacpdkjgaaGreat
open Go.RowKit Go.Maps

theorem trOf_mem {ss : List St} {R : Nat → Bool} {n : Nat} {sc : Int} {x : Scl} (h : x ∈ trOf ss R n sc) : x.sc = sc ∧ corB ss sc R n = true ∧ ∀ d, (x.lo d, x.hi d) = corS ss sc R d n := by
  unfold trOf at h
  split at h
  · split at h
    · rename_i hb
      simp at h
      subst h
      exact ⟨rfl, hb, fun d => by cases d <;> rfl⟩
    · cases h
  · cases h
theorem trTo_mem {ss : List St} {R : Nat → Bool} {n : Nat} {lo : Int} {x : Scl} : ∀ {k : Nat}, x ∈ trTo ss R n lo k → lo ≤ x.sc ∧ x.sc < lo + k ∧ corB ss x.sc R n = true ∧ ∀ d, (x.lo d, x.hi d) = corS ss x.sc R d n
  | 0, h => by cases h
  | k + 1, h => by
    rw [trTo, List.mem_append] at h
    rcases h with h | h
    · have := trTo_mem h; exact ⟨this.1, by omega, this.2.2⟩
    · obtain ⟨h1, h2, h3⟩ := trOf_mem h
      rw [← h1] at h2 h3
      exact ⟨by omega, by omega, h2, h3⟩
structure SclOk (p : Pl) (ss : List St) (x : Scl) : Prop where
  s0 : 1 ≤ x.sc
  s1 : x.sc ≤ 1000
  lo : ∀ d, -100000000 ≤ x.lo d ∧ x.lo d ≤ 100000000
  hi : ∀ d, -100000000 ≤ x.hi d ∧ x.hi d ≤ 100000000
theorem trL_ok {p : Pl} {ss : List St} (h : PlOk p ss) {set : Int} {x : Scl} (hx : x ∈ trL p ss set) : SclOk p ss x := by
  obtain ⟨h1, h2, _, h4⟩ := trTo_mem hx
  have hl := h.lo; have hh := h.hi; have hm := h.mid
  have s0 : 1 ≤ x.sc := by omega
  have s1 : x.sc ≤ 1000 := by omega
  have hr := fun d => cor_rng (ss := ss) (R := setI set) (d := d) (by omega : (0 : Int) ≤ x.sc) s1 (fun i hi => h.st i hi d) p.n (by rw [h.nl]; exact Nat.le_refl _)
  refine ⟨s0, s1, fun d => ?_, fun d => ?_⟩
  · have e : x.lo d = (corS ss x.sc (setI set) d p.n).1 := by rw [← h4 d]
    have := hr d; rw [e]; omega
  · have e : x.hi d = (corS ss x.sc (setI set) d p.n).2 := by rw [← h4 d]
    have := hr d; rw [e]; omega
/-- What is asked of all truths, along both directions; no star need be known. -/
def tellR (p : Pl) (ss : List St) (f : Bool → Scl → Int × Int) : Except Int Value := if trA p ss = [] then .error 10 else alongR (kepL (f false) (trA p ss)) (kepL (f true) (trA p ss))
/-- The same; a star must be known. -/
def tellK (p : Pl) (ss : List St) (f : Bool → Scl → Int × Int) : Except Int Value := if trA p ss = [] then .error 10 else if knownTo ss p.n = 0 then .error 12 else alongR (kepL (f false) (trA p ss)) (kepL (f true) (trA p ss))
def zeroR (p : Pl) (ss : List St) : Except Int Value := if plB p ss then tellK p ss (fun d x => (x.lo d, x.hi d)) else .error 1
def starR (p : Pl) (ss : List St) (i : Int) : Except Int Value := if plB p ss then (if 0 ≤ i ∧ i < p.n then tellK p ss (fun d x => plS x.sc (x.lo d) (x.hi d) (ss.getD i.toNat default) d) else .error 2) else .error 1
def apartF (ss : List St) (i j : Nat) (d : Bool) (x : Scl) : Int × Int := if i = j then (0, 0) else apS x.sc (x.lo d) (x.hi d) (ss.getD i default) (ss.getD j default) d
def apartR (p : Pl) (ss : List St) (i j : Int) : Except Int Value := if plB p ss then (if 0 ≤ i ∧ i < p.n then (if 0 ≤ j ∧ j < p.n then tellR p ss (apartF ss i.toNat j.toNat) else .error 2) else .error 2) else .error 1
/-- A star that is sought. -/
def soughtS (e n : Int) : St := ⟨0, 32768, 0, 32768, true, e, e, n, n⟩
def findR (p : Pl) (ss : List St) (e n : Int) : Except Int Value := if plB p ss then (if skyB e e && skyB n n then tellK p ss (fun d x => fiS x.sc (x.lo d) (x.hi d) (soughtS e n) d) else .error 2) else .error 1
def isFour (r : Except Int Value) : Prop := ∀ v, r = .ok v → ∃ a b c d : Int, v = .agg #[.int .i64 a, .int .i64 b, .int .i64 c, .int .i64 d]
theorem along_four (k0 k1 : Int × Int × Bool) : isFour (alongR k0 k1) := by
  intro v hv
  unfold alongR at hv
  repeat (split at hv)
  all_goals first | (cases hv; done) | (cases hv; exact ⟨_, _, _, _, rfl⟩)
theorem boxT_new (w : World) (p : Pl) (mb : Nat) : BoxT (w.alloc (.cells #[.int .i64 p.lo, .int .i64 p.hi, .slice p.a p.n p.cap, .func (.func 133) #[] #[], .int .i64 p.lo, .int .i64 p.hi, .slice p.a p.n p.cap, .func (.func 134) #[] #[], .map (some mb)] 74)) w.heap.size p ∧ (w.alloc (.cells #[.int .i64 p.lo, .int .i64 p.hi, .slice p.a p.n p.cap, .func (.func 133) #[] #[], .int .i64 p.lo, .int .i64 p.hi, .slice p.a p.n p.cap, .func (.func 134) #[] #[], .map (some mb)] 74)).cell? ⟨w.heap.size, 8, none⟩ = some (.map (some mb)) :=
  ⟨⟨by simp [go_sem], by simp [go_sem], by simp [go_sem], by simp [go_sem], by simp [go_sem], by simp [go_sem], by simp [go_sem], by simp [go_sem]⟩, by simp [go_sem]⟩
theorem boxL_newE (w : World) (p : Pl) : BoxL (w.alloc (.cells #[.int .i64 p.lo, .int .i64 p.hi, .slice p.a p.n p.cap, .int .i64 p.lo, .int .i64 p.hi, .slice p.a p.n p.cap, .func (.func 133) #[] #[], .int .i64 p.lo, .int .i64 p.hi, .slice p.a p.n p.cap, .func (.func 134) #[] #[]] 70)) w.heap.size p := by
  have := boxL_new w p 70
  unfold lookV sideV at this
  simpa using this
set_option maxRecDepth 100000 in
set_option maxHeartbeats 8000000 in
theorem zeroT_any (B : Nat) (p : Pl) (ss : List St) (w : World) (hbp : BoxP w B p) (hm : PlAt p ss w) :
    Calls Tryz.prog 41 #[.pointer (some ⟨B, 0, none⟩)] w (Out (zeroR p ss) w) := by
  have hmf : ∀ (fn : Fn) (first cap : Array Value) (w : World), (Instr.makeFunc fn first cap).run Tryz.prog w = .ok (.func fn first cap) w := fun _ _ _ _ => rfl
  have hst := @store_fn Tryz.prog
  obtain ⟨R, hR⟩ : ∃ R, zeroR p ss = R := ⟨_, rfl⟩
  rw [hR]
  unfold zeroR at hR
  have HR := Lib.hid hR
  clear hR
  go_enter Tryz.func41, Tryz.ntmps41
  obtain ⟨W0, hW0⟩ : ∃ X, w.alloc (.cells #[.int .i64 0, .int .i64 0, .int .i64 0, .int .i64 0] 81) = X := ⟨_, rfl⟩
  have hsl : Slots w.heap.size 4 W0 := by
    rw [← hW0]; intro o ho
    have : o = 0 ∨ o = 1 ∨ o = 2 ∨ o = 3 := by omega
    rcases this with rfl | rfl | rfl | rfl <;> simp [go_sem]
  have hTlt : w.heap.size < W0.heap.size := by rw [← hW0]; simp
  have hB : Below w.heap.size w W0 := by rw [← hW0]; exact newB _ _
  have hx0 : Below w.heap.size w W0 := hB
  have hbp_ := hbp.grown hx0
  clear hbp
  have hbp := hbp_
  clear hbp_
  have hm_ := hm.below hx0 (Nat.le_refl _)
  clear hm
  have hm := hm_
  clear hm_
  clear hx0
  obtain ⟨b0, b1, b2⟩ := id hbp
  go_wp2_with fail
  clear hW0 b0 b1 b2
  cases hv : plB p ss
  · have hRe : R = .error 1 := by rw [← HR.out, hv]; rfl
    refine (lookAt_no p ss W0 hm hv).mono ?_
    rintro e X ⟨rfl, hX⟩
    rw [hRe]
    exact ⟨rfl, rfl, BT hB hX⟩
  have hok := plOk hm hv
  have HR1 := Lib.hid HR.out
  rw [hv, if_pos rfl] at HR1
  refine (lookAt_ok p ss W0 hm hv).mono ?_
  rintro e X1 ⟨rfl, hx1⟩
  have hbp_ := hbp.grown hx1
  clear hbp
  have hbp := hbp_
  clear hbp_
  have hm_ := hm.below hx1 (Nat.le_refl _)
  clear hm
  have hm := hm_
  clear hm_
  have hsl_ := hsl.below hx1 hTlt
  clear hsl
  have hsl := hsl_
  clear hsl_
  have hTlt_ := Nat.lt_of_lt_of_le hTlt hx1.size
  clear hTlt
  have hTlt := hTlt_
  clear hTlt_
  have hB_ := BT hB hx1
  clear hB
  have hB := hB_
  clear hB_
  clear hx1
  unfold lookV sideV
  simp only [List.append_toArray, List.cons_append, List.nil_append]
  clear HR hv
  obtain ⟨XL, hXL⟩ : ∃ X, X1.alloc (.cells #[.int .i64 p.lo, .int .i64 p.hi, .slice p.a p.n p.cap, .int .i64 p.lo, .int .i64 p.hi, .slice p.a p.n p.cap, .func (.func 133) #[] #[], .int .i64 p.lo, .int .i64 p.hi, .slice p.a p.n p.cap, .func (.func 134) #[] #[]] 70) = X := ⟨_, rfl⟩
  have hL : BoxL XL X1.heap.size p := by rw [← hXL]; exact boxL_newE X1 p
  have hxL : Below X1.heap.size X1 XL := by rw [← hXL]; exact newB _ _
  have hbp_ := hbp.grown hxL
  clear hbp
  have hbp := hbp_
  clear hbp_
  have hm_ := hm.below hxL (Nat.le_refl _)
  clear hm
  have hm := hm_
  clear hm_
  have hsl_ := hsl.below hxL hTlt
  clear hsl
  have hsl := hsl_
  clear hsl_
  have hTlt_ := Nat.lt_of_lt_of_le hTlt hxL.size
  clear hTlt
  have hTlt := hTlt_
  clear hTlt_
  have hB_ := BT hB hxL
  clear hB
  have hB := hB_
  clear hB_
  clear hxL
  obtain ⟨b0, b1, b2, b3, b4, b5, b6, b7, b8, b9, b10⟩ := id hL
  go_wp2_with fail
  clear hXL b0 b1 b2 b3 b4 b5 b6 b7 b8 b9 b10 
  generalize X1.heap.size = G at *
  unfold tellK at HR1
  by_cases ht : trA p ss = []
  · have hRe : R = .error 10 := by rw [← HR1.out, if_pos ht]
    refine (truths_no p ss XL hm hok ht).mono ?_
    rintro e X ⟨rfl, hX⟩
    rw [hRe]
    exact ⟨rfl, rfl, BT hB hX⟩
  have HR2 := Lib.hid HR1.out
  rw [if_neg ht] at HR2
  clear HR1
  refine (truths_ok p ss XL hm hok ht).mono ?_
  rintro e X2 ⟨mb, ⟨rfl, hO⟩, hmb, hx2⟩
  have hbp_ := hbp.grown hx2
  clear hbp
  have hbp := hbp_
  clear hbp_
  have hm_ := hm.below hx2 (Nat.le_refl _)
  clear hm
  have hm := hm_
  clear hm_
  have hsl_ := hsl.below hx2 hTlt
  clear hsl
  have hsl := hsl_
  clear hsl_
  have hTlt_ := Nat.lt_of_lt_of_le hTlt hx2.size
  clear hTlt
  have hTlt := hTlt_
  clear hTlt_
  have hB_ := BT hB hx2
  clear hB
  have hB := hB_
  clear hB_
  have hL_ := hL.grown hL.lt hx2
  clear hL
  have hL := hL_
  clear hL_
  clear hx2
  unfold truV sideV
  simp only [List.append_toArray, List.cons_append, List.nil_append]
  obtain ⟨XT, hXT⟩ : ∃ X, X2.alloc (.cells #[.int .i64 p.lo, .int .i64 p.hi, .slice p.a p.n p.cap, .func (.func 133) #[] #[], .int .i64 p.lo, .int .i64 p.hi, .slice p.a p.n p.cap, .func (.func 134) #[] #[], .map (some mb)] 74) = X := ⟨_, rfl⟩
  have hQ := boxT_new X2 p mb
  rw [hXT] at hQ
  have hxT : Below X2.heap.size X2 XT := by rw [← hXT]; exact newB _ _
  have hbp_ := hbp.grown hxT
  clear hbp
  have hbp := hbp_
  clear hbp_
  have hm_ := hm.below hxT (Nat.le_refl _)
  clear hm
  have hm := hm_
  clear hm_
  have hsl_ := hsl.below hxT hTlt
  clear hsl
  have hsl := hsl_
  clear hsl_
  have hTlt_ := Nat.lt_of_lt_of_le hTlt hxT.size
  clear hTlt
  have hTlt := hTlt_
  clear hTlt_
  have hB_ := BT hB hxT
  clear hB
  have hB := hB_
  clear hB_
  have hL_ := hL.grown hL.lt hxT
  clear hL
  have hL := hL_
  clear hL_
  have hO_ := hO.kept (gB hxT none) (by simp)
  clear hO
  have hO := hO_
  clear hO_
  clear hxT
  obtain ⟨b0, b1, b2, b3, b4, b5, b6, b7, b8, b9, b10⟩ := id hL
  go_wp2_with fail
  clear hXT b0 b1 b2 b3 b4 b5 b6 b7 b8 b9 b10
  generalize X2.heap.size = H at *
  have hn12 : p.n ≤ 12 := by have := hok.n10; omega
  by_cases hkn : knownTo ss p.n = 0
  · have hRe : R = .error 12 := by rw [← HR2.out, if_pos hkn]
    refine (insistKnown_no p ss XT hm hn12 hkn).mono ?_
    rintro e X ⟨rfl, hX⟩
    rw [hRe]
    exact ⟨rfl, rfl, BT hB hX⟩
  have HR3 := Lib.hid HR2.out
  rw [if_neg hkn] at HR3
  clear HR2
  refine (insistKnown_ok p ss XT hm hn12 hkn).mono ?_
  rintro e X3 ⟨rfl, hx3⟩
  have hbp_ := hbp.grown hx3
  clear hbp
  have hbp := hbp_
  clear hbp_
  have hm_ := hm.below hx3 (Nat.le_refl _)
  clear hm
  have hm := hm_
  clear hm_
  have hsl_ := hsl.below hx3 hTlt
  clear hsl
  have hsl := hsl_
  clear hsl_
  have hTlt_ := Nat.lt_of_lt_of_le hTlt hx3.size
  clear hTlt
  have hTlt := hTlt_
  clear hTlt_
  have hB_ := BT hB hx3
  clear hB
  have hB := hB_
  clear hB_
  have hL_ := hL.grown hL.lt hx3
  clear hL
  have hL := hL_
  clear hL_
  have hO_ := hO.kept (gB hx3 none) (by simp)
  clear hO
  have hO := hO_
  clear hO_
  have hQ_ := And.intro (hQ.1.grown hx3) (cellB hQ.2 hx3)
  clear hQ
  have hQ := hQ_
  clear hQ_
  clear hx3
  obtain ⟨⟨t0, t1, t2, t3, t4, t5, t6, t7⟩, t8⟩ := id hQ
  go_wp2_with fail
  clear t0 t1 t2 t3 t4 t5 t6 t7 t8
  have hA := along_any p mb (trA p ss).length (trA p ss) (trL_apart p ss _) 44 #[] (fun d x => (x.lo d, x.hi d)) X3 (enters_of Tryz.func44 (by kernel_rfl) rfl) hO (fun d x hx Y hY => zeroC_any d x.sc (x.lo d) (x.hi d) p Y)
  have HR9 : Hid (alongR (kepL ((fun d x => (x.lo d, x.hi d)) false) (trA p ss)) (kepL ((fun d x => (x.lo d, x.hi d)) true) (trA p ss)) = R) := HR3.out
  obtain ⟨r, hr⟩ : ∃ r, alongR (kepL ((fun d x => (x.lo d, x.hi d)) false) (trA p ss)) (kepL ((fun d x => (x.lo d, x.hi d)) true) (trA p ss)) = r := ⟨_, rfl⟩
  have hfour := along_four (kepL ((fun d x => (x.lo d, x.hi d)) false) (trA p ss)) (kepL ((fun d x => (x.lo d, x.hi d)) true) (trA p ss))
  rw [hr] at hA hfour
  have hRr : R = r := by rw [← HR9.out, hr]
  have HRr := Lib.hid hRr
  clear hRr hr HR9
  unfold truV sideV at hA
  simp only [List.append_toArray, List.cons_append, List.nil_append] at hA
  cases r with
  | error c =>
    refine hA.mono ?_
    rintro e X ⟨rfl, hX⟩
    rw [HRr.out]
    exact ⟨rfl, rfl, BT hB hX⟩
  | ok v =>
    obtain ⟨va, vb, vc, vd, rfl⟩ := hfour v rfl
    refine hA.mono ?_
    rintro e X ⟨rfl, hX⟩
    have hsl9 := hsl.below hX hTlt
    have hB9 := BT hB hX
    obtain ⟨x0, q0, z0⟩ := hsl9.get 0 (by omega)
    obtain ⟨x1, q1, z1⟩ := hsl9.get 1 (by omega)
    obtain ⟨x2, q2, z2⟩ := hsl9.get 2 (by omega)
    obtain ⟨x3, q3, z3⟩ := hsl9.get 3 (by omega)
    have hfin := (BC (BC (BC (BC hB9 (w.heap.size) 0 (by omega) (.int .i64 va)) (w.heap.size) 1 (by omega) (.int .i64 vb)) (w.heap.size) 2 (by omega) (.int .i64 vc)) (w.heap.size) 3 (by omega) (.int .i64 vd))
    clear hX hsl9 hB9 hA
    go_wp2_with fail
    rw [HRr.out]
    exact bodyPost_ret (v := .agg #[.int .i64 va, .int .i64 vb, .int .i64 vc, .int .i64 vd]) (by simp [results, Tryz.results41, go_sem, q0, q1, q2, q3]) rfl ⟨rfl, hfin⟩
set_option maxRecDepth 100000 in
set_option maxHeartbeats 8000000 in
theorem starT_any (B C : Nat) (i : Int) (p : Pl) (ss : List St) (w : World) (hbp : BoxP w B p) (hm : PlAt p ss w) (hc : w.cell? ⟨C, 0, none⟩ = some (.int .i64 i)) :
    Calls Tryz.prog 49 #[.pointer (some ⟨B, 0, none⟩), .pointer (some ⟨C, 0, none⟩)] w (Out (starR p ss i) w) := by
  have hmf : ∀ (fn : Fn) (first cap : Array Value) (w : World), (Instr.makeFunc fn first cap).run Tryz.prog w = .ok (.func fn first cap) w := fun _ _ _ _ => rfl
  have hst := @store_fn Tryz.prog
  obtain ⟨R, hR⟩ : ∃ R, starR p ss i = R := ⟨_, rfl⟩
  rw [hR]
  unfold starR at hR
  have HR := Lib.hid hR
  clear hR
  go_enter Tryz.func49, Tryz.ntmps49
  obtain ⟨W0, hW0⟩ : ∃ X, w.alloc (.cells #[.int .i64 0, .int .i64 0, .int .i64 0, .int .i64 0] 81) = X := ⟨_, rfl⟩
  have hsl : Slots w.heap.size 4 W0 := by
    rw [← hW0]; intro o ho
    have : o = 0 ∨ o = 1 ∨ o = 2 ∨ o = 3 := by omega
    rcases this with rfl | rfl | rfl | rfl <;> simp [go_sem]
  have hTlt : w.heap.size < W0.heap.size := by rw [← hW0]; simp
  have hB : Below w.heap.size w W0 := by rw [← hW0]; exact newB _ _
  have hx0 : Below w.heap.size w W0 := hB
  have hbp_ := hbp.grown hx0
  clear hbp
  have hbp := hbp_
  clear hbp_
  have hm_ := hm.below hx0 (Nat.le_refl _)
  clear hm
  have hm := hm_
  clear hm_
  have hc_ := cellB hc hx0
  clear hc
  have hc := hc_
  clear hc_
  clear hx0
  obtain ⟨b0, b1, b2⟩ := id hbp
  go_wp2_with fail
  clear hW0 b0 b1 b2
  cases hv : plB p ss
  · have hRe : R = .error 1 := by rw [← HR.out, hv]; rfl
    refine (lookAt_no p ss W0 hm hv).mono ?_
    rintro e X ⟨rfl, hX⟩
    rw [hRe]
    exact ⟨rfl, rfl, BT hB hX⟩
  have hok := plOk hm hv
  have HR1 := Lib.hid HR.out
  rw [hv, if_pos rfl] at HR1
  refine (lookAt_ok p ss W0 hm hv).mono ?_
  rintro e X1 ⟨rfl, hx1⟩
  have hbp_ := hbp.grown hx1
  clear hbp
  have hbp := hbp_
  clear hbp_
  have hm_ := hm.below hx1 (Nat.le_refl _)
  clear hm
  have hm := hm_
  clear hm_
  have hc_ := cellB hc hx1
  clear hc
  have hc := hc_
  clear hc_
  have hsl_ := hsl.below hx1 hTlt
  clear hsl
  have hsl := hsl_
  clear hsl_
  have hTlt_ := Nat.lt_of_lt_of_le hTlt hx1.size
  clear hTlt
  have hTlt := hTlt_
  clear hTlt_
  have hB_ := BT hB hx1
  clear hB
  have hB := hB_
  clear hB_
  clear hx1
  unfold lookV sideV
  simp only [List.append_toArray, List.cons_append, List.nil_append]
  clear HR hv
  obtain ⟨XL, hXL⟩ : ∃ X, X1.alloc (.cells #[.int .i64 p.lo, .int .i64 p.hi, .slice p.a p.n p.cap, .int .i64 p.lo, .int .i64 p.hi, .slice p.a p.n p.cap, .func (.func 133) #[] #[], .int .i64 p.lo, .int .i64 p.hi, .slice p.a p.n p.cap, .func (.func 134) #[] #[]] 70) = X := ⟨_, rfl⟩
  have hL : BoxL XL X1.heap.size p := by rw [← hXL]; exact boxL_newE X1 p
  have hxL : Below X1.heap.size X1 XL := by rw [← hXL]; exact newB _ _
  have hbp_ := hbp.grown hxL
  clear hbp
  have hbp := hbp_
  clear hbp_
  have hm_ := hm.below hxL (Nat.le_refl _)
  clear hm
  have hm := hm_
  clear hm_
  have hc_ := cellB hc hxL
  clear hc
  have hc := hc_
  clear hc_
  have hsl_ := hsl.below hxL hTlt
  clear hsl
  have hsl := hsl_
  clear hsl_
  have hTlt_ := Nat.lt_of_lt_of_le hTlt hxL.size
  clear hTlt
  have hTlt := hTlt_
  clear hTlt_
  have hB_ := BT hB hxL
  clear hB
  have hB := hB_
  clear hB_
  clear hxL
  obtain ⟨b0, b1, b2, b3, b4, b5, b6, b7, b8, b9, b10⟩ := id hL
  go_wp2_with fail
  clear hXL b0 b1 b2 b3 b4 b5 b6 b7 b8 b9 b10 
  generalize X1.heap.size = G at *
  by_cases hi : 0 ≤ i ∧ i < p.n
  rotate_left
  · have hRe : R = .error 2 := by rw [← HR1.out, if_neg hi]
    refine (insistStar_no p i XL hi).mono ?_
    rintro e X ⟨rfl, hX⟩
    rw [hRe]
    exact ⟨rfl, rfl, BT hB hX⟩
  have HRi := Lib.hid HR1.out
  rw [if_pos hi] at HRi
  clear HR1
  obtain ⟨j, rfl⟩ := Int.eq_ofNat_of_zero_le hi.1
  have hj : j < ss.length := by rw [hok.nl]; have := hi.2; omega
  rw [show ((j : Nat) : Int).toNat = j by omega] at HRi
  refine (insistStar_ok p j XL hi.1 hi.2).mono ?_
  rintro e X2 ⟨rfl, hx2⟩
  have hbp_ := hbp.grown hx2
  clear hbp
  have hbp := hbp_
  clear hbp_
  have hm_ := hm.below hx2 (Nat.le_refl _)
  clear hm
  have hm := hm_
  clear hm_
  have hc_ := cellB hc hx2
  clear hc
  have hc := hc_
  clear hc_
  have hsl_ := hsl.below hx2 hTlt
  clear hsl
  have hsl := hsl_
  clear hsl_
  have hTlt_ := Nat.lt_of_lt_of_le hTlt hx2.size
  clear hTlt
  have hTlt := hTlt_
  clear hTlt_
  have hB_ := BT hB hx2
  clear hB
  have hB := hB_
  clear hB_
  have hL_ := hL.grown hL.lt hx2
  clear hL
  have hL := hL_
  clear hL_
  clear hx2
  unfold tellK at HRi
  clear hi
  obtain ⟨b0, b1, b2, b3, b4, b5, b6, b7, b8, b9, b10⟩ := id hL
  go_wp2_with fail
  clear b0 b1 b2 b3 b4 b5 b6 b7 b8 b9 b10
  by_cases ht : trA p ss = []
  · have hRe : R = .error 10 := by rw [← HRi.out, if_pos ht]
    refine (truths_no p ss X2 hm hok ht).mono ?_
    rintro e X ⟨rfl, hX⟩
    rw [hRe]
    exact ⟨rfl, rfl, BT hB hX⟩
  have HR2 := Lib.hid HRi.out
  rw [if_neg ht] at HR2
  clear HRi
  refine (truths_ok p ss X2 hm hok ht).mono ?_
  rintro e X3 ⟨mb, ⟨rfl, hO⟩, hmb, hx3⟩
  have hbp_ := hbp.grown hx3
  clear hbp
  have hbp := hbp_
  clear hbp_
  have hm_ := hm.below hx3 (Nat.le_refl _)
  clear hm
  have hm := hm_
  clear hm_
  have hc_ := cellB hc hx3
  clear hc
  have hc := hc_
  clear hc_
  have hsl_ := hsl.below hx3 hTlt
  clear hsl
  have hsl := hsl_
  clear hsl_
  have hTlt_ := Nat.lt_of_lt_of_le hTlt hx3.size
  clear hTlt
  have hTlt := hTlt_
  clear hTlt_
  have hB_ := BT hB hx3
  clear hB
  have hB := hB_
  clear hB_
  have hL_ := hL.grown hL.lt hx3
  clear hL
  have hL := hL_
  clear hL_
  clear hx3
  unfold truV sideV
  simp only [List.append_toArray, List.cons_append, List.nil_append]
  obtain ⟨XT, hXT⟩ : ∃ X, X3.alloc (.cells #[.int .i64 p.lo, .int .i64 p.hi, .slice p.a p.n p.cap, .func (.func 133) #[] #[], .int .i64 p.lo, .int .i64 p.hi, .slice p.a p.n p.cap, .func (.func 134) #[] #[], .map (some mb)] 74) = X := ⟨_, rfl⟩
  have hQ := boxT_new X3 p mb
  rw [hXT] at hQ
  have hxT : Below X3.heap.size X3 XT := by rw [← hXT]; exact newB _ _
  have hbp_ := hbp.grown hxT
  clear hbp
  have hbp := hbp_
  clear hbp_
  have hm_ := hm.below hxT (Nat.le_refl _)
  clear hm
  have hm := hm_
  clear hm_
  have hc_ := cellB hc hxT
  clear hc
  have hc := hc_
  clear hc_
  have hsl_ := hsl.below hxT hTlt
  clear hsl
  have hsl := hsl_
  clear hsl_
  have hTlt_ := Nat.lt_of_lt_of_le hTlt hxT.size
  clear hTlt
  have hTlt := hTlt_
  clear hTlt_
  have hB_ := BT hB hxT
  clear hB
  have hB := hB_
  clear hB_
  have hL_ := hL.grown hL.lt hxT
  clear hL
  have hL := hL_
  clear hL_
  have hO_ := hO.kept (gB hxT none) (by simp)
  clear hO
  have hO := hO_
  clear hO_
  clear hxT
  obtain ⟨b0, b1, b2, b3, b4, b5, b6, b7, b8, b9, b10⟩ := id hL
  go_wp2_with fail
  clear hXT b0 b1 b2 b3 b4 b5 b6 b7 b8 b9 b10
  generalize X3.heap.size = H at *
  have hn12 : p.n ≤ 12 := by have := hok.n10; omega
  by_cases hkn : knownTo ss p.n = 0
  · have hRe : R = .error 12 := by rw [← HR2.out, if_pos hkn]
    refine (insistKnown_no p ss XT hm hn12 hkn).mono ?_
    rintro e X ⟨rfl, hX⟩
    rw [hRe]
    exact ⟨rfl, rfl, BT hB hX⟩
  have HR3 := Lib.hid HR2.out
  rw [if_neg hkn] at HR3
  clear HR2
  refine (insistKnown_ok p ss XT hm hn12 hkn).mono ?_
  rintro e X4 ⟨rfl, hx4⟩
  have hbp_ := hbp.grown hx4
  clear hbp
  have hbp := hbp_
  clear hbp_
  have hm_ := hm.below hx4 (Nat.le_refl _)
  clear hm
  have hm := hm_
  clear hm_
  have hc_ := cellB hc hx4
  clear hc
  have hc := hc_
  clear hc_
  have hsl_ := hsl.below hx4 hTlt
  clear hsl
  have hsl := hsl_
  clear hsl_
  have hTlt_ := Nat.lt_of_lt_of_le hTlt hx4.size
  clear hTlt
  have hTlt := hTlt_
  clear hTlt_
  have hB_ := BT hB hx4
  clear hB
  have hB := hB_
  clear hB_
  have hL_ := hL.grown hL.lt hx4
  clear hL
  have hL := hL_
  clear hL_
  have hO_ := hO.kept (gB hx4 none) (by simp)
  clear hO
  have hO := hO_
  clear hO_
  have hQ_ := And.intro (hQ.1.grown hx4) (cellB hQ.2 hx4)
  clear hQ
  have hQ := hQ_
  clear hQ_
  clear hx4
  have hcallF : ∀ args (w : World), (callFunc 51 args).run Tryz.prog w = .ok (.enter 51 args) w := enters_of Tryz.func51 (by kernel_rfl) rfl
  obtain ⟨⟨t0, t1, t2, t3, t4, t5, t6, t7⟩, t8⟩ := id hQ
  go_wp2_with fail
  clear t0 t1 t2 t3 t4 t5 t6 t7 t8
  have hA := along_any p mb (trA p ss).length (trA p ss) (trL_apart p ss _) 51 #[.pointer (some ⟨C, 0, none⟩)] (fun d x => plS x.sc (x.lo d) (x.hi d) (ss.getD j default) d) X4 (enters_of Tryz.func51 (by kernel_rfl) rfl) hO (fun d x hx Y hY => by have hs := trL_ok hok hx; exact starC_any d x.sc (x.lo d) (x.hi d) p ss j C Y (hm.below hY (Nat.le_refl _)) hok hj (by have := hs.s0; omega) hs.s1 (hs.lo d) (hs.hi d) (cellB hc hY))
  have HR9 : Hid (alongR (kepL ((fun d x => plS x.sc (x.lo d) (x.hi d) (ss.getD j default) d) false) (trA p ss)) (kepL ((fun d x => plS x.sc (x.lo d) (x.hi d) (ss.getD j default) d) true) (trA p ss)) = R) := HR3.out
  obtain ⟨r, hr⟩ : ∃ r, alongR (kepL ((fun d x => plS x.sc (x.lo d) (x.hi d) (ss.getD j default) d) false) (trA p ss)) (kepL ((fun d x => plS x.sc (x.lo d) (x.hi d) (ss.getD j default) d) true) (trA p ss)) = r := ⟨_, rfl⟩
  have hfour := along_four (kepL ((fun d x => plS x.sc (x.lo d) (x.hi d) (ss.getD j default) d) false) (trA p ss)) (kepL ((fun d x => plS x.sc (x.lo d) (x.hi d) (ss.getD j default) d) true) (trA p ss))
  rw [hr] at hA hfour
  have hRr : R = r := by rw [← HR9.out, hr]
  have HRr := Lib.hid hRr
  clear hRr hr HR9
  unfold truV sideV at hA
  simp only [List.append_toArray, List.cons_append, List.nil_append] at hA
  cases r with
  | error c =>
    refine hA.mono ?_
    rintro e X ⟨rfl, hX⟩
    rw [HRr.out]
    exact ⟨rfl, rfl, BT hB hX⟩
  | ok v =>
    obtain ⟨va, vb, vc, vd, rfl⟩ := hfour v rfl
    refine hA.mono ?_
    rintro e X ⟨rfl, hX⟩
    have hsl9 := hsl.below hX hTlt
    have hB9 := BT hB hX
    obtain ⟨x0, q0, z0⟩ := hsl9.get 0 (by omega)
    obtain ⟨x1, q1, z1⟩ := hsl9.get 1 (by omega)
    obtain ⟨x2, q2, z2⟩ := hsl9.get 2 (by omega)
    obtain ⟨x3, q3, z3⟩ := hsl9.get 3 (by omega)
    have hfin := (BC (BC (BC (BC hB9 (w.heap.size) 0 (by omega) (.int .i64 va)) (w.heap.size) 1 (by omega) (.int .i64 vb)) (w.heap.size) 2 (by omega) (.int .i64 vc)) (w.heap.size) 3 (by omega) (.int .i64 vd))
    clear hX hsl9 hB9 hA
    go_wp2_with fail
    rw [HRr.out]
    exact bodyPost_ret (v := .agg #[.int .i64 va, .int .i64 vb, .int .i64 vc, .int .i64 vd]) (by simp [results, Tryz.results49, go_sem, q0, q1, q2, q3]) rfl ⟨rfl, hfin⟩
set_option maxRecDepth 100000 in
set_option maxHeartbeats 8000000 in
theorem apartT_any (B C D : Nat) (i j : Int) (p : Pl) (ss : List St) (w : World) (hbp : BoxP w B p) (hm : PlAt p ss w) (hc : w.cell? ⟨C, 0, none⟩ = some (.int .i64 i)) (hd : w.cell? ⟨D, 0, none⟩ = some (.int .i64 j)) :
    Calls Tryz.prog 55 #[.pointer (some ⟨B, 0, none⟩), .pointer (some ⟨C, 0, none⟩), .pointer (some ⟨D, 0, none⟩)] w (Out (apartR p ss i j) w) := by
  have hmf : ∀ (fn : Fn) (first cap : Array Value) (w : World), (Instr.makeFunc fn first cap).run Tryz.prog w = .ok (.func fn first cap) w := fun _ _ _ _ => rfl
  have hst := @store_fn Tryz.prog
  obtain ⟨R, hR⟩ : ∃ R, apartR p ss i j = R := ⟨_, rfl⟩
  rw [hR]
  unfold apartR at hR
  have HR := Lib.hid hR
  clear hR
  go_enter Tryz.func55, Tryz.ntmps55
  obtain ⟨W0, hW0⟩ : ∃ X, w.alloc (.cells #[.int .i64 0, .int .i64 0, .int .i64 0, .int .i64 0] 81) = X := ⟨_, rfl⟩
  have hsl : Slots w.heap.size 4 W0 := by
    rw [← hW0]; intro o ho
    have : o = 0 ∨ o = 1 ∨ o = 2 ∨ o = 3 := by omega
    rcases this with rfl | rfl | rfl | rfl <;> simp [go_sem]
  have hTlt : w.heap.size < W0.heap.size := by rw [← hW0]; simp
  have hB : Below w.heap.size w W0 := by rw [← hW0]; exact newB _ _
  have hx0 : Below w.heap.size w W0 := hB
  have hbp_ := hbp.grown hx0
  clear hbp
  have hbp := hbp_
  clear hbp_
  have hm_ := hm.below hx0 (Nat.le_refl _)
  clear hm
  have hm := hm_
  clear hm_
  have hc_ := cellB hc hx0
  clear hc
  have hc := hc_
  clear hc_
  have hd_ := cellB hd hx0
  clear hd
  have hd := hd_
  clear hd_
  clear hx0
  obtain ⟨b0, b1, b2⟩ := id hbp
  go_wp2_with fail
  clear hW0 b0 b1 b2
  cases hv : plB p ss
  · have hRe : R = .error 1 := by rw [← HR.out, hv]; rfl
    refine (lookAt_no p ss W0 hm hv).mono ?_
    rintro e X ⟨rfl, hX⟩
    rw [hRe]
    exact ⟨rfl, rfl, BT hB hX⟩
  have hok := plOk hm hv
  have HR1 := Lib.hid HR.out
  rw [hv, if_pos rfl] at HR1
  refine (lookAt_ok p ss W0 hm hv).mono ?_
  rintro e X1 ⟨rfl, hx1⟩
  have hbp_ := hbp.grown hx1
  clear hbp
  have hbp := hbp_
  clear hbp_
  have hm_ := hm.below hx1 (Nat.le_refl _)
  clear hm
  have hm := hm_
  clear hm_
  have hc_ := cellB hc hx1
  clear hc
  have hc := hc_
  clear hc_
  have hd_ := cellB hd hx1
  clear hd
  have hd := hd_
  clear hd_
  have hsl_ := hsl.below hx1 hTlt
  clear hsl
  have hsl := hsl_
  clear hsl_
  have hTlt_ := Nat.lt_of_lt_of_le hTlt hx1.size
  clear hTlt
  have hTlt := hTlt_
  clear hTlt_
  have hB_ := BT hB hx1
  clear hB
  have hB := hB_
  clear hB_
  clear hx1
  unfold lookV sideV
  simp only [List.append_toArray, List.cons_append, List.nil_append]
  clear HR hv
  obtain ⟨XL, hXL⟩ : ∃ X, X1.alloc (.cells #[.int .i64 p.lo, .int .i64 p.hi, .slice p.a p.n p.cap, .int .i64 p.lo, .int .i64 p.hi, .slice p.a p.n p.cap, .func (.func 133) #[] #[], .int .i64 p.lo, .int .i64 p.hi, .slice p.a p.n p.cap, .func (.func 134) #[] #[]] 70) = X := ⟨_, rfl⟩
  have hL : BoxL XL X1.heap.size p := by rw [← hXL]; exact boxL_newE X1 p
  have hxL : Below X1.heap.size X1 XL := by rw [← hXL]; exact newB _ _
  have hbp_ := hbp.grown hxL
  clear hbp
  have hbp := hbp_
  clear hbp_
  have hm_ := hm.below hxL (Nat.le_refl _)
  clear hm
  have hm := hm_
  clear hm_
  have hc_ := cellB hc hxL
  clear hc
  have hc := hc_
  clear hc_
  have hd_ := cellB hd hxL
  clear hd
  have hd := hd_
  clear hd_
  have hsl_ := hsl.below hxL hTlt
  clear hsl
  have hsl := hsl_
  clear hsl_
  have hTlt_ := Nat.lt_of_lt_of_le hTlt hxL.size
  clear hTlt
  have hTlt := hTlt_
  clear hTlt_
  have hB_ := BT hB hxL
  clear hB
  have hB := hB_
  clear hB_
  clear hxL
  obtain ⟨b0, b1, b2, b3, b4, b5, b6, b7, b8, b9, b10⟩ := id hL
  go_wp2_with fail
  clear hXL b0 b1 b2 b3 b4 b5 b6 b7 b8 b9 b10 
  generalize X1.heap.size = G at *
  by_cases hi : 0 ≤ i ∧ i < p.n
  rotate_left
  · have hRe : R = .error 2 := by rw [← HR1.out, if_neg hi]
    refine (insistStar_no p i XL hi).mono ?_
    rintro e X ⟨rfl, hX⟩
    rw [hRe]
    exact ⟨rfl, rfl, BT hB hX⟩
  have HRi := Lib.hid HR1.out
  rw [if_pos hi] at HRi
  clear HR1
  refine (insistStar_ok p i XL hi.1 hi.2).mono ?_
  rintro e X2 ⟨rfl, hx2⟩
  have hbp_ := hbp.grown hx2
  clear hbp
  have hbp := hbp_
  clear hbp_
  have hm_ := hm.below hx2 (Nat.le_refl _)
  clear hm
  have hm := hm_
  clear hm_
  have hc_ := cellB hc hx2
  clear hc
  have hc := hc_
  clear hc_
  have hd_ := cellB hd hx2
  clear hd
  have hd := hd_
  clear hd_
  have hsl_ := hsl.below hx2 hTlt
  clear hsl
  have hsl := hsl_
  clear hsl_
  have hTlt_ := Nat.lt_of_lt_of_le hTlt hx2.size
  clear hTlt
  have hTlt := hTlt_
  clear hTlt_
  have hB_ := BT hB hx2
  clear hB
  have hB := hB_
  clear hB_
  have hL_ := hL.grown hL.lt hx2
  clear hL
  have hL := hL_
  clear hL_
  clear hx2
  obtain ⟨b0, b1, b2, b3, b4, b5, b6, b7, b8, b9, b10⟩ := id hL
  go_wp2_with fail
  clear b0 b1 b2 b3 b4 b5 b6 b7 b8 b9 b10
  by_cases hj : 0 ≤ j ∧ j < p.n
  rotate_left
  · have hRe : R = .error 2 := by rw [← HRi.out, if_neg hj]
    refine (insistStar_no p j X2 hj).mono ?_
    rintro e X ⟨rfl, hX⟩
    rw [hRe]
    exact ⟨rfl, rfl, BT hB hX⟩
  have HRj := Lib.hid HRi.out
  rw [if_pos hj] at HRj
  clear HRi
  refine (insistStar_ok p j X2 hj.1 hj.2).mono ?_
  rintro e X3 ⟨rfl, hx3⟩
  have hbp_ := hbp.grown hx3
  clear hbp
  have hbp := hbp_
  clear hbp_
  have hm_ := hm.below hx3 (Nat.le_refl _)
  clear hm
  have hm := hm_
  clear hm_
  have hc_ := cellB hc hx3
  clear hc
  have hc := hc_
  clear hc_
  have hd_ := cellB hd hx3
  clear hd
  have hd := hd_
  clear hd_
  have hsl_ := hsl.below hx3 hTlt
  clear hsl
  have hsl := hsl_
  clear hsl_
  have hTlt_ := Nat.lt_of_lt_of_le hTlt hx3.size
  clear hTlt
  have hTlt := hTlt_
  clear hTlt_
  have hB_ := BT hB hx3
  clear hB
  have hB := hB_
  clear hB_
  have hL_ := hL.grown hL.lt hx3
  clear hL
  have hL := hL_
  clear hL_
  clear hx3
  obtain ⟨b0, b1, b2, b3, b4, b5, b6, b7, b8, b9, b10⟩ := id hL
  go_wp2_with fail
  clear b0 b1 b2 b3 b4 b5 b6 b7 b8 b9 b10
  unfold tellR at HRj
  by_cases ht : trA p ss = []
  · have hRe : R = .error 10 := by rw [← HRj.out, if_pos ht]
    refine (truths_no p ss X3 hm hok ht).mono ?_
    rintro e X ⟨rfl, hX⟩
    rw [hRe]
    exact ⟨rfl, rfl, BT hB hX⟩
  have HR2 := Lib.hid HRj.out
  rw [if_neg ht] at HR2
  clear HRj
  refine (truths_ok p ss X3 hm hok ht).mono ?_
  rintro e X4 ⟨mb, ⟨rfl, hO⟩, hmb, hx4⟩
  have hbp_ := hbp.grown hx4
  clear hbp
  have hbp := hbp_
  clear hbp_
  have hm_ := hm.below hx4 (Nat.le_refl _)
  clear hm
  have hm := hm_
  clear hm_
  have hc_ := cellB hc hx4
  clear hc
  have hc := hc_
  clear hc_
  have hd_ := cellB hd hx4
  clear hd
  have hd := hd_
  clear hd_
  have hsl_ := hsl.below hx4 hTlt
  clear hsl
  have hsl := hsl_
  clear hsl_
  have hTlt_ := Nat.lt_of_lt_of_le hTlt hx4.size
  clear hTlt
  have hTlt := hTlt_
  clear hTlt_
  have hB_ := BT hB hx4
  clear hB
  have hB := hB_
  clear hB_
  have hL_ := hL.grown hL.lt hx4
  clear hL
  have hL := hL_
  clear hL_
  clear hx4
  unfold truV sideV
  simp only [List.append_toArray, List.cons_append, List.nil_append]
  obtain ⟨XT, hXT⟩ : ∃ X, X4.alloc (.cells #[.int .i64 p.lo, .int .i64 p.hi, .slice p.a p.n p.cap, .func (.func 133) #[] #[], .int .i64 p.lo, .int .i64 p.hi, .slice p.a p.n p.cap, .func (.func 134) #[] #[], .map (some mb)] 74) = X := ⟨_, rfl⟩
  have hQ := boxT_new X4 p mb
  rw [hXT] at hQ
  have hxT : Below X4.heap.size X4 XT := by rw [← hXT]; exact newB _ _
  have hbp_ := hbp.grown hxT
  clear hbp
  have hbp := hbp_
  clear hbp_
  have hm_ := hm.below hxT (Nat.le_refl _)
  clear hm
  have hm := hm_
  clear hm_
  have hc_ := cellB hc hxT
  clear hc
  have hc := hc_
  clear hc_
  have hd_ := cellB hd hxT
  clear hd
  have hd := hd_
  clear hd_
  have hsl_ := hsl.below hxT hTlt
  clear hsl
  have hsl := hsl_
  clear hsl_
  have hTlt_ := Nat.lt_of_lt_of_le hTlt hxT.size
  clear hTlt
  have hTlt := hTlt_
  clear hTlt_
  have hB_ := BT hB hxT
  clear hB
  have hB := hB_
  clear hB_
  have hL_ := hL.grown hL.lt hxT
  clear hL
  have hL := hL_
  clear hL_
  have hO_ := hO.kept (gB hxT none) (by simp)
  clear hO
  have hO := hO_
  clear hO_
  clear hxT
  obtain ⟨ki, rfl⟩ := Int.eq_ofNat_of_zero_le hi.1
  obtain ⟨kj, rfl⟩ := Int.eq_ofNat_of_zero_le hj.1
  have hki : ki < ss.length := by rw [hok.nl]; have := hi.2; omega
  have hkj : kj < ss.length := by rw [hok.nl]; have := hj.2; omega
  rw [show ((ki : Nat) : Int).toNat = ki by omega, show ((kj : Nat) : Int).toNat = kj by omega] at HR2
  clear hi hj
  obtain ⟨⟨t0, t1, t2, t3, t4, t5, t6, t7⟩, t8⟩ := id hQ
  go_wp2_with fail
  clear t0 t1 t2 t3 t4 t5 t6 t7 t8 hXT
  have hA := along_any p mb (trA p ss).length (trA p ss) (trL_apart p ss _) 56 #[.pointer (some ⟨C, 0, none⟩), .pointer (some ⟨D, 0, none⟩)] (apartF ss ki kj) XT (enters_of Tryz.func56 (by kernel_rfl) rfl) hO (fun d x hx Y hY => by have hs := trL_ok hok hx; exact apartC_any d x.sc (x.lo d) (x.hi d) p ss ki kj C D Y (hm.below hY (Nat.le_refl _)) hok hki hkj (by have := hs.s0; omega) hs.s1 (hs.lo d) (hs.hi d) (cellB hc hY) (cellB hd hY) _ rfl)
  have HR9 : Hid (alongR (kepL ((apartF ss ki kj) false) (trA p ss)) (kepL ((apartF ss ki kj) true) (trA p ss)) = R) := HR2.out
  obtain ⟨r, hr⟩ : ∃ r, alongR (kepL ((apartF ss ki kj) false) (trA p ss)) (kepL ((apartF ss ki kj) true) (trA p ss)) = r := ⟨_, rfl⟩
  have hfour := along_four (kepL ((apartF ss ki kj) false) (trA p ss)) (kepL ((apartF ss ki kj) true) (trA p ss))
  rw [hr] at hA hfour
  have hRr : R = r := by rw [← HR9.out, hr]
  have HRr := Lib.hid hRr
  clear hRr hr HR9
  unfold truV sideV at hA
  simp only [List.append_toArray, List.cons_append, List.nil_append] at hA
  cases r with
  | error c =>
    refine hA.mono ?_
    rintro e X ⟨rfl, hX⟩
    rw [HRr.out]
    exact ⟨rfl, rfl, BT hB hX⟩
  | ok v =>
    obtain ⟨va, vb, vc, vd, rfl⟩ := hfour v rfl
    refine hA.mono ?_
    rintro e X ⟨rfl, hX⟩
    have hsl9 := hsl.below hX hTlt
    have hB9 := BT hB hX
    obtain ⟨x0, q0, z0⟩ := hsl9.get 0 (by omega)
    obtain ⟨x1, q1, z1⟩ := hsl9.get 1 (by omega)
    obtain ⟨x2, q2, z2⟩ := hsl9.get 2 (by omega)
    obtain ⟨x3, q3, z3⟩ := hsl9.get 3 (by omega)
    have hfin := (BC (BC (BC (BC hB9 (w.heap.size) 0 (by omega) (.int .i64 va)) (w.heap.size) 1 (by omega) (.int .i64 vb)) (w.heap.size) 2 (by omega) (.int .i64 vc)) (w.heap.size) 3 (by omega) (.int .i64 vd))
    clear hX hsl9 hB9 hA
    go_wp2_with fail
    rw [HRr.out]
    exact bodyPost_ret (v := .agg #[.int .i64 va, .int .i64 vb, .int .i64 vc, .int .i64 vd]) (by simp [results, Tryz.results55, go_sem, q0, q1, q2, q3]) rfl ⟨rfl, hfin⟩
end Go.Proofs.YtdkegkacpdkjgaaGreat
