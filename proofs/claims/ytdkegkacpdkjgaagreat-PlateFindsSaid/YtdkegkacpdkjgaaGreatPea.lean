/- Plate: what is asked of a direction, of all scales. -/
import Derived.Test.YtdkegkacpdkjgaaGreatPkp
import Derived.Maps.RangeWalk
namespace Go.Proofs.YtdkegkacpdkjgaaGreat
open Go.RowKit Go.Maps

def dirI (d : Bool) : Int := if d then 1 else 0
/-- A direction in all truths of a scale. -/
def viewV (p : Pl) (d : Bool) (sc lo hi : Int) : Array Value := sideV p (dirF d) ++ #[.int .i64 sc, .int .i64 lo, .int .i64 hi]
def Scl.lo (x : Scl) (d : Bool) : Int := if d then x.c else x.a
def Scl.hi (x : Scl) (d : Bool) : Int := if d then x.d else x.b
def EachOut (K mb n : Nat) (D : DataW Unit) (k : Int × Int × Bool) (w : World) (e : Ending) (w' : World) : Prop :=
  e = .returned (.tuple #[]) ∧ KepAt w' K k ∧ Below K w w' ∧ w'.ownsMap Tryz.prog 3 quadElem mb n D
theorem below_of_grown {K : Nat} {w w' : World} (h : w.grownBy w' (some K)) (hK : K ≤ w.heap.size) : Below K w w' := (Below.refl K w).grown h hK (fun k e => by cases e; exact Nat.le_refl _)

/-- The directions lie in a variable. -/
structure BoxT (X : World) (B : Nat) (p : Pl) : Prop where
  c0 : X.cell? ⟨B, 0, none⟩ = some (.int .i64 p.lo)
  c1 : X.cell? ⟨B, 1, none⟩ = some (.int .i64 p.hi)
  c2 : X.cell? ⟨B, 2, none⟩ = some (.slice p.a p.n p.cap)
  c3 : X.cell? ⟨B, 3, none⟩ = some (.func (.func 133) #[] #[])
  c4 : X.cell? ⟨B, 4, none⟩ = some (.int .i64 p.lo)
  c5 : X.cell? ⟨B, 5, none⟩ = some (.int .i64 p.hi)
  c6 : X.cell? ⟨B, 6, none⟩ = some (.slice p.a p.n p.cap)
  c7 : X.cell? ⟨B, 7, none⟩ = some (.func (.func 134) #[] #[])
theorem BoxT.lt {X : World} {B : Nat} {p : Pl} (k : BoxT X B p) : B < X.heap.size := World.block_lt_of_cell? _ _ k.c0
theorem BoxT.kept {X X' : World} {B : Nat} {p : Pl} (k : BoxT X B p) {row : Option Nat} (hg : X.grownBy X' row) (hr : some B ≠ row) : BoxT X' B p := by
  have e := hg.block B k.lt hr
  have ec : ∀ o, X'.cell? ⟨B, o, none⟩ = X.cell? ⟨B, o, none⟩ := fun o => World.cell?_of_block (a := ⟨B, o, none⟩) e
  exact ⟨(ec 0).trans k.c0, (ec 1).trans k.c1, (ec 2).trans k.c2, (ec 3).trans k.c3, (ec 4).trans k.c4, (ec 5).trans k.c5, (ec 6).trans k.c6, (ec 7).trans k.c7⟩
theorem BoxT.grown {X X' : World} {B : Nat} {p : Pl} (k : BoxT X B p) (hb : Below X.heap.size X X') : BoxT X' B p := k.kept (gB hb none) (by simp)
theorem ranges_grown {X X' : World} {b r n : Nat} {D : DataW Unit} {left : Lit → Bool} {cnt : Nat} (h : X.ranges Tryz.prog 3 quadElem b r n D left cnt) (hb : Below X.heap.size X X') : X'.ranges Tryz.prog 3 quadElem b r n D left cnt := h.kept (gB hb none) (by simp) (by simp)

theorem two_newP (w : World) (lo hi : Int) : (w.alloc (.cells #[.int .i64 lo, .int .i64 hi] 23)).cell? ⟨w.heap.size, 0, none⟩ = some (.int .i64 lo) ∧ (w.alloc (.cells #[.int .i64 lo, .int .i64 hi] 23)).frozen? ⟨w.heap.size, 0, none⟩ = false ∧
    (w.alloc (.cells #[.int .i64 lo, .int .i64 hi] 23)).cell? ⟨w.heap.size, 1, none⟩ = some (.int .i64 hi) ∧ (w.alloc (.cells #[.int .i64 lo, .int .i64 hi] 23)).frozen? ⟨w.heap.size, 1, none⟩ = false := ⟨by simp [go_sem], by simp, by simp [go_sem], by simp⟩
set_option maxRecDepth 100000 in
set_option maxHeartbeats 8000000 in
theorem each_any (p : Pl) (mb n K : Nat) (xs : List Scl) (ha : Apart xs) (d : Bool) (F : Nat) (caps : Array Value) (f : Scl → Int × Int) (w : World)
    (hcall : ∀ args (w : World), (callFunc F args).run Tryz.prog w = .ok (.enter F args) w)
    (hown : w.ownsMap Tryz.prog 3 quadElem mb n (mapD xs)) (hk : KepAt w K (0, 0, false)) (hKm : mb < K)
    (hask : ∀ x ∈ xs, ∀ Y, Below K w Y → Calls Tryz.prog F (#[.agg (viewV p d x.sc (x.lo d) (x.hi d))] ++ caps) Y (Ret (.agg #[.int .i64 (f x).1, .int .i64 (f x).2]) Y)) :
    Calls Tryz.prog 105 #[.agg (truV p mb), .int .i64 (dirI d), .func (.func F) #[] caps, .func (.func 106) #[.pointer (some ⟨K, 0, none⟩)] #[]] w (EachOut K mb n (mapD xs) (kepL f xs) w) := by
  have hlt := hk.lt
  have HA := Lib.hid hask
  have HX : Hid (Apart xs) := ha
  have hst := @store_fn Tryz.prog
  clear hask ha
  unfold truV sideV
  cases d
  · have hdi : dirI false = 0 := rfl
    rw [hdi]
    have hown1 := hown.alloc (.cells #[.int .i64 p.lo, .int .i64 p.hi, .slice p.a p.n p.cap, .func (.func 133) #[] #[], .int .i64 p.lo, .int .i64 p.hi, .slice p.a p.n p.cap, .func (.func 134) #[] #[], .map (some mb)] 74)
    have hbx0 : BoxT (w.alloc (.cells #[.int .i64 p.lo, .int .i64 p.hi, .slice p.a p.n p.cap, .func (.func 133) #[] #[], .int .i64 p.lo, .int .i64 p.hi, .slice p.a p.n p.cap, .func (.func 134) #[] #[], .map (some mb)] 74)) w.heap.size p := ⟨by simp [go_sem], by simp [go_sem], by simp [go_sem], by simp [go_sem], by simp [go_sem], by simp [go_sem], by simp [go_sem], by simp [go_sem]⟩
    have hB0 : Below K w (w.alloc (.cells #[.int .i64 p.lo, .int .i64 p.hi, .slice p.a p.n p.cap, .func (.func 133) #[] #[], .int .i64 p.lo, .int .i64 p.hi, .slice p.a p.n p.cap, .func (.func 134) #[] #[], .map (some mb)] 74)) := (newB _ _).mono (by omega)
    have hk0 := hk.grown (newB w (.cells #[.int .i64 p.lo, .int .i64 p.hi, .slice p.a p.n p.cap, .func (.func 133) #[] #[], .int .i64 p.lo, .int .i64 p.hi, .slice p.a p.n p.cap, .func (.func 134) #[] #[], .map (some mb)] 74))
    go_enter Tryz.func105, Tryz.ntmps105
    go_wp2_with (at_range; refine wpList_range_own _ rfl _ 72 rfl 3 81 keyed3 mapQ quadElem mb n (mapD xs) rfl hown1 ?_; intro w0 hrg0 hg0 hs0)
    go_frame
    have hbx0 := hbx0.kept hg0 (by simp)
    have hk0 := hk0.kept hg0 (by simp)
    have hB0 := hB0.grown hg0 (by simp; omega) (fun k e => by cases e)
    have hwl : w.heap.size + 1 < w0.heap.size := by rw [hs0]; simp
    have hrs : (w.alloc (.cells #[.int .i64 p.lo, .int .i64 p.hi, .slice p.a p.n p.cap, .func (.func 133) #[] #[], .int .i64 p.lo, .int .i64 p.hi, .slice p.a p.n p.cap, .func (.func 134) #[] #[], .map (some mb)] 74)).heap.size = w.heap.size + 1 := by simp
    rw [hrs] at hrg0 ⊢
    clear hown hown1 hk hrs hs0 hg0
    go_loopw [8] (fun _ wr => ∃ left cnt, wr.ranges Tryz.prog 3 quadElem mb (w.heap.size + 1) n (mapD xs) left cnt ∧ KepAt wr K (kepL f (gone left xs)) ∧ Below K w wr ∧ BoxT wr w.heap.size p) (fun _ wr => wr.rangeLeft mb (w.heap.size + 1))
    case atStart => exact ⟨_, _, hrg0, by rw [gone_start]; exact hk0, hB0, hbx0⟩
    case round =>
      obtain ⟨left, cnt, hrg, hkr, hBr, hbr⟩ := hrel
      clear hrg0 hk0 hB0 hbx0
      go_wp2_with (at_next; refine wpList_next_ranges _ rfl _ rfl 3 keyed3 quadElem (fun x : Int => .int .i64 x) (fun c : Int × Int × Int × Int => .agg #[.int .i64 c.1, .int .i64 c.2.1, .int .i64 c.2.2.1, .int .i64 c.2.2.2]) (fun key kl hkey => by obtain ⟨x, rfl, _⟩ := keyOf_int_inv Tryz.underlying3 hkey; exact ⟨x, rfl⟩) (fun v y hv => by obtain ⟨a, b, c, d, rfl, _⟩ := quadElem_inv hv; exact ⟨(a, b, c, d), rfl⟩) mb (w.heap.size + 1) n _ _ _ rfl hrg ?_ ?_)
      · intro _ hl0
        have he := gone_end hl0 xs
        rw [he] at hkr
        have hfin : EachOut K mb n (mapD xs) (kepL f xs) w (.returned (.tuple #[])) wr := ⟨rfl, hkr, hBr, hrg.owns⟩
        clear hkr hBr hrg he hbr hl0
        go_wp2_with fail
        go_end0
        exact hfin
      · intro s va vb vc vd kl y ps w1 cnt1 hkey hlk hv hat hrg1 hlt1 hg1 hs1 hen
        obtain ⟨s', e1, rfl, _⟩ := keyOf_int_inv Tryz.underlying3 hkey
        cases e1
        rw [quadElem_mk] at hv
        injection hv with hv
        injection hv with hv _
        obtain ⟨x, hx, rfl, hq⟩ := came HX.out hat
        obtain ⟨rfl, rfl, rfl, rfl⟩ := qd_inj (hv.trans hq)
        have hst1 := Lib.hid (kep_step (f := f) HX.out hx hlk)
        have HAX : Hid (∀ Y, Below K w Y → Calls Tryz.prog F (#[.agg #[.int .i64 p.lo, .int .i64 p.hi, .slice p.a p.n p.cap, .func (.func 133) #[] #[], .int .i64 x.sc, .int .i64 x.a, .int .i64 x.b]] ++ caps) Y (Ret (.agg #[.int .i64 (f x).1, .int .i64 (f x).2]) Y)) := HA.out x hx
        generalize hfx : f x = fx at hst1 HAX
        clear hfx
        obtain ⟨a, b⟩ := fx
        dsimp only at hst1 HAX
        have hkne : some K ≠ some (w.heap.size + 1) := fun e => by injection e with e; omega
        have hk1 := hkr.kept hg1 hkne
        have hB1 := hBr.grown hg1 (by have := hkr.lt; omega) (fun k e => by cases e; omega)
        have hb1 := hbr.kept hg1 (fun e => by injection e with e; omega)
        have hmeas : wr.rangeLeft mb (w.heap.size + 1) = cnt := hrg.left_eq
        have HM := Lib.hid hmeas
        clear hkr hBr hbr hg1 hv hq hat hkey hmeas hrg hs1 hlk
        go_wp2_with fail
        obtain ⟨Z, hZ⟩ : ∃ Z, w1.alloc (.cells #[.int .i64 x.a, .int .i64 x.b, .int .i64 x.c, .int .i64 x.d] 81) = Z := ⟨_, rfl⟩
        have hzb : Below w1.heap.size w1 Z := by rw [← hZ]; exact newB _ _
        have hq : Quad Z w1.heap.size x.a x.b x.c x.d := by rw [← hZ]; exact quad_new _ _ _ _ _ _
        rw [hZ]
        clear hZ hen
        have hkz := hk1.grown hzb
        have hBz := hB1.trans (hzb.mono (by have := hk1.lt; omega))
        have hbz := hb1.grown hzb
        have hrz := ranges_grown hrg1 hzb
        clear hk1 hB1 hb1 hrg1 hzb
        generalize w1.heap.size = G at *
        have hS : Hid (∀ X, Below Z.heap.size Z X → X.cell? ⟨w.heap.size, 0, none⟩ = some (.int .i64 p.lo) ∧ X.cell? ⟨w.heap.size, 1, none⟩ = some (.int .i64 p.hi) ∧ X.cell? ⟨w.heap.size, 2, none⟩ = some (.slice p.a p.n p.cap) ∧ X.cell? ⟨w.heap.size, 3, none⟩ = some (.func (.func 133) #[] #[]) ∧ X.cell? ⟨G, 0, none⟩ = some (.int .i64 x.a) ∧ X.cell? ⟨G, 1, none⟩ = some (.int .i64 x.b)) := fun X hX => ⟨cellB hbz.c0 hX, cellB hbz.c1 hX, cellB hbz.c2 hX, cellB hbz.c3 hX, cellB hq.c0 hX, cellB hq.c1 hX⟩
        refine wp_region_fork [(0, true), (1, true), (2, true), (3, true), (4, true), (5, true), (6, true), (7, true), (8, true), (9, true)] [(10, false), (11, false), (12, false)] [(11, false), (10, false), (12, false)] (fun X => X.cell? ⟨w.heap.size, 0, none⟩ = some (.int .i64 p.lo) ∧ X.cell? ⟨w.heap.size, 1, none⟩ = some (.int .i64 p.hi) ∧ X.cell? ⟨w.heap.size, 2, none⟩ = some (.slice p.a p.n p.cap) ∧ X.cell? ⟨w.heap.size, 3, none⟩ = some (.func (.func 133) #[] #[]) ∧ X.cell? ⟨G, 0, none⟩ = some (.int .i64 x.a) ∧ X.cell? ⟨G, 1, none⟩ = some (.int .i64 x.b)) (by kernel_rfl) (by kernel_rfl) (fun _ _ d _ _ h => by cases d <;> exact h) ⟨hbz.c0, hbz.c1, hbz.c2, hbz.c3, hq.c0, hq.c1⟩ ?_
        repeat (first | (refine seq_read rfl (by rfl) _ (fun w' hS => by (try dsimp only at hS); go_simp; (try with_reducible rfl)) ?_; (try simp only [Act.put, List.setIfInBounds_toArray, List.set_cons_zero, List.set_cons_succ])) | (refine seq_skip rfl (by rfl) ?_; (try simp only [Act.put, List.setIfInBounds_toArray, List.set_cons_zero, List.set_cons_succ])))
        refine seq_end ?_
        intro hSd
        have hz0 : Below Z.heap.size Z Z.drew := Below.drew (Below.refl _ _)
        have hBd := hBz.trans (hz0.mono (by have := hkz.lt; omega))
        refine ⟨?_, ?_⟩
        · refine seq_do rfl (by rfl) (fun K hK => ?_)
          go_simp
          refine (HAX.out _ hBd).mono ?_
          rintro e X1 ⟨rfl, hx1⟩
          have hx1 := BT hz0 hx1
          refine hK _ _ (hS.out _ hx1) ?_
          clear hK K
          (try simp only [Act.put, List.setIfInBounds_toArray, List.set_cons_zero, List.set_cons_succ])
          refine seq_do rfl (by rfl) (fun K hK => ?_)
          go_simp
          have hx2 := BA hx1 (.cells #[.int .i64 0, .int .i64 0] 23)
          refine hK _ _ (hS.out _ hx2) ?_
          clear hK K
          (try simp only [Act.put, List.setIfInBounds_toArray, List.set_cons_zero, List.set_cons_succ])
          refine seq_last rfl (by rfl) (by kernel_rfl) (fun K hK => ?_)
          go_simp
          refine hK _ _ ?_
          clear hK K
          first | show Exit.inBlock _ _ Exit.normal _ _ | show Exit.then _ _ Exit.normal _ _ | skip
          have hzl := hx1.size
          have hzf : Below Z.heap.size Z (X1.alloc (.cells #[.int .i64 a, .int .i64 b] 23)) := BA hx1 _
          have d0 : (X1.alloc (.cells #[.int .i64 a, .int .i64 b] 23)).cell? ⟨X1.heap.size, 0, none⟩ = some (.int .i64 a) := by simp [go_sem]
          have d1 : (X1.alloc (.cells #[.int .i64 a, .int .i64 b] 23)).cell? ⟨X1.heap.size, 1, none⟩ = some (.int .i64 b) := by simp [go_sem]
          clear hx1 hx2 hS hSd hz0 hBd
          generalize X1.alloc (.cells #[.int .i64 a, .int .i64 b] 23) = Zf at *
          generalize X1.heap.size = H at *
          have hkf := hkz.grown hzf
          have hBf := hBz.trans (hzf.mono (by have := hkz.lt; omega))
          have hbf := hbz.grown hzf
          have hrf := ranges_grown hrz hzf
          clear hkz hBz hbz hrz hzf
          go_wp2_with fail
          refine (keep_any K _ a b _ hkf).mono ?_
          rintro e w9 ⟨rfl, hk9, hg9⟩
          have hB9 := hBf.grown hg9 (by have := hkf.lt; omega) (fun k e => by cases e; omega)
          have hb9 := hbf.kept hg9 (fun e => by injection e with e; omega)
          have hr9 := hrf.kept hg9 (fun e => by injection e with e; omega) (fun e => by injection e with e; omega)
          clear hkf hBf hbf hrf hg9 d0 d1
          go_wp2_with fail
          go_roundw
          case rel => exact ⟨_, cnt1, hr9, by rw [hst1.out]; exact hk9, hB9, hb9⟩
          case measure => rw [hr9.left_eq, HM.out]; omega
        · refine seq_do rfl (by rfl) (fun K hK => ?_)
          go_simp
          have hx2 : Below Z.heap.size Z (Z.alloc (.cells #[.int .i64 0, .int .i64 0] 23)).drew := Below.drew (newB Z (.cells #[.int .i64 0, .int .i64 0] 23))
          have hlh : Z.heap.size < (Z.alloc (.cells #[.int .i64 0, .int .i64 0] 23)).drew.heap.size := by simp
          have t0 : (Z.alloc (.cells #[.int .i64 0, .int .i64 0] 23)).drew.cell? ⟨Z.heap.size, 0, none⟩ = some (.int .i64 0) := (two_newP Z 0 0).1
          have g0 : (Z.alloc (.cells #[.int .i64 0, .int .i64 0] 23)).drew.frozen? ⟨Z.heap.size, 0, none⟩ = false := (two_newP Z 0 0).2.1
          have t1 : (Z.alloc (.cells #[.int .i64 0, .int .i64 0] 23)).drew.cell? ⟨Z.heap.size, 1, none⟩ = some (.int .i64 0) := (two_newP Z 0 0).2.2.1
          have g1 : (Z.alloc (.cells #[.int .i64 0, .int .i64 0] 23)).drew.frozen? ⟨Z.heap.size, 1, none⟩ = false := (two_newP Z 0 0).2.2.2
          refine hK _ _ (hS.out _ hx2) ?_
          clear hK K
          (try simp only [Act.put, List.setIfInBounds_toArray, List.set_cons_zero, List.set_cons_succ])
          have hBd := hBz.trans (hx2.mono (by have := hkz.lt; omega))
          generalize (Z.alloc (.cells #[.int .i64 0, .int .i64 0] 23)).drew = X0 at *
          refine seq_do rfl (by rfl) (fun K hK => ?_)
          go_simp
          refine (HAX.out _ hBd).mono ?_
          rintro e X1 ⟨rfl, hx1⟩
          have hx3 := BT hx2 hx1
          have t0 := cellB t0 hx1
          have t1 := cellB t1 hx1
          have g0 := (hx1.frozen (p := ⟨Z.heap.size, 0, none⟩) hlh).trans g0
          have g1 := (hx1.frozen (p := ⟨Z.heap.size, 1, none⟩) hlh).trans g1
          refine hK _ _ (hS.out _ hx3) ?_
          clear hK K
          (try simp only [Act.put, List.setIfInBounds_toArray, List.set_cons_zero, List.set_cons_succ])
          refine seq_last rfl (by rfl) (by kernel_rfl) (fun K hK => ?_)
          go_simp
          refine hK _ _ ?_
          clear hK K
          first | show Exit.inBlock _ _ Exit.normal _ _ | show Exit.then _ _ Exit.normal _ _ | skip
          have hzf : Below Z.heap.size Z ((X1.setCell ⟨Z.heap.size, 0, none⟩ (.int .i64 a)).setCell ⟨Z.heap.size, 1, none⟩ (.int .i64 b)) := BC (BC hx3 Z.heap.size 0 (Nat.le_refl _) _) Z.heap.size 1 (Nat.le_refl _) _
          have d0 : ((X1.setCell ⟨Z.heap.size, 0, none⟩ (.int .i64 a)).setCell ⟨Z.heap.size, 1, none⟩ (.int .i64 b)).cell? ⟨Z.heap.size, 0, none⟩ = some (.int .i64 a) := by
            rw [World.cell?_setCell_other _ _ _ _ (by simp)]; exact World.cell?_setCell_same _ _ _ t0
          have d1 : ((X1.setCell ⟨Z.heap.size, 0, none⟩ (.int .i64 a)).setCell ⟨Z.heap.size, 1, none⟩ (.int .i64 b)).cell? ⟨Z.heap.size, 1, none⟩ = some (.int .i64 b) := by
            refine World.cell?_setCell_same _ _ _ (u := (.int .i64 0)) ?_
            rw [World.cell?_setCell_other _ _ _ _ (by simp)]; exact t1
          clear hx1 hx2 hx3 hS hSd hz0 hBd t0 t1 g0 g1
          generalize (X1.setCell ⟨Z.heap.size, 0, none⟩ (.int .i64 a)).setCell ⟨Z.heap.size, 1, none⟩ (.int .i64 b) = Zf at *
          have hkf := hkz.grown hzf
          have hBf := hBz.trans (hzf.mono (by have := hkz.lt; omega))
          have hbf := hbz.grown hzf
          have hrf := ranges_grown hrz hzf
          clear hkz hBz hbz hrz hzf
          go_wp2_with fail
          refine (keep_any K _ a b _ hkf).mono ?_
          rintro e w9 ⟨rfl, hk9, hg9⟩
          have hB9 := hBf.grown hg9 (by have := hkf.lt; omega) (fun k e => by cases e; omega)
          have hb9 := hbf.kept hg9 (fun e => by injection e with e; omega)
          have hr9 := hrf.kept hg9 (fun e => by injection e with e; omega) (fun e => by injection e with e; omega)
          clear hkf hBf hbf hrf hg9 d0 d1
          go_wp2_with fail
          go_roundw
          case rel => exact ⟨_, cnt1, hr9, by rw [hst1.out]; exact hk9, hB9, hb9⟩
          case measure => rw [hr9.left_eq, HM.out]; omega
  · have hdi : dirI true = 1 := rfl
    rw [hdi]
    have hown1 := hown.alloc (.cells #[.int .i64 p.lo, .int .i64 p.hi, .slice p.a p.n p.cap, .func (.func 133) #[] #[], .int .i64 p.lo, .int .i64 p.hi, .slice p.a p.n p.cap, .func (.func 134) #[] #[], .map (some mb)] 74)
    have hbx0 : BoxT (w.alloc (.cells #[.int .i64 p.lo, .int .i64 p.hi, .slice p.a p.n p.cap, .func (.func 133) #[] #[], .int .i64 p.lo, .int .i64 p.hi, .slice p.a p.n p.cap, .func (.func 134) #[] #[], .map (some mb)] 74)) w.heap.size p := ⟨by simp [go_sem], by simp [go_sem], by simp [go_sem], by simp [go_sem], by simp [go_sem], by simp [go_sem], by simp [go_sem], by simp [go_sem]⟩
    have hB0 : Below K w (w.alloc (.cells #[.int .i64 p.lo, .int .i64 p.hi, .slice p.a p.n p.cap, .func (.func 133) #[] #[], .int .i64 p.lo, .int .i64 p.hi, .slice p.a p.n p.cap, .func (.func 134) #[] #[], .map (some mb)] 74)) := (newB _ _).mono (by omega)
    have hk0 := hk.grown (newB w (.cells #[.int .i64 p.lo, .int .i64 p.hi, .slice p.a p.n p.cap, .func (.func 133) #[] #[], .int .i64 p.lo, .int .i64 p.hi, .slice p.a p.n p.cap, .func (.func 134) #[] #[], .map (some mb)] 74))
    go_enter Tryz.func105, Tryz.ntmps105
    go_wp2_with (at_range; refine wpList_range_own _ rfl _ 72 rfl 3 81 keyed3 mapQ quadElem mb n (mapD xs) rfl hown1 ?_; intro w0 hrg0 hg0 hs0)
    go_frame
    have hbx0 := hbx0.kept hg0 (by simp)
    have hk0 := hk0.kept hg0 (by simp)
    have hB0 := hB0.grown hg0 (by simp; omega) (fun k e => by cases e)
    have hwl : w.heap.size + 1 < w0.heap.size := by rw [hs0]; simp
    have hrs : (w.alloc (.cells #[.int .i64 p.lo, .int .i64 p.hi, .slice p.a p.n p.cap, .func (.func 133) #[] #[], .int .i64 p.lo, .int .i64 p.hi, .slice p.a p.n p.cap, .func (.func 134) #[] #[], .map (some mb)] 74)).heap.size = w.heap.size + 1 := by simp
    rw [hrs] at hrg0 ⊢
    clear hown hown1 hk hrs hs0 hg0
    go_loopw [8] (fun _ wr => ∃ left cnt, wr.ranges Tryz.prog 3 quadElem mb (w.heap.size + 1) n (mapD xs) left cnt ∧ KepAt wr K (kepL f (gone left xs)) ∧ Below K w wr ∧ BoxT wr w.heap.size p) (fun _ wr => wr.rangeLeft mb (w.heap.size + 1))
    case atStart => exact ⟨_, _, hrg0, by rw [gone_start]; exact hk0, hB0, hbx0⟩
    case round =>
      obtain ⟨left, cnt, hrg, hkr, hBr, hbr⟩ := hrel
      clear hrg0 hk0 hB0 hbx0
      go_wp2_with (at_next; refine wpList_next_ranges _ rfl _ rfl 3 keyed3 quadElem (fun x : Int => .int .i64 x) (fun c : Int × Int × Int × Int => .agg #[.int .i64 c.1, .int .i64 c.2.1, .int .i64 c.2.2.1, .int .i64 c.2.2.2]) (fun key kl hkey => by obtain ⟨x, rfl, _⟩ := keyOf_int_inv Tryz.underlying3 hkey; exact ⟨x, rfl⟩) (fun v y hv => by obtain ⟨a, b, c, d, rfl, _⟩ := quadElem_inv hv; exact ⟨(a, b, c, d), rfl⟩) mb (w.heap.size + 1) n _ _ _ rfl hrg ?_ ?_)
      · intro _ hl0
        have he := gone_end hl0 xs
        rw [he] at hkr
        have hfin : EachOut K mb n (mapD xs) (kepL f xs) w (.returned (.tuple #[])) wr := ⟨rfl, hkr, hBr, hrg.owns⟩
        clear hkr hBr hrg he hbr hl0
        go_wp2_with fail
        go_end0
        exact hfin
      · intro s va vb vc vd kl y ps w1 cnt1 hkey hlk hv hat hrg1 hlt1 hg1 hs1 hen
        obtain ⟨s', e1, rfl, _⟩ := keyOf_int_inv Tryz.underlying3 hkey
        cases e1
        rw [quadElem_mk] at hv
        injection hv with hv
        injection hv with hv _
        obtain ⟨x, hx, rfl, hq⟩ := came HX.out hat
        obtain ⟨rfl, rfl, rfl, rfl⟩ := qd_inj (hv.trans hq)
        have hst1 := Lib.hid (kep_step (f := f) HX.out hx hlk)
        have HAX : Hid (∀ Y, Below K w Y → Calls Tryz.prog F (#[.agg #[.int .i64 p.lo, .int .i64 p.hi, .slice p.a p.n p.cap, .func (.func 134) #[] #[], .int .i64 x.sc, .int .i64 x.c, .int .i64 x.d]] ++ caps) Y (Ret (.agg #[.int .i64 (f x).1, .int .i64 (f x).2]) Y)) := HA.out x hx
        generalize hfx : f x = fx at hst1 HAX
        clear hfx
        obtain ⟨a, b⟩ := fx
        dsimp only at hst1 HAX
        have hkne : some K ≠ some (w.heap.size + 1) := fun e => by injection e with e; omega
        have hk1 := hkr.kept hg1 hkne
        have hB1 := hBr.grown hg1 (by have := hkr.lt; omega) (fun k e => by cases e; omega)
        have hb1 := hbr.kept hg1 (fun e => by injection e with e; omega)
        have hmeas : wr.rangeLeft mb (w.heap.size + 1) = cnt := hrg.left_eq
        have HM := Lib.hid hmeas
        clear hkr hBr hbr hg1 hv hq hat hkey hmeas hrg hs1 hlk
        go_wp2_with fail
        obtain ⟨Z, hZ⟩ : ∃ Z, w1.alloc (.cells #[.int .i64 x.a, .int .i64 x.b, .int .i64 x.c, .int .i64 x.d] 81) = Z := ⟨_, rfl⟩
        have hzb : Below w1.heap.size w1 Z := by rw [← hZ]; exact newB _ _
        have hq : Quad Z w1.heap.size x.a x.b x.c x.d := by rw [← hZ]; exact quad_new _ _ _ _ _ _
        rw [hZ]
        clear hZ hen
        have hkz := hk1.grown hzb
        have hBz := hB1.trans (hzb.mono (by have := hk1.lt; omega))
        have hbz := hb1.grown hzb
        have hrz := ranges_grown hrg1 hzb
        clear hk1 hB1 hb1 hrg1 hzb
        generalize w1.heap.size = G at *
        have hS : Hid (∀ X, Below Z.heap.size Z X → X.cell? ⟨w.heap.size, 4, none⟩ = some (.int .i64 p.lo) ∧ X.cell? ⟨w.heap.size, 5, none⟩ = some (.int .i64 p.hi) ∧ X.cell? ⟨w.heap.size, 6, none⟩ = some (.slice p.a p.n p.cap) ∧ X.cell? ⟨w.heap.size, 7, none⟩ = some (.func (.func 134) #[] #[]) ∧ X.cell? ⟨G, 2, none⟩ = some (.int .i64 x.c) ∧ X.cell? ⟨G, 3, none⟩ = some (.int .i64 x.d)) := fun X hX => ⟨cellB hbz.c4 hX, cellB hbz.c5 hX, cellB hbz.c6 hX, cellB hbz.c7 hX, cellB hq.c2 hX, cellB hq.c3 hX⟩
        refine wp_region_fork [(0, true), (1, true), (2, true), (3, true), (4, true), (5, true), (6, true), (7, true), (8, true), (9, true)] [(10, false), (11, false), (12, false)] [(11, false), (10, false), (12, false)] (fun X => X.cell? ⟨w.heap.size, 4, none⟩ = some (.int .i64 p.lo) ∧ X.cell? ⟨w.heap.size, 5, none⟩ = some (.int .i64 p.hi) ∧ X.cell? ⟨w.heap.size, 6, none⟩ = some (.slice p.a p.n p.cap) ∧ X.cell? ⟨w.heap.size, 7, none⟩ = some (.func (.func 134) #[] #[]) ∧ X.cell? ⟨G, 2, none⟩ = some (.int .i64 x.c) ∧ X.cell? ⟨G, 3, none⟩ = some (.int .i64 x.d)) (by kernel_rfl) (by kernel_rfl) (fun _ _ d _ _ h => by cases d <;> exact h) ⟨hbz.c4, hbz.c5, hbz.c6, hbz.c7, hq.c2, hq.c3⟩ ?_
        repeat (first | (refine seq_read rfl (by rfl) _ (fun w' hS => by (try dsimp only at hS); go_simp; (try with_reducible rfl)) ?_; (try simp only [Act.put, List.setIfInBounds_toArray, List.set_cons_zero, List.set_cons_succ])) | (refine seq_skip rfl (by rfl) ?_; (try simp only [Act.put, List.setIfInBounds_toArray, List.set_cons_zero, List.set_cons_succ])))
        refine seq_end ?_
        intro hSd
        have hz0 : Below Z.heap.size Z Z.drew := Below.drew (Below.refl _ _)
        have hBd := hBz.trans (hz0.mono (by have := hkz.lt; omega))
        refine ⟨?_, ?_⟩
        · refine seq_do rfl (by rfl) (fun K hK => ?_)
          go_simp
          refine (HAX.out _ hBd).mono ?_
          rintro e X1 ⟨rfl, hx1⟩
          have hx1 := BT hz0 hx1
          refine hK _ _ (hS.out _ hx1) ?_
          clear hK K
          (try simp only [Act.put, List.setIfInBounds_toArray, List.set_cons_zero, List.set_cons_succ])
          refine seq_do rfl (by rfl) (fun K hK => ?_)
          go_simp
          have hx2 := BA hx1 (.cells #[.int .i64 0, .int .i64 0] 23)
          refine hK _ _ (hS.out _ hx2) ?_
          clear hK K
          (try simp only [Act.put, List.setIfInBounds_toArray, List.set_cons_zero, List.set_cons_succ])
          refine seq_last rfl (by rfl) (by kernel_rfl) (fun K hK => ?_)
          go_simp
          refine hK _ _ ?_
          clear hK K
          first | show Exit.inBlock _ _ Exit.normal _ _ | show Exit.then _ _ Exit.normal _ _ | skip
          have hzl := hx1.size
          have hzf : Below Z.heap.size Z (X1.alloc (.cells #[.int .i64 a, .int .i64 b] 23)) := BA hx1 _
          have d0 : (X1.alloc (.cells #[.int .i64 a, .int .i64 b] 23)).cell? ⟨X1.heap.size, 0, none⟩ = some (.int .i64 a) := by simp [go_sem]
          have d1 : (X1.alloc (.cells #[.int .i64 a, .int .i64 b] 23)).cell? ⟨X1.heap.size, 1, none⟩ = some (.int .i64 b) := by simp [go_sem]
          clear hx1 hx2 hS hSd hz0 hBd
          generalize X1.alloc (.cells #[.int .i64 a, .int .i64 b] 23) = Zf at *
          generalize X1.heap.size = H at *
          have hkf := hkz.grown hzf
          have hBf := hBz.trans (hzf.mono (by have := hkz.lt; omega))
          have hbf := hbz.grown hzf
          have hrf := ranges_grown hrz hzf
          clear hkz hBz hbz hrz hzf
          go_wp2_with fail
          refine (keep_any K _ a b _ hkf).mono ?_
          rintro e w9 ⟨rfl, hk9, hg9⟩
          have hB9 := hBf.grown hg9 (by have := hkf.lt; omega) (fun k e => by cases e; omega)
          have hb9 := hbf.kept hg9 (fun e => by injection e with e; omega)
          have hr9 := hrf.kept hg9 (fun e => by injection e with e; omega) (fun e => by injection e with e; omega)
          clear hkf hBf hbf hrf hg9 d0 d1
          go_wp2_with fail
          go_roundw
          case rel => exact ⟨_, cnt1, hr9, by rw [hst1.out]; exact hk9, hB9, hb9⟩
          case measure => rw [hr9.left_eq, HM.out]; omega
        · refine seq_do rfl (by rfl) (fun K hK => ?_)
          go_simp
          have hx2 : Below Z.heap.size Z (Z.alloc (.cells #[.int .i64 0, .int .i64 0] 23)).drew := Below.drew (newB Z (.cells #[.int .i64 0, .int .i64 0] 23))
          have hlh : Z.heap.size < (Z.alloc (.cells #[.int .i64 0, .int .i64 0] 23)).drew.heap.size := by simp
          have t0 : (Z.alloc (.cells #[.int .i64 0, .int .i64 0] 23)).drew.cell? ⟨Z.heap.size, 0, none⟩ = some (.int .i64 0) := (two_newP Z 0 0).1
          have g0 : (Z.alloc (.cells #[.int .i64 0, .int .i64 0] 23)).drew.frozen? ⟨Z.heap.size, 0, none⟩ = false := (two_newP Z 0 0).2.1
          have t1 : (Z.alloc (.cells #[.int .i64 0, .int .i64 0] 23)).drew.cell? ⟨Z.heap.size, 1, none⟩ = some (.int .i64 0) := (two_newP Z 0 0).2.2.1
          have g1 : (Z.alloc (.cells #[.int .i64 0, .int .i64 0] 23)).drew.frozen? ⟨Z.heap.size, 1, none⟩ = false := (two_newP Z 0 0).2.2.2
          refine hK _ _ (hS.out _ hx2) ?_
          clear hK K
          (try simp only [Act.put, List.setIfInBounds_toArray, List.set_cons_zero, List.set_cons_succ])
          have hBd := hBz.trans (hx2.mono (by have := hkz.lt; omega))
          generalize (Z.alloc (.cells #[.int .i64 0, .int .i64 0] 23)).drew = X0 at *
          refine seq_do rfl (by rfl) (fun K hK => ?_)
          go_simp
          refine (HAX.out _ hBd).mono ?_
          rintro e X1 ⟨rfl, hx1⟩
          have hx3 := BT hx2 hx1
          have t0 := cellB t0 hx1
          have t1 := cellB t1 hx1
          have g0 := (hx1.frozen (p := ⟨Z.heap.size, 0, none⟩) hlh).trans g0
          have g1 := (hx1.frozen (p := ⟨Z.heap.size, 1, none⟩) hlh).trans g1
          refine hK _ _ (hS.out _ hx3) ?_
          clear hK K
          (try simp only [Act.put, List.setIfInBounds_toArray, List.set_cons_zero, List.set_cons_succ])
          refine seq_last rfl (by rfl) (by kernel_rfl) (fun K hK => ?_)
          go_simp
          refine hK _ _ ?_
          clear hK K
          first | show Exit.inBlock _ _ Exit.normal _ _ | show Exit.then _ _ Exit.normal _ _ | skip
          have hzf : Below Z.heap.size Z ((X1.setCell ⟨Z.heap.size, 0, none⟩ (.int .i64 a)).setCell ⟨Z.heap.size, 1, none⟩ (.int .i64 b)) := BC (BC hx3 Z.heap.size 0 (Nat.le_refl _) _) Z.heap.size 1 (Nat.le_refl _) _
          have d0 : ((X1.setCell ⟨Z.heap.size, 0, none⟩ (.int .i64 a)).setCell ⟨Z.heap.size, 1, none⟩ (.int .i64 b)).cell? ⟨Z.heap.size, 0, none⟩ = some (.int .i64 a) := by
            rw [World.cell?_setCell_other _ _ _ _ (by simp)]; exact World.cell?_setCell_same _ _ _ t0
          have d1 : ((X1.setCell ⟨Z.heap.size, 0, none⟩ (.int .i64 a)).setCell ⟨Z.heap.size, 1, none⟩ (.int .i64 b)).cell? ⟨Z.heap.size, 1, none⟩ = some (.int .i64 b) := by
            refine World.cell?_setCell_same _ _ _ (u := (.int .i64 0)) ?_
            rw [World.cell?_setCell_other _ _ _ _ (by simp)]; exact t1
          clear hx1 hx2 hx3 hS hSd hz0 hBd t0 t1 g0 g1
          generalize (X1.setCell ⟨Z.heap.size, 0, none⟩ (.int .i64 a)).setCell ⟨Z.heap.size, 1, none⟩ (.int .i64 b) = Zf at *
          have hkf := hkz.grown hzf
          have hBf := hBz.trans (hzf.mono (by have := hkz.lt; omega))
          have hbf := hbz.grown hzf
          have hrf := ranges_grown hrz hzf
          clear hkz hBz hbz hrz hzf
          go_wp2_with fail
          refine (keep_any K _ a b _ hkf).mono ?_
          rintro e w9 ⟨rfl, hk9, hg9⟩
          have hB9 := hBf.grown hg9 (by have := hkf.lt; omega) (fun k e => by cases e; omega)
          have hb9 := hbf.kept hg9 (fun e => by injection e with e; omega)
          have hr9 := hrf.kept hg9 (fun e => by injection e with e; omega) (fun e => by injection e with e; omega)
          clear hkf hBf hbf hrf hg9 d0 d1
          go_wp2_with fail
          go_roundw
          case rel => exact ⟨_, cnt1, hr9, by rw [hst1.out]; exact hk9, hB9, hb9⟩
          case measure => rw [hr9.left_eq, HM.out]; omega
end Go.Proofs.YtdkegkacpdkjgaaGreat
