/- The reference: what settings of a set tell of an image. -/
import Derived.Test.YtmfbkgdlfackcaaRtr
import Derived.Test.YtmfbkgdlfackcaaApi
namespace Go.Proofs.Ytmfbkgdlfackcaa
open Go.RowKit

def mxI (a b : Int) : Int := if a < b then b else a
def mnI (a b : Int) : Int := if b < a then b else a
/-- What the first settings tell: the greatest of the lower ends, the least of the upper ones. -/
def toldTo (ts : List Tell) (set im : Int) (rv : Bool) : Nat → Int × Int
  | 0 => (-1099511627776, 1099511627776)
  | k + 1 => if hasB set k && ((ts.getD k dfl).2.1 == im) && ((ts.getD k dfl).1 == rv) then (mxI (toldTo ts set im rv k).1 (ts.getD k dfl).2.2.1, mnI (toldTo ts set im rv k).2 (ts.getD k dfl).2.2.2) else toldTo ts set im rv k

/-- What lies there while it is told. -/
structure Td (w X : World) (B : Nat) (h : Hd) (lo hi : Int) : Prop where
  c0 : X.cell? ⟨B, 0, none⟩ = some (.slice h.a h.n h.cap)
  c1 : X.cell? ⟨B, 1, none⟩ = some (.int .i64 h.eLo)
  c2 : X.cell? ⟨B, 2, none⟩ = some (.int .i64 h.eHi)
  c3 : X.cell? ⟨B, 3, none⟩ = some (.int .i64 h.images)
  c4 : X.cell? ⟨B, 4, none⟩ = some (.int .i64 h.sLo)
  c5 : X.cell? ⟨B, 5, none⟩ = some (.int .i64 h.sHi)
  c6 : X.cell? ⟨B, 6, none⟩ = some (.slice h.sa h.ns h.scap)
  below : Below w.heap.size w X
  slots : Slots (B + 1) 2 X
  lo : X.cell? ⟨B + 1 + 1, 0, none⟩ = some (.int .i64 lo)
  hi : X.cell? ⟨B + 1 + 1, 1, none⟩ = some (.int .i64 hi)
  f0 : X.frozen? ⟨B + 1 + 1, 0, none⟩ = false
  f1 : X.frozen? ⟨B + 1 + 1, 1, none⟩ = false
  base : w.heap.size ≤ B
theorem Td.lt {w X : World} {B : Nat} {h : Hd} {lo hi : Int} (k : Td w X B h lo hi) : B + 1 + 1 < X.heap.size := World.block_lt_of_cell? _ _ k.lo
theorem Td.grown {w X X' : World} {B : Nat} {h : Hd} {lo hi : Int} (k : Td w X B h lo hi) (hb : Below X.heap.size X X') : Td w X' B h lo hi := by
  have hlt := k.lt
  exact ⟨cellB k.c0 hb, cellB k.c1 hb, cellB k.c2 hb, cellB k.c3 hb, cellB k.c4 hb, cellB k.c5 hb, cellB k.c6 hb, BT k.below hb, k.slots.below hb (by omega), cellB k.lo hb, cellB k.hi hb,
    (hb.frozen (p := ⟨B + 1 + 1, 0, none⟩) hlt).trans k.f0, (hb.frozen (p := ⟨B + 1 + 1, 1, none⟩) hlt).trans k.f1, k.base⟩
theorem Td.put {w X : World} {B : Nat} {h : Hd} {lo hi : Int} (k : Td w X B h lo hi) (lo' hi' : Int) : Td w ((X.setCell ⟨B + 1 + 1, 0, none⟩ (.int .i64 lo')).setCell ⟨B + 1 + 1, 1, none⟩ (.int .i64 hi')) B h lo' hi' := by
  have hx : BX (B + 1 + 1) X ((X.setCell ⟨B + 1 + 1, 0, none⟩ (.int .i64 lo')).setCell ⟨B + 1 + 1, 1, none⟩ (.int .i64 hi')) := (BX.set _ _ _ _).trans (BX.set _ _ _ _)
  have hlt := k.lt
  have hbase := k.base
  have hs := k.below.size
  have c : ∀ o v, X.cell? ⟨B, o, none⟩ = some v → ((X.setCell ⟨B + 1 + 1, 0, none⟩ (.int .i64 lo')).setCell ⟨B + 1 + 1, 1, none⟩ (.int .i64 hi')).cell? ⟨B, o, none⟩ = some v := fun o v hv => (hx.cell B o (by omega) (by omega)).trans hv
  refine ⟨c _ _ k.c0, c _ _ k.c1, c _ _ k.c2, c _ _ k.c3, c _ _ k.c4, c _ _ k.c5, c _ _ k.c6, BX.below k.below hx (by omega) (by omega), hx.slots k.slots (by omega) (by omega), ?_, ?_, ?_, ?_, k.base⟩
  · rw [World.cell?_setCell_other _ _ _ _ (by simp), World.cell?_setCell_same _ _ _ k.lo]
  · refine World.cell?_setCell_same _ _ _ (u := .int .i64 hi) ?_
    rw [World.cell?_setCell_other _ _ _ _ (by simp)]; exact k.hi
  · rw [World.frozen?_setCell, World.frozen?_setCell]; exact k.f0
  · rw [World.frozen?_setCell, World.frozen?_setCell]; exact k.f1

set_option maxRecDepth 100000 in
set_option maxHeartbeats 4000000 in
theorem told_anyR (h : Hd) (xs : List (Int × Int)) (ss : List Sett) (set im : Int) (rv : Bool) (w : World) (hm : HasM w h xs ss) (hv : validH h xs ss = true) (hs : 0 ≤ set ∧ set ≤ 1000000) :
    Calls Try.prog 88 #[h.val, .int .i64 set, .int .i64 im, .bool rv] w (Ret (.agg #[.int .i64 (toldTo (tellsOf xs h.eLo h.eHi ss) set im rv ss.length).1, .int .i64 (toldTo (tellsOf xs h.eLo h.eHi ss) set im rv ss.length).2]) w) := by
  obtain ⟨va, vb, vc, vd, ve, vf, vg⟩ := valid_has hv
  have HM := Lib.hid hm
  have HV := Lib.hid vg
  have HNS := Lib.hid hm.ns
  have hns : h.ns ≤ 12 := by rw [← hm.ns]; exact vf
  have hT0 : Hid (Td w (((w.alloc (.cells #[.slice h.a h.n h.cap, .int .i64 h.eLo, .int .i64 h.eHi, .int .i64 h.images, .int .i64 h.sLo, .int .i64 h.sHi, .slice h.sa h.ns h.scap] 29)).alloc (.cells #[.int .i64 0, .int .i64 0] 24)).alloc (.cells #[.int .i64 (-1099511627776), .int .i64 1099511627776] 24)) w.heap.size h (-1099511627776) 1099511627776) := by
    refine ⟨by simp [go_sem], by simp [go_sem], by simp [go_sem], by simp [go_sem], by simp [go_sem], by simp [go_sem], by simp [go_sem], by (repeat (first | assumption | exact Below.refl _ _ | refine BA ?_ _ | refine BC ?_ _ _ (by omega) _ | refine Below.drew ?_ | refine BT ?_ (by assumption))), ?_, by simp [go_sem], by simp [go_sem], by simp [go_sem], by simp [go_sem], Nat.le_refl _⟩
    intro o ho
    have : o = 0 ∨ o = 1 := by omega
    rcases this with rfl | rfl <;> simp [go_sem]
  have hn0 : (h.ns : Int) ≤ 12 := by omega
  have hn1 : (0 : Int) ≤ (h.ns : Int) := by omega
  have hn2 : h.ns ≤ 9223372036854775807 := by omega
  have HE : Hid (∀ k, toldTo (tellsOf xs h.eLo h.eHi ss) set im rv (k + 1) = if hasB set k && (((tellsOf xs h.eLo h.eHi ss).getD k dfl).2.1 == im) && (((tellsOf xs h.eLo h.eHi ss).getD k dfl).1 == rv) then (mxI (toldTo (tellsOf xs h.eLo h.eHi ss) set im rv k).1 ((tellsOf xs h.eLo h.eHi ss).getD k dfl).2.2.1, mnI (toldTo (tellsOf xs h.eLo h.eHi ss) set im rv k).2 ((tellsOf xs h.eLo h.eHi ss).getD k dfl).2.2.2) else toldTo (tellsOf xs h.eLo h.eHi ss) set im rv k) := fun _ => rfl
  have HG : Hid (∀ k, k < ss.length → (tellsOf xs h.eLo h.eHi ss).getD k dfl = tellOf xs h.eLo h.eHi (ss.getD k (0, 0, false))) := fun k hk => by simp [List.getD, tellsOf, hk]
  have H0 : Hid (toldTo (tellsOf xs h.eLo h.eHi ss) set im rv 0 = (-1099511627776, 1099511627776)) := rfl
  rw [hm.ns]
  clear hm hv vg
  generalize toldTo (tellsOf xs h.eLo h.eHi ss) set im rv = T at *
  unfold Hd.val
  go_enter Try.func88, Try.ntmps88
  go_wp2_with fail
  generalize hBw : w.heap.size = B at hT0 ⊢
  generalize ((w.alloc (.cells #[.slice h.a h.n h.cap, .int .i64 h.eLo, .int .i64 h.eHi, .int .i64 h.images, .int .i64 h.sLo, .int .i64 h.sHi, .slice h.sa h.ns h.scap] 29)).alloc (.cells #[.int .i64 0, .int .i64 0] 24)).alloc (.cells #[.int .i64 (-1099511627776), .int .i64 1099511627776] 24) = W at *
  clear hBw
  go_loopw [10] (fun i wr => ∃ k : Nat, k ≤ h.ns ∧ i = .int .i64 k ∧ Td w wr B h (T k).1 (T k).2) (fun i _ => h.ns - (intOf i).toNat)
  case atStart => exact ⟨0, by omega, rfl, by rw [H0.out]; exact hT0.out⟩
  case round =>
    obtain ⟨k, hk, rfl, hT⟩ := hrel
    have HT := Lib.hid hT; clear hT
    have hM := HM.out.below (Nat.le_refl _) HT.out.below
    have hk0 : (0 : Int) ≤ (k : Int) := by omega
    have hTb := HT.out.below
    have hbase := HT.out.base
    by_cases hlt : k < h.ns
    · rcases hM.st with hnil | ⟨b, o, hsa, hb, hc⟩
      · exfalso; have := HNS.out; rw [hnil] at this; simp at this; omega
      · have hkl : k < ss.length := by rw [HNS.out]; exact hlt
        obtain ⟨d0, d1, d2, _⟩ := hc k hkl
        obtain ⟨c0, c1, c2, c3, c4, c5, c6, _, _, t0, t1, _, _, _⟩ := HT.out
        rw [hsa] at c6
        have hE := HE.out k
        rw [HG.out k hkl] at hE
        have hmem : ss.getD k (0, 0, false) ∈ ss := by simp [List.getD, hkl]
        obtain ⟨g1, g2, g3⟩ := HV.out _ hmem
        clear hc hsa hmem
        generalize ss.getD k (0, 0, false) = s at *
        obtain ⟨sim, rd, srv⟩ := s
        dsimp only [tellOf] at d0 d1 d2 hE g1 g2 g3
        have htr : Hid (∀ Y, Below w.heap.size w Y → Calls Try.prog 56 #[.agg #[.slice h.a h.n h.cap, .int .i64 h.eLo, .int .i64 h.eHi], .int .i64 rd] Y (Ret (.agg #[.int .i64 (trav rd (xs.getD (rd / 1000).toNat (0, 0)).1 h.eLo), .int .i64 (trav rd (xs.getD (rd / 1000).toNat (0, 0)).2 h.eHi)]) Y)) := fun Y hY => by
          have hY' := HM.out.below (Nat.le_refl _) hY
          have := travels_any h.a h.cap xs h.eLo h.eHi rd Y hY'.sp (by omega) (by omega) vb ⟨g2, g3⟩
          rw [hY'.nx] at this; exact this
        generalize trav rd (xs.getD (rd / 1000).toNat (0, 0)).1 h.eLo = tl at *
        generalize trav rd (xs.getD (rd / 1000).toNat (0, 0)).2 h.eHi = th at *
        have HEE := Lib.hid hE; clear hE g3
        have hHas := Lib.hid (has_anyR set k hs (by omega))
        have hBlt : B < wr.heap.size := World.block_lt_of_cell? _ _ c0
        have hB2lt : B + 1 + 1 < wr.heap.size := World.block_lt_of_cell? _ _ t0
        clear hM
        cases hh : hasB set k
        · have HH := Lib.hid hh; clear hh
          go_wp2_with (refine (hHas.out _).mono ?_; rw [HH.out]; rintro e w4 ⟨rfl, hb4⟩)
          go_roundw
          case rel =>
            refine ⟨k + 1, by omega, by go_num, ?_⟩
            rw [HEE.out, HH.out]
            exact HT.out.grown (BT (newB _ _) hb4)
          case measure => simp [intOf]; omega
        · have HH := Lib.hid hh; clear hh
          by_cases him : sim = im
          · subst him
            cases srv <;> cases rv
            case false.false =>
              go_wp2_with fail
              refine (hHas.out _).mono ?_
              rw [HH.out]
              rintro e w4 ⟨rfl, hb4⟩
              have hb4' := BT (newB wr (.cells #[.int .i64 sim, .int .i64 rd, .bool false] 44)) hb4
              have HT4 := Lib.hid (HT.out.grown hb4')
              have d0' := (hb4.cell (p := ⟨wr.heap.size, 0, none⟩) (by simp)).trans (show (wr.alloc (.cells #[.int .i64 sim, .int .i64 rd, .bool false] 44)).cell? ⟨wr.heap.size, 0, none⟩ = some (.int .i64 sim) by simp [go_sem])
              have d1' := (hb4.cell (p := ⟨wr.heap.size, 1, none⟩) (by simp)).trans (show (wr.alloc (.cells #[.int .i64 sim, .int .i64 rd, .bool false] 44)).cell? ⟨wr.heap.size, 1, none⟩ = some (.int .i64 rd) by simp [go_sem])
              have d2' := (hb4.cell (p := ⟨wr.heap.size, 2, none⟩) (by simp)).trans (show (wr.alloc (.cells #[.int .i64 sim, .int .i64 rd, .bool false] 44)).cell? ⟨wr.heap.size, 2, none⟩ = some (.bool false) by simp [go_sem])
              clear d0 d1 d2 c0 c1 c2 c3 c4 c5 c6 t0 t1 hb4 hb4' hTb
              obtain ⟨c0, c1, c2, c3, c4, c5, c6, hb, _, _, _, _, _, _⟩ := HT4.out
              have ht := htr.out w4 hb
              go_wp2_with fail
              refine ht.mono ?_
              rintro e w5 ⟨rfl, hb5⟩
              have HT6 := Lib.hid (HT4.out.grown hb5)
              have hlt5 : B + 1 + 1 < w5.heap.size := HT6.out.lt
              clear ht c0 c1 c2 c3 c4 c5 c6 hb hb5 d0' d1' d2'
              obtain ⟨_, _, _, _, _, _, _, _, _, t0, t1, f0, f1, _⟩ := HT6.out
              obtain ⟨ml, hml⟩ : ∃ m, mxI (T k).1 tl = m := ⟨_, rfl⟩
              obtain ⟨mh, hmh⟩ : ∃ m, mnI (T k).2 th = m := ⟨_, rfl⟩
              have k1 : (if (T k).1 < tl then tl else (T k).1) = ml := hml
              have k2 : (if th < (T k).2 then th else (T k).2) = mh := hmh
              have hml' := Lib.hid hml
              have hmh' := Lib.hid hmh
              clear hml hmh
              go_wp2
              go_roundw
              case rel =>
                refine ⟨k + 1, by omega, by go_num, ?_⟩
                rw [HEE.out, HH.out]
                simp only [beq_self_eq_true, Bool.and_true, if_true]
                rw [hml'.out, hmh'.out]
                exact (HT6.out.put ml mh).grown (newB _ _)
              case measure => simp [intOf]; omega
            case true.true =>
              go_wp2_with fail
              refine (hHas.out _).mono ?_
              rw [HH.out]
              rintro e w4 ⟨rfl, hb4⟩
              have hb4' := BT (newB wr (.cells #[.int .i64 sim, .int .i64 rd, .bool true] 44)) hb4
              have HT4 := Lib.hid (HT.out.grown hb4')
              have d0' := (hb4.cell (p := ⟨wr.heap.size, 0, none⟩) (by simp)).trans (show (wr.alloc (.cells #[.int .i64 sim, .int .i64 rd, .bool true] 44)).cell? ⟨wr.heap.size, 0, none⟩ = some (.int .i64 sim) by simp [go_sem])
              have d1' := (hb4.cell (p := ⟨wr.heap.size, 1, none⟩) (by simp)).trans (show (wr.alloc (.cells #[.int .i64 sim, .int .i64 rd, .bool true] 44)).cell? ⟨wr.heap.size, 1, none⟩ = some (.int .i64 rd) by simp [go_sem])
              have d2' := (hb4.cell (p := ⟨wr.heap.size, 2, none⟩) (by simp)).trans (show (wr.alloc (.cells #[.int .i64 sim, .int .i64 rd, .bool true] 44)).cell? ⟨wr.heap.size, 2, none⟩ = some (.bool true) by simp [go_sem])
              clear d0 d1 d2 c0 c1 c2 c3 c4 c5 c6 t0 t1 hb4 hb4' hTb
              obtain ⟨c0, c1, c2, c3, c4, c5, c6, hb, _, _, _, _, _, _⟩ := HT4.out
              have ht := htr.out w4 hb
              go_wp2_with fail
              refine ht.mono ?_
              rintro e w5 ⟨rfl, hb5⟩
              have HT6 := Lib.hid (HT4.out.grown hb5)
              have hlt5 : B + 1 + 1 < w5.heap.size := HT6.out.lt
              clear ht c0 c1 c2 c3 c4 c5 c6 hb hb5 d0' d1' d2'
              obtain ⟨_, _, _, _, _, _, _, _, _, t0, t1, f0, f1, _⟩ := HT6.out
              obtain ⟨ml, hml⟩ : ∃ m, mxI (T k).1 tl = m := ⟨_, rfl⟩
              obtain ⟨mh, hmh⟩ : ∃ m, mnI (T k).2 th = m := ⟨_, rfl⟩
              have k1 : (if (T k).1 < tl then tl else (T k).1) = ml := hml
              have k2 : (if th < (T k).2 then th else (T k).2) = mh := hmh
              have hml' := Lib.hid hml
              have hmh' := Lib.hid hmh
              clear hml hmh
              go_wp2
              go_roundw
              case rel =>
                refine ⟨k + 1, by omega, by go_num, ?_⟩
                rw [HEE.out, HH.out]
                simp only [beq_self_eq_true, Bool.and_true, if_true]
                rw [hml'.out, hmh'.out]
                exact (HT6.out.put ml mh).grown (newB _ _)
              case measure => simp [intOf]; omega
            case false.true =>
              go_wp2_with fail
              refine (hHas.out _).mono ?_
              rw [HH.out]
              rintro e w4 ⟨rfl, hb4⟩
              have d0' := (hb4.cell (p := ⟨wr.heap.size, 0, none⟩) (by simp)).trans (show (wr.alloc (.cells #[.int .i64 sim, .int .i64 rd, .bool false] 44)).cell? ⟨wr.heap.size, 0, none⟩ = some (.int .i64 sim) by simp [go_sem])
              have d2' := (hb4.cell (p := ⟨wr.heap.size, 2, none⟩) (by simp)).trans (show (wr.alloc (.cells #[.int .i64 sim, .int .i64 rd, .bool false] 44)).cell? ⟨wr.heap.size, 2, none⟩ = some (.bool false) by simp [go_sem])
              go_wp2
              go_roundw
              case rel =>
                refine ⟨k + 1, by omega, by go_num, ?_⟩
                rw [HEE.out, HH.out]
                simp only [beq_self_eq_true, Bool.and_false, Bool.false_eq_true, if_false, Bool.true_and, show (false == true) = false from rfl]
                exact HT.out.grown (BT (newB _ _) hb4)
              case measure => simp [intOf]; omega
            case true.false =>
              go_wp2_with fail
              refine (hHas.out _).mono ?_
              rw [HH.out]
              rintro e w4 ⟨rfl, hb4⟩
              have d0' := (hb4.cell (p := ⟨wr.heap.size, 0, none⟩) (by simp)).trans (show (wr.alloc (.cells #[.int .i64 sim, .int .i64 rd, .bool true] 44)).cell? ⟨wr.heap.size, 0, none⟩ = some (.int .i64 sim) by simp [go_sem])
              have d2' := (hb4.cell (p := ⟨wr.heap.size, 2, none⟩) (by simp)).trans (show (wr.alloc (.cells #[.int .i64 sim, .int .i64 rd, .bool true] 44)).cell? ⟨wr.heap.size, 2, none⟩ = some (.bool true) by simp [go_sem])
              go_wp2
              go_roundw
              case rel =>
                refine ⟨k + 1, by omega, by go_num, ?_⟩
                rw [HEE.out, HH.out]
                simp only [beq_self_eq_true, Bool.and_false, Bool.false_eq_true, if_false, Bool.true_and, show (true == false) = false from rfl]
                exact HT.out.grown (BT (newB _ _) hb4)
              case measure => simp [intOf]; omega
          · have h5 : (sim == im) = false := by simpa using him
            have H5 := Lib.hid h5
            go_wp2_with fail
            refine (hHas.out _).mono ?_
            rw [HH.out]
            rintro e w4 ⟨rfl, hb4⟩
            have d0' := (hb4.cell (p := ⟨wr.heap.size, 0, none⟩) (by simp)).trans (show (wr.alloc (.cells #[.int .i64 sim, .int .i64 rd, .bool srv] 44)).cell? ⟨wr.heap.size, 0, none⟩ = some (.int .i64 sim) by simp [go_sem])
            go_wp2
            go_roundw
            case rel =>
              refine ⟨k + 1, by omega, by go_num, ?_⟩
              have e5 := HEE.out
              simp only [HH.out, H5.out, Bool.true_and, Bool.false_and, Bool.false_eq_true, if_false] at e5
              rw [e5]
              exact HT.out.grown (BT (newB _ _) hb4)
            case measure => simp [intOf]; omega
    · obtain rfl : k = h.ns := by omega
      obtain ⟨c0, c1, c2, c3, c4, c5, c6, _, hsl, t0, t1, _, _, _⟩ := HT.out
      obtain ⟨v0, u0, y0⟩ := hsl.get 0 (by omega)
      obtain ⟨v1, u1, y1⟩ := hsl.get 1 (by omega)
      clear hM hsl
      go_wp2
      exact bodyPost_ret (v := .agg #[.int .i64 (T h.ns).1, .int .i64 (T h.ns).2]) (by simp [results, Try.results88, go_sem, u0, u1]) rfl ⟨rfl, by (repeat (first | assumption | exact Below.refl _ _ | refine BA ?_ _ | refine BC ?_ _ _ (by omega) _ | refine Below.drew ?_ | refine BT ?_ (by assumption)))⟩
end Go.Proofs.Ytmfbkgdlfackcaa
