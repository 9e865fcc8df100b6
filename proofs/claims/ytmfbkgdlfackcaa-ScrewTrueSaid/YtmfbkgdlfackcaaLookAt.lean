/- Looking at a measure. -/
import Derived.Test.YtmfbkgdlfackcaaLook
import Derived.Test.YtmfbkgdlfackcaaMva
namespace Go.Proofs.Ytmfbkgdlfackcaa
open Go.RowKit

abbrev Sett := Int × Int × Bool
def tellOf (xs : List (Int × Int)) (eLo eHi : Int) (s : Sett) : Tell := (s.2.2, s.1, trav s.2.1 (xs.getD (s.2.1 / 1000).toNat (0, 0)).1 eLo, trav s.2.1 (xs.getD (s.2.1 / 1000).toNat (0, 0)).2 eHi)
def tellsOf (xs : List (Int × Int)) (eLo eHi : Int) (ss : List Sett) : List Tell := ss.map (tellOf xs eLo eHi)
def cntOf (cs : List Cnt) (s : Sett) : List Cnt := setC s.1 (bump s.2.2 (getC s.1 cs)) cs
def cntsOf (ss : List Sett) : List Cnt := ss.foldl cntOf []
theorem take_snoc' {α : Type} (l : List α) (d : α) (k : Nat) (h : k < l.length) : l.take (k + 1) = l.take k ++ [l.getD k d] := by
  rw [List.take_succ_eq_append_getElem h]; simp [List.getD, h]
theorem tellsOf_snoc (xs : List (Int × Int)) (eLo eHi : Int) (ss : List Sett) (s : Sett) : tellsOf xs eLo eHi (ss ++ [s]) = tellsOf xs eLo eHi ss ++ [tellOf xs eLo eHi s] := by simp [tellsOf]
theorem cntsOf_snoc (ss : List Sett) (s : Sett) : cntsOf (ss ++ [s]) = cntOf (cntsOf ss) s := by simp [cntsOf]

/-- The lists that a measure's slices hold. -/
structure HasM (w : World) (h : Hd) (xs : List (Int × Int)) (ss : List Sett) : Prop where
  sp : Spans w h.a xs
  st : Setts w h.sa ss
  nx : xs.length = h.n
  ns : ss.length = h.ns
  lx : xs.length ≤ 9223372036854775807
  ls : ss.length ≤ 9223372036854775807
theorem HasM.below {w w' : World} {h : Hd} {xs : List (Int × Int)} {ss : List Sett} (k : HasM w h xs ss) {M : Nat} (hM : w.heap.size ≤ M) (hb : Below M w w') : HasM w' h xs ss :=
  ⟨k.sp.below hM hb, k.st.below hM hb, k.nx, k.ns, k.lx, k.ls⟩
def validH (h : Hd) (xs : List (Int × Int)) (ss : List Sett) : Bool := validM xs h.eLo h.eHi h.images h.sLo h.sHi ss
theorem validH_any {w : World} {h : Hd} {xs : List (Int × Int)} {ss : List Sett} (k : HasM w h xs ss) : Calls Try.prog 95 #[h.val] w (Ret (.bool (validH h xs ss)) w) := by
  have := validM_any h.a h.sa xs ss h.cap h.scap h.eLo h.eHi h.images h.sLo h.sHi w k.lx k.sp k.ls k.st
  rw [k.nx, k.ns] at this
  exact this

set_option maxHeartbeats 1000000 in
theorem lookAt_no (h : Hd) (xs : List (Int × Int)) (ss : List Sett) (w : World) (hm : HasM w h xs ss) (hv : validH h xs ss = false) : Calls Try.prog 58 #[h.val] w (Pan 1 w) := by
  have HM := Lib.hid hm; clear hm
  have HV := Lib.hid hv; clear hv
  have hc : Hid (∀ Y, Below w.heap.size w Y → Calls Try.prog 95 #[h.val] Y (Ret (.bool false) Y)) := fun Y hY => by rw [← HV.out]; exact validH_any (HM.out.below (Nat.le_refl _) hY)
  unfold Hd.val at hc ⊢
  go_enter Try.func58, Try.ntmps58
  go_wp2_with (first | (go_at_call 95; refine (hc.out _ (by (repeat (first | assumption | exact Below.refl _ _ | refine BA ?_ _ | refine BC ?_ _ _ (by omega) _ | refine Below.drew ?_ | refine BT ?_ (by assumption))))).mono ?_; rintro e w1 ⟨rfl, hb1⟩) | (go_at_call 49; refine (insist_no _ _).mono ?_; rintro e w2 ⟨rfl, hb2⟩))
  exact ⟨rfl, rfl, by (repeat (first | assumption | exact Below.refl _ _ | refine BA ?_ _ | refine BC ?_ _ _ (by omega) _ | refine Below.drew ?_ | refine BT ?_ (by assumption)))⟩

theorem setsB_at {t : Nat} {im : Int} {ss : List Sett} (h : setsB t im ss = true) {k : Nat} (hk : k < ss.length) : setB t im (ss.getD k (0, 0, false)) = true := by
  unfold setsB at h
  rw [List.all_eq_true] at h
  have e : ss.getD k (0, 0, false) = ss[k] := by simp [List.getD, hk]
  rw [e]; exact h _ (List.getElem_mem hk)

/-- The call returns a measure that is looked at. -/
def LookOut (w : World) (h : Hd) (ts : List Tell) (cs : List Cnt) (e : Ending) (w' : World) : Prop :=
  ∃ L mb tv, e = .returned (.pointer (some ⟨L, 0, none⟩)) ∧ Below w.heap.size w w' ∧ IsLook w w' L mb h tv ts cs

set_option maxHeartbeats 2000000 in
theorem lookAt_yes (h : Hd) (xs : List (Int × Int)) (ss : List Sett) (w : World) (hm : HasM w h xs ss) (hv : validH h xs ss = true) :
    Calls Try.prog 58 #[h.val] w (LookOut w h (tellsOf xs h.eLo h.eHi ss) (cntsOf ss)) := by
  have HM := Lib.hid hm; clear hm
  have HV := Lib.hid hv; clear hv
  have hc : Hid (∀ Y, Below w.heap.size w Y → Calls Try.prog 95 #[h.val] Y (Ret (.bool true) Y)) := fun Y hY => by rw [← HV.out]; exact validH_any (HM.out.below (Nat.le_refl _) hY)
  have h12 : Hid (ss.length ≤ 12 ∧ setsB xs.length h.images ss = true) := by
    have := HV.out
    simp only [validH, validM, headB, Bool.and_eq_true, decide_eq_true_eq] at this
    exact ⟨this.1.2, this.2⟩
  obtain ⟨ha, hnn, hcap, heLo, heHi, him, hsLo, hsHi, hsa, hns, hscap⟩ := h
  unfold Hd.val at hc ⊢
  dsimp only at hc ⊢
  have hmm := @run_makeMap Try.prog
  have hnn2 : Hid (ss.length = hns) := HM.out.ns
  have hb63 : hns ≤ 9223372036854775807 := by rw [← hnn2.out]; exact HM.out.ls
  go_enter Try.func58, Try.ntmps58
  go_wp2_with (first | (go_at_call 95; refine (hc.out _ (by (repeat (first | assumption | exact Below.refl _ _ | refine BA ?_ _ | refine BC ?_ _ _ (by omega) _ | refine Below.drew ?_ | refine BT ?_ (by assumption))))).mono ?_; rintro e w1 ⟨rfl, hb1⟩; have hcc := (bcell hb1).1; have hz1 : w.heap.size < w1.heap.size := (by have := hb1.size; simp at this; omega)) | (go_at_call 49; refine (insist_yes _ _).mono ?_; rintro e w2 ⟨rfl, hb2⟩; have hcc2 := (bcell hb2).1))
  have hB2 : Below w.heap.size w w2 := by (repeat (first | assumption | exact Below.refl _ _ | refine BA ?_ _ | refine BC ?_ _ _ (by omega) _ | refine Below.drew ?_ | refine BT ?_ (by assumption)))
  have hk : IsLook w ((w2.alloc (Obj.map #[] 0)).alloc (Obj.cells #[.slice ha hnn hcap, .int .i64 heLo, .int .i64 heHi, .int .i64 him, .int .i64 hsLo, .int .i64 hsHi, .slice hsa hns hscap, .slice none 0 0, .map (some w2.heap.size)] 95)) (w2.heap.size + 1) w2.heap.size ⟨ha, hnn, hcap, heLo, heHi, him, hsLo, hsHi, hsa, hns, hscap⟩ (.slice none 0 0) [] [] := by
    refine ⟨by have := hB2.size; omega, hB2.size, ?_, World.ownsRow_nil _ _ _ _, ?_⟩
    · have := heap_new (w2.alloc (Obj.map #[] 0)) (Obj.cells #[.slice ha hnn hcap, .int .i64 heLo, .int .i64 heHi, .int .i64 him, .int .i64 hsLo, .int .i64 hsHi, .slice hsa hns hscap, .slice none 0 0, .map (some w2.heap.size)] 95)
      rwa [World.size_alloc] at this
    · exact (isMap_new w2).kept (Below.heap_alloc _ _ _ (by simp))
  have HK := Lib.hid hk; clear hk
  have HB2 := Lib.hid hB2; clear hB2 hb1 hb2 hcc hcc2
  clear hc hmm hz1
  go_loopw [19] (fun i wr => ∃ k : Nat, k ≤ hns ∧ i = .int .i64 k ∧ (∃ tv, IsLook w wr (w2.heap.size + 1) w2.heap.size ⟨ha, hnn, hcap, heLo, heHi, him, hsLo, hsHi, hsa, hns, hscap⟩ tv (tellsOf xs heLo heHi (ss.take k)) (cntsOf (ss.take k))) ∧ Below w.heap.size w wr) (fun i _ => hns - (intOf i).toNat)
  case atStart => exact ⟨0, by omega, rfl, ⟨_, HK.out⟩, BA (BA HB2.out _) _⟩
  case round =>
    obtain ⟨k, hk, rfl, ⟨tv, hL⟩, hB⟩ := hrel
    have HL := Lib.hid hL; clear hL
    have HB := Lib.hid hB; clear hB
    by_cases hlt : k < hns
    · have hkl : Hid (k < ss.length) := by show k < _; rw [hnn2.out]; exact hlt
      have hsb := setsB_at h12.out.2 hkl.out
      have hts := take_snoc' ss (0, 0, false) k hkl.out
      rcases HM.out.st with h | ⟨b, o, hsa', hb, hcl⟩
      · exfalso; have := hkl.out; rw [h] at this; simp at this
      · dsimp only at hsa'
        subst hsa'
        obtain ⟨d1, d2, d3, hrd⟩ := hcl k hkl.out
        clear hcl
        generalize ss.getD k (0, 0, false) = s at *
        obtain ⟨im, rd, rv⟩ := s
        dsimp only at d1 d2 d3 hrd
        have f1 := (HB.out.cell (p := ⟨b, o + k * 3, none⟩) hb).trans d1
        have f2 := (HB.out.cell (p := ⟨b, o + k * 3 + 1, none⟩) hb).trans d2
        have f3 := (HB.out.cell (p := ⟨b, o + k * 3 + 2, none⟩) hb).trans d3
        clear d1 d2 d3
        have hbr : b < wr.heap.size := by have := HB.out.size; omega
        have hrd2 : Hid (0 ≤ rd ∧ rd / 1000 < hnn) := by
          have hnx := HM.out.nx
          dsimp only at hnx
          simp only [setB, hasTrn, Bool.and_eq_true, decide_eq_true_eq] at hsb
          exact ⟨hsb.2.1, by rw [← hnx]; exact hsb.2.2⟩
        have hrd3 : Hid (rd ≤ 9223372036854775807) := hrd
        have hTS := Lib.hid hts
        clear hsb hrd hts
        have htl : Hid ((tellsOf xs heLo heHi (ss.take k)).length < 1000) := by
          show _ < 1000; simp only [tellsOf, List.length_map, List.length_take]; have := h12.out.1; omega
        have hE1 : Hid (tellsOf xs heLo heHi (ss.take (k + 1)) = tellsOf xs heLo heHi (ss.take k) ++ [(rv, im, trav rd (xs.getD (rd / 1000).toNat (0, 0)).1 heLo, trav rd (xs.getD (rd / 1000).toNat (0, 0)).2 heHi)]) := by
          show _ = _; rw [hTS.out, tellsOf_snoc]; rfl
        have hE2 : Hid (cntsOf (ss.take (k + 1)) = setC im (bump rv (getC im (cntsOf (ss.take k)))) (cntsOf (ss.take k))) := by
          show _ = _; rw [hTS.out, cntsOf_snoc]; rfl
        go_wp2_with (first | (go_at_call 96; refine (ladd_any w (w2.heap.size + 1) w2.heap.size _ tv _ _ xs im rd rv _ (HL.out.grown (by (repeat (first | assumption | exact Below.refl _ _ | refine BA ?_ _ | refine BC ?_ _ _ (by omega) _ | refine Below.drew ?_ | refine BT ?_ (by assumption))))) HM.out.sp (BT HB.out (by (repeat (first | assumption | exact Below.refl _ _ | refine BA ?_ _ | refine BC ?_ _ _ (by omega) _ | refine Below.drew ?_ | refine BT ?_ (by assumption))))) HM.out.nx hrd2.out.1 hrd3.out hrd2.out.2 htl.out).mono ?_; rintro e w3 ⟨rfl, hb3, tv', hk3⟩))
        go_roundw
        case rel => exact ⟨k + 1, by omega, by go_num, ⟨tv', by rw [hE1.out, hE2.out]; exact hk3⟩, hb3⟩
        case measure => simp [intOf]; omega
    · obtain rfl : k = hns := by omega
      go_wp2
      go_ret
      refine ⟨w2.heap.size + 1, w2.heap.size, tv, rfl, HB.out, ?_⟩
      have := HL.out
      rwa [List.take_of_length_le (by rw [hnn2.out]; omega)] at this
end Go.Proofs.Ytmfbkgdlfackcaa
