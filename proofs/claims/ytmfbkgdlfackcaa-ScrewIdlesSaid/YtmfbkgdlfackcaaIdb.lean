/- ScrewIdles: a setting that tells something bounds places with the least sum, or with the greatest one. -/
import Derived.Test.YtmfbkgdlfackcaaIdm
namespace Go.Proofs.Ytmfbkgdlfackcaa
open Fw Go.RowKit

/-- What 'bound' asks. -/
def BoundP (h : Hd) (ss : List Sett) (h' : Hd) (ss' : List Sett) (xs : List (Int × Int)) : Prop :=
  sumsS h xs ss (allS ss) ≠ sumsS h' xs ss' (allS ss') ∨ ∃ n, (n = (sumsS h xs ss (allS ss)).1 ∨ n = (sumsS h xs ss (allS ss)).2) ∧ ∃ i : Nat, (i : Int) < h.images ∧ reply (placeA (withN h n) xs ss i) ≠ reply (placeA (withN h' n) xs ss' i)
theorem idle_bound {h : Hd} {xs : List (Int × Int)} {ss : List Sett} (hv : validH h xs ss = true) (hs : ¬ (sumsS h xs ss (allS ss)).1 > (sumsS h xs ss (allS ss)).2) {k : Nat} (hk : k < ss.length)
    (ht : tellB (otherS h.sLo h.sHi (tellsOf xs h.eLo h.eHi ss) k) ((tellsOf xs h.eLo h.eHi ss).getD k dfl) = false) (sa : Option Addr) (n cap : Nat) :
    BoundP h ss (partH h sa n cap) (partS ss (allO ss.length k)) xs := by
  apply Classical.byContradiction
  intro hnb
  unfold BoundP at hnb
  have hsum : sumsS h xs ss (allS ss) = sumsS (partH h sa n cap) xs (partS ss (allO ss.length k)) (allS (partS ss (allO ss.length k))) := by
    apply Classical.byContradiction
    intro hne
    exact hnb (.inl hne)
  have hpl : ∀ m, (m = (sumsS h xs ss (allS ss)).1 ∨ m = (sumsS h xs ss (allS ss)).2) → ∀ i : Nat, (i : Int) < h.images → reply (placeA (withN h m) xs ss i) = reply (placeA (withN (partH h sa n cap) m) xs (partS ss (allO ss.length k)) i) := fun m hm i hi => by
    apply Classical.byContradiction
    intro hne
    exact hnb (.inr ⟨m, hm, i, hi, hne⟩)
  clear hnb
  obtain ⟨va, vb, vc, vd, ve, vf, vg⟩ := valid_has hv
  have hl := len_tells h xs ss
  have hpv := part_valid hv (allO ss.length k) sa n cap
  have hE := ref_sumsB hv hs
  have hR := ref_sums hv hs
  obtain ⟨_, ⟨x0, hx0, ex0⟩, x1, hx1, ex1⟩ := id hE
  have hsp := fun x => tellsB_split (sLo := h.sLo) (sHi := h.sHi) (ts := tellsOf xs h.eLo h.eHi ss) (by omega) (k := k) (by omega) x
  rw [hl] at hsp
  have hO : ∃ x, TellsB h.sLo h.sHi (tellsOf xs h.eLo h.eHi ss) (allO ss.length k) x := ⟨x0, ((hsp x0).1 hx0).1⟩
  have hall := tell_says (sLo := h.sLo) (sHi := h.sHi) (fair_of hv) (by omega) (by omega) (k := k) (by omega) (by rw [hl]; exact hO)
  rw [hl] at hall
  have hrp : ¬ (sumsS (partH h sa n cap) xs (partS ss (allO ss.length k)) (allS (partS ss (allO ss.length k)))).1 > (sumsS (partH h sa n cap) xs (partS ss (allO ss.length k)) (allS (partS ss (allO ss.length k)))).2 := by rw [← hsum]; exact hs
  have hRP := ref_sums hpv hrp
  rw [← hsum] at hRP
  have hEO : Ext (TellsB h.sLo h.sHi (tellsOf xs h.eLo h.eHi ss) (allO ss.length k)) 0 1 (sumsS h xs ss (allS ss)).1 (sumsS h xs ss (allS ss)).2 := Ext.congr (fun x => part_tru x) hRP
  have hkt : k < (tellsOf xs h.eLo h.eHi ss).length := by omega
  have hfk := fair_of hv _ (getD_in hkt)
  obtain ⟨im, him⟩ : ∃ im : Nat, ((tellsOf xs h.eLo h.eHi ss).getD k dfl).2.1 = (im : Int) := ⟨((tellsOf xs h.eLo h.eHi ss).getD k dfl).2.1.toNat, by have := hfk.1.1; omega⟩
  have hilt : (im : Int) < h.images := by
    have := tells_img hv _ (getD_in hkt)
    omega
  have hisi : isImg h.images (im : Int) = true := by simp [isImg]; omega
  have hseen : hasC (im : Int) (cntsOf ss) = true := (all_seen hv).2 ⟨k, hkt, hasB_all vf hk, him⟩
  have hw := sum_within hR
  -- with each end of the sum
  have ends : ∀ m, (m = (sumsS h xs ss (allS ss)).1 ∨ m = (sumsS h xs ss (allS ss)).2) → Seen (tellsOf xs h.eLo h.eHi ss) (allO ss.length k) im ∧
      (placesS (tellsOf xs h.eLo h.eHi ss) (allO ss.length k) im m).1 ≤ (placesS (tellsOf xs h.eLo h.eHi ss) (allO ss.length k) im m).2 ∧
      placesS (tellsOf xs h.eLo h.eHi ss) (allO ss.length k) im m = placesS (tellsOf xs h.eLo h.eHi ss) (2 ^ ss.length - 1) im m := fun m hm => by
    have hmr : (sumsS h xs ss (allS ss)).1 ≤ m ∧ m ≤ (sumsS h xs ss (allS ss)).2 := by rcases hm with rfl | rfl <;> omega
    have hmv : h.sLo ≤ m ∧ m ≤ h.sHi := by omega
    have v1 := withN_valid hv hmv
    have v2 := withN_valid hpv hmv
    have t1 : ∃ x, Tru m m (tellsOf xs h.eLo h.eHi ss) x := sum_each hR hmr.1 hmr.2
    have t2 : ∃ x, Tru m m (tellsOf xs h.eLo h.eHi (partS ss (allO ss.length k))) x := sum_each hRP hmr.1 hmr.2
    have heq := hpl m hm im hilt
    obtain ⟨l1, u1, e1, X1⟩ := place_ok v1 (im := (im : Int)) hisi t1 hseen
    rw [e1] at heq
    cases hc : hasC (im : Int) (cntsOf (partS ss (allO ss.length k)))
    · exfalso
      rw [place_doubt v2 (im := (im : Int)) hisi t2 hc] at heq
      unfold reply at heq
      simp at heq
    · obtain ⟨l2, u2, e2, X2⟩ := place_ok v2 (im := (im : Int)) hisi t2 hc
      rw [e2] at heq
      have hlu : l1 = l2 ∧ u1 = u2 := by
        unfold reply at heq
        simpa using heq
      obtain ⟨rfl, rfl⟩ := hlu
      have hS := (part_seen (xs := xs) (a := h.eLo) (b := h.eHi)).1 hc
      have e3 : ((im : Nat) : Int).toNat = im := by omega
      rw [e3] at X1 X2
      have tb := tellsB_all (sLo := m) (sHi := m) (ts := tellsOf xs h.eLo h.eHi ss) (by omega)
      rw [hl] at tb
      have Y1 := places_ext (set := 2 ^ ss.length - 1) (s := m) (fair_of hv) (tells_img hv) (by omega) (by obtain ⟨x, hx⟩ := t1; exact ⟨x, (tb x).2 hx⟩) (j := im) ⟨k, hkt, hasB_all vf hk, him⟩
      have Y2 := places_ext (set := allO ss.length k) (s := m) (fair_of hv) (tells_img hv) (by omega) (by obtain ⟨x, hx⟩ := t2; exact ⟨x, (part_tru x).1 hx⟩) (j := im) hS
      have X1' : Ext (Tru m m (tellsOf xs h.eLo h.eHi ss)) 0 (2 + im) l1 u1 := X1
      have X2' : Ext (Tru m m (tellsOf xs h.eLo h.eHi (partS ss (allO ss.length k)))) 0 (2 + im) l1 u1 := X2
      have z1 := (Ext.congr tb Y1).unique X1'
      have z2 := Y2.unique (Ext.congr (fun x => part_tru x) X2')
      obtain ⟨_, ⟨x, hx, ex⟩, _⟩ := id X1'
      have := X1'.1 x hx
      exact ⟨hS, by omega, Prod.ext (by omega) (by omega)⟩
  obtain ⟨s1, n1, q1⟩ := ends _ (.inl rfl)
  obtain ⟨_, n2, q2⟩ := ends _ (.inr rfl)
  have : tellB (otherS h.sLo h.sHi (tellsOf xs h.eLo h.eHi ss) k) ((tellsOf xs h.eLo h.eHi ss).getD k dfl) = true := hall.2 fun x hx => by
    obtain ⟨r1, r2⟩ := hEO.1 x hx
    have := ends_tell (sLo := h.sLo) (sHi := h.sHi) (ts := tellsOf xs h.eLo h.eHi ss) (fair_of hv) (by omega) (by omega) (k := k) hkt him (lo := (sumsS h xs ss (allS ss)).1) (hi := (sumsS h xs ss (allS ss)).2)
    rw [hl] at this
    exact this n1 n2 q1 q2 s1 hx r1 r2
  rw [ht] at this; cases this
end Go.Proofs.Ytmfbkgdlfackcaa
