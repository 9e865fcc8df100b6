/- 'ScrewIdles': for every measure, in whatever memory, on every order of evaluation that Go leaves open: the call returns true, and what came in reads as before. No condition. -/
import Derived.Test.YtmfbkgdlfackcaaIdb
import Derived.Test.YtmfbkgdlfackcaaRon
import Derived.Laws.OwnMore
import Derived.Test.YtmfbkgdlfackcaaPar
import Derived.Test.YtmfbkgdlfackcaaSev
import Derived.OwnWalk
import Derived.Test.YtmfbkgdlfackcaaBou
import Derived.Test.YtmfbkgdlfackcaaCfa
import Derived.Test.YtmfbkgdlfackcaaArg
/- ScrewIdles: the ways in which images were measured, and what is answered. -/
namespace Go.Proofs.Ytmfbkgdlfackcaa
open Fw Go.RowKit

/-- In which positions an image was measured, by the first settings. -/
def wayI (ss : List Sett) (k : Nat) (i : Int) : Int := (if (ss.take k).any (upB i) then 1 else 0) + (if (ss.take k).any (rvB i) then 2 else 0)
theorem way_zero (ss : List Sett) (i : Int) : wayI ss 0 i = 0 := by unfold wayI; simp
theorem way_all {ss : List Sett} {n : Nat} (hn : ss.length = n) (i : Int) : wayI ss n i = (if ss.any (upB i) then 1 else 0) + (if ss.any (rvB i) then 2 else 0) := by
  unfold wayI; rw [List.take_of_length_le (by omega)]
theorem take_any {ss : List Sett} {k : Nat} (hk : k < ss.length) (p : Sett → Bool) : (ss.take (k + 1)).any p = ((ss.take k).any p || p (ss.getD k (0, 0, false))) := by
  have e : ss.getD k (0, 0, false) = ss[k] := by simp [List.getD, hk]
  rw [List.take_succ_eq_append_getElem hk, List.any_append, e]; simp
theorem or_1 : ∀ a b : Bool, bits .or .i64 ((if a then 1 else 0) + (if b then 2 else 0)) 1 = 1 + (if b then 2 else 0) := by decide +kernel
theorem or_2 : ∀ a b : Bool, bits .or .i64 ((if a then 1 else 0) + (if b then 2 else 0)) 2 = (if a then 1 else 0) + 2 := by decide +kernel
theorem way_up {ss : List Sett} {k : Nat} (hk : k < ss.length) {i : Int} (hi : (ss.getD k (0, 0, false)).1 = i) (hr : (ss.getD k (0, 0, false)).2.2 = false) : bits .or .i64 (wayI ss k i) 1 = wayI ss (k + 1) i := by
  have hu : upB i (ss.getD k (0, 0, false)) = true := by unfold upB; rw [hi, hr]; simp
  have hv : rvB i (ss.getD k (0, 0, false)) = false := by unfold rvB; rw [hr]; simp
  unfold wayI
  rw [take_any hk, take_any hk, hu, hv, or_1, Bool.or_true, Bool.or_false, if_pos rfl]
theorem way_rv {ss : List Sett} {k : Nat} (hk : k < ss.length) {i : Int} (hi : (ss.getD k (0, 0, false)).1 = i) (hr : (ss.getD k (0, 0, false)).2.2 = true) : bits .or .i64 (wayI ss k i) 2 = wayI ss (k + 1) i := by
  have hu : upB i (ss.getD k (0, 0, false)) = false := by unfold upB; rw [hr]; simp
  have hv : rvB i (ss.getD k (0, 0, false)) = true := by unfold rvB; rw [hi, hr]; simp
  unfold wayI
  rw [take_any hk, take_any hk, hu, hv, or_2, Bool.or_true, Bool.or_false, if_pos rfl]
theorem way_other {ss : List Sett} {k : Nat} (hk : k < ss.length) {i : Int} (hi : (ss.getD k (0, 0, false)).1 ≠ i) : wayI ss (k + 1) i = wayI ss k i := by
  have h0 : ((ss.getD k (0, 0, false)).1 == i) = false := by simpa using hi
  have hu : upB i (ss.getD k (0, 0, false)) = false := by unfold upB; rw [h0]; rfl
  have hv : rvB i (ss.getD k (0, 0, false)) = false := by unfold rvB; rw [h0]; rfl
  unfold wayI
  rw [take_any hk, take_any hk, hu, hv, Bool.or_false, Bool.or_false]
/-- Block g holds the ways. -/
def WaysAt (X : World) (g N : Nat) (ss : List Sett) (k : Nat) : Prop := ∀ i : Nat, i < N → X.cell? ⟨g, i, none⟩ = some (.int .i64 (wayI ss k i)) ∧ X.frozen? ⟨g, i, none⟩ = false
theorem WaysAt.grown {X X' : World} {g N : Nat} {ss : List Sett} {k : Nat} (h : WaysAt X g N ss k) (hb : Below X.heap.size X X') : WaysAt X' g N ss k := fun i hi => by
  obtain ⟨a, b⟩ := h i hi
  have hlt := World.block_lt_of_cell? _ _ a
  exact ⟨cellB a hb, (hb.frozen (p := ⟨g, i, none⟩) hlt).trans b⟩
theorem WaysAt.put {X : World} {g N : Nat} {ss : List Sett} {k : Nat} (h : WaysAt X g N ss k) {im : Nat} (him : im < N) {v : Int} (hv : v = wayI ss (k + 1) im) (ho : ∀ i : Nat, i ≠ im → wayI ss (k + 1) i = wayI ss k i) :
    WaysAt (X.setCell ⟨g, im, none⟩ (.int .i64 v)) g N ss (k + 1) := fun i hi => by
  obtain ⟨a, b⟩ := h i hi
  refine ⟨?_, by rw [World.frozen?_setCell]; exact b⟩
  by_cases e : i = im
  · subst e
    rw [World.cell?_setCell_same _ _ _ a, hv]
  · rw [World.cell?_setCell_other _ _ _ _ (by intro he; injection he; omega), ho i e]; exact a
theorem WaysAt.made {X : World} {g N base : Nat} (ss : List Sett) (h : X.ownsRow base 3 1 (.slice (some ⟨g, 0, none⟩) N N) N (madeCells (Value.int .i64 0).cells (N * 1)).toList) : WaysAt X g N ss 0 := fun i hi => by
  have hz : (madeCells (Value.int .i64 0).cells (N * 1)).toList = List.replicate N (.int .i64 0) := by rw [Nat.mul_one]; exact toList_madeCells_one _ _
  refine ⟨?_, h.frozenAt i⟩
  rw [h.cellAt i (by omega), way_zero, hz, List.getElem?_replicate, if_pos hi]
/-- The answers. -/
theorem idles_ok {h : Hd} {xs : List (Int × Int)} {ss : List Sett} (hv : validH h xs ss = true) :
    (onceA h xs ss = .ok (onceE ss h.images.toNat)) ∧ (((sumsS h xs ss (allS ss)).1 > (sumsS h xs ss (allS ss)).2 ∧ idleA h xs ss = .error 10 ∧ sumA h xs ss = .error 10) ∨
      (¬ (sumsS h xs ss (allS ss)).1 > (sumsS h xs ss (allS ss)).2 ∧ idleA h xs ss = .ok (idleS h.sLo h.sHi (tellsOf xs h.eLo h.eHi ss) ss.length) ∧ ∃ s1 s2 : Int, sumA h xs ss = .ok (.agg #[.int .i64 s1, .int .i64 s2]))) := by
  refine ⟨by rw [← once_same]; unfold onceX; rw [if_pos hv], ?_⟩
  by_cases hs : (sumsS h xs ss (allS ss)).1 > (sumsS h xs ss (allS ss)).2
  · refine .inl ⟨hs, ?_, sum_clash hv (ref_none hv hs)⟩
    rcases idle_cases h xs ss with ⟨h1, h2⟩ | ⟨h1, h2, h3, h4⟩
    · have e : openE h xs ss true = (0, 0, 10) := by unfold openE; rw [if_pos hv, if_pos rfl, if_pos hs]
      rw [e] at h2; exact h2
    · exact absurd hs h3
  · refine .inr ⟨hs, ?_, ?_⟩
    · rcases idle_cases h xs ss with ⟨h1, h2⟩ | ⟨h1, h2, h3, h4⟩
      · have e : openE h xs ss true = ((sumsS h xs ss (allS ss)).1, (sumsS h xs ss (allS ss)).2, 0) := by unfold openE; rw [if_pos hv, if_pos rfl, if_neg hs]
        rw [e] at h1; exact absurd rfl h1
      · exact h4
    · have ⟨x, hx, _⟩ := (ref_sums hv hs).2.1
      obtain ⟨l, u, e, _⟩ := sum_ok hv ⟨x, hx⟩
      exact ⟨l, u, e⟩
end Go.Proofs.Ytmfbkgdlfackcaa

/- The law's own: a measure with the settings of a set alone, and where its settings lie. -/
namespace Go.Proofs.Ytmfbkgdlfackcaa
open Fw Go.RowKit

set_option maxRecDepth 100000 in
set_option maxHeartbeats 4000000 in
theorem part_any2 (h : Hd) (xs : List (Int × Int)) (ss : List Sett) (set : Int) (w : World) (hm : HasM w h xs ss) (hl : ss.length ≤ 12) (hs : 0 ≤ set ∧ set < 4096) :
    Calls Try.prog 40 #[h.val, .int .i64 set] w (fun e w' => ∃ hp : Hd, e = .returned hp.val ∧ (∃ sa cap, hp = partH h sa (partS ss set).length cap) ∧ HasM w' hp xs (partS ss set) ∧ (∀ b o, hp.sa = some ⟨b, o, none⟩ → w.heap.size ≤ b) ∧ Below w.heap.size w w') := by
  have HM := Lib.hid hm
  have HNS := Lib.hid hm.ns
  have hn12 : h.ns ≤ 12 := by rw [← hm.ns]; exact hl
  obtain ⟨hs0, hs1⟩ := hs
  have HST : Hid (∀ k, partTo ss set (k + 1) = if hasB set k = true then partTo ss set k ++ [ss.getD k (0, 0, false)] else partTo ss set k) := fun k => rfl
  have HP0 : Hid (partTo ss set 0 = []) := rfl
  have HSH : Hid (∀ k : Nat, (bits .and .i64 (set / 2 ^ k) 1 == 1) = hasB set k) := fun k => bit_at ⟨hs0, hs1⟩ k
  have HLEN : Hid (∀ k, k ≤ 12 → (partTo ss set k).length ≤ 12) := fun k hk => Nat.le_trans (part_len ss set k) hk
  have HOK : Hid (partS ss set = partTo ss set h.ns) := by show _ = _; unfold partS; rw [HNS.out]
  have HRD : Hid (∀ s, s ∈ partS ss set → s.2.1 ≤ 9223372036854775807) := fun s hsm => by
    obtain ⟨j, hj, _, rfl⟩ := part_mem.1 hsm
    rcases hm.st with h0 | ⟨b, o, _, _, hc⟩
    · rw [h0] at hj; simp at hj
    · exact (hc j hj).2.2.2
  have hA0 := newB w (.cells #[.slice h.a h.n h.cap, .int .i64 h.eLo, .int .i64 h.eHi, .int .i64 h.images, .int .i64 h.sLo, .int .i64 h.sHi, .slice h.sa h.ns h.scap] 29)
  have hPK0 : PK w (((w.alloc (.cells #[.slice h.a h.n h.cap, .int .i64 h.eLo, .int .i64 h.eHi, .int .i64 h.images, .int .i64 h.sLo, .int .i64 h.sHi, .slice h.sa h.ns h.scap] 29)).alloc (.cells #[.slice none 0 0, .int .i64 0, .int .i64 0, .int .i64 0, .int .i64 0, .int .i64 0, .slice none 0 0] 29)).alloc (.cells #[.slice h.a h.n h.cap, .int .i64 h.eLo, .int .i64 h.eHi, .int .i64 h.images, .int .i64 h.sLo, .int .i64 h.sHi, .slice none 0 0] 29)) w.heap.size h (.slice none 0 0) [] := by
    have hX : Below w.heap.size w (((w.alloc (.cells #[.slice h.a h.n h.cap, .int .i64 h.eLo, .int .i64 h.eHi, .int .i64 h.images, .int .i64 h.sLo, .int .i64 h.sHi, .slice h.sa h.ns h.scap] 29)).alloc (.cells #[.slice none 0 0, .int .i64 0, .int .i64 0, .int .i64 0, .int .i64 0, .int .i64 0, .slice none 0 0] 29)).alloc (.cells #[.slice h.a h.n h.cap, .int .i64 h.eLo, .int .i64 h.eHi, .int .i64 h.images, .int .i64 h.sLo, .int .i64 h.sHi, .slice none 0 0] 29)) := by (repeat (first | assumption | exact Below.refl _ _ | refine BA ?_ _ | refine BC ?_ _ _ (by omega) _ | refine Below.drew ?_ | refine BT ?_ (by assumption)))
    refine ⟨?_, ?_, ?_, ?_, ?_, ?_, ?_, ?_, ?_, World.ownsRow_nil _ _ _ _, hX, Nat.le_refl _⟩
    · intro o ho
      have : o = 0 ∨ o = 1 ∨ o = 2 ∨ o = 3 ∨ o = 4 ∨ o = 5 ∨ o = 6 := by omega
      rcases this with rfl | rfl | rfl | rfl | rfl | rfl | rfl <;> simp [go_sem]
    all_goals simp [go_sem]
  rw [HOK.out]
  unfold Hd.val
  clear hm hA0
  go_enter Try.func40, Try.ntmps40
  go_wp2_with fail
  generalize hBe : w.heap.size = B at hPK0 ⊢
  generalize ((w.alloc (.cells #[.slice h.a h.n h.cap, .int .i64 h.eLo, .int .i64 h.eHi, .int .i64 h.images, .int .i64 h.sLo, .int .i64 h.sHi, .slice h.sa h.ns h.scap] 29)).alloc (.cells #[.slice none 0 0, .int .i64 0, .int .i64 0, .int .i64 0, .int .i64 0, .int .i64 0, .slice none 0 0] 29)).alloc (.cells #[.slice h.a h.n h.cap, .int .i64 h.eLo, .int .i64 h.eHi, .int .i64 h.images, .int .i64 h.sLo, .int .i64 h.sHi, .slice none 0 0] 29) = W at *
  have hk9 : (h.ns : Int) ≤ 12 := by omega
  have hn9 : h.ns ≤ 9223372036854775807 := by omega
  have HPK0 := Lib.hid hPK0
  clear hPK0
  go_loopw [13] (fun i wr => ∃ k : Nat, k ≤ h.ns ∧ i = .int .i64 k ∧ ∃ sv, PK w wr B h sv (partTo ss set k)) (fun i _ => h.ns - (intOf i).toNat)
  case atStart => exact ⟨0, by omega, rfl, _, HPK0.out⟩
  case round =>
    obtain ⟨k, hk, rfl, sv, hP⟩ := hrel
    have hk0 : (0 : Int) ≤ (k : Int) := by omega
    have hM := HM.out.below (Nat.le_refl _) hP.below
    have HP := Lib.hid hP
    clear hP
    by_cases hlt : k < h.ns
    · rcases hM.st with hnil | ⟨b, ofs, hsa, hb, hc⟩
      · exfalso; have := HNS.out; rw [hnil] at this; simp at this; omega
      · have hkl : k < ss.length := by rw [HNS.out]; exact hlt
        obtain ⟨d0, d1, d2, _⟩ := hc k hkl
        have hst := Lib.hid (HST.out k)
        have hsh := HSH.out k
        have hln := Lib.hid (HLEN.out k (by omega))
        rw [hsa]
        clear hc hM hsa
        generalize ss.getD k (0, 0, false) = s at *
        obtain ⟨im, rd, rv⟩ := s
        dsimp only at d0 d1 d2
        generalize partTo ss set k = L at *
        cases hb : hasB set k
        · rw [hb] at hsh
          have hst2 : Hid (partTo ss set (k + 1) = L) := by show _ = _; rw [hst.out, hb]; rfl
          have hP2 := Lib.hid (HP.out.grown (newB wr (.cells #[.int .i64 im, .int .i64 rd, .bool rv] 44)))
          clear hst hb
          go_wp2
          go_roundw
          case rel => exact ⟨k + 1, by omega, by go_num, sv, by rw [hst2.out]; exact hP2.out⟩
          case measure => simp [intOf]; omega
        · rw [hb] at hsh
          have hst2 : Hid (partTo ss set (k + 1) = L ++ [(im, rd, rv)]) := by show _ = _; rw [hst.out, hb]; rfl
          have f6 := HP.out.f6
          have z6 := HP.out.z6
          have hBlt := HP.out.lt
          have hP2 := HP.out.grown ((newB wr (.cells #[.int .i64 im, .int .i64 rd, .bool rv] 44)).trans ((newB (wr.alloc (.cells #[.int .i64 im, .int .i64 rd, .bool rv] 44)) (.cells #[.int .i64 im, .int .i64 rd, .bool rv] 44)).mono (by simp)))
          have HP2 := Lib.hid hP2
          have hrow2 := Lib.hid hP2.row
          have hBa := hP2.base
          have hlt2 := hP2.lt
          clear hP2 hst hb
          obtain ⟨i0, hi9, hz0, hz1, hz2⟩ := info44p
          go_wp2_with (at_builtin; refine wpList_append_own _ rfl _ _ 27 rfl (B + 3) 44 i0 (.agg #[.int .i64 0, .int .i64 0, .bool false]) 3 24 Try.underlying27 hi9 hz0 hz1 hz2 rfl (by decide) _ _ _ rfl hrow2.out ⟨wr.heap.size + 1, 0, none⟩ 1 1 (settV (im, rd, rv)) rfl rfl ?c1 ?c2 ?c3 ?c4 ?c5 ?_)
          case c1 =>
            intro j u hj
            have hj3 : j < 3 := by have := (List.getElem?_eq_some_iff.1 hj).1; simpa [settV] using this
            have : j = 0 ∨ j = 1 ∨ j = 2 := by omega
            rcases this with rfl | rfl | rfl <;> (simp [settV] at hj; subst hj; simp [go_sem])
          case c2 => simp [settV, Value.oneCell']
          case c3 => have := hln.out; unfold maxLen; omega
          case c4 => have := hln.out; omega
          case c5 => omega
          · intro v' w5 hown hg _
            obtain ⟨g', cap', rfl⟩ : ∃ g' cap', v' = .slice (some ⟨g', 0, none⟩) (L.length + 1) cap' := by
              rcases hown.2 with ⟨_, h2⟩ | ⟨g', cap', cur, h1, _⟩
              · omega
              · exact ⟨g', cap', h1⟩
            have hPn := Lib.hid (HP2.out.put (s := (im, rd, rv)) hg hown)
            have g6 := hg.cell HP2.out.f6 (fun e => by have := (HP2.out.row.lt _ e.symm).1; simp only at this; omega)
            have y6 : w5.frozen? ⟨B + 1 + 1, 6, none⟩ = false := (World.frozen?_of_block (a := ⟨B + 1 + 1, 6, none⟩) (hg.block (B + 1 + 1) hlt2 (fun e => by have := (HP2.out.row.lt _ e.symm).1; omega))).trans HP2.out.z6
            clear hown hg HP HP2 hrow2 f6 z6 hBlt
            go_wp2
            go_roundw
            case rel => exact ⟨k + 1, by omega, by go_num, _, by rw [hst2.out]; exact hPn.out⟩
            case measure => simp [intOf]; omega
    · obtain rfl : k = h.ns := by omega
      have hL : (partTo ss set h.ns).length ≤ 12 := HLEN.out _ hn12
      obtain ⟨sa, cap, hsv, hset⟩ : ∃ sa cap, sv = .slice sa (partTo ss set h.ns).length cap ∧ Setts wr sa (partTo ss set h.ns) := by
        have hrow := HP.out.row
        rcases hrow.2 with ⟨h1, h2⟩ | ⟨g, cap, cur, h1, _⟩
        · refine ⟨none, 0, ?_, .inl (List.eq_nil_of_length_eq_zero h2)⟩
          rw [h1, h2]
        · subst h1
          refine ⟨_, cap, rfl, setts_row hrow rfl (fun s hs => HRD.out s (by rw [HOK.out]; exact hs))⟩
      subst hsv
      have HF : Hid (HasM wr (partH h sa (partTo ss set h.ns).length cap) xs (partTo ss set h.ns)) := ⟨hM.sp, hset, hM.nx, rfl, hM.lx, by show _ ≤ _; omega⟩
      have f0 := HP.out.f0
      have f1 := HP.out.f1
      have f2 := HP.out.f2
      have f3 := HP.out.f3
      have f4 := HP.out.f4
      have f5 := HP.out.f5
      have f6 := HP.out.f6
      obtain ⟨v0, a0, b0⟩ := HP.out.res.get 0 (by omega)
      obtain ⟨v1, a1, b1⟩ := HP.out.res.get 1 (by omega)
      obtain ⟨v2, a2, b2⟩ := HP.out.res.get 2 (by omega)
      obtain ⟨v3, a3, b3⟩ := HP.out.res.get 3 (by omega)
      obtain ⟨v4, a4, b4⟩ := HP.out.res.get 4 (by omega)
      obtain ⟨v5, a5, b5⟩ := HP.out.res.get 5 (by omega)
      obtain ⟨v6, a6, b6⟩ := HP.out.res.get 6 (by omega)
      have hwB : w.heap.size ≤ B := by omega
      have hBw := HP.out.below
      have HBX : Hid (∀ X, BX (B + 1) wr X → HasM X (partH h sa (partTo ss set h.ns).length cap) xs (partTo ss set h.ns) ∧ Below w.heap.size w X) := fun X hX => by
        have hlt := HP.out.lt
        refine ⟨⟨(HM.out.below (Nat.le_refl _) (BX.below hBw hX (by omega) hBw.size)).sp, ?_, HF.out.nx, rfl, HF.out.lx, HF.out.ls⟩, BX.below hBw hX (by omega) hBw.size⟩
        rcases HF.out.st with h0 | ⟨b, o, h1, h2, h3⟩
        · exact .inl h0
        · have hb : b ≠ B + 1 := by
            intro e
            have := HP.out.row.lt b (by have h1' : sa = some ⟨b, o, none⟩ := h1; rw [h1']; simp [Value.ownBlock])
            omega
          exact .inr ⟨b, o, h1, Nat.lt_of_lt_of_le h2 hX.size, fun k hk => by
            obtain ⟨e0, e1, e2, e3⟩ := h3 k hk
            exact ⟨(hX.cell b _ h2 hb).trans e0, (hX.cell b _ h2 hb).trans e1, (hX.cell b _ h2 hb).trans e2, e3⟩⟩
      have HFR : Hid (∀ b o, sa = some ⟨b, o, none⟩ → w.heap.size ≤ b) := fun b o e => by
        have := HP.out.row.lt b (by rw [e]; simp [Value.ownBlock])
        omega
      clear hset hM HF
      go_wp2
      have hFin := HBX.out _ (((((((BX.set (B + 1) 0 wr (.slice h.a h.n h.cap)).trans (BX.set (B + 1) 1 _ (.int .i64 h.eLo))).trans (BX.set (B + 1) 2 _ (.int .i64 h.eHi))).trans (BX.set (B + 1) 3 _ (.int .i64 h.images))).trans (BX.set (B + 1) 4 _ (.int .i64 h.sLo))).trans (BX.set (B + 1) 5 _ (.int .i64 h.sHi))).trans (BX.set (B + 1) 6 _ (.slice sa (partTo ss set h.ns).length cap)))
      exact bodyPost_ret (v := (partH h sa (partTo ss set h.ns).length cap).val) (by simp [results, Try.results40, go_sem, a0, a1, a2, a3, a4, a5, a6, Hd.val, partH]) rfl ⟨_, rfl, ⟨sa, cap, rfl⟩, hFin.1, HFR.out, hFin.2⟩
end Go.Proofs.Ytmfbkgdlfackcaa

/- ScrewIdles: what tells nothing, and what was measured once. -/
namespace Go.Proofs.Ytmfbkgdlfackcaa
open Fw Go.RowKit

theorem bit_at0 {set : Int} (h : 0 ≤ set ∧ set < 4096) (k : Nat) : (bits .and .i64 (set / 2 ^ k) 1 == 0) = !hasB set k := by
  have h1 := bit_at h k
  have hp := Nat.two_pow_pos k
  obtain ⟨n, rfl⟩ : ∃ n : Nat, set = (n : Int) := ⟨set.toNat, by omega⟩
  have e : (n : Int) / 2 ^ k = ((n / 2 ^ k : Nat) : Int) := by simp
  have hle : n / 2 ^ k ≤ n := Nat.div_le_self _ _
  have h2 : bits .and .i64 ((n : Int) / 2 ^ k) 1 = (n : Int) / 2 ^ k % 2 := and_one (by rw [e]; generalize n / 2 ^ k = z at *; omega)
  rw [h2] at h1 ⊢
  rw [← h1]
  generalize (n : Int) / 2 ^ k = z at *
  have : z % 2 = 0 ∨ z % 2 = 1 := by omega
  rcases this with h | h <;> rw [h] <;> rfl
theorem info3 : (Try.prog.info? 3).map (fun i => (i.zero, i.size, i.bytes)) = some (some (.int .i64 0), 1, 8) := by kernel_rfl
theorem info3p : ∃ i, Try.prog.info? 3 = some i ∧ i.zero = some (.int .i64 0) ∧ i.size = 1 ∧ i.bytes = 8 := by
  have h := info3
  cases hi : Try.prog.info? 3 with
  | none => rw [hi] at h; simp at h
  | some i => rw [hi] at h; simp at h; exact ⟨i, rfl, h.1, h.2.1, h.2.2⟩
theorem setts_lt {X : World} {a : Option Addr} {ps : List Sett} (h : Setts X a ps) : ∀ b o, a = some ⟨b, o, none⟩ → ps = [] ∨ b < X.heap.size := fun b o e => by
  rcases h with h | ⟨b', o', h1, h2, _⟩
  · exact .inl h
  · rw [h1] at e; injection e with e; injection e with e1 e2; subst e1; exact .inr h2
theorem setts_put7 {X : World} {g : Nat} {a : Option Addr} {ps : List Sett} (hp : Hd) (h : Setts X a ps) (hne : ∀ b o, a = some ⟨b, o, none⟩ → ps = [] ∨ b ≠ g) : Setts (put7 X g hp) a ps := by
  rcases h with h | ⟨b, o, h1, h2, h3⟩
  · exact .inl h
  · rcases hne b o h1 with h | h
    · exact .inl h
    · subst h1
      exact setts_bx (a := ⟨b, o, none⟩) h (.inr ⟨b, o, rfl, h2, h3⟩) (put7_bx X g hp)

set_option maxRecDepth 100000 in
set_option maxHeartbeats 16000000 in
theorem idlesL_any (h : Hd) (xs : List (Int × Int)) (ss : List Sett) (w : World) (hm : HasM w h xs ss) :
    Calls Try.prog 11 #[h.val] w (Ret (.bool true) w) := by
  have hb0 := boxM_new hm
  have hB0 : Below w.heap.size w (w.alloc (.cells #[.slice h.a h.n h.cap, .int .i64 h.eLo, .int .i64 h.eHi, .int .i64 h.images, .int .i64 h.sLo, .int .i64 h.sHi, .slice h.sa h.ns h.scap] 29)) := newB _ _
  have hlx := hm.lx
  have hls := hm.ls
  rw [hm.nx] at hlx
  rw [hm.ns] at hls
  have HM := Lib.hid hm
  clear hm
  unfold Hd.val
  go_enter Try.func11, Try.ntmps11
  obtain ⟨c0, c1, c2, c3, c4, c5, c6, hh⟩ := id hb0
  go_wp2_with fail
  generalize hBw : w.heap.size = B at hb0 c0 c1 c2 c3 c4 c5 c6 ⊢
  generalize w.alloc (.cells #[.slice h.a h.n h.cap, .int .i64 h.eLo, .int .i64 h.eHi, .int .i64 h.images, .int .i64 h.sLo, .int .i64 h.sHi, .slice h.sa h.ns h.scap] 29) = W at *
  have hwB : w.heap.size ≤ B := by omega
  clear hBw
  refine (great_any h W).mono ?_
  rintro e w1 ⟨rfl, hb1⟩
  have hB1 := BT hB0 hb1
  have HB1 := Lib.hid (hb0.grown hb1)
  clear hb0 hb1 hB0 hh c0 c1 c2 c3 c4 c5 c6
  cases hg : greatB h.n h.ns
  case true =>
    clear HB1
    go_wp2_with fail
    refine (alive_any _).mono ?_
    rintro e w2 ⟨rfl, hb2⟩
    go_wp2
    go_ret
    exact ⟨rfl, by (repeat (first | assumption | exact Below.refl _ _ | refine BA ?_ _ | refine BC ?_ _ _ (by omega) _ | refine Below.drew ?_ | refine BT ?_ (by assumption)))⟩
  have hg1 : h.ns ≤ 30 ∧ h.n ≤ 100 := by simp [greatB] at hg; omega
  clear hg
  have hnx : xs.length ≤ 100 := by rw [HB1.out.has.nx]; omega
  have hnS := HB1.out.has.ns
  have hns : ss.length ≤ 100 := by rw [hnS]; omega
  obtain ⟨c0, c1, c2, c3, c4, c5, c6, hh⟩ := HB1.out
  have hme := measureR_any h xs ss w1 hh hnx hns
  unfold Hd.val at hme
  clear hh
  go_wp2_with fail
  refine hme.mono ?_
  rintro e w2 ⟨rfl, hb2⟩
  have hB2 := BT hB1 hb2
  have HB2 := Lib.hid (HB1.out.grown hb2)
  clear HB1 hb2 hB1 c0 c1 c2 c3 c4 c5 c6 hme
  cases hv : validH h xs ss
  case false =>
    clear HB2
    go_wp2_with fail
    refine (alive_any _).mono ?_
    rintro e w3 ⟨rfl, hb3⟩
    go_wp2
    go_ret
    exact ⟨rfl, by (repeat (first | assumption | exact Below.refl _ _ | refine BA ?_ _ | refine BC ?_ _ _ (by omega) _ | refine Below.drew ?_ | refine BT ?_ (by assumption)))⟩
  have HV := Lib.hid hv
  have HNS := Lib.hid hnS
  obtain ⟨va, vb, vc, vd, ve, vf, vg⟩ := valid_has hv
  have h12 : h.ns ≤ 12 := by omega
  obtain ⟨N, hN⟩ : ∃ N : Nat, h.images = (N : Int) := ⟨h.images.toNat, by omega⟩
  have hN6 : N ≤ 6 := by omega
  have hN1 : 1 ≤ N := by omega
  have HIM := Lib.hid hN
  have HVG := Lib.hid vg
  obtain ⟨hon, hid⟩ := idles_ok hv
  have e0 : h.images.toNat = N := by omega
  rw [e0] at hon
  have HOR := Lib.hid (onceE_rng ss N)
  have HOB : Hid (∀ i, i < N → (bits .and .i64 (onceE ss N / 2 ^ i) 1 == 1) = (ss.any (upB i) != ss.any (rvB i))) := fun i hi => by
    rw [bit_at (by
      have := HOR.out
      have h2 : (2 : Int) ^ N ≤ 64 := (by decide : ∀ k : Fin 7, (2 : Int) ^ k.val ≤ 64) ⟨N, by omega⟩
      omega) i]
    exact once_bit ss N i hi
  have ho0 : 0 ≤ onceE ss N := HOR.out.1
  have hoz : onceE ss N / 2 ^ N = 0 := Int.ediv_eq_zero_of_lt HOR.out.1 HOR.out.2
  obtain ⟨idv, ev, s1, s2, q1, q2, hev⟩ : ∃ idv ev s1 s2 : Int, replyI (idleA h xs ss) = .tuple #[.int .i64 idv, .int .i64 ev] ∧ reply (sumA h xs ss) = .tuple #[.agg #[.int .i64 s1, .int .i64 s2], .int .i64 ev] ∧
      ((ev = 10 ∧ idv = 0) ∨ (ev = 0 ∧ ¬ (sumsS h xs ss (allS ss)).1 > (sumsS h xs ss (allS ss)).2 ∧ idv = idleS h.sLo h.sHi (tellsOf xs h.eLo h.eHi ss) ss.length)) := by
    rcases hid with ⟨_, i1, i2⟩ | ⟨i0, i1, s1, s2, i2⟩
    · exact ⟨0, 10, 0, 0, by rw [i1]; rfl, by rw [i2]; rfl, .inl ⟨rfl, rfl⟩⟩
    · exact ⟨_, 0, s1, s2, by rw [i1]; rfl, by rw [i2]; rfl, .inr ⟨rfl, i0, rfl⟩⟩
  have HEV := Lib.hid hev
  have HC30 : Hid (∀ Y, HasM Y h xs ss → Calls Try.prog 30 #[.agg #[.slice h.a h.n h.cap, .int .i64 h.eLo, .int .i64 h.eHi, .int .i64 h.images, .int .i64 h.sLo, .int .i64 h.sHi, .slice h.sa h.ns h.scap]] Y (Ret (.tuple #[.int .i64 idv, .int .i64 ev]) Y)) := fun Y hY => by
    have := idle_any h xs ss Y hY
    rw [q1] at this; exact this
  have HC28 : Hid (∀ Y, HasM Y h xs ss → Calls Try.prog 28 #[.agg #[.slice h.a h.n h.cap, .int .i64 h.eLo, .int .i64 h.eHi, .int .i64 h.images, .int .i64 h.sLo, .int .i64 h.sHi, .slice h.sa h.ns h.scap]] Y (Ret (.tuple #[.int .i64 (onceE ss N), .int .i64 0]) Y)) := fun Y hY => by
    have := once_any h xs ss Y hY
    rw [hon] at this; exact this
  have HC18 : Hid (∀ Y, HasM Y h xs ss → Calls Try.prog 18 #[.agg #[.slice h.a h.n h.cap, .int .i64 h.eLo, .int .i64 h.eHi, .int .i64 h.images, .int .i64 h.sLo, .int .i64 h.sHi, .slice h.sa h.ns h.scap]] Y (Ret (.tuple #[.agg #[.int .i64 s1, .int .i64 s2], .int .i64 ev]) Y)) := fun Y hY => by
    have := sum_any h xs ss Y hY
    rw [q2] at this; exact this
  have Q2 := Lib.hid q2
  clear hv va vb vc vd ve vf vg hon hid q1 q2 hev e0 hnS hns hnx
  generalize onceE ss N = o at *
  clear HOR hN
  obtain ⟨c0, c1, c2, c3, c4, c5, c6, hh⟩ := HB2.out
  go_wp2_with fail
  refine (HC30.out _ hh).mono ?_
  rintro e w3 ⟨rfl, hb3⟩
  have HB3 := Lib.hid (HB2.out.grown hb3)
  have hB3 := BT hB2 hb3
  clear HC30 hb3 HB2 hB2 hh c0 c1 c2 c3 c4 c5 c6
  obtain ⟨c0, c1, c2, c3, c4, c5, c6, hh⟩ := HB3.out
  go_wp2_with fail
  refine (HC28.out _ hh).mono ?_
  rintro e w4 ⟨rfl, hb4⟩
  have HB4 := Lib.hid (HB3.out.grown hb4)
  have hB4 := BT hB3 hb4
  clear HC28 hb4 HB3 hB3 hh c0 c1 c2 c3 c4 c5 c6
  obtain ⟨c0, c1, c2, c3, c4, c5, c6, hh⟩ := HB4.out
  go_wp2_with fail
  refine (HC18.out _ hh).mono ?_
  rintro e w5 ⟨rfl, hb5⟩
  have hA5 := BT hb5 (newB w5 (.cells #[.int .i64 s1, .int .i64 s2] 24))
  have HB5 := Lib.hid (HB4.out.grown hA5)
  have hB5 := BT hB4 hA5
  have HT5 := Lib.hid (show Two w5.heap.size s1 s2 (w5.alloc (.cells #[.int .i64 s1, .int .i64 s2] 24)) from two_newT w5 s1 s2 24)
  clear HC18 hb5 hA5 HB4 hB4 hh c0 c1 c2 c3 c4 c5 c6
  obtain ⟨c0, c1, c2, c3, c4, c5, c6, hh⟩ := HB5.out
  rw [HIM.out] at c3
  obtain ⟨i0, hi9, hz0, hz1, hz2⟩ := info3p
  have hby : i0.bytes * N ≤ 281474976710656 := by rw [hz2]; omega
  have hml : N ≤ maxLen := by unfold maxLen; omega
  go_upto_region 8 with fail
  generalize w5.heap.size = g7 at *
  generalize w5.alloc (.cells #[.int .i64 s1, .int .i64 s2] 24) = W5 at *
  go_wp2_with (at_make; refine wpList_make_full _ rfl _ _ 48 rfl W5.heap.size 3 i0 (.int .i64 0) 1 Try.underlying48 hi9 hz0 hz1 .i64 .i64 _ _ N rfl rfl rfl rfl hby hml (Nat.le_refl _) ?_)
  intro w6 hown hgrow
  have hb6 : Below W5.heap.size W5 w6 := (Below.refl _ _).grown hgrow (Nat.le_refl _) (fun k hk => by cases hk)
  have hW6 := Lib.hid (WaysAt.made (g := W5.heap.size) (N := N) ss (by rw [Nat.mul_one]; exact hown))
  have HB6 := Lib.hid (HB5.out.grown hb6)
  have hB6 := BT hB5 hb6
  have HT6 := Lib.hid (HT5.out.grown hb6)
  have hw5 : w.heap.size ≤ W5.heap.size := hB5.size
  have hg7g : g7 < W5.heap.size := World.block_lt_of_cell? _ _ HT5.out.1
  have hBg : B < W5.heap.size := World.block_lt_of_cell? _ _ HB5.out.c0
  clear hown hgrow hoz HB5 hB5 HT5 hh c0 c1 c2 c3 c4 c5 c6 hi9 hz0 hz1 hz2 hby hml
  obtain ⟨c0, c1, c2, c3, c4, c5, c6, hh⟩ := HB6.out
  have hgW : W5.heap.size < w6.heap.size := World.block_lt_of_cell? _ _ (hW6.out 0 (by omega)).1
  generalize hgw : W5.heap.size = gW at *
  clear hgw
  go_wp2_with fail
  clear c0 c1 c2 c3 c4 c5 c6 hh
  have hs0 : (h.ns : Int) ≤ 100 := by omega
  go_loopw [77] (fun i wr => ∃ k : Nat, k ≤ h.ns ∧ i = .int .i64 k ∧ Hid (WaysAt wr gW N ss k) ∧ Below gW w6 wr) (fun i _ => h.ns - (intOf i).toNat)
  case atStart => exact ⟨0, by omega, rfl, hW6, Below.refl _ _⟩
  case round =>
    obtain ⟨k, hk, rfl, hway, hB⟩ := hrel
    have hk0 : (0 : Int) ≤ (k : Int) := by omega
    by_cases hlt : k < h.ns
    · have hM := HM.out.below (Nat.le_refl _) (hB6.trans (hB.mono hw5))
      rcases hM.st with hnil | ⟨b, ofs, hsa, hb, hc⟩
      · exfalso; have := HNS.out; rw [hnil] at this; simp at this; omega
      · have hkl : k < ss.length := by rw [HNS.out]; exact hlt
        obtain ⟨d0, d1, d2, _⟩ := hc k hkl
        have hvg := HVG.out (ss.getD k (0, 0, false)) (by simp [List.getD, hkl])
        obtain ⟨im, him⟩ : ∃ im : Nat, (ss.getD k (0, 0, false)).1 = (im : Int) := ⟨(ss.getD k (0, 0, false)).1.toNat, by omega⟩
        have himN : im < N := by have := HIM.out; omega
        have HUP := Lib.hid (fun hr => way_up (ss := ss) hkl him hr)
        have HRV := Lib.hid (fun hr => way_rv (ss := ss) hkl him hr)
        have HOT : Hid (∀ i : Nat, i ≠ im → wayI ss (k + 1) i = wayI ss k i) := fun i hi => way_other hkl (by rw [him]; omega)
        obtain ⟨x0, f0⟩ := hway.out im himN
        have hgl : gW < wr.heap.size := World.block_lt_of_cell? _ _ x0
        rw [hsa]
        rw [him] at d0
        clear hc hM hsa hvg him
        generalize (ss.getD k (0, 0, false)).2.1 = rd at *
        generalize (ss.getD k (0, 0, false)).2.2 = rv at *
        generalize wayI ss k im = v at *
        cases rv
        · have hup := Lib.hid (HUP.out rfl)
          clear HUP HRV
          go_wp2
          go_roundw
          case rel => exact ⟨k + 1, by omega, by go_num, (hway.out.put himN hup.out HOT.out).grown (newB _ _), (hB.setCell (Nat.le_refl _) _).alloc (by simp; omega) _⟩
          case measure => simp [intOf]; omega
        · have hup := Lib.hid (HRV.out rfl)
          clear HUP HRV
          go_wp2
          go_roundw
          case rel => exact ⟨k + 1, by omega, by go_num, (hway.out.put himN hup.out HOT.out).grown (newB _ _), (hB.setCell (Nat.le_refl _) _).alloc (by simp; omega) _⟩
          case measure => simp [intOf]; omega
    · obtain rfl : k = h.ns := by omega
      have hB7 := hB6.trans (hB.mono hw5)
      have HB7 : Hid (BoxM wr B h xs ss) := ⟨(hB.cell (p := ⟨B, 0, none⟩) hBg).trans HB6.out.c0, (hB.cell (p := ⟨B, 1, none⟩) hBg).trans HB6.out.c1, (hB.cell (p := ⟨B, 2, none⟩) hBg).trans HB6.out.c2, (hB.cell (p := ⟨B, 3, none⟩) hBg).trans HB6.out.c3, (hB.cell (p := ⟨B, 4, none⟩) hBg).trans HB6.out.c4, (hB.cell (p := ⟨B, 5, none⟩) hBg).trans HB6.out.c5, (hB.cell (p := ⟨B, 6, none⟩) hBg).trans HB6.out.c6, HM.out.below (Nat.le_refl _) hB7⟩
      have hg7 : g7 < gW := hg7g
      have HT7 : Hid (Two g7 s1 s2 wr) := ⟨(hB.cell (p := ⟨g7, 0, none⟩) hg7).trans HT6.out.1, (hB.cell (p := ⟨g7, 1, none⟩) hg7).trans HT6.out.2⟩
      clear HB6 hB6 HT6 hB hW6 hgW
      go_wp2_with fail
      obtain ⟨wA, rfl⟩ : ∃ wA, wA = wr := ⟨_, rfl⟩
      go_loopw [100] (fun i wr => ∃ i' : Nat, i' ≤ N ∧ i = .int .i64 i' ∧ wr = wA) (fun i _ => N - (intOf i).toNat)
      case atStart => exact ⟨0, by omega, rfl, rfl⟩
      case round =>
        obtain ⟨i, hi, rfl, rfl⟩ := hrel
        have hi0 : (0 : Int) ≤ (i : Int) := by omega
        have hi1 : (i : Int) ≤ 6 := by omega
        by_cases hil : i < N
        · have hbt := HOB.out i hil
          obtain ⟨x0, f0⟩ := hway.out i hil
          rw [way_all HNS.out] at x0
          cases hu : ss.any (upB i) <;> cases hr : ss.any (rvB i)
          all_goals
            rw [hu, hr] at hbt x0
            simp at hbt x0
            go_wp2
            go_roundw
            case rel => exact ⟨i + 1, by omega, by go_num, trivial⟩
            case measure => simp [intOf]; omega
        · obtain rfl : N = i := by omega
          rcases HEV.out with ⟨rfl, rfl⟩ | ⟨rfl, hs, hidv⟩
          · go_wp2_with fail
            refine (alive_any _).mono ?_
            rintro e x1 ⟨rfl, hx1⟩
            have hX1 := BT hB7 hx1
            go_wp2
            go_ret
            exact ⟨rfl, hX1⟩
          have hl12 : ss.length ≤ 12 := by rw [HNS.out]; exact h12
          have hir := (idleS_rng h.sLo h.sHi (tellsOf xs h.eLo h.eHi ss) ss.length hl12).1
          rw [← hidv] at hir
          obtain ⟨p1, p2, p3⟩ := pow_12 h12
          obtain ⟨al, hal⟩ : ∃ al : Nat, 2 ^ h.ns - 1 = al := ⟨_, rfl⟩
          have hP : (2 : Int) ^ h.ns - 1 = (al : Int) := by omega
          have hal1 : (al : Int) ≤ 4095 := by omega
          have hid0 : 0 ≤ idv := hir.1
          have hid1 : idv ≤ al := by have := hir.2; rw [HNS.out] at this; omega
          have HSH := Lib.hid (cf_sh h12 hP)
          obtain ⟨tb, htb⟩ : ∃ tb : Nat → Bool, ∀ k, tellB (otherS h.sLo h.sHi (tellsOf xs h.eLo h.eHi ss) k) ((tellsOf xs h.eLo h.eHi ss).getD k dfl) = tb k := ⟨_, fun _ => rfl⟩
          have HIB : Hid (∀ k, k < h.ns → hasB idv k = tb k) := fun k hk => by rw [hidv, ← htb]; exact idle_bit _ _ _ _ hl12 k (by rw [HNS.out]; exact hk)
          have HB1 : Hid (∀ k, (bits .and .i64 (idv / 2 ^ k) 1 == 1) = hasB idv k) := fun k => bit_at (by omega) k
          have HB0 : Hid (∀ k, (bits .and .i64 (idv / 2 ^ k) 1 == 0) = !hasB idv k) := fun k => bit_at0 (by omega) k
          have HKO : Hid (∀ k, k < h.ns → bits .andNot .i64 (al : Int) (IntKind.i64.wrap (2 ^ k)) = allO ss.length k) := fun k hk => by
            have hw : IntKind.i64.wrap ((2 : Int) ^ k) = ((2 ^ k : Nat) : Int) := (by decide +kernel : ∀ k : Fin 12, IntKind.i64.wrap ((2 : Int) ^ k.val) = ((2 ^ k.val : Nat) : Int)) ⟨k, by omega⟩
            have := cf_bd (n := h.ns) (q := 2 ^ k) h12 hP (Nat.pow_lt_pow_right (by decide) hk)
            rw [hw, this]
            unfold allO
            rw [HNS.out, hP]
            simp
          have HSAME : Hid (∀ k, k < h.ns → tb k = true → ∀ sa n cap, sumA (partH h sa n cap) xs (partS ss (allO ss.length k)) = sumA h xs ss ∧ (∀ im, placeA (partH h sa n cap) xs (partS ss (allO ss.length k)) im = placeA h xs ss im) ∧ ∀ a b, apartA (partH h sa n cap) xs (partS ss (allO ss.length k)) a b = apartA h xs ss a b) := fun k hk ht sa n cap =>
            idle_same3 HV.out (Int.not_lt.2 hs) (by rw [HNS.out]; exact hk) (by rw [htb]; exact ht) sa n cap
          have HBND : Hid (∀ k, k < h.ns → tb k = false → ∀ sa n cap, BoundP h ss (partH h sa n cap) (partS ss (allO ss.length k)) xs) := fun k hk ht sa n cap =>
            idle_bound HV.out (Int.not_lt.2 hs) (by rw [HNS.out]; exact hk) (by rw [htb]; exact ht) sa n cap
          have HPT : Hid (∀ k, k < h.ns → ∀ Y, HasM Y h xs ss → Calls Try.prog 40 #[.agg #[.slice h.a h.n h.cap, .int .i64 h.eLo, .int .i64 h.eHi, .int .i64 h.images, .int .i64 h.sLo, .int .i64 h.sHi, .slice h.sa h.ns h.scap], .int .i64 (allO ss.length k)] Y (fun e w' => ∃ hp : Hd, e = .returned hp.val ∧ (∃ sa cap, hp = partH h sa (partS ss (allO ss.length k)).length cap) ∧ HasM w' hp xs (partS ss (allO ss.length k)) ∧ (∀ b o, hp.sa = some ⟨b, o, none⟩ → Y.heap.size ≤ b) ∧ Below Y.heap.size Y w')) := fun k hk Y hY =>
            part_any2 h xs ss _ Y hY hl12 (by have := allO_rng hl12 (k := k) (by rw [HNS.out]; exact hk); omega)
          have HPV : Hid (∀ k sa n cap, validH (partH h sa n cap) xs (partS ss (allO ss.length k)) = true) := fun k sa n cap => part_valid HV.out _ sa n cap
          have HPN : Hid (∀ k, (partS ss (allO ss.length k)).length ≤ 12) := fun k => Nat.le_trans (part_len ss _ _) hl12
          clear hs hidv hir p1 p2 p3 hal hP htb hl12 HEV
          obtain ⟨c0, c1, c2, c3, c4, c5, c6, hh⟩ := HB7.out
          go_upto_region 25 with fail
          rw [HSH.out]
          clear HSH
          go_wp2_with fail
          clear c0 c1 c2 c3 c4 c5 c6 hh
          obtain ⟨wB, rfl⟩ : ∃ wB : World, wB = wr := ⟨_, rfl⟩
          go_loopw [144] (fun i wr => ∃ k : Nat, k ≤ h.ns ∧ i = .int .i64 k ∧ Below wB.heap.size wB wr) (fun i _ => h.ns - (intOf i).toNat)
          case atStart => exact ⟨0, by omega, rfl, Below.refl _ _⟩
          case round =>
            obtain ⟨k, hk, rfl, hB⟩ := hrel
            have hk0 : (0 : Int) ≤ (k : Int) := by omega
            have hBC := BT hB7 hB
            by_cases hlt : k < h.ns
            · have hpt := Lib.hid (HPT.out k hlt)
              have hko := HKO.out k hlt
              have hsame := Lib.hid (HSAME.out k hlt)
              have hbnd := Lib.hid (HBND.out k hlt)
              have hpv := Lib.hid (HPV.out k)
              have hpn := Lib.hid (HPN.out k)
              have hb1 := Lib.hid ((HB1.out k).trans (HIB.out k hlt))
              have hb0 := Lib.hid ((HB0.out k).trans (congrArg Bool.not (HIB.out k hlt)))
              generalize hps : partS ss (allO ss.length k) = ps at *
              generalize allO ss.length k = ao at *
              have HBk := Lib.hid (HB7.out.grown hB)
              have hBx : BoxC wr B h := ⟨HBk.out.c0, HBk.out.c1, HBk.out.c2, HBk.out.c3, HBk.out.c4, HBk.out.c5, HBk.out.c6⟩
              have HSW : Hid (∀ X, Below wr.heap.size wr X → BoxC X B h) := fun X hX => hBx.grown hX
              have hU : Hid (∀ Y, Below wr.heap.size wr Y → Calls Try.prog 40 #[.agg #[.slice h.a h.n h.cap, .int .i64 h.eLo, .int .i64 h.eHi, .int .i64 h.images, .int .i64 h.sLo, .int .i64 h.sHi, .slice h.sa h.ns h.scap], .int .i64 ao] Y (fun e w' => ∃ hp : Hd, e = .returned hp.val ∧ (∃ sa cap, hp = partH h sa ps.length cap) ∧ HasM w' hp xs ps ∧ (∀ b o, hp.sa = some ⟨b, o, none⟩ → Y.heap.size ≤ b) ∧ Below Y.heap.size Y w')) := fun Y hY => hpt.out Y (HBk.out.has.below (Nat.le_refl _) hY)
              have hB0 : Below wr.heap.size wr wr.drew := Below.drew (Below.refl _ _)
              clear hps hBx
              go_upto_region 30 with fail
              go_cut [16] (fun a16 X => ∃ (g6 : Nat) (hp : Hd), a16 = .pointer (some ⟨g6, 0, none⟩) ∧ (∃ sa cap, hp = partH h sa ps.length cap) ∧ Box7 X g6 hp ∧ Setts X hp.sa ps ∧ wr.heap.size ≤ g6 ∧ Below wr.heap.size wr X)
              case first =>
                refine wp_region_tree (.read 0 (.read 1 (.read 2 (.read 3 (.read 4 (.two 5 (.one 6 (.one 7 (.leaf))) 6 (.one 5 (.one 7 (.leaf))))))))) (fun w' => w'.cell? ⟨B, 0, none⟩ = some (.slice h.a h.n h.cap) ∧ w'.cell? ⟨B, 1, none⟩ = some (.int .i64 h.eLo) ∧ w'.cell? ⟨B, 2, none⟩ = some (.int .i64 h.eHi) ∧ w'.cell? ⟨B, 3, none⟩ = some (.int .i64 h.images) ∧ w'.cell? ⟨B, 4, none⟩ = some (.int .i64 h.sLo) ∧ w'.cell? ⟨B, 5, none⟩ = some (.int .i64 h.sHi) ∧ w'.cell? ⟨B, 6, none⟩ = some (.slice h.sa h.ns h.scap)) (by kernel_rfl) (by kernel_rfl) (fun _ _ d _ _ h => by cases d <;> exact h) (HSW.out _ hB0) ?_
                generalize wr.drew = X0 at *
                repeat (first | (refine tr_read rfl (by rfl) _ (fun w' hS => by (try dsimp only at hS); go_simp; (try with_reducible rfl)) ?_; (try simp only [Act.put, List.setIfInBounds_toArray, List.set_cons_zero, List.set_cons_succ])) | (refine tr_skip rfl (by rfl) ?_; (try simp only [Act.put, List.setIfInBounds_toArray, List.set_cons_zero, List.set_cons_succ])))
                refine ⟨?_, ?_⟩
                · skip
                  refine tr_step rfl (by rfl) (fun K hK => ?_)
                  go_simp
                  refine (hU.out _ hB0).mono ?_
                  rintro e X1 ⟨hp, rfl, hsh, hmp, hfr, hb5⟩
                  have hB1 := BT hB0 hb5
                  have hst7 := hmp.st
                  clear hmp hfr hb5 hko
                  refine hK _ _ (HSW.out _ hB1) ?_
                  clear hK K hB0
                  (try simp only [Act.put, List.setIfInBounds_toArray, List.set_cons_zero, List.set_cons_succ])
                  refine tr_step rfl (by rfl) (fun K hK => ?_)
                  have hB2 := BA hB1 (.cells #[.slice none 0 0, .int .i64 0, .int .i64 0, .int .i64 0, .int .i64 0, .int .i64 0, .slice none 0 0] 29)
                  have hg6 := hB1.size
                  have hsl := slots_new7 X1 29
                  have hst8 := hst7.below (Nat.le_refl _) (newB X1 (.cells #[.slice none 0 0, .int .i64 0, .int .i64 0, .int .i64 0, .int .i64 0, .int .i64 0, .slice none 0 0] 29))
                  have hlt8 := setts_lt hst7
                  unfold Hd.val
                  go_simp
                  generalize X1.heap.size = g6 at *
                  generalize X1.alloc (.cells #[.slice none 0 0, .int .i64 0, .int .i64 0, .int .i64 0, .int .i64 0, .int .i64 0, .slice none 0 0] 29) = X2 at *
                  refine hK _ _ (HSW.out _ hB2) ?_
                  clear hK K hB1 hst7
                  (try simp only [Act.put, List.setIfInBounds_toArray, List.set_cons_zero, List.set_cons_succ])
                  refine tr_last rfl (by rfl) (by kernel_rfl) (fun K hK => ?_)
                  obtain ⟨u0, q0, f0⟩ := hsl.get 0 (by omega)
                  obtain ⟨u1, q1, f1⟩ := hsl.get 1 (by omega)
                  obtain ⟨u2, q2, f2⟩ := hsl.get 2 (by omega)
                  obtain ⟨u3, q3, f3⟩ := hsl.get 3 (by omega)
                  obtain ⟨u4, q4, f4⟩ := hsl.get 4 (by omega)
                  obtain ⟨u5, q5, f5⟩ := hsl.get 5 (by omega)
                  obtain ⟨u6, q6, f6⟩ := hsl.get 6 (by omega)
                  have hB3 := (BC (BC (BC (BC (BC (BC (BC hB2 g6 0 hg6 (.slice hp.a hp.n hp.cap)) g6 1 hg6 (.int .i64 hp.eLo)) g6 2 hg6 (.int .i64 hp.eHi)) g6 3 hg6 (.int .i64 hp.images)) g6 4 hg6 (.int .i64 hp.sLo)) g6 5 hg6 (.int .i64 hp.sHi)) g6 6 hg6 (.slice hp.sa hp.ns hp.scap))
                  have hbox := box_put7 hsl hp
                  have hst9 := setts_put7 (g := g6) hp hst8 (fun b o e => by rcases hlt8 b o e with h | h; exact .inl h; exact .inr (by omega))
                  unfold put7 at hbox hst9
                  go_simp
                  clear q0 q1 q2 q3 q4 q5 q6 f0 f1 f2 f3 f4 f5 f6
                  generalize (((((((X2.setCell ⟨g6, 0, none⟩ (.slice hp.a hp.n hp.cap)).setCell ⟨g6, 1, none⟩ (.int .i64 hp.eLo)).setCell ⟨g6, 2, none⟩ (.int .i64 hp.eHi)).setCell ⟨g6, 3, none⟩ (.int .i64 hp.images)).setCell ⟨g6, 4, none⟩ (.int .i64 hp.sLo)).setCell ⟨g6, 5, none⟩ (.int .i64 hp.sHi)).setCell ⟨g6, 6, none⟩ (.slice hp.sa hp.ns hp.scap)) = X3 at *
                  refine hK _ _ ?_
                  clear hK K
                  (try simp only [Act.put, List.setIfInBounds_toArray, List.set_cons_zero, List.set_cons_succ])
                  show Exit.then _ _ Exit.normal _ _
                  go_wp2_with fail
                  go_meet
                  exact ⟨g6, hp, rfl, hsh, hbox, hst9, hg6, hB3⟩
                · skip
                  refine tr_step rfl (by rfl) (fun K hK => ?_)
                  have hB1 := BA hB0 (.cells #[.slice none 0 0, .int .i64 0, .int .i64 0, .int .i64 0, .int .i64 0, .int .i64 0, .slice none 0 0] 29)
                  have hg6 := hB0.size
                  have hsl := slots_new7 X0 29
                  go_simp
                  generalize X0.heap.size = g6 at *
                  generalize X0.alloc (.cells #[.slice none 0 0, .int .i64 0, .int .i64 0, .int .i64 0, .int .i64 0, .int .i64 0, .slice none 0 0] 29) = X1 at *
                  refine hK _ _ (HSW.out _ hB1) ?_
                  clear hK K hB0
                  (try simp only [Act.put, List.setIfInBounds_toArray, List.set_cons_zero, List.set_cons_succ])
                  refine tr_step rfl (by rfl) (fun K hK => ?_)
                  go_simp
                  refine (hU.out _ hB1).mono ?_
                  rintro e X2 ⟨hp, rfl, hsh, hmp, hfr, hb5⟩
                  have hB2 := BT hB1 hb5
                  have hst8 := hmp.st
                  have hlt6 := hsl.lt7
                  have hsl2 := hsl.below hb5 hsl.lt7
                  clear hmp hb5 hsl hko
                  unfold Hd.val
                  refine hK _ _ (HSW.out _ hB2) ?_
                  clear hK K hB1
                  (try simp only [Act.put, List.setIfInBounds_toArray, List.set_cons_zero, List.set_cons_succ])
                  refine tr_last rfl (by rfl) (by kernel_rfl) (fun K hK => ?_)
                  obtain ⟨u0, q0, f0⟩ := hsl2.get 0 (by omega)
                  obtain ⟨u1, q1, f1⟩ := hsl2.get 1 (by omega)
                  obtain ⟨u2, q2, f2⟩ := hsl2.get 2 (by omega)
                  obtain ⟨u3, q3, f3⟩ := hsl2.get 3 (by omega)
                  obtain ⟨u4, q4, f4⟩ := hsl2.get 4 (by omega)
                  obtain ⟨u5, q5, f5⟩ := hsl2.get 5 (by omega)
                  obtain ⟨u6, q6, f6⟩ := hsl2.get 6 (by omega)
                  have hB3 := (BC (BC (BC (BC (BC (BC (BC hB2 g6 0 hg6 (.slice hp.a hp.n hp.cap)) g6 1 hg6 (.int .i64 hp.eLo)) g6 2 hg6 (.int .i64 hp.eHi)) g6 3 hg6 (.int .i64 hp.images)) g6 4 hg6 (.int .i64 hp.sLo)) g6 5 hg6 (.int .i64 hp.sHi)) g6 6 hg6 (.slice hp.sa hp.ns hp.scap))
                  have hbox := box_put7 hsl2 hp
                  have hst9 := setts_put7 (g := g6) hp hst8 (fun b o e => .inr (by have := hfr b o e; omega))
                  unfold put7 at hbox hst9
                  go_simp
                  clear q0 q1 q2 q3 q4 q5 q6 f0 f1 f2 f3 f4 f5 f6
                  generalize (((((((X2.setCell ⟨g6, 0, none⟩ (.slice hp.a hp.n hp.cap)).setCell ⟨g6, 1, none⟩ (.int .i64 hp.eLo)).setCell ⟨g6, 2, none⟩ (.int .i64 hp.eHi)).setCell ⟨g6, 3, none⟩ (.int .i64 hp.images)).setCell ⟨g6, 4, none⟩ (.int .i64 hp.sLo)).setCell ⟨g6, 5, none⟩ (.int .i64 hp.sHi)).setCell ⟨g6, 6, none⟩ (.slice hp.sa hp.ns hp.scap)) = X3 at *
                  refine hK _ _ ?_
                  clear hK K
                  (try simp only [Act.put, List.setIfInBounds_toArray, List.set_cons_zero, List.set_cons_succ])
                  show Exit.then _ _ Exit.normal _ _
                  go_wp2_with fail
                  go_meet
                  exact ⟨g6, hp, rfl, hsh, hbox, hst9, hg6, hB3⟩
              case rest =>
                obtain ⟨gx, hp, rfl, ⟨sa, cap, hph⟩, hbx, hst, hgx, hb9⟩ := hcut
                clear hB0 hU HSW hpt hko
                have HX := Lib.hid hbx
                have HST := Lib.hid hst
                have HPH := Lib.hid hph
                have hB9 := BT hB hb9
                clear hbx hst hph hb9
                generalize wc = wX at *
                have HHP : Hid (∀ Y, Below wX.heap.size wX Y → HasM Y (partH h sa ps.length cap) xs ps) := fun Y hY => by
                  have hMY := HM.out.below (Nat.le_refl _) (BT hB7 (BT hB9 hY))
                  have hS := HST.out
                  rw [HPH.out] at hS
                  exact ⟨hMY.sp, hS.below (Nat.le_refl _) hY, hMY.nx, rfl, hMY.lx, by have := hpn.out; omega⟩
                obtain ⟨t1, t2, ht, qt⟩ := reply_eq (sumA_sp (partH h sa ps.length cap) xs ps)
                have HS0 : Hid (tb k = true → t1 = s1 ∧ t2 = s2 ∧ ht = 0) := fun e => by
                  have h1 := (hsame.out e sa ps.length cap).1
                  rw [h1, Q2.out] at qt
                  simp at qt
                  omega
                have HQS : Hid (∀ Y, Below wX.heap.size wX Y → Calls Try.prog 18 #[.agg #[.slice h.a h.n h.cap, .int .i64 h.eLo, .int .i64 h.eHi, .int .i64 h.images, .int .i64 h.sLo, .int .i64 h.sHi, .slice sa ps.length cap]] Y (Ret (.tuple #[.agg #[.int .i64 t1, .int .i64 t2], .int .i64 ht]) Y)) := fun Y hY => by
                  have := sum_any (partH h sa ps.length cap) xs ps Y (HHP.out Y hY)
                  rw [qt] at this; exact this
                have HBX : Hid (∀ Y, Below wX.heap.size wX Y → Y.cell? ⟨gx, 0, none⟩ = some (.slice h.a h.n h.cap) ∧ Y.cell? ⟨gx, 1, none⟩ = some (.int .i64 h.eLo) ∧ Y.cell? ⟨gx, 2, none⟩ = some (.int .i64 h.eHi) ∧ Y.cell? ⟨gx, 3, none⟩ = some (.int .i64 h.images) ∧ Y.cell? ⟨gx, 4, none⟩ = some (.int .i64 h.sLo) ∧ Y.cell? ⟨gx, 5, none⟩ = some (.int .i64 h.sHi) ∧ Y.cell? ⟨gx, 6, none⟩ = some (.slice sa ps.length cap)) := fun Y hY => by
                  have hb := (HX.out.box).grown hY
                  rw [HPH.out] at hb
                  exact hb
                have HBC : Hid (∀ Y, Below wX.heap.size wX Y → BoxM Y B h xs ss) := fun Y hY => HB7.out.grown (BT hB9 hY)
                clear qt HX HST HPH
                obtain ⟨d0, d1, d2, d3, d4, d5, d6⟩ := HBX.out wX (Below.refl _ _)
                go_wp2_with fail
                refine (HQS.out wX (Below.refl _ _)).mono ?_
                rintro e x1 ⟨rfl, hx1⟩
                have hA1 := BT hx1 (newB x1 (.cells #[.int .i64 t1, .int .i64 t2] 24))
                have HTA := Lib.hid (show Two x1.heap.size t1 t2 (x1.alloc (.cells #[.int .i64 t1, .int .i64 t2] 24)) from two_newT x1 t1 t2 24)
                have HTB := Lib.hid (HT7.out.grown (BT hB9 hA1))
                clear d0 d1 d2 d3 d4 d5 d6 hx1 HQS
                go_upto_region 32 with fail
                generalize x1.heap.size = g17 at *
                generalize x1.alloc (.cells #[.int .i64 t1, .int .i64 t2] 24) = Y1 at *
                go_cut [19] (fun a19 X => ∃ b : Bool, a19 = .bool b ∧ (tb k = true → b = true) ∧ X = Y1)
                case first =>
                  obtain ⟨x0, x1'⟩ := HTA.out
                  obtain ⟨y0, y1⟩ := HTB.out
                  have HE := HS0
                  have HBB : Hid (True) := trivial
                  by_cases h1 : t1 = s1
                  case neg =>
                    have HN : Hid (tb k = true → false = true) := fun e => absurd (HE.out e).1 h1
                    clear HE HBB
                    go_wp2_with fail
                    go_meet
                    exact ⟨false, rfl, HN.out, rfl⟩
                  by_cases h2 : t2 = s2
                  case neg =>
                    have HN : Hid (tb k = true → false = true) := fun e => absurd (HE.out e).2.1 h2
                    clear HE HBB
                    go_wp2_with fail
                    go_meet
                    exact ⟨false, rfl, HN.out, rfl⟩
                  by_cases h3 : ht = 0
                  case neg =>
                    have HN : Hid (tb k = true → false = true) := fun e => absurd (HE.out e).2.2 h3
                    have h3b := beq_eq_false_iff_ne.2 h3
                    clear HE HBB
                    go_wp2_with fail
                    go_meet
                    exact ⟨false, rfl, HN.out, rfl⟩
                  have HN : Hid (tb k = true → true = true) := fun _ => rfl
                  rw [h1] at x0
                  rw [h2] at x1'
                  subst h3
                  clear HE HBB
                  go_wp2_with fail
                  go_meet
                  exact ⟨true, rfl, fun _ => rfl, rfl⟩
                case rest =>
                  obtain ⟨b0, rfl, hb0', hw0⟩ := hcut
                  subst hw0
                  generalize wc = wU at *
                  have HB00 : Hid (tb k = true → b0 = true) := hb0'
                  have hY0 := hA1
                  clear hb0' HTA HTB HS0 hA1
                  obtain ⟨c0, c1, c2, c3, c4, c5, c6, hh⟩ := HBC.out _ hY0
                  rw [HIM.out] at c3
                  go_wp2_with fail
                  clear c0 c1 c2 c3 c4 c5 c6 hh
                  go_loopw [19, 167] (fun s i wr => ∃ (i' : Nat) (b : Bool), i' ≤ N ∧ i = .int .i64 i' ∧ s = .bool b ∧ Hid (tb k = true → b = true) ∧ Below wU.heap.size wU wr) (fun _ i _ => N - (intOf i).toNat)
                  case atStart => exact ⟨0, b0, by omega, rfl, rfl, HB00, Below.refl _ _⟩
                  case round =>
                    obtain ⟨i, b, hi, rfl, rfl, HBB, hBi⟩ := hrel
                    have hi0 : (0 : Int) ≤ (i : Int) := by omega
                    have hi1 : (i : Int) ≤ 6 := by omega
                    have hYi := BT hY0 hBi
                    by_cases hil : i < N
                    · skip
                      obtain ⟨l1, v1, e1, z1⟩ := reply_eq (placeA_sp h xs ss i)
                      obtain ⟨l2, v2, e2, z2⟩ := reply_eq (placeA_sp (partH h sa ps.length cap) xs ps i)
                      have HE : Hid (tb k = true → l1 = l2 ∧ v1 = v2 ∧ e1 = e2) := fun e => by
                        have hq := (hsame.out e sa ps.length cap).2.1 i
                        rw [hq, z1] at z2
                        simp at z2
                        omega
                      have hP1 : Hid (∀ Y, Below wX.heap.size wX Y → Calls Try.prog 20 #[.agg #[.slice h.a h.n h.cap, .int .i64 h.eLo, .int .i64 h.eHi, .int .i64 h.images, .int .i64 h.sLo, .int .i64 h.sHi, .slice h.sa h.ns h.scap], .int .i64 i] Y (Ret (.tuple #[.agg #[.int .i64 l1, .int .i64 v1], .int .i64 e1]) Y)) := fun Y hY => by
                        have := place_any i h xs ss Y (HBC.out Y hY).has
                        rw [z1] at this; exact this
                      have hP2 : Hid (∀ Y, Below wX.heap.size wX Y → Calls Try.prog 20 #[.agg #[.slice h.a h.n h.cap, .int .i64 h.eLo, .int .i64 h.eHi, .int .i64 h.images, .int .i64 h.sLo, .int .i64 h.sHi, .slice sa ps.length cap], .int .i64 i] Y (Ret (.tuple #[.agg #[.int .i64 l2, .int .i64 v2], .int .i64 e2]) Y)) := fun Y hY => by
                        have := place_any i (partH h sa ps.length cap) xs ps Y (HHP.out Y hY)
                        rw [z2] at this; exact this
                      clear z1 z2
                      obtain ⟨c0, c1, c2, c3, c4, c5, c6, hh⟩ := HBC.out _ hYi
                      go_wp2_with fail
                      refine (hP1.out _ hYi).mono ?_
                      rintro e x3 ⟨rfl, hx3⟩
                      have hA3 := BT hx3 (newB x3 (.cells #[.int .i64 l1, .int .i64 v1] 24))
                      have hY3 := BT hYi hA3
                      have hT3 := Lib.hid (show Two x3.heap.size l1 v1 (x3.alloc (.cells #[.int .i64 l1, .int .i64 v1] 24)) from two_newT x3 l1 v1 24)
                      clear c0 c1 c2 c3 c4 c5 c6 hh hx3 hP1
                      obtain ⟨d0, d1, d2, d3, d4, d5, d6⟩ := HBX.out _ hY3
                      go_wp2_with fail
                      generalize x3.heap.size = gp at *
                      generalize x3.alloc (.cells #[.int .i64 l1, .int .i64 v1] 24) = Y3 at *
                      refine (hP2.out _ hY3).mono ?_
                      rintro e x4 ⟨rfl, hx4⟩
                      have hA4 := BT hx4 (newB x4 (.cells #[.int .i64 l2, .int .i64 v2] 24))
                      have hY4 := BT hY3 hA4
                      have hT4 := Lib.hid (hT3.out.grown hA4)
                      have hT5 := Lib.hid (show Two x4.heap.size l2 v2 (x4.alloc (.cells #[.int .i64 l2, .int .i64 v2] 24)) from two_newT x4 l2 v2 24)
                      have hBn := BT hBi (BT hA3 hA4)
                      clear d0 d1 d2 d3 d4 d5 d6 hx4 hA3 hA4 hP2 hT3 hY3
                      go_upto_region 38 with fail
                      generalize x4.heap.size = gq at *
                      generalize x4.alloc (.cells #[.int .i64 l2, .int .i64 v2] 24) = Y4 at *
                      go_cut [19] (fun a19 X => ∃ b : Bool, a19 = .bool b ∧ (tb k = true → b = true) ∧ X = Y4)
                      case first =>
                        obtain ⟨x0, x1'⟩ := hT4.out
                        obtain ⟨y0, y1⟩ := hT5.out
                        cases b
                        · have HN : Hid (tb k = true → false = true) := HBB
                          clear HE HBB
                          go_wp2_with fail
                          go_meet
                          exact ⟨false, rfl, HN.out, rfl⟩
                        · by_cases h1 : l1 = l2
                          case neg =>
                            have HN : Hid (tb k = true → false = true) := fun e => absurd (HE.out e).1 h1
                            clear HE HBB
                            go_wp2_with fail
                            go_meet
                            exact ⟨false, rfl, HN.out, rfl⟩
                          subst h1
                          by_cases h2 : v1 = v2
                          case neg =>
                            have HN : Hid (tb k = true → false = true) := fun e => absurd (HE.out e).2.1 h2
                            clear HE HBB
                            go_wp2_with fail
                            go_meet
                            exact ⟨false, rfl, HN.out, rfl⟩
                          subst h2
                          by_cases h3 : e1 = e2
                          case neg =>
                            have HN : Hid (tb k = true → false = true) := fun e => absurd (HE.out e).2.2 h3
                            have h3b := beq_eq_false_iff_ne.2 h3
                            clear HE HBB
                            go_wp2_with fail
                            go_meet
                            exact ⟨false, rfl, HN.out, rfl⟩
                          subst h3
                          have HN : Hid (tb k = true → true = true) := fun _ => rfl
                          clear HE HBB
                          go_wp2_with fail
                          go_meet
                          exact ⟨true, rfl, fun _ => rfl, rfl⟩
                      case rest =>
                        obtain ⟨b', rfl, hb', hw1⟩ := hcut
                        subst hw1
                        generalize wc = wV at *
                        have HBB' : Hid (tb k = true → b' = true) := hb'
                        have hY1 := hY4
                        have hBi0 := hBn
                        clear HE HBB hT4 hT5 hb' hBi hYi hY4 hBn
                        obtain ⟨c0, c1, c2, c3, c4, c5, c6, hh⟩ := HBC.out _ hY1
                        rw [HIM.out] at c3
                        go_wp2_with fail
                        clear c0 c1 c2 c3 c4 c5 c6 hh
                        go_loopw [19, 195] (fun s i wr => ∃ (l : Nat) (b : Bool), l ≤ N ∧ i = .int .i64 l ∧ s = .bool b ∧ Hid (tb k = true → b = true) ∧ Below wV.heap.size wV wr) (fun _ i _ => N - (intOf i).toNat)
                        case atStart => exact ⟨0, b', by omega, rfl, rfl, HBB', Below.refl _ _⟩
                        case round =>
                          obtain ⟨l, b, hl, rfl, rfl, HBB, hBi⟩ := hrel
                          have hl0 : (0 : Int) ≤ (l : Int) := by omega
                          have hl1 : (l : Int) ≤ 6 := by omega
                          have hYi := BT hY1 hBi
                          by_cases hll : l < N
                          · skip
                            obtain ⟨l1, v1, e1, z1⟩ := reply_eq (apartA_sp h xs ss i l)
                            obtain ⟨l2, v2, e2, z2⟩ := reply_eq (apartA_sp (partH h sa ps.length cap) xs ps i l)
                            have HE : Hid (tb k = true → l1 = l2 ∧ v1 = v2 ∧ e1 = e2) := fun e => by
                              have hq := (hsame.out e sa ps.length cap).2.2 i l
                              rw [hq, z1] at z2
                              simp at z2
                              omega
                            have hP1 : Hid (∀ Y, Below wX.heap.size wX Y → Calls Try.prog 22 #[.agg #[.slice h.a h.n h.cap, .int .i64 h.eLo, .int .i64 h.eHi, .int .i64 h.images, .int .i64 h.sLo, .int .i64 h.sHi, .slice h.sa h.ns h.scap], .int .i64 i, .int .i64 l] Y (Ret (.tuple #[.agg #[.int .i64 l1, .int .i64 v1], .int .i64 e1]) Y)) := fun Y hY => by
                              have := apart_any i l h xs ss Y (HBC.out Y hY).has
                              rw [z1] at this; exact this
                            have hP2 : Hid (∀ Y, Below wX.heap.size wX Y → Calls Try.prog 22 #[.agg #[.slice h.a h.n h.cap, .int .i64 h.eLo, .int .i64 h.eHi, .int .i64 h.images, .int .i64 h.sLo, .int .i64 h.sHi, .slice sa ps.length cap], .int .i64 i, .int .i64 l] Y (Ret (.tuple #[.agg #[.int .i64 l2, .int .i64 v2], .int .i64 e2]) Y)) := fun Y hY => by
                              have := apart_any i l (partH h sa ps.length cap) xs ps Y (HHP.out Y hY)
                              rw [z2] at this; exact this
                            clear z1 z2
                            obtain ⟨c0, c1, c2, c3, c4, c5, c6, hh⟩ := HBC.out _ hYi
                            go_wp2_with fail
                            refine (hP1.out _ hYi).mono ?_
                            rintro e x3 ⟨rfl, hx3⟩
                            have hA3 := BT hx3 (newB x3 (.cells #[.int .i64 l1, .int .i64 v1] 24))
                            have hY3 := BT hYi hA3
                            have hT3 := Lib.hid (show Two x3.heap.size l1 v1 (x3.alloc (.cells #[.int .i64 l1, .int .i64 v1] 24)) from two_newT x3 l1 v1 24)
                            clear c0 c1 c2 c3 c4 c5 c6 hh hx3 hP1
                            obtain ⟨d0, d1, d2, d3, d4, d5, d6⟩ := HBX.out _ hY3
                            go_wp2_with fail
                            generalize x3.heap.size = gp at *
                            generalize x3.alloc (.cells #[.int .i64 l1, .int .i64 v1] 24) = Y3 at *
                            refine (hP2.out _ hY3).mono ?_
                            rintro e x4 ⟨rfl, hx4⟩
                            have hA4 := BT hx4 (newB x4 (.cells #[.int .i64 l2, .int .i64 v2] 24))
                            have hY4 := BT hY3 hA4
                            have hT4 := Lib.hid (hT3.out.grown hA4)
                            have hT5 := Lib.hid (show Two x4.heap.size l2 v2 (x4.alloc (.cells #[.int .i64 l2, .int .i64 v2] 24)) from two_newT x4 l2 v2 24)
                            have hBn := BT hBi (BT hA3 hA4)
                            clear d0 d1 d2 d3 d4 d5 d6 hx4 hA3 hA4 hP2 hT3 hY3
                            obtain ⟨x0, x1'⟩ := hT4.out
                            obtain ⟨y0, y1⟩ := hT5.out
                            cases b
                            · have HN : Hid (tb k = true → false = true) := HBB
                              clear HE HBB
                              go_wp2
                              go_roundw
                              case rel => exact ⟨l + 1, false, by omega, by go_num, rfl, HN, hBn⟩
                              case measure => simp [intOf]; omega
                            · by_cases h1 : l1 = l2
                              case neg =>
                                have HN : Hid (tb k = true → false = true) := fun e => absurd (HE.out e).1 h1
                                clear HE HBB
                                go_wp2
                                go_roundw
                                case rel => exact ⟨l + 1, false, by omega, by go_num, rfl, HN, hBn⟩
                                case measure => simp [intOf]; omega
                              subst h1
                              by_cases h2 : v1 = v2
                              case neg =>
                                have HN : Hid (tb k = true → false = true) := fun e => absurd (HE.out e).2.1 h2
                                clear HE HBB
                                go_wp2
                                go_roundw
                                case rel => exact ⟨l + 1, false, by omega, by go_num, rfl, HN, hBn⟩
                                case measure => simp [intOf]; omega
                              subst h2
                              by_cases h3 : e1 = e2
                              case neg =>
                                have HN : Hid (tb k = true → false = true) := fun e => absurd (HE.out e).2.2 h3
                                have h3b := beq_eq_false_iff_ne.2 h3
                                clear HE HBB
                                go_wp2
                                go_roundw
                                case rel => exact ⟨l + 1, false, by omega, by go_num, rfl, HN, hBn⟩
                                case measure => simp [intOf]; omega
                              subst h3
                              have HN : Hid (tb k = true → true = true) := fun _ => rfl
                              clear HE HBB
                              go_wp2
                              go_roundw
                              case rel => exact ⟨l + 1, true, by omega, by go_num, rfl, (fun _ => rfl), hBn⟩
                              case measure => simp [intOf]; omega
                          · obtain rfl : N = l := by omega
                            have hBo := BT hBi0 hBi
                            go_wp2
                            go_roundw
                            case rel => exact ⟨i + 1, b, by omega, by go_num, rfl, HBB, hBo⟩
                            case measure => simp [intOf]; omega
                    · obtain rfl : N = i := by omega
                      have hBw9 := BT hB9 hYi
                      have hb1' := hb1.out
                      have hb0' := hb0.out
                      cases htk : tb k
                      · rw [htk] at hb1' hb0'
                        simp only [Bool.not_false] at hb0'
                        cases b
                        · go_wp2
                          go_roundw
                          case rel => exact ⟨k + 1, by omega, by go_num, hBw9⟩
                          case measure => simp [intOf]; omega
                        · have hbo := bound_anyR h (partH h sa ps.length cap) xs ss ps true wr (HBC.out _ hYi).has (HHP.out _ hYi) HV.out (hpv.out sa ps.length cap) ⟨fun _ => hbnd.out htk sa ps.length cap, fun _ => rfl⟩
                          unfold Hd.val partH at hbo
                          dsimp only at hbo
                          have HBO := Lib.hid hbo
                          clear hbo
                          obtain ⟨c0, c1, c2, c3, c4, c5, c6, hh⟩ := HBC.out _ hYi
                          obtain ⟨d0, d1, d2, d3, d4, d5, d6⟩ := HBX.out _ hYi
                          go_wp2_with fail
                          refine HBO.out.mono ?_
                          rintro e x9 ⟨rfl, hx9⟩
                          have hBw10 := BT hBw9 hx9
                          clear c0 c1 c2 c3 c4 c5 c6 hh d0 d1 d2 d3 d4 d5 d6
                          go_wp2
                          go_roundw
                          case rel => exact ⟨k + 1, by omega, by go_num, hBw10⟩
                          case measure => simp [intOf]; omega
                      · have hbt : b = true := HBB.out htk
                        subst hbt
                        rw [htk] at hb1' hb0'
                        simp only [Bool.not_true] at hb0'
                        go_wp2
                        go_roundw
                        case rel => exact ⟨k + 1, by omega, by go_num, hBw9⟩
                        case measure => simp [intOf]; omega
            · obtain rfl : k = h.ns := by omega
              go_wp2_with fail
              refine (alive_any _).mono ?_
              rintro e x1 ⟨rfl, hx1⟩
              have hX1 := BT hBC hx1
              go_wp2
              go_ret
              exact ⟨rfl, hX1⟩
end Go.Proofs.Ytmfbkgdlfackcaa

namespace Go.Proofs.Ytmfbkgdlfackcaa.ScrewIdlesRow
open Go.ChangeShapes Go.WideShapes Go.ChangeAt Go.RowKit

theorem own : ownKnob Try.prog.godebug = none := by kernel_rfl

set_option maxRecDepth 100000 in
theorem lifted (os : Os) (started : os.Started) (H : Type) (enc : TypeId × Value → H) :
    ReturnsInHanded {} Try.checked os 11 .any (Rows.screwIdlesSpec.pre6 enc Try.prog Try.f11 Rows.screwIdlesRow.domain false) (Rows.screwIdlesSpec.post enc Try.prog Try.f11 false true false false) := by
  refine returnsInHanded_of_change (C := Try.checked) own started (by kernel_rfl) Try.func11
    (ChangeSpec.witness6 (enc := enc) (C := Try.checked) false ⟨#[], #[.agg #[.slice none 0 0, .int .i64 0, .int .i64 0, .int .i64 0, .int .i64 0, .int .i64 0, .slice none 0 0]], []⟩ 8 (by kernel_rfl) (by kernel_rfl) (by kernel_rfl) (by kernel_rfl)) ?_
  intro W base args ds gs before hval0 hW hcnd _
  have hval : ∀ (j : Nat) t v, Try.f11.params[j]? = some t → args[j]? = some v → Value.okWide Try.prog W .any base t v := hval0
  have hW' := hW
  obtain ⟨p, q, hA0, hV, rfl, hfz, hnd⟩ := hW
  have hA : DataW.TrodAll enc Try.prog W 0 (fun _ => true) true Try.f11.params.toList args.toList ds p := hA0
  rw [Try.params11] at hA hval
  obtain ⟨v0, vs0, d0, ds0, p0, q0, hargs, rfl, rfl, h0, r0⟩ := trodAll_cons hA
  obtain ⟨rfl, rfl, rfl⟩ := trodAll_nil r0
  obtain rfl : args = #[v0] := Array.toList_inj.1 (by simpa using hargs)
  obtain ⟨hd, xs, ss, rfl, hm⟩ := open_measure (hval 0 29 v0 rfl rfl) h0
  obtain ⟨rfl, rfl⟩ := trodVars_none hV
  refine (idlesL_any hd xs ss W hm).mono fun e W' ⟨he, hb⟩ => ?_
  subst he
  refine ⟨_, rfl, law_last rfl (by decide +kernel) (fun _ _ _ => trodAll_cons_mk (shut_bool Try.underlying4 _) trodAll_mk0) (ok_one (by kernel_rfl) rfl (okWide_bool_mk Try.underlying4 _)) hW' rfl rfl rfl hb⟩

theorem over : Rows.screwIdlesRow.holds Try.pinned (OpenSpec.ofChange Rows.screwIdlesSpec) :=
  OpenClaim.holds_of_wide 11 Try.f11 rfl rfl rfl rfl rfl rfl rfl ⟨rfl, rfl, rfl, rfl, rfl⟩ rfl rfl rfl rfl rfl (by kernel_rfl) Try.func11 (by kernel_rfl)
    (of_decide_eq_true (by kernel_rfl)) (by unfold Func.isWrapper; first | (rw [if_pos (by decide +kernel)]; kernel_rfl) | (rw [if_neg (by decide +kernel)]; exact ⟨rfl, rfl⟩))
    (fun os started H enc _ => lifted os started H enc)

theorem screwIdles_holds : Rows.ScrewIdlesSaid := over
#print axioms screwIdles_holds
end Go.Proofs.Ytmfbkgdlfackcaa.ScrewIdlesRow
