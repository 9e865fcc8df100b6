/- The reference: the images that were measured in one position alone. -/
import Derived.Test.YtmfbkgdlfackcaaRdr
import Derived.Test.YtmfbkgdlfackcaaMon
namespace Go.Proofs.Ytmfbkgdlfackcaa
open Fw Go.RowKit

def upB (i : Int) (s : Sett) : Bool := s.1 == i && !s.2.2
def rvB (i : Int) (s : Sett) : Bool := s.1 == i && s.2.2
def onceE (ss : List Sett) : Nat → Int
  | 0 => 0
  | k + 1 => if (ss.any (upB k) != ss.any (rvB k)) = true then onceE ss k + 2 ^ k else onceE ss k
theorem onceE_rng (ss : List Sett) : ∀ k, 0 ≤ onceE ss k ∧ onceE ss k < 2 ^ k
  | 0 => by rw [onceE]; decide
  | k + 1 => by
    have := onceE_rng ss k
    have e : (2 : Int) ^ (k + 1) = 2 * 2 ^ k := by rw [Int.pow_succ, Int.mul_comm]
    rw [onceE, e]; split <;> omega
/-! What is counted of an image. -/
theorem find_set (j : Int) (v : Int × Int) (k : Int) : ∀ (cs : List Cnt) (i q : Nat) (u : Int × Int), posC j cs i = some (q, u) →
    (cs.set (q - i) (j, v)).find? (fun c => k == c.1) = if k == j then some (j, v) else cs.find? (fun c => k == c.1)
  | [], _, _, _, h => by cases h
  | c :: cs, i, q, u, h => by
    have hat := posC_at j (c :: cs) i q u h
    rw [posC] at h
    cases hc : (j == c.1)
    · rw [hc, if_neg (by simp)] at h
      have hat2 := posC_at j cs (i + 1) q u h
      have e : q - i = (q - (i + 1)) + 1 := by omega
      rw [e, List.set_cons_succ, List.find?_cons, List.find?_cons, find_set j v k cs (i + 1) q u h]
      cases hk : (k == c.1)
      · rfl
      · have : (k == j) = false := by
          have h1 : k = c.1 := by simpa using hk
          have h2 : ¬ j = c.1 := by simpa using hc
          simp; omega
        rw [this]; rfl
    · rw [hc, if_pos rfl] at h
      injection h with h
      injection h with h1 h2
      have hj : j = c.1 := by simpa using hc
      rw [h1, Nat.sub_self, List.set_cons_zero, List.find?_cons, List.find?_cons, ← hj]
      cases (k == j) <;> rfl
theorem posC_find (k : Int) : ∀ (cs : List Cnt) (i : Nat), (posC k cs i).map (·.2) = (cs.find? (fun c => k == c.1)).map (·.2)
  | [], _ => rfl
  | c :: cs, i => by
    rw [posC, List.find?_cons]
    cases hc : (k == c.1)
    · rw [if_neg (by simp)]; exact posC_find k cs (i + 1)
    · rw [if_pos rfl]; rfl
theorem getC_find (k : Int) (cs : List Cnt) : getC k cs = ((cs.find? (fun c => k == c.1)).map (·.2)).getD (0, 0) := by
  rw [← posC_find k cs 0]
  unfold getC
  cases posC k cs 0 <;> rfl
theorem getC_set (k j : Int) (v : Int × Int) (cs : List Cnt) : getC k (setC j v cs) = if k == j then v else getC k cs := by
  rw [getC_find, getC_find]
  unfold setC
  cases hp : posC j cs 0 with
  | some p =>
    obtain ⟨q, u⟩ := p
    have := find_set j v k cs 0 q u hp
    rw [Nat.sub_zero] at this
    dsimp only
    rw [this]
    cases (k == j) <;> rfl
  | none =>
    dsimp only
    have hn : cs.find? (fun c => j == c.1) = none := by
      have := posC_find j cs 0
      rw [hp] at this
      cases hf : cs.find? (fun c => j == c.1) with
      | none => rfl
      | some c => rw [hf] at this; cases this
    rw [List.find?_append]
    cases hk : (k == j)
    · cases hf : cs.find? (fun c => k == c.1) with
      | none => simp [hk]
      | some c => simp
    · have : k = j := by simpa using hk
      subst this
      rw [hn]; simp
theorem wrap_suc {n : Int} (h : 0 ≤ n ∧ n ≤ 1000) : wrap64 (n + 1) = n + 1 := by unfold wrap64; omega
theorem cnts_zero (k : Int) : ∀ (ss : List Sett) (cs : List Cnt), (0 ≤ (getC k cs).1 ∧ (getC k cs).1 + ss.length ≤ 1000) → (0 ≤ (getC k cs).2 ∧ (getC k cs).2 + ss.length ≤ 1000) →
    ((getC k (ss.foldl cntOf cs)).1 == 0) = ((getC k cs).1 == 0 && !ss.any (upB k)) ∧ ((getC k (ss.foldl cntOf cs)).2 == 0) = ((getC k cs).2 == 0 && !ss.any (rvB k))
  | [], cs, _, _ => by simp
  | s :: ss, cs, h1, h2 => by
    have e := getC_set k s.1 (bump s.2.2 (getC s.1 cs)) cs
    rw [List.length_cons] at h1 h2
    rw [List.foldl_cons, List.any_cons, List.any_cons]
    cases hk : (k == s.1)
    · rw [hk, if_neg (by simp)] at e
      have ih := cnts_zero k ss (cntOf cs s) (by unfold cntOf; rw [e]; omega) (by unfold cntOf; rw [e]; omega)
      have e2 : getC k (cntOf cs s) = getC k cs := e
      rw [ih.1, ih.2, e2]
      have hs : (s.1 == k) = false := by have : ¬ k = s.1 := by simpa using hk
                                         simp; omega
      simp [upB, rvB, hs]
    · have hks : k = s.1 := by simpa using hk
      rw [hk, if_pos rfl, ← hks] at e
      have e2 : getC k (cntOf cs s) = bump s.2.2 (getC k cs) := by
        unfold cntOf; rw [← hks]; exact e
      cases hr : s.2.2
      · have e3 : getC k (cntOf cs s) = ((getC k cs).1 + 1, (getC k cs).2) := by
          rw [e2, hr]; unfold bump; rw [if_neg (by simp), wrap_suc (by omega)]
        have ih := cnts_zero k ss (cntOf cs s) (by rw [e3]; dsimp only; omega) (by rw [e3]; dsimp only; omega)
        rw [ih.1, ih.2, e3]
        have hn : ((getC k cs).1 + 1 == 0) = false := by simp; omega
        have hu : upB k s = true := by unfold upB; rw [hr, hks]; simp
        have hw : rvB k s = false := by unfold rvB; rw [hr]; simp
        rw [hu, hw]
        dsimp only
        rw [hn]; simp
      · have e3 : getC k (cntOf cs s) = ((getC k cs).1, (getC k cs).2 + 1) := by
          rw [e2, hr]; unfold bump; rw [if_pos rfl, wrap_suc (by omega)]
        have ih := cnts_zero k ss (cntOf cs s) (by rw [e3]; dsimp only; omega) (by rw [e3]; dsimp only; omega)
        rw [ih.1, ih.2, e3]
        have hn : ((getC k cs).2 + 1 == 0) = false := by simp; omega
        have hu : upB k s = false := by unfold upB; rw [hr]; simp
        have hw : rvB k s = true := by unfold rvB; rw [hr, hks]; simp
        rw [hu, hw]
        dsimp only
        rw [hn]; simp
theorem or_pow {k : Nat} (hk : k < 6) {x : Int} (h : 0 ≤ x ∧ x < 2 ^ k) : bits .or .i64 x (2 ^ k) = x + 2 ^ k := by
  have h1 : ∀ k : Fin 6, ∀ x : Fin 64, (x.val : Int) < 2 ^ k.val → bits .or .i64 x.val (2 ^ k.val) = x.val + 2 ^ k.val := by decide +kernel
  have h2 : (2 : Int) ^ k ≤ 64 := (by decide : ∀ k : Fin 6, (2 : Int) ^ k.val ≤ 64) ⟨k, hk⟩
  have e : ((x.toNat : Nat) : Int) = x := by omega
  have := h1 ⟨k, hk⟩ ⟨x.toNat, by omega⟩ (by rw [e]; exact h.2)
  dsimp only at this
  rw [e] at this; exact this
theorem once_eqE {ss : List Sett} (hl : ss.length ≤ 12) : ∀ k, k ≤ 6 → onceS (cntsOf ss) k = onceE ss k
  | 0, _ => rfl
  | k + 1, hk => by
    have hz := cnts_zero (k : Int) ss [] ⟨Int.le_refl 0, by show (0 : Int) + _ ≤ _; omega⟩ ⟨Int.le_refl 0, by show (0 : Int) + _ ≤ _; omega⟩
    rw [onceS, onceE, once_eqE hl k (by omega), or_pow (by omega) (onceE_rng ss k)]
    unfold cntsOf
    rw [hz.1, hz.2]
    have z : ((getC (k : Int) []).1 == 0) = true ∧ ((getC (k : Int) []).2 == 0) = true := ⟨rfl, rfl⟩
    rw [z.1, z.2]
    cases ss.any (upB k) <;> cases ss.any (rvB k) <;> rfl
def onceX (h : Hd) (xs : List (Int × Int)) (ss : List Sett) : Except Int Int := if validH h xs ss then .ok (onceE ss h.images.toNat) else .error 1
theorem once_same (h : Hd) (xs : List (Int × Int)) (ss : List Sett) : onceX h xs ss = onceA h xs ss := by
  unfold onceX onceA
  cases hv : validH h xs ss
  · rw [if_neg (by simp), if_neg (by simp)]
  · obtain ⟨a, b, c, d, e, f, g⟩ := valid_has hv
    rw [if_pos rfl, if_pos rfl]
    unfold onceR
    rw [once_eqE f _ (by omega)]
set_option maxRecDepth 100000 in
set_option maxHeartbeats 8000000 in
theorem once_anyR (h : Hd) (xs : List (Int × Int)) (ss : List Sett) (w : World) (hm : HasM w h xs ss) (hn : xs.length ≤ 100) (hns : ss.length ≤ 100) :
    Calls Try.prog 29 #[h.val] w (Ret (replyI (onceX h xs ss)) w) := by
  have HM := Lib.hid hm
  have HNS := Lib.hid hm.ns
  have hC0 : Hid (BoxC (w.alloc (.cells #[.slice h.a h.n h.cap, .int .i64 h.eLo, .int .i64 h.eHi, .int .i64 h.images, .int .i64 h.sLo, .int .i64 h.sHi, .slice h.sa h.ns h.scap] 29)) w.heap.size h) := boxC_new w h
  have hW0 : Hid (Below w.heap.size w (w.alloc (.cells #[.slice h.a h.n h.cap, .int .i64 h.eLo, .int .i64 h.eHi, .int .i64 h.images, .int .i64 h.sLo, .int .i64 h.sHi, .slice h.sa h.ns h.scap] 29))) := newB _ _
  have hME := measureR_any h xs ss _ (hm.below (Nat.le_refl _) hW0.out) hn hns
  unfold Hd.val at hME
  have HE : Hid (∀ r, onceX h xs ss = r ↔ (if validH h xs ss then .ok (onceE ss h.images.toNat) else .error 1) = r) := fun r => Iff.rfl
  have HV : Hid (validH h xs ss = true → h.ns ≤ 12 ∧ 1 ≤ h.images ∧ h.images ≤ 6) := fun hv => by
    obtain ⟨a, b, c, d, e, f, g⟩ := valid_has hv
    rw [← hm.ns]; omega
  generalize onceX h xs ss = R at *
  unfold Hd.val
  clear hm
  go_enter Try.func29, Try.ntmps29
  obtain ⟨c0, c1, c2, c3, c4, c5, c6⟩ := hC0.out
  go_wp2_with fail
  generalize hBw : w.heap.size = B at hC0 c0 c1 c2 c3 c4 c5 c6 ⊢
  generalize w.alloc (.cells #[.slice h.a h.n h.cap, .int .i64 h.eLo, .int .i64 h.eHi, .int .i64 h.images, .int .i64 h.sLo, .int .i64 h.sHi, .slice h.sa h.ns h.scap] 29) = W at *
  clear hBw
  refine hME.mono ?_
  rintro e w1 ⟨rfl, hb1⟩
  have hC1 := Lib.hid (hC0.out.grown hb1)
  have hW1 := BT hW0.out hb1
  clear hC0 hW0 hb1 hME c0 c1 c2 c3 c4 c5 c6
  cases hv : validH h xs ss
  · have HR : Hid (R = .error 1) := ((HE.out R).1 rfl).symm.trans (by rw [hv]; rfl)
    clear hv
    go_wp2
    exact bodyPost_ret (v := .tuple #[.int .i64 0, .int .i64 1]) (by simp [results, Try.results29, go_sem]) rfl ⟨by rw [HR.out]; rfl, by (repeat (first | assumption | exact Below.refl _ _ | refine BA ?_ _ | refine BC ?_ _ _ (by omega) _ | refine Below.drew ?_ | refine BT ?_ (by assumption)))⟩
  obtain ⟨hn12, hi1, hi2⟩ := HV.out hv
  obtain ⟨N, hN⟩ : ∃ N : Nat, h.images = (N : Int) := ⟨h.images.toNat, by omega⟩
  have hN6 : N ≤ 6 := by omega
  have HIM := Lib.hid hN
  have HR : Hid (R = .ok (onceE ss N)) := ((HE.out R).1 rfl).symm.trans (by rw [hv, hN]; rfl)
  clear HE HV hv hi1 hi2
  have HRG : Hid (∀ k, k ≤ 6 → 0 ≤ onceE ss k ∧ onceE ss k ≤ 64) := fun k hk => by
    have := onceE_rng ss k
    have h2 : (2 : Int) ^ k ≤ 64 := (by decide : ∀ k : Fin 7, (2 : Int) ^ k.val ≤ 64) ⟨k, by omega⟩
    omega
  have HST : Hid (∀ k, onceE ss (k + 1) = if (ss.any (upB k) != ss.any (rvB k)) = true then onceE ss k + 2 ^ k else onceE ss k) := fun k => rfl
  have h0 : Hid (onceE ss 0 = 0) := rfl
  generalize onceE ss = oe at *
  go_wp2_with fail
  go_loopw [4, 5] (fun o i wr => ∃ i' : Nat, i' ≤ N ∧ i = .int .i64 i' ∧ o = .int .i64 (oe i') ∧ Below w1.heap.size w1 wr) (fun _ i _ => N - (intOf i).toNat)
  case atStart => exact ⟨0, by omega, rfl, by rw [h0.out], Below.refl _ _⟩
  case round =>
    obtain ⟨i, hi, rfl, rfl, hB⟩ := hrel
    obtain ⟨c0, c1, c2, c3, c4, c5, c6⟩ := hC1.out.grown hB
    rw [hN] at c3
    have hi0 : (0 : Int) ≤ (i : Int) := by omega
    have hi1 : (i : Int) ≤ 6 := by omega
    have HBW := Lib.hid (BT hW1 hB)
    have hMw := HM.out.below (Nat.le_refl _) HBW.out
    have HCw := Lib.hid (hC1.out.grown hB)
    by_cases hlt : i < N
    · obtain ⟨r0, r1⟩ := HRG.out i (by omega)
      have hst := Lib.hid (HST.out i)
      have HPW := Lib.hid (power_any i (by omega))
      obtain ⟨q0, q1⟩ := pow_le (Nat.le_refl i) (show i ≤ 30 by omega)
      have q2 : (2 : Int) ^ i ≤ 64 := (by decide : ∀ k : Fin 7, (2 : Int) ^ k.val ≤ 64) ⟨i, by omega⟩
      generalize (2 : Int) ^ i = pw at *
      generalize oe i = o at *
      go_wp2_with fail
      have hst0 := hMw.st
      clear hMw
      go_loopw [6, 7, 8] (fun a b kk wk => ∃ k : Nat, k ≤ h.ns ∧ kk = .int .i64 k ∧ a = .bool ((ss.take k).any (upB i)) ∧ b = .bool ((ss.take k).any (rvB i)) ∧ wk = wr) (fun _ _ kk _ => h.ns - (intOf kk).toNat)
      case atStart => exact ⟨0, by omega, rfl, rfl, rfl, rfl⟩
      case round =>
        obtain ⟨k, hk, rfl, rfl, rfl, rfl⟩ := hrel
        have hk0 : (0 : Int) ≤ (k : Int) := by omega
        have hk1 : (k : Int) ≤ 100 := by omega
        by_cases hkl : k < h.ns
        · rcases hst0 with hnil | ⟨b, ofs, hsa, hb, hc⟩
          · exfalso; have := HNS.out; rw [hnil] at this; simp at this; omega
          · have hkl' : k < ss.length := by rw [HNS.out]; exact hkl
            obtain ⟨d0, d1, d2, _⟩ := hc k hkl'
            rw [hsa] at c6
            have e : ss.getD k (0, 0, false) = ss[k] := by simp [List.getD, hkl']
            have HU : Hid ((ss.take (k + 1)).any (upB i) = ((ss.take k).any (upB i) || (ss[k].1 == (i : Int) && !ss[k].2.2))) := by
              show _ = _; rw [List.take_succ_eq_append_getElem hkl', List.any_append]; simp [upB]
            have HVV : Hid ((ss.take (k + 1)).any (rvB i) = ((ss.take k).any (rvB i) || (ss[k].1 == (i : Int) && ss[k].2.2))) := by
              show _ = _; rw [List.take_succ_eq_append_getElem hkl', List.any_append]; simp [rvB]
            rw [e] at d0 d2
            clear hc hsa e d1
            generalize ss[k].1 = v at *
            generalize ss[k].2.2 = rv at *
            generalize (ss.take k).any (upB i) = ua at *
            generalize (ss.take k).any (rvB i) = ub at *
            by_cases hvi : v = (i : Int)
            · subst hvi
              have HU1 : Hid ((ss.take (k + 1)).any (upB i) = (ua || !rv)) := by show _ = _; rw [HU.out]; simp
              have HV1 : Hid ((ss.take (k + 1)).any (rvB i) = (ub || rv)) := by show _ = _; rw [HVV.out]; simp
              clear HU HVV
              cases ua <;> cases ub <;> cases rv
              all_goals
                go_wp2
                go_roundw
                case rel => exact ⟨k + 1, by omega, by go_num, by rw [HU1.out]; rfl, by rw [HV1.out]; rfl, trivial⟩
                case measure => simp [intOf]; omega
            · have hvb : (v == (i : Int)) = false := by simpa using hvi
              have HU1 : Hid ((ss.take (k + 1)).any (upB i) = ua) := by show _ = _; rw [HU.out, hvb]; simp
              have HV1 : Hid ((ss.take (k + 1)).any (rvB i) = ub) := by show _ = _; rw [HVV.out, hvb]; simp
              clear HU HVV
              cases ua <;> cases ub
              all_goals
                go_wp2
                go_roundw
                case rel => exact ⟨k + 1, by omega, by go_num, by rw [HU1.out], by rw [HV1.out], trivial⟩
                case measure => simp [intOf]; omega
        · obtain rfl : k = h.ns := by omega
          have hall : ∀ p : Sett → Bool, (ss.take h.ns).any p = ss.any p := fun p => by rw [List.take_of_length_le (by rw [HNS.out]; omega)]
          rw [hall, hall]
          generalize ss.any (upB i) = ua at *
          generalize ss.any (rvB i) = ub at *
          clear hst0 hall
          cases ua <;> cases ub
          case' false.false => have HN : Hid (oe (i + 1) = o) := by show _ = _; rw [hst.out]; simp
          case' true.true => have HN : Hid (oe (i + 1) = o) := by show _ = _; rw [hst.out]; simp
          case' false.true => have HN : Hid (oe (i + 1) = o + pw) := by show _ = _; rw [hst.out]; simp
          case' true.false => have HN : Hid (oe (i + 1) = o + pw) := by show _ = _; rw [hst.out]; simp
          all_goals
            clear hst
            first
            | (go_wp2_with fail
               refine (HPW.out _).mono ?_
               rintro e w5 ⟨rfl, hb5⟩
               have hB5 := BT hB hb5
               go_wp2
               go_roundw
               case rel => exact ⟨i + 1, by omega, by go_num, by rw [HN.out], hB5⟩
               case measure => simp [intOf]; omega)
            | (go_wp2
               go_roundw
               case rel => exact ⟨i + 1, by omega, by go_num, by rw [HN.out], hB⟩
               case measure => simp [intOf]; omega)
    · obtain rfl : i = N := by omega
      have hB9 := HBW.out
      clear hMw
      generalize oe i = b at *
      go_wp2
      exact bodyPost_ret (v := .tuple #[.int .i64 b, .int .i64 0]) (by simp [results, Try.results29, go_sem]) rfl ⟨by rw [HR.out]; rfl, hB9⟩
end Go.Proofs.Ytmfbkgdlfackcaa
