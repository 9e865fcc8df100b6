/- The images that were measured in one position alone. -/
import Derived.Test.YtmfbkgdlfackcaaApi
namespace Go.Proofs.Ytmfbkgdlfackcaa
open Go.RowKit Go.Shelf

/-- The set of those of the first images that have a setting in one position alone. -/
def onceS (cs : List Cnt) : Nat → Int
  | 0 => 0
  | k + 1 => if (((getC (k : Int) cs).1 == 0) != ((getC (k : Int) cs).2 == 0)) = true then bits .or .i64 (onceS cs k) (2 ^ k) else onceS cs k
def onceR (h : Hd) (ss : List Sett) : Int := onceS (cntsOf ss) h.images.toNat

set_option maxRecDepth 100000 in
set_option maxHeartbeats 2000000 in
theorem onceC_yes (B : Nat) (h : Hd) (xs : List (Int × Int)) (ss : List Sett) (w : World) (hm : BoxM w B h xs ss) (hv : validH h xs ss = true) :
    Calls Try.prog 80 #[.pointer (some ⟨B, 0, none⟩)] w (Ret (.int .i64 (onceR h ss)) w) := by
  obtain ⟨c0, c1, c2, c3, c4, c5, c6, hh⟩ := hm
  have hc := lookAt_yes h xs ss _ hh hv
  have hin : ∃ n : Nat, h.images = (n : Int) ∧ n ≤ 6 := by
    simp only [validH, validM, headB, holdB, Bool.and_eq_true, decide_eq_true_eq] at hv
    obtain ⟨⟨⟨⟨_, him⟩, _⟩, _⟩, _⟩ := hv
    exact ⟨h.images.toNat, by omega, by omega⟩
  obtain ⟨n, hin, hn⟩ := hin
  have HR : Hid (onceR h ss = onceS (cntsOf ss) n) := by show _ = _; unfold onceR; rw [hin]; rfl
  generalize onceR h ss = res at *
  generalize tellsOf xs h.eLo h.eHi ss = ts at *
  generalize cntsOf ss = cs at *
  clear hh hv
  have HI := Lib.hid hin; clear hin
  unfold Hd.val at hc
  go_enter Try.func80, Try.ntmps80
  go_wp2_with (go_at_call 58; refine hc.mono ?_; rintro e w1 ⟨L, mb, tv, rfl, hb1, hL⟩; obtain ⟨k0, k1, k2, k3, k4, k5, k6, k7, k8, k9⟩ := hL.cell; rw [HI.out] at k3)
  have hb1' : Below w.heap.size w w1 := by (repeat (first | assumption | exact Below.refl _ _ | refine BA ?_ _ | refine BC ?_ _ _ (by omega) _ | refine Below.drew ?_ | refine BT ?_ (by assumption)))
  clear hc c0 c1 c2 c3 c4 c5 c6 k0 k1 k2 k3 k4 k5 k6 k7 k8 k9
  go_loopw [3, 13] (fun o i wr => ∃ k : Nat, i = .int .i64 k ∧ k ≤ n ∧ o = .int .i64 (onceS cs k) ∧ Below w1.heap.size w1 wr) (fun _ i _ => n - (intOf i).toNat)
  case atStart => exact ⟨0, rfl, by omega, rfl, Below.refl _ _⟩
  case round =>
    obtain ⟨k, rfl, hk, rfl, hbr⟩ := hrel
    have hLr := hL.grown hbr
    have hrun := run_lookup93 hLr.map (k : Int)
    obtain ⟨_, _, _, _, _, _, _, _, k8, _⟩ := hLr.cell
    have HS : Hid (onceS cs (k + 1) = if (((getC (k : Int) cs).1 == 0) != ((getC (k : Int) cs).2 == 0)) = true then bits .or .i64 (onceS cs k) (2 ^ k) else onceS cs k) := rfl
    have hk0 : (0 : Int) ≤ (k : Int) := by omega
    have hk1 : (k : Int) ≤ 6 := by omega
    have hp : k ≤ 6 → wrap64 (2 ^ k) = 2 ^ k := fun hk => (by decide +kernel : ∀ k : Fin 7, wrap64 (2 ^ k.val) = 2 ^ k.val) ⟨k, by omega⟩
    have HP := Lib.hid (hp (by omega))
    clear hp hLr
    generalize getC (k : Int) cs = uv at *
    obtain ⟨u, r⟩ := uv
    dsimp only at *
    by_cases hlt : k < n
    · have hd : decide ((k : Int) < (n : Int)) = true := by simp; omega
      have hbn : Below w1.heap.size w1 (wr.alloc (.cells #[.int .i64 u, .int .i64 r] 97)) := by (repeat (first | assumption | exact Below.refl _ _ | refine BA ?_ _ | refine BC ?_ _ _ (by omega) _ | refine Below.drew ?_ | refine BT ?_ (by assumption)))
      cases hu : (u == 0) <;> cases hr : (r == 0)
      all_goals
        have hS := HS.out
        rw [hu, hr] at hS
        simp at hS
        have HS2 := Lib.hid hS
        clear HS hS
        go_wp2
      all_goals
        refine ⟨⟨k + 1, by simp, by omega, ?_, hbn⟩, by simp [intOf]; omega⟩
        rw [HS2.out]
        try rw [HP.out]
    · obtain rfl : k = n := by omega
      have hd : decide ((k : Int) < (k : Int)) = false := by simp
      go_wp2
      go_ret
      exact ⟨by rw [HR.out]; rfl, BT hb1' hbr⟩

set_option maxRecDepth 100000 in
set_option maxHeartbeats 2000000 in
theorem onceC_no (B : Nat) (h : Hd) (xs : List (Int × Int)) (ss : List Sett) (w : World) (hm : BoxM w B h xs ss) (hv : validH h xs ss = false) : Calls Try.prog 80 #[.pointer (some ⟨B, 0, none⟩)] w (Pan 1 w) := by
  obtain ⟨c0, c1, c2, c3, c4, c5, c6, hh⟩ := hm
  have hc := lookAt_no h xs ss _ hh hv
  clear hh hv
  obtain ⟨ha, hnn, hcap, heLo, heHi, him, hsLo, hsHi, hsa, hns, hscap⟩ := h
  unfold Hd.val at hc
  dsimp only at *
  go_enter Try.func80, Try.ntmps80
  go_wp2_with (go_at_call 58; refine hc.mono ?_; rintro e w1 ⟨rfl, hb1⟩)
  exact ⟨rfl, rfl, by (repeat (first | assumption | exact Below.refl _ _ | refine BA ?_ _ | refine BC ?_ _ _ (by omega) _ | refine Below.drew ?_ | refine BT ?_ (by assumption)))⟩
def onceA (h : Hd) (xs : List (Int × Int)) (ss : List Sett) : Except Int Int := if validH h xs ss then .ok (onceR h ss) else .error 1
set_option maxRecDepth 100000 in
set_option maxHeartbeats 2000000 in
theorem once_any (h : Hd) (xs : List (Int × Int)) (ss : List Sett) (w : World) (hm : HasM w h xs ss) :
    Calls Try.prog 28 #[h.val] w (Ret (replyI (onceA h xs ss)) w) := by
  have hmf : ∀ (fn : Fn) (first cap : Array Value) (w : World), (Instr.makeFunc fn first cap).run Try.prog w = .ok (.func fn first cap) w := fun _ _ _ _ => rfl
  have hcl : Hid (∀ B Y, BoxM Y B h xs ss → Calls Try.prog 80 #[.pointer (some ⟨B, 0, none⟩)] Y (OutI (onceA h xs ss) Y)) := fun B Y hB => by
    unfold onceA
    cases hv : validH h xs ss
    · rw [if_neg (by simp)]; exact onceC_no B h xs ss Y hB hv
    · rw [if_pos rfl]; exact onceC_yes B h xs ss Y hB hv
  generalize onceA h xs ss = r at *
  have hb0 := boxM_new hm
  clear hm
  obtain ⟨v, c, hrep⟩ := replyI_eq r
  unfold Hd.val
  go_enter Try.func28, Try.ntmps28
  go_wp2_with fail
  have hB1 := newB w (.cells #[.slice h.a h.n h.cap, .int .i64 h.eLo, .int .i64 h.eHi, .int .i64 h.images, .int .i64 h.sLo, .int .i64 h.sHi, .slice h.sa h.ns h.scap] 29)
  generalize w.alloc (Obj.cells #[.slice h.a h.n h.cap, .int .i64 h.eLo, .int .i64 h.eHi, .int .i64 h.images, .int .i64 h.sLo, .int .i64 h.sHi, .slice h.sa h.ns h.scap] 29) = W1 at *
  refine (answerI_any 80 _ r _ (fun w => enters_of Try.func80 (by kernel_rfl) rfl _ w) (fun Y hY => hcl.out _ Y (hb0.grown hY))).mono ?_
  rintro e w9 ⟨rfl, hb9⟩
  have hB9 := BT hB1 hb9
  clear hb9 hB1 hb0 hcl
  rw [hrep]
  go_wp2
  exact bodyPost_ret (v := .tuple #[.int .i64 v, .int .i64 c]) (by simp [results, Try.results28, go_sem]) rfl ⟨by rw [hrep], hB9⟩
end Go.Proofs.Ytmfbkgdlfackcaa

/- The settings that tell nothing. -/
namespace Go.Proofs.Ytmfbkgdlfackcaa
open Go.RowKit

/-- Whether the bounds of the others say what a setting tells. -/
def tellB (M : List Int) (t : Tell) : Bool :=
  if t.1 then holdB t.2.2.1 t.2.2.2 (wrap64 (-(gx M (1 * 8 + (2 + t.2.1.toNat))))) (gx M ((2 + t.2.1.toNat) * 8 + 1))
  else holdB t.2.2.1 t.2.2.2 (wrap64 (-(gx M ((2 + t.2.1.toNat) * 8 + 0)))) (gx M (0 * 8 + (2 + t.2.1.toNat)))
def otherS (sLo sHi : Int) (ts : List Tell) (k : Nat) : List Int := (boundsS sLo sHi ts (butS ts.length (wrap64 (2 ^ k)))).2
def idleS (sLo sHi : Int) (ts : List Tell) : Nat → Int
  | 0 => 0
  | k + 1 => if tellB (otherS sLo sHi ts k) (ts.getD k (false, 0, 0, 0)) then bits .or .i64 (idleS sLo sHi ts k) (wrap64 (2 ^ k)) else idleS sLo sHi ts k
def idleR (h : Hd) (xs : List (Int × Int)) (ss : List Sett) : Except Int Int :=
  if (truthsS h xs ss).1 then .ok (idleS h.sLo h.sHi (tellsOf xs h.eLo h.eHi ss) ss.length) else .error 10
theorem len_otherS (sLo sHi : Int) (ts : List Tell) (k : Nat) : (otherS sLo sHi ts k).length = 64 := len_boundsS _ _ _ _

theorem two_newT (w : World) (lo hi : Int) (t : TypeId) : (w.alloc (.cells #[.int .i64 lo, .int .i64 hi] t)).cell? ⟨w.heap.size, 0, none⟩ = some (.int .i64 lo) ∧ (w.alloc (.cells #[.int .i64 lo, .int .i64 hi] t)).cell? ⟨w.heap.size, 1, none⟩ = some (.int .i64 hi) := ⟨by simp [go_sem], by simp [go_sem]⟩
/-- What stays in a round. -/
def Rd (w0 w w1 : World) (L mb : Nat) (h : Hd) (tv : Value) (ts : List Tell) (cs : List Cnt) (X : World) : Prop :=
  IsLook w0 X L mb h tv ts cs ∧ Below w1.heap.size w1 X ∧ Below w.heap.size w w1
theorem Rd.below {w0 w w1 : World} {L mb : Nat} {h : Hd} {tv : Value} {ts : List Tell} {cs : List Cnt} {X X' : World} (f : Rd w0 w w1 L mb h tv ts cs X) (hb : Below X.heap.size X X') : Rd w0 w w1 L mb h tv ts cs X' :=
  ⟨f.1.grown hb, BT f.2.1 hb, f.2.2⟩

set_option maxRecDepth 100000 in
set_option maxHeartbeats 4000000 in
theorem idleC_yes (B : Nat) (hD : Hd) (xs : List (Int × Int)) (ss : List Sett) (w : World) (hm : BoxM w B hD xs ss) (hv : validH hD xs ss = true) :
    Calls Try.prog 82 #[.pointer (some ⟨B, 0, none⟩)] w (OutI (idleR hD xs ss) w) := by
  obtain ⟨hts, htm⟩ := tells_ok hv
  obtain ⟨c0, c1, c2, c3, c4, c5, c6, hh⟩ := hm
  have hc := lookAt_yes hD xs ss _ hh hv
  have hlen := len_tellsOf xs hD.eLo hD.eHi ss
  unfold idleR
  unfold truthsS
  rw [← hlen]
  clear hlen
  generalize tellsOf xs hD.eLo hD.eHi ss = ts at *
  generalize cntsOf ss = cs at *
  clear hh hv
  have ht : Hid (∀ L mb tv w1, IsLook w w1 L mb hD tv ts cs → Calls Try.prog 59 #[.pointer (some ⟨L, 0, none⟩)] w1 (Out (if (boundsS hD.sLo hD.sHi ts (2 ^ ts.length - 1)).1 then .ok (bv (boundsS hD.sLo hD.sHi ts (2 ^ ts.length - 1)).2) else .error 10) w1)) :=
    fun L mb tv w1 hL => truths_any w L mb hD tv ts cs w1 hL hts htm
  have ha : Hid (∀ L mb tv w1, IsLook w w1 L mb hD tv ts cs → Calls Try.prog 74 #[.pointer (some ⟨L, 0, none⟩)] w1 (fun e w' => e = .returned (.int .i64 (2 ^ ts.length - 1)) ∧ w' = w1)) := fun L mb tv w1 hL => all_any w L mb hD tv _ _ w1 hL hts
  have hbo : Hid (∀ L mb tv w1 k, IsLook w w1 L mb hD tv ts cs → Calls Try.prog 83 #[.pointer (some ⟨L, 0, none⟩), .int .i64 (butS ts.length (wrap64 (2 ^ k)))] w1 (fun e w' => ∃ b, Ret (.tuple #[bv (otherS hD.sLo hD.sHi ts k), .bool b]) w1 e w')) :=
    fun L mb tv w1 k hL => (bounds_any w L mb hD tv ts cs _ w1 hL hts htm).mono fun e w' hr => ⟨_, hr⟩
  have HS : Hid (∀ k, idleS hD.sLo hD.sHi ts (k + 1) = if tellB (otherS hD.sLo hD.sHi ts k) (ts.getD k (false, 0, 0, 0)) then bits .or .i64 (idleS hD.sLo hD.sHi ts k) (wrap64 (2 ^ k)) else idleS hD.sLo hD.sHi ts k) := fun _ => rfl
  have H0 : Hid (idleS hD.sLo hD.sHi ts 0 = 0) := rfl
  have HU : Hid (∀ k, bits .andNot .i64 (2 ^ ts.length - 1) (wrap64 (2 ^ k)) = butS ts.length (wrap64 (2 ^ k))) := fun _ => rfl
  have HO : Hid (∀ k, (otherS hD.sLo hD.sHi ts k).length = 64) := fun k => len_otherS _ _ _ k
  generalize idleS hD.sLo hD.sHi ts = res at *
  generalize otherS hD.sLo hD.sHi ts = oth at *
  generalize (boundsS hD.sLo hD.sHi ts (2 ^ ts.length - 1)).2 = M0 at *
  generalize (boundsS hD.sLo hD.sHi ts (2 ^ ts.length - 1)).1 = b0 at *
  generalize (2 : Int) ^ ts.length - 1 = z at *
  have HIM := Lib.hid htm; clear htm
  unfold Hd.val at hc
  cases b0
  · go_enter Try.func82, Try.ntmps82
    go_wp2_with (first | (go_at_call 58; refine hc.mono ?_; rintro e w1 ⟨L, mb, tv, rfl, hb1, hL⟩) | (go_at_call 59; refine (ht.out _ _ _ _ hL).mono ?_; rintro e w2 ⟨rfl, hb2⟩))
    exact ⟨rfl, rfl, by (repeat (first | assumption | exact Below.refl _ _ | refine BA ?_ _ | refine BC ?_ _ _ (by omega) _ | refine Below.drew ?_ | refine BT ?_ (by assumption)))⟩
  · go_enter Try.func82, Try.ntmps82
    go_wp2_with (go_at_call 58; refine hc.mono ?_; rintro e w1 ⟨L, mb, tv, rfl, hb1, hL⟩)
    go_wp2_with fail
    refine (ht.out _ _ _ _ hL).mono ?_
    rintro e w2 ⟨rfl, hb2⟩
    have hL2 := hL.grown hb2
    have hW2 : Below w.heap.size w w2 := BT hb1 hb2
    obtain ⟨ta, tcap, rfl⟩ := look_slice hL2
    obtain ⟨k0, k1, k2, k3, k4, k5, k6, k7, k8, k9⟩ := hL2.cell
    have hR2 := Lib.hid (show Rd w w w2 L mb hD (.slice ta ts.length tcap) ts cs w2 from ⟨hL2, Below.refl _ _, hW2⟩)
    have hn12 : ts.length ≤ 9223372036854775807 := by omega
    go_wp2_with fail
    clear hL2 hW2 hb1 hb2 hL hc ht c0 c1 c2 c3 c4 c5 c6 k0 k1 k2 k3 k4 k5 k6 k8 k9
    go_loopw [3, 21] (fun o i wr => ∃ k : Nat, k ≤ ts.length ∧ i = .int .i64 k ∧ o = .int .i64 (res k) ∧ Rd w w w2 L mb hD (.slice ta ts.length tcap) ts cs wr) (fun _ i _ => ts.length - (intOf i).toNat)
    case atStart => exact ⟨0, by omega, rfl, by rw [H0.out], hR2.out⟩
    case round =>
      obtain ⟨k, hk, rfl, rfl, hF⟩ := hrel
      clear hR2 H0 k7
      have HF := Lib.hid hF; clear hF
      by_cases hlt : k < ts.length
      · have hc : ∃ g, ta = some ⟨g, 0, none⟩ ∧ wr.cell? ⟨g, k, none⟩ = some (tellV (ts.getD k (false, 0, 0, 0))) := by
          rcases HF.out.1.row.2 with ⟨h1, h2⟩ | ⟨g, cap, cur, h1, _⟩
          · omega
          · have ht := HF.out.1.row.cells (g := g) (by rw [h1]; rfl) k (tellV (ts.getD k (false, 0, 0, 0))) (by simp [List.getD, hlt])
            injection h1 with h1
            refine ⟨g, h1, ?_⟩
            rwa [Addr.add_mid, Nat.zero_add] at ht
        obtain ⟨g, rfl, hcell⟩ := hc
        have hmem : ts.getD k (false, 0, 0, 0) ∈ ts := by simp [List.getD, hlt]
        have him := HIM.out _ hmem
        have HE := HS.out k
        have HU1 := Lib.hid (HU.out k)
        have HB1 : Hid (∀ w1, IsLook w w1 L mb hD (.slice (some ⟨g, 0, none⟩) ts.length tcap) ts cs → Calls Try.prog 83 #[.pointer (some ⟨L, 0, none⟩), .int .i64 (butS ts.length (wrap64 (2 ^ k)))] w1 (fun e w' => ∃ b, Ret (.tuple #[bv (oth k), .bool b]) w1 e w')) := fun w1 hL => hbo.out _ _ _ w1 k hL
        have HO1 := HO.out k
        generalize ts.getD k (false, 0, 0, 0) = t at *
        generalize oth k = M at *
        generalize res k = rk at *
        clear hmem
        obtain ⟨rv, im, lo, hi⟩ := t
        dsimp only [tellV] at hcell him
        obtain ⟨m, rfl⟩ := Int.eq_ofNat_of_zero_le him.1
        have hm6 : m < 6 := by have := him.2; omega
        have HM := Lib.hid HO1
        clear HO1 him HO
        have hk12 : (k : Int) < 12 := by omega
        have hk0 : (0 : Int) ≤ (k : Int) := by omega
        generalize butS ts.length (wrap64 (2 ^ k)) = u at *
        cases rv
        · have HT : Hid (res (k + 1) = if holdB lo hi (wrap64 (-(gx M ((2 + m) * 8 + 0)))) (gx M (0 * 8 + (2 + m))) then bits .or .i64 rk (wrap64 (2 ^ k)) else rk) := by
            show _ = _
            rw [HE]; simp [tellB]
          clear HE
          simp only [if_false, Bool.false_eq_true] at hcell
          have HC := Lib.hid hcell
          go_wp2_with fail
          refine (ha.out _ _ _ _ HF.out.1).mono ?_
          rintro e w3 ⟨rfl, rfl⟩
          go_wp2_with fail
          rw [HU1.out]
          refine (HB1.out _ HF.out.1).mono ?_
          rintro e w3 ⟨bb, rfl, hb3⟩
          have hF3 := HF.out.below hb3
          have hcell3 := cellG' hcell hb3
          clear hcell HC hb3
          have hZ := Lib.hid (isB_zero w3).there
          have hzb := newB w3 zero64
          go_wp2_with (refine store78x rfl _ _ rfl w3.heap.size rfl M HM.out rfl hZ.out ?_; intro X hIX hBX; dsimp only [Act.put, List.setIfInBounds_toArray, List.set_cons_zero, List.set_cons_succ])
          have hX : Below w3.heap.size w3 X := BX.below hzb hBX (Nat.le_refl _) (by simp)
          have hFX := hF3.below hX
          have hcX := cellG' hcell3 hX
          have hB : w3.heap.size < X.heap.size := hIX.lt
          generalize w3.heap.size = D at *
          clear hBX hzb hZ hcell3 hF3
          go_wp2_with fail
          rw [told_m123 _ _ (by kernel_rfl)]
          go_simp
          refine (told_up _ _ _ _).mono ?_
          rintro e w4 ⟨rfl, hb4⟩
          rw [wrap2 m hm6]
          have hF4 := hFX.below hb4
          have hI4 := hIX.below hb4 hB
          have hBt := Lib.hid (fun w' h => between_any D 0 (2 + m) (by omega) (by omega) M w' h)
          have hB4 : D < w4.heap.size := hI4.lt
          clear hcX hb4 hFX hIX hB
          have HH : Hid (∀ w', Calls Try.prog 84 #[.agg #[.int .i64 lo, .int .i64 hi], .agg #[.int .i64 (wrap64 (-(gx M ((2 + m) * 8 + 0)))), .int .i64 (gx M (0 * 8 + (2 + m)))]] w' (Ret (.bool (holdB lo hi (wrap64 (-(gx M ((2 + m) * 8 + 0)))) (gx M (0 * 8 + (2 + m))))) w')) := fun w' => hold_any _ _ _ _ w'
          go_wp2_with fail
          have e0 : (w4.alloc (.cells #[.int .i64 lo, .int .i64 hi] 72)).drew.cell? ⟨w4.heap.size, 0, none⟩ = some (.int .i64 lo) := (two_newT w4 lo hi 72).1
          have e1 : (w4.alloc (.cells #[.int .i64 lo, .int .i64 hi] 72)).drew.cell? ⟨w4.heap.size, 1, none⟩ = some (.int .i64 hi) := (two_newT w4 lo hi 72).2
          have hI5 := hI4.below (Below.drew (newB w4 (.cells #[.int .i64 lo, .int .i64 hi] 72))) hB4
          have hF5 := hF4.below (Below.drew (newB w4 (.cells #[.int .i64 lo, .int .i64 hi] 72)))
          generalize wrap64 (-(gx M ((2 + m) * 8 + 0))) = x1 at *
          generalize gx M (0 * 8 + (2 + m)) = x2 at *
          generalize holdB lo hi x1 x2 = q at *
          clear hF4 hI4
          refine wp_region_seq [(0, true), (1, true), (2, true), (3, false), (4, false)]
            (fun w' => w'.cell? ⟨w4.heap.size, 0, none⟩ = some (.int .i64 lo) ∧ w'.cell? ⟨w4.heap.size, 1, none⟩ = some (.int .i64 hi)) (by kernel_rfl) (by kernel_rfl) (fun _ _ d _ _ h => by cases d <;> exact h) ⟨e0, e1⟩ ?_
          repeat (first | (refine seq_read rfl (by rfl) _ (fun w' hS => by (try dsimp only at hS); go_simp; (try with_reducible rfl)) ?_; (try simp only [Act.put, List.setIfInBounds_toArray, List.set_cons_zero, List.set_cons_succ])) | (refine seq_skip rfl (by rfl) ?_; (try simp only [Act.put, List.setIfInBounds_toArray, List.set_cons_zero, List.set_cons_succ])))
          (refine seq_do rfl (by rfl) (fun K hK => ?_); go_simp)
          refine (hBt.out _ hI5).mono ?_
          rintro e w5 ⟨rfl, hb5⟩
          have hF6 := hF5.below hb5
          refine hK _ _ ⟨cellG' e0 hb5, cellG' e1 hb5⟩ ?_
          clear hK K hF5 e0 e1 hI5 hBt hb5
          refine seq_last rfl (by rfl) (by kernel_rfl) (fun K hK => ?_)
          go_simp
          refine (HH.out _).mono ?_
          rintro e w6 ⟨rfl, hb6⟩
          have hF7 := hF6.below hb6
          refine hK _ _ ?_
          clear hK K hF6 hb6
          cases q
          all_goals
            have HT2 := HT.out
            simp only [if_true, if_false, Bool.false_eq_true] at HT2
            have HT3 := Lib.hid HT2
            clear HT HT2
            go_wp2
            go_roundw
            case rel => exact ⟨k + 1, by omega, by go_num, by rw [HT3.out], hF7⟩
            case measure => simp [intOf]; omega

        · have HT : Hid (res (k + 1) = if holdB lo hi (wrap64 (-(gx M (1 * 8 + (2 + m))))) (gx M ((2 + m) * 8 + 1)) then bits .or .i64 rk (wrap64 (2 ^ k)) else rk) := by
            show _ = _
            rw [HE]; simp [tellB]
          clear HE
          simp only [if_true] at hcell
          have HC := Lib.hid hcell
          go_wp2_with fail
          refine (ha.out _ _ _ _ HF.out.1).mono ?_
          rintro e w3 ⟨rfl, rfl⟩
          go_wp2_with fail
          rw [HU1.out]
          refine (HB1.out _ HF.out.1).mono ?_
          rintro e w3 ⟨bb, rfl, hb3⟩
          have hF3 := HF.out.below hb3
          have hcell3 := cellG' hcell hb3
          clear hcell HC hb3
          have hZ := Lib.hid (isB_zero w3).there
          have hzb := newB w3 zero64
          go_wp2_with (refine store78x rfl _ _ rfl w3.heap.size rfl M HM.out rfl hZ.out ?_; intro X hIX hBX; dsimp only [Act.put, List.setIfInBounds_toArray, List.set_cons_zero, List.set_cons_succ])
          have hX : Below w3.heap.size w3 X := BX.below hzb hBX (Nat.le_refl _) (by simp)
          have hFX := hF3.below hX
          have hcX := cellG' hcell3 hX
          have hB : w3.heap.size < X.heap.size := hIX.lt
          generalize w3.heap.size = D at *
          clear hBX hzb hZ hcell3 hF3
          go_wp2_with fail
          rw [told_m122 _ _ (by kernel_rfl)]
          go_simp
          refine (told_re _ _ _ _).mono ?_
          rintro e w4 ⟨rfl, hb4⟩
          rw [wrap2 m hm6]
          have hF4 := hFX.below hb4
          have hI4 := hIX.below hb4 hB
          have hBt := Lib.hid (fun w' h => between_any D (2 + m) 1 (by omega) (by omega) M w' h)
          have hB4 : D < w4.heap.size := hI4.lt
          clear hcX hb4 hFX hIX hB
          have HH : Hid (∀ w', Calls Try.prog 84 #[.agg #[.int .i64 lo, .int .i64 hi], .agg #[.int .i64 (wrap64 (-(gx M (1 * 8 + (2 + m))))), .int .i64 (gx M ((2 + m) * 8 + 1))]] w' (Ret (.bool (holdB lo hi (wrap64 (-(gx M (1 * 8 + (2 + m))))) (gx M ((2 + m) * 8 + 1)))) w')) := fun w' => hold_any _ _ _ _ w'
          go_wp2_with fail
          have e0 : (w4.alloc (.cells #[.int .i64 lo, .int .i64 hi] 72)).drew.cell? ⟨w4.heap.size, 0, none⟩ = some (.int .i64 lo) := (two_newT w4 lo hi 72).1
          have e1 : (w4.alloc (.cells #[.int .i64 lo, .int .i64 hi] 72)).drew.cell? ⟨w4.heap.size, 1, none⟩ = some (.int .i64 hi) := (two_newT w4 lo hi 72).2
          have hI5 := hI4.below (Below.drew (newB w4 (.cells #[.int .i64 lo, .int .i64 hi] 72))) hB4
          have hF5 := hF4.below (Below.drew (newB w4 (.cells #[.int .i64 lo, .int .i64 hi] 72)))
          generalize wrap64 (-(gx M (1 * 8 + (2 + m)))) = x1 at *
          generalize gx M ((2 + m) * 8 + 1) = x2 at *
          generalize holdB lo hi x1 x2 = q at *
          clear hF4 hI4
          refine wp_region_seq [(0, true), (1, true), (2, true), (3, false), (4, false)]
            (fun w' => w'.cell? ⟨w4.heap.size, 0, none⟩ = some (.int .i64 lo) ∧ w'.cell? ⟨w4.heap.size, 1, none⟩ = some (.int .i64 hi)) (by kernel_rfl) (by kernel_rfl) (fun _ _ d _ _ h => by cases d <;> exact h) ⟨e0, e1⟩ ?_
          repeat (first | (refine seq_read rfl (by rfl) _ (fun w' hS => by (try dsimp only at hS); go_simp; (try with_reducible rfl)) ?_; (try simp only [Act.put, List.setIfInBounds_toArray, List.set_cons_zero, List.set_cons_succ])) | (refine seq_skip rfl (by rfl) ?_; (try simp only [Act.put, List.setIfInBounds_toArray, List.set_cons_zero, List.set_cons_succ])))
          (refine seq_do rfl (by rfl) (fun K hK => ?_); go_simp)
          refine (hBt.out _ hI5).mono ?_
          rintro e w5 ⟨rfl, hb5⟩
          have hF6 := hF5.below hb5
          refine hK _ _ ⟨cellG' e0 hb5, cellG' e1 hb5⟩ ?_
          clear hK K hF5 e0 e1 hI5 hBt hb5
          refine seq_last rfl (by rfl) (by kernel_rfl) (fun K hK => ?_)
          go_simp
          refine (HH.out _).mono ?_
          rintro e w6 ⟨rfl, hb6⟩
          have hF7 := hF6.below hb6
          refine hK _ _ ?_
          clear hK K hF6 hb6
          cases q
          all_goals
            have HT2 := HT.out
            simp only [if_true, if_false, Bool.false_eq_true] at HT2
            have HT3 := Lib.hid HT2
            clear HT HT2
            go_wp2
            go_roundw
            case rel => exact ⟨k + 1, by omega, by go_num, by rw [HT3.out], hF7⟩
            case measure => simp [intOf]; omega

      · obtain rfl : k = ts.length := by omega
        go_wp2
        go_ret
        exact ⟨rfl, BT HF.out.2.2 HF.out.2.1⟩

set_option maxRecDepth 100000 in
set_option maxHeartbeats 2000000 in
theorem idleC_no (B : Nat) (h : Hd) (xs : List (Int × Int)) (ss : List Sett) (w : World) (hm : BoxM w B h xs ss) (hv : validH h xs ss = false) : Calls Try.prog 82 #[.pointer (some ⟨B, 0, none⟩)] w (Pan 1 w) := by
  obtain ⟨c0, c1, c2, c3, c4, c5, c6, hh⟩ := hm
  have hc := lookAt_no h xs ss _ hh hv
  clear hh hv
  obtain ⟨ha, hnn, hcap, heLo, heHi, him, hsLo, hsHi, hsa, hns, hscap⟩ := h
  unfold Hd.val at hc
  dsimp only at *
  go_enter Try.func82, Try.ntmps82
  go_wp2_with (go_at_call 58; refine hc.mono ?_; rintro e w1 ⟨rfl, hb1⟩)
  exact ⟨rfl, rfl, by (repeat (first | assumption | exact Below.refl _ _ | refine BA ?_ _ | refine BC ?_ _ _ (by omega) _ | refine Below.drew ?_ | refine BT ?_ (by assumption)))⟩
def idleA (h : Hd) (xs : List (Int × Int)) (ss : List Sett) : Except Int Int := if validH h xs ss then idleR h xs ss else .error 1
set_option maxRecDepth 100000 in
set_option maxHeartbeats 2000000 in
theorem idle_any (h : Hd) (xs : List (Int × Int)) (ss : List Sett) (w : World) (hm : HasM w h xs ss) :
    Calls Try.prog 30 #[h.val] w (Ret (replyI (idleA h xs ss)) w) := by
  have hmf : ∀ (fn : Fn) (first cap : Array Value) (w : World), (Instr.makeFunc fn first cap).run Try.prog w = .ok (.func fn first cap) w := fun _ _ _ _ => rfl
  have hcl : Hid (∀ B Y, BoxM Y B h xs ss → Calls Try.prog 82 #[.pointer (some ⟨B, 0, none⟩)] Y (OutI (idleA h xs ss) Y)) := fun B Y hB => by
    unfold idleA
    cases hv : validH h xs ss
    · rw [if_neg (by simp)]; exact idleC_no B h xs ss Y hB hv
    · rw [if_pos rfl]; exact idleC_yes B h xs ss Y hB hv
  generalize idleA h xs ss = r at *
  have hb0 := boxM_new hm
  clear hm
  obtain ⟨v, c, hrep⟩ := replyI_eq r
  unfold Hd.val
  go_enter Try.func30, Try.ntmps30
  go_wp2_with fail
  have hB1 := newB w (.cells #[.slice h.a h.n h.cap, .int .i64 h.eLo, .int .i64 h.eHi, .int .i64 h.images, .int .i64 h.sLo, .int .i64 h.sHi, .slice h.sa h.ns h.scap] 29)
  generalize w.alloc (Obj.cells #[.slice h.a h.n h.cap, .int .i64 h.eLo, .int .i64 h.eHi, .int .i64 h.images, .int .i64 h.sLo, .int .i64 h.sHi, .slice h.sa h.ns h.scap] 29) = W1 at *
  refine (answerI_any 82 _ r _ (fun w => enters_of Try.func82 (by kernel_rfl) rfl _ w) (fun Y hY => hcl.out _ Y (hb0.grown hY))).mono ?_
  rintro e w9 ⟨rfl, hb9⟩
  have hB9 := BT hB1 hb9
  clear hb9 hB1 hb0 hcl
  rw [hrep]
  go_wp2
  exact bodyPost_ret (v := .tuple #[.int .i64 v, .int .i64 c]) (by simp [results, Try.results30, go_sem]) rfl ⟨by rw [hrep], hB9⟩

end Go.Proofs.Ytmfbkgdlfackcaa
