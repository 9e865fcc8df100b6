/- Eye: the closure of Sure. -/
import Derived.Test.YtcfjakifeihbpaaEmw
namespace Go.Proofs.Ytcfjakifeihbpaa
namespace Ey
open Go.RowKit Nb

/-- The numbers of which something is so, as bits. -/
def sureTo (p : Nat → Bool) : Nat → Int
  | 0 => 0
  | e + 1 => if p e then sureTo p e + 2 ^ e else sureTo p e
def sureP (b : B) (e : Nat) : Bool :=
  match b (1 + e) with
  | some s => !holdB s.1 s.2 0 0
  | none => false
theorem sure_rng (p : Nat → Bool) : ∀ e, 0 ≤ sureTo p e ∧ sureTo p e < 2 ^ e
  | 0 => by simp [sureTo]
  | e + 1 => by
    have := sure_rng p e
    have hp : (2 : Int) ^ (e + 1) = 2 * 2 ^ e := by rw [Int.pow_succ, Int.mul_comm]
    rw [sureTo, hp]
    split <;> omega
theorem or_bit {a : Int} {e : Nat} (he : e < 4) (h0 : 0 ≤ a) (h1 : a < 2 ^ e) : bits .or .i64 a (wrap64 (2 ^ e)) = a + 2 ^ e := by
  have h := (by decide +kernel : ∀ e : Fin 4, ∀ a : Fin 16, (a.val : Int) < 2 ^ e.val → bits .or .i64 (a.val : Int) (wrap64 (2 ^ e.val)) = a.val + 2 ^ e.val)
  have h16 : ∀ e : Fin 4, (2 : Int) ^ e.val ≤ 16 := by decide
  have := h16 ⟨e, he⟩
  dsimp only at this
  have h2 := h ⟨e, he⟩ ⟨a.toNat, by omega⟩
  dsimp only at h2
  rw [show ((a.toNat : Nat) : Int) = a by omega] at h2
  exact h2 h1
def sureR (h : Wd) (xs : List (Int × Int)) (ls : List LkV) : Except Int Int :=
  match ovW h xs ls 0 with
  | none => .error 10
  | some b => .ok (sureTo (sureP b) (eyesN h))
set_option maxRecDepth 100000 in
set_option maxHeartbeats 2000000 in
theorem sureC_no (B : Nat) (h : Wd) (xs : List (Int × Int)) (ls : List LkV) (w : World) (hm : BoxA w B h xs ls) (hv : validW h xs ls = false) : Calls Try.prog 53 #[.pointer (some ⟨B, 0, none⟩)] w (Pan 1 w) := by
  have hc : Hid (Calls Try.prog 43 #[h.val] w (Pan 1 w)) := lookAt_no h xs ls w hm.has hv
  obtain ⟨⟨c0, c1, c2, c3, c4, c5, c6, c7⟩, _⟩ := hm
  clear hv
  unfold Wd.val at hc
  go_enter Try.func53, Try.ntmps53
  go_wp2_with fail
  refine hc.out.mono ?_
  rintro e w1 ⟨rfl, hb1⟩
  go_wp2
  exact ⟨rfl, rfl, hb1⟩
set_option maxRecDepth 100000 in
set_option maxHeartbeats 4000000 in
theorem sureC_yes (B : Nat) (h : Wd) (xs : List (Int × Int)) (ls : List LkV) (w : World) (hm : BoxA w B h xs ls) (hv : validW h xs ls = true) : Calls Try.prog 53 #[.pointer (some ⟨B, 0, none⟩)] w (OutI (sureR h xs ls) w) := by
  have hVW := validW_iff hv
  obtain ⟨E, hE⟩ : ∃ E : Nat, h.eyes = (E : Int) := ⟨h.eyes.toNat, by have := hVW.ey; omega⟩
  have hEn : eyesN h = E := by unfold eyesN; rw [hE]; rfl
  have hk0 := wok_of hv hm.has.nl hE
  have hE4 : E ≤ 4 := hk0.e4
  have hc : Hid (Calls Try.prog 43 #[h.val] w (LookOut w h (ls.map (travOf h xs)))) := lookAt_yes h xs ls w hm.has hv
  have hlk := Lib.hid (hm.has.lk)
  obtain ⟨⟨c0, c1, c2, c3, c4, c5, c6, c7⟩, _⟩ := hm
  generalize hR : sureR h xs ls = R
  unfold sureR ovW at hR
  rw [hEn, show h.eyes.toNat = E from hEn] at hR
  generalize ls.map (travOf h xs) = ts at hc hk0 hR
  have ht : Hid (∀ W L tv, IsW w W L h tv ts → LooksIn W h.la ls → Calls Try.prog 45 #[.pointer (some ⟨L, 0, none⟩), One.z.val] W (TruR W (ovB h ts ls E (allS ls.length) (allS E) 0))) := fun W L tv k1 k2 => truths_any w L E h tv ts ls .z (by decide) hk0 W k1 k2
  have hs : Hid (∀ b, ovB h ts ls E (allS ls.length) (allS E) 0 = some b → ∀ e, e < E → ∃ s, b (1 + e) = some s) := fun b hb e he => by
    obtain ⟨s, hs, _⟩ := (ov_some hk0 (.inl rfl) hb).2.1 (1 + e) (.inr (.inl ⟨e, he, rfl⟩))
    exact ⟨s, hs⟩
  generalize ovB h ts ls E (allS ls.length) (allS E) 0 = o at *
  have HR := Lib.hid hR
  have HE := Lib.hid hE
  clear hv hVW hEn hk0 hR hE
  unfold Wd.val at hc
  unfold One.val at ht
  go_enter Try.func53, Try.ntmps53
  go_wp2_with fail
  refine hc.out.mono ?_
  rintro e w1 ⟨L, tv, rfl, hb1, hI⟩
  have hlw := hlk.out.below hb1
  clear c0 c1 c2 c3 c4 c5 c6 c7 hc
  go_wp2_with fail
  refine (ht.out _ _ _ hI hlw).mono ?_
  intro e w4 hr
  cases o with
  | none =>
    obtain ⟨rfl, hb4⟩ := hr
    obtain rfl : R = .error 10 := HR.out.symm
    have hB4 := BT hb1 hb4
    go_wp2
    exact ⟨rfl, rfl, hB4⟩
  | some b =>
  obtain ⟨mb, n, rfl, hown, hb4⟩ := hr
  have HS : Hid (∀ e, e < E → ∃ s, b (1 + e) = some s) := hs.out b rfl
  obtain rfl : R = .ok (sureTo (sureP b) E) := HR.out.symm
  have HBW := Lib.hid (BT hb1 hb4)
  obtain ⟨k0, k1, k2, k3, k4, k5, k6, k7⟩ := (hI.grown hb4).box
  rw [HE.out] at k4
  have HO := Lib.hid hown
  clear k0 k1 k2 k3 k5 k6 k7 ht HR hb4 hs hlk hI hlw hb1 hown
  go_wp2_with fail
  go_loopw [4, 17] (fun v i wr => ∃ e : Nat, e ≤ E ∧ i = .int .i64 e ∧ v = .int .i64 (sureTo (sureP b) e) ∧ OwnB wr mb n b ∧ Below w.heap.size w wr) (fun _ i _ => E - (intOf i).toNat)
  case atStart => exact ⟨0, by omega, rfl, rfl, HO.out, HBW.out⟩
  case round =>
    obtain ⟨e, he, rfl, rfl, hown, hB⟩ := hrel
    by_cases hlt : e < E
    · have hlt' : (e : Int) < (E : Int) := by omega
      have he0 : (0 : Int) ≤ (e : Int) := by omega
      have he4 : (e : Int) ≤ 4 := by omega
      obtain ⟨s, hs⟩ := HS.out e hlt
      have hof := Lib.hid (of_yes mb n b (.h e) s wr hown (by show 1 + e < 11; omega) hs)
      obtain ⟨a0, a1⟩ := sure_rng (sureP b) e
      have hor := Lib.hid (or_bit (by omega) a0 a1)
      have hst : Hid (sureTo (sureP b) (e + 1) = if !holdB s.1 s.2 0 0 then sureTo (sureP b) e + 2 ^ e else sureTo (sureP b) e) := by
        show _ = _
        rw [sureTo]
        have e1 : sureP b e = !holdB s.1 s.2 0 0 := by unfold sureP; rw [hs]
        rw [e1]
      have HA0 := Lib.hid a0
      have HA1 := Lib.hid a1
      clear a0 a1
      have hOw := Lib.hid hown
      clear hown hs
      generalize sureTo (sureP b) e = acc at *
      go_wp2_with fail
      refine hof.out.mono ?_
      rintro e' w5 ⟨rfl, hb5⟩
      go_wp2_with fail
      refine (has_any _ _ _ _).mono ?_
      rintro e' w6 ⟨rfl, hb6⟩
      have hB6 := BT (BT hB hb5) hb6
      have hO6 := (hOw.out.kept (grown_below hb5 none) (by simp)).kept (grown_below hb6 none) (by simp)
      clear hb5 hb6 hof hB hOw
      cases hq : holdB s.1 s.2 0 0
      · rw [hq] at hst
        have hst2 : Hid (sureTo (sureP b) (e + 1) = acc + 2 ^ e) := hst.out
        clear hst
        go_wp2_with fail
        go_roundw
        case rel => exact ⟨e + 1, by omega, by go_num, by rw [hst2.out, ← hor.out], hO6, hB6⟩
        case measure => simp [intOf]; omega
      · rw [hq] at hst
        have hst2 : Hid (sureTo (sureP b) (e + 1) = acc) := hst.out
        clear hst
        go_wp2_with fail
        go_roundw
        case rel => exact ⟨e + 1, by omega, by go_num, by rw [hst2.out], hO6, hB6⟩
        case measure => simp [intOf]; omega
    · obtain rfl : e = E := by omega
      go_wp2_with fail
      go_ret
      exact ⟨rfl, hB⟩
end Ey
end Go.Proofs.Ytcfjakifeihbpaa
