/- Eye: what is told of how two habits differ. -/
import Derived.Test.YtcfjakifeihbpaaEpf
namespace Go.Proofs.Ytcfjakifeihbpaa
namespace Ey
open Go.RowKit Nb

theorem bit_of (p : Nat → Bool) : ∀ E i, i < E → sureTo p E / 2 ^ i % 2 = if p i then 1 else 0
  | 0, i, h => by omega
  | E + 1, i, h => by
    have hr := sure_rng p E
    have hpE : (0 : Int) < 2 ^ E := Int.pow_pos (by decide)
    rw [sureTo]
    by_cases hi : i = E
    · subst hi
      split
      · rw [Int.add_ediv_of_dvd_right (Int.dvd_refl _), Int.ediv_self (by omega), Int.ediv_eq_zero_of_lt hr.1 hr.2]; rfl
      · rw [Int.ediv_eq_zero_of_lt hr.1 hr.2]; rfl
    · have ih := bit_of p E i (by omega)
      split
      · rw [← ih]
        obtain ⟨d, hd⟩ : ∃ d : Nat, E = i + (d + 1) := ⟨E - i - 1, by omega⟩
        have e1 : (2 : Int) ^ E = 2 ^ i * (2 * 2 ^ d) := by rw [hd, Int.pow_add, Int.pow_succ, Int.mul_comm (2 ^ d) 2]
        rw [e1, Int.add_mul_ediv_left _ _ (by have : (0 : Int) < 2 ^ i := Int.pow_pos (by decide)
                                              omega)]
        omega
      · exact ih
def inB0 (lo hi : Int) : Bool := decide (lo ≤ 0) && decide (0 ≤ hi)
/-- What is told of two habits, and of a third one. -/
structure DF (h : Wd) (xs : List (Int × Int)) (ls : List LkV) (i k m : Int) (c x1 x2 y1 y2 s1 s2 t1 t2 u1 u2 v1 v2 sure : Int) : Prop where
  x : reply (habitR h xs ls i) = .tuple #[.agg #[.int .i64 x1, .int .i64 x2], .int .i64 c]
  y : reply (habitR h xs ls k) = .tuple #[.agg #[.int .i64 y1, .int .i64 y2], .int .i64 c]
  s : reply (betweenR h xs ls i k) = .tuple #[.agg #[.int .i64 s1, .int .i64 s2], .int .i64 c]
  t : reply (betweenR h xs ls k i) = .tuple #[.agg #[.int .i64 t1, .int .i64 t2], .int .i64 c]
  u : reply (betweenR h xs ls i m) = .tuple #[.agg #[.int .i64 u1, .int .i64 u2], .int .i64 c]
  v : reply (betweenR h xs ls m k) = .tuple #[.agg #[.int .i64 v1, .int .i64 v2], .int .i64 c]
  sr : replyI (sureA h xs ls) = .tuple #[.int .i64 sure, .int .i64 c]
  cs : c = 10 ∧ x1 = 0 ∧ x2 = 0 ∧ s1 = 0 ∧ s2 = 0 ∧ sure = 0 ∨ c = 0 ∧
    (x1 ≤ x2 ∧ h.hLo ≤ x1 ∧ x2 ≤ h.hHi ∧ s1 ≤ s2 ∧ t1 = -s2 ∧ t2 = -s1 ∧ (i = k → s1 = 0 ∧ s2 = 0)) ∧ (y1 - x2 ≤ s1 ∧ s2 ≤ y2 - x1 ∧ u1 + v1 ≤ s1 ∧ s2 ≤ u2 + v2) ∧
    (0 ≤ sure ∧ sure < 2 ^ h.eyes.toNat ∧ sure / 2 ^ i.toNat % 2 = if inB0 x1 x2 then 0 else 1)
  b : (bd x1 ∧ bd x2 ∧ bd y1 ∧ bd y2) ∧ (bd s1 ∧ bd s2 ∧ bd u1 ∧ bd u2 ∧ bd v1 ∧ bd v2)
theorem differ_facts {h : Wd} {xs : List (Int × Int)} {ls : List LkV} (hv : validW h xs ls = true) (hn : ls.length = h.ln) {i k m : Int} (hi : 0 ≤ i ∧ i < h.eyes) (hk : 0 ≤ k ∧ k < h.eyes) (hm : 0 ≤ m ∧ m < h.eyes) :
    ∃ c x1 x2 y1 y2 s1 s2 t1 t2 u1 u2 v1 v2 sure, DF h xs ls i k m c x1 x2 y1 y2 s1 s2 t1 t2 u1 u2 v1 v2 sure := by
  have V := validW_iff hv
  obtain ⟨E, hE⟩ : ∃ E : Nat, h.eyes = (E : Int) := ⟨h.eyes.toNat, by have := V.ey; omega⟩
  have k0 := wok_of hv hn hE
  have hEn : h.eyes.toNat = E := by rw [hE]; rfl
  have hEe : eyesN h = E := hEn
  have z0 : bd 0 := by unfold bd; omega
  have hH : ∀ j : Int, 0 ≤ j ∧ j < h.eyes → habitR h xs ls j = askR (ovW h xs ls 0) (1 + j.toNat) := fun j hj => by unfold habitR; rw [hv, img_iff.2 hj]; rfl
  have hBt : ∀ a b : Int, 0 ≤ a ∧ a < h.eyes → 0 ≤ b ∧ b < h.eyes → betweenR h xs ls a b = askR (ovW h xs ls (1 + a.toNat)) (1 + b.toNat) := fun a b ha hb => by unfold betweenR; rw [hv, img_iff.2 ha, img_iff.2 hb]; rfl
  have hS : sureA h xs ls = sureR h xs ls := by unfold sureA; rw [hv]; rfl
  have hoV : ∀ base, ovW h xs ls base = ovB h (ls.map (travOf h xs)) ls E (allS ls.length) (allS E) base := fun base => by unfold ovW; rw [hEn]
  have hbase : ∀ j : Int, 0 ≤ j ∧ j < h.eyes → isBase E (1 + j.toNat) := fun j hj => .inr ⟨j.toNat, by omega, rfl⟩
  generalize hts : ls.map (travOf h xs) = ts at *
  cases hc : canW h ts ls E (allS ls.length) (allS E) with
  | false =>
    have h0 : ovW h xs ls 0 = none := by rw [hoV]; exact (ov_none k0 (.inl rfl)).2 hc
    have hj : ∀ j : Int, 0 ≤ j ∧ j < h.eyes → ovW h xs ls (1 + j.toNat) = none := fun j hj => by rw [hoV]; exact (ov_none k0 (hbase j hj)).2 hc
    refine ⟨10, 0, 0, 0, 0, 0, 0, 0, 0, 0, 0, 0, 0, 0, ?_, ?_, ?_, ?_, ?_, ?_, ?_, .inl ⟨rfl, rfl, rfl, rfl, rfl, rfl⟩, ⟨⟨z0, z0, z0, z0⟩, z0, z0, z0, z0, z0, z0⟩⟩
    · rw [hH i hi, h0]; rfl
    · rw [hH k hk, h0]; rfl
    · rw [hBt i k hi hk, hj i hi]; rfl
    · rw [hBt k i hk hi, hj k hk]; rfl
    · rw [hBt i m hi hm, hj i hi]; rfl
    · rw [hBt m k hm hk, hj m hm]; rfl
    · rw [hS]; unfold sureR; rw [h0]; rfl
  | true =>
    have hsome : ∀ base, isBase E base → ∃ b, ovW h xs ls base = some b ∧ ∀ j : Int, 0 ≤ j ∧ j < h.eyes → ∃ s, b (1 + j.toNat) = some s ∧ EndsS h ts ls E (allS ls.length) (allS E) base (1 + j.toNat) s := fun base hb => by
      cases ho : ovW h xs ls base with
      | none => rw [hoV] at ho; rw [(ov_none k0 hb).1 ho] at hc; cases hc
      | some b =>
        refine ⟨b, rfl, fun j hj => ?_⟩
        rw [hoV] at ho
        exact (ov_some k0 hb ho).2.1 _ (.inr (.inl ⟨j.toNat, by omega, rfl⟩))
    obtain ⟨b, hb, hbj⟩ := hsome 0 (.inl rfl)
    obtain ⟨bi, hbi, hbij⟩ := hsome _ (hbase i hi)
    obtain ⟨bk, hbk, hbkj⟩ := hsome _ (hbase k hk)
    obtain ⟨bm, hbm, hbmj⟩ := hsome _ (hbase m hm)
    obtain ⟨x, ex, X⟩ := hbj i hi
    obtain ⟨y, ey, Y⟩ := hbj k hk
    obtain ⟨s, es, S⟩ := hbij k hk
    obtain ⟨t, et, T⟩ := hbkj i hi
    obtain ⟨u, eu, U⟩ := hbij m hm
    obtain ⟨v, ev, VV⟩ := hbmj k hk
    have hab : ∀ (j : Int), 0 ≤ j ∧ j < h.eyes → ∀ q, TrS h ts ls E (allS ls.length) (allS E) q → h.hLo ≤ q (1 + j.toNat) - q 0 ∧ q (1 + j.toNat) - q 0 ≤ h.hHi := fun j hj q hq => by
      have := hq.hab j.toNat (by omega)
      unfold habS at this
      rw [setI_allS (by have := k0.e4; omega) (by omega)] at this
      exact this
    have hbb := k0.hb
    obtain ⟨xl, hxl, exl⟩ := X.lo
    obtain ⟨xh, hxh, exh⟩ := X.hi
    obtain ⟨yl, hyl, eyl⟩ := Y.lo
    obtain ⟨yh, hyh, eyh⟩ := Y.hi
    obtain ⟨sl, hsl, esl⟩ := S.lo
    obtain ⟨sh, hsh, esh⟩ := S.hi
    obtain ⟨tl, htl, etl⟩ := T.lo
    obtain ⟨th, hth, eth⟩ := T.hi
    obtain ⟨ul, hul, eul⟩ := U.lo
    obtain ⟨uh, huh, euh⟩ := U.hi
    obtain ⟨vl, hvl, evl⟩ := VV.lo
    obtain ⟨vh, hvh, evh⟩ := VV.hi
    have a1 := hab i hi xl hxl; have a2 := hab i hi xh hxh; have a3 := hab k hk yl hyl; have a4 := hab k hk yh hyh
    have b1 := hab i hi sl hsl; have b2 := hab k hk sl hsl; have b3 := hab i hi sh hsh; have b4 := hab k hk sh hsh
    have b5 := hab i hi ul hul; have b6 := hab m hm ul hul; have b7 := hab i hi uh huh; have b8 := hab m hm uh huh
    have b9 := hab m hm vl hvl; have b10 := hab k hk vl hvl; have b11 := hab m hm vh hvh; have b12 := hab k hk vh hvh
    refine ⟨0, x.1, x.2, y.1, y.2, s.1, s.2, t.1, t.2, u.1, u.2, v.1, v.2, sureTo (sureP b) E, ?_, ?_, ?_, ?_, ?_, ?_, ?_, .inr ⟨rfl, ⟨?_, ?_, ?_, ?_, ?_, ?_, ?_⟩, ⟨?_, ?_, ?_, ?_⟩, ?_, ?_, ?_⟩, ⟨⟨?_, ?_, ?_, ?_⟩, ?_, ?_, ?_, ?_, ?_, ?_⟩⟩
    · rw [hH i hi, hb]; unfold askR; dsimp only; rw [ex]; rfl
    · rw [hH k hk, hb]; unfold askR; dsimp only; rw [ey]; rfl
    · rw [hBt i k hi hk, hbi]; unfold askR; dsimp only; rw [es]; rfl
    · rw [hBt k i hk hi, hbk]; unfold askR; dsimp only; rw [et]; rfl
    · rw [hBt i m hi hm, hbi]; unfold askR; dsimp only; rw [eu]; rfl
    · rw [hBt m k hm hk, hbm]; unfold askR; dsimp only; rw [ev]; rfl
    · rw [hS]; unfold sureR; rw [hb, hEe]; rfl
    · have := X.all xl hxl; omega
    · omega
    · omega
    · have := S.all sl hsl; omega
    · have := S.all tl htl; have := T.all sh hsh; omega
    · have := S.all th hth; have := T.all sl hsl; omega
    · intro hik; subst hik; have := S.all sl hsl; omega
    · have := X.all sl hsl; have := Y.all sl hsl; omega
    · have := X.all sh hsh; have := Y.all sh hsh; omega
    · have := U.all sl hsl; have := VV.all sl hsl; omega
    · have := U.all sh hsh; have := VV.all sh hsh; omega
    · exact (sure_rng _ E).1
    · rw [hEn]; exact (sure_rng _ E).2
    · rw [bit_of _ E i.toNat (by omega)]
      have e1 : sureP b i.toNat = !inB0 x.1 x.2 := by
        unfold sureP inB0 holdB
        rw [ex]
        simp
      rw [e1]
      cases inB0 x.1 x.2 <;> rfl
    all_goals (unfold bd; omega)
end Ey
end Go.Proofs.Ytcfjakifeihbpaa
