/- Measurers without habits measure as a screw does: mathematics. -/
import Derived.Test.YtcfjakifeihbpaaGreatMsm
import Derived.Test.YtcfjakifeihbpaaGreatEpf
import Derived.Test.YtcfjakifeihbpaaGreatEai
namespace Go.Proofs.YtcfjakifeihbpaaGreat
namespace Ta
open Go.RowKit Fw

theorem bounds_iff {h : Hd} {xs : List (Int × Int)} {ss : List Sett} (hv : validH h xs ss = true) (set : Int) : (boundsS h.sLo h.sHi (tellsOf xs h.eLo h.eHi ss) set).1 = true ↔ ∃ x, Tells h.sLo h.sHi (tellsOf xs h.eLo h.eHi ss) set (tellsOf xs h.eLo h.eHi ss).length x := by
  obtain ⟨a, b, c, d, e, f, g⟩ := valid_has hv
  constructor
  · intro hb
    obtain ⟨sh, sol, ext, ⟨g0, g1⟩, fk⟩ := bounds_yes (B := 131072) ⟨by omega, by decide⟩ (by omega) (fair_of hv) _ hb
    obtain ⟨x, hx, _⟩ := sh.reach (i := 0) (j := 0) (by omega) (by omega) (by rw [sh.zero 0 (by omega)]; decide)
    exact ⟨x, (sol x).1 hx⟩
  · intro hx
    cases hb : (boundsS h.sLo h.sHi (tellsOf xs h.eLo h.eHi ss) set).1
    · exact absurd hx (bounds_no (B := 131072) ⟨by omega, by decide⟩ (by omega) (fair_of hv) _ hb)
    · rfl
/-- A watch without habits, and the measure that it is. -/
def h0 (h : Ey.Wd) : Ey.Wd := { h with hLo := 0, hHi := 0 }
def m0 (h : Ey.Wd) (sa : Option Addr) (ns scap : Nat) : Hd := ⟨h.a, h.n, h.cap, h.eLo, h.eHi, h.images, 0, 131072, sa, ns, scap⟩
def settOf (l : Ey.LkV) : Sett := (l.2.1, l.2.2, false)
def ssOf (ls : List Ey.LkV) : List Sett := ls.map settOf
theorem ssOf_len (ls : List Ey.LkV) : (ssOf ls).length = ls.length := by simp [ssOf]
section
variable {h : Ey.Wd} {xs : List (Int × Int)} {ls : List Ey.LkV}
theorem valid_h0 (hv : Ey.validW h xs ls = true) : Ey.validW (h0 h) xs ls = true := by
  unfold Ey.validW at hv ⊢
  simp only [Bool.and_eq_true, decide_eq_true_eq, Ey.hold_iff] at hv ⊢
  obtain ⟨⟨⟨⟨⟨⟨a, b⟩, c⟩, d⟩, e⟩, f⟩, g⟩ := hv
  exact ⟨⟨⟨⟨⟨⟨a, b⟩, c⟩, by show _ ∧ _; simp [h0]⟩, by show _ ∧ _; simp [h0]⟩, f⟩, g⟩
theorem valid_m0 (hv : Ey.validW h xs ls = true) (sa : Option Addr) (ns scap : Nat) : validH (m0 h sa ns scap) xs (ssOf ls) = true := by
  obtain ⟨a, b, c, d, e, f⟩ := Ey.validW_iff hv
  have a' := a
  unfold validB at a'
  simp only [Bool.and_eq_true, Ey.hold_iff] at a'
  refine valid_iff.2 ⟨by omega, a'.1.2, by show _ ∧ _ ∧ _; simp only [m0]; omega, by simp only [m0]; exact b, by simp only [m0]; omega, by rw [ssOf_len]; exact e, fun s hs => ?_⟩
  obtain ⟨l, hl, rfl⟩ := List.mem_map.1 hs
  obtain ⟨g1, g2, g3⟩ := f l hl
  unfold Ey.saysB hasTrn at g3
  simp only [Bool.and_eq_true, decide_eq_true_eq] at g3
  exact ⟨g2, by simp only [settOf]; omega⟩
theorem tells_get (hl : ls.length ≤ 12) {k : Nat} (hk : k < ls.length) : (tellsOf xs h.eLo h.eHi (ssOf ls)).getD k dfl = (false, (ls.getD k (0, 0, 0)).2.1, (Ey.travOf h xs (ls.getD k (0, 0, 0))).1, (Ey.travOf h xs (ls.getD k (0, 0, 0))).2) := by
  have := hl
  have e : (tellsOf xs h.eLo h.eHi (ssOf ls)).length = ls.length := by simp [tellsOf, ssOf]
  simp [tellsOf, ssOf, List.getD, hk, tellOf, settOf, Ey.travOf]
theorem hab0 (H : Int) (e : Nat) : Ey.habS (h0 h) H e = (0, 0) := by
  unfold Ey.habS; split <;> rfl
/-- The package's truths of a watch without habits are the screw's. -/
theorem tr_to (hv : Ey.validW h xs ls = true) {S : Int} {x : Nat → Int} (hx : Ey.TrS (h0 h) (ls.map (Ey.travOf h xs)) ls h.eyes.toNat S (Ey.allS h.eyes.toNat) x) :
    Tells 0 131072 (tellsOf xs h.eLo h.eHi (ssOf ls)) S (tellsOf xs h.eLo h.eHi (ssOf ls)).length (fun i => if i < 2 then x 0 else x (i + 3)) := by
  obtain ⟨a, b, c, d, e, f⟩ := Ey.validW_iff hv
  refine ⟨by simp, fun k hk hs => ?_⟩
  have hk' : k < ls.length := by simpa [tellsOf, ssOf] using hk
  rw [tells_get e hk']
  unfold Keeps
  have hlk := hx.look k hk' hs
  have hg : ls.getD k (0, 0, 0) ∈ ls := by
    have : ls.getD k (0, 0, 0) = ls[k] := by simp [List.getD, hk']
    rw [this]; exact List.getElem_mem hk'
  obtain ⟨⟨e1, e2⟩, _, _⟩ := f _ hg
  have hh := hx.hab (ls.getD k (0, 0, 0)).1.toNat (by omega)
  rw [hab0] at hh
  rw [Ey.getD_map hk'] at hlk
  dsimp only at hh ⊢
  rw [if_neg (by simp), if_neg (by omega), if_pos (by omega)]
  rw [show 2 + (ls.getD k (0, 0, 0)).2.1.toNat + 3 = 5 + (ls.getD k (0, 0, 0)).2.1.toNat by omega]
  omega
theorem tr_of (hv : Ey.validW h xs ls = true) {S : Int} {y : Nat → Int} (hy : Tells 0 131072 (tellsOf xs h.eLo h.eHi (ssOf ls)) S (tellsOf xs h.eLo h.eHi (ssOf ls)).length y) :
    Ey.TrS (h0 h) (ls.map (Ey.travOf h xs)) ls h.eyes.toNat S (Ey.allS h.eyes.toNat) (fun i => if i < 5 then y 0 else y (i - 3)) := by
  obtain ⟨a, b, c, d, e, f⟩ := Ey.validW_iff hv
  refine ⟨fun m hm => ?_, fun k hk hs => ?_⟩
  · rw [hab0, if_pos (by omega), if_pos (by omega)]
    dsimp only; omega
  · have h1 := hy.2 k (by simpa [tellsOf, ssOf] using hk) hs
    rw [tells_get e hk] at h1
    unfold Keeps at h1
    rw [if_neg (by simp)] at h1
    have hg : ls.getD k (0, 0, 0) ∈ ls := by
      have : ls.getD k (0, 0, 0) = ls[k] := by simp [List.getD, hk]
      rw [this]; exact List.getElem_mem hk
    obtain ⟨⟨e1, e2⟩, _, _⟩ := f _ hg
    rw [Ey.getD_map hk, if_neg (by omega), if_pos (by omega)]
    rw [show 5 + (ls.getD k (0, 0, 0)).2.1.toNat - 3 = 2 + (ls.getD k (0, 0, 0)).2.1.toNat by omega]
    exact h1
theorem trav0 : Ey.travOf (h0 h) xs = Ey.travOf h xs := rfl
theorem can_same (hv : Ey.validW h xs ls = true) (hn : ls.length = h.ln) (sa : Option Addr) (ns scap : Nat) (S : Int) :
    Ey.canW (h0 h) (ls.map (Ey.travOf (h0 h) xs)) ls (Ey.eyesN (h0 h)) S (Ey.allS (Ey.eyesN (h0 h))) = (boundsS (m0 h sa ns scap).sLo (m0 h sa ns scap).sHi (tellsOf xs (m0 h sa ns scap).eLo (m0 h sa ns scap).eHi (ssOf ls)) S).1 := by
  have hv0 := valid_h0 hv
  have V := Ey.validW_iff hv
  have k0 : Ey.WOk (h0 h) (ls.map (Ey.travOf h xs)) ls h.eyes.toNat := Ey.wok_of hv0 hn (by show h.eyes = _; have := V.ey; omega)
  have hb := bounds_iff (valid_m0 hv sa ns scap) S
  rw [Bool.eq_iff_iff]
  refine (Ey.can_iff k0).trans (Iff.trans ⟨?_, ?_⟩ hb.symm)
  · rintro ⟨x, hx⟩; exact ⟨_, tr_to hv hx⟩
  · rintro ⟨y, hy⟩; exact ⟨_, tr_of hv hy⟩
theorem rows_same : ∀ s k, Ey.setsRow s k = setsRow s k
  | s, 0 => rfl
  | s, k + 1 => by
    have := rows_same s k
    simp only [Ey.setsRow, setsRow, this]
    rfl
theorem sets_same (n : Nat) : ∀ s, Ey.setsTo n s = setsTo n s
  | 0 => rfl
  | s + 1 => by
    have := sets_same n s
    simp only [Ey.setsTo, setsTo, this, rows_same]
theorem first_same (n : Nat) (b : Int → Bool) : Ey.firstOf n b = firstOf n b := by
  unfold Ey.firstOf firstOf; rw [sets_same]
theorem clash_same (hv : Ey.validW h xs ls = true) (hn : ls.length = h.ln) (sa : Option Addr) (ns scap : Nat) : Ey.clashA (h0 h) xs ls = clashA (m0 h sa ns scap) xs (ssOf ls) := by
  unfold Ey.clashA clashA
  rw [if_pos (valid_h0 hv), if_pos (valid_m0 hv sa ns scap)]
  unfold Ey.clashR clashR truthsS
  simp only [can_same hv hn sa ns scap]
  rw [first_same, ssOf_len, show (tellsOf xs (m0 h sa ns scap).eLo (m0 h sa ns scap).eHi (ssOf ls)).length = ls.length by simp [tellsOf, ssOf]]
  rfl
theorem drop_same (hv : Ey.validW h xs ls = true) (hn : ls.length = h.ln) (sa : Option Addr) (ns scap : Nat) : Ey.dropA (h0 h) xs ls = dropA (m0 h sa ns scap) xs (ssOf ls) := by
  unfold Ey.dropA dropA
  rw [if_pos (valid_h0 hv), if_pos (valid_m0 hv sa ns scap)]
  unfold Ey.dropR dropR
  simp only [can_same hv hn sa ns scap]
  rw [first_same, ssOf_len]
  rfl
/-- What is told of an image: the error, or the span; with habits a wider one. -/
theorem place_same (hv : Ey.validW h xs ls = true) (hn : ls.length = h.ln) (sa : Option Addr) (ns scap : Nat) {i : Nat} (hi : (i : Int) < h.images) :
    ∃ lo hi' c a b d : Int, reply (Ey.placeR (h0 h) xs ls i) = .tuple #[.agg #[.int .i64 lo, .int .i64 hi'], .int .i64 c] ∧ reply (placeA (m0 h sa ns scap) xs (ssOf ls) i) = .tuple #[.agg #[.int .i64 lo, .int .i64 hi'], .int .i64 c] ∧
      reply (Ey.placeR h xs ls i) = .tuple #[.agg #[.int .i64 a, .int .i64 b], .int .i64 d] ∧ (c = 0 → d = 0 ∧ a ≤ lo ∧ hi' ≤ b) := by
  have hv0 := valid_h0 hv
  have hvm := valid_m0 hv sa ns scap
  have V := Ey.validW_iff hv
  have k0 : Ey.WOk (h0 h) (ls.map (Ey.travOf h xs)) ls h.eyes.toNat := Ey.wok_of hv0 hn (by show h.eyes = _; have := V.ey; omega)
  have k1 : Ey.WOk h (ls.map (Ey.travOf h xs)) ls h.eyes.toNat := Ey.wok_of hv hn (by have := V.ey; omega)
  have him : isImg h.images i = true := Ey.img_iff.2 ⟨by omega, hi⟩
  have himm : isImg (m0 h sa ns scap).images i = true := him
  have him0 : isImg (h0 h).images i = true := him
  obtain ⟨a, b, d, e3⟩ := reply_eq (Ey.placeR_sp h xs ls (i : Int))
  have hl12 : (tellsOf xs (m0 h sa ns scap).eLo (m0 h sa ns scap).eHi (ssOf ls)).length ≤ 12 := by simpa [tellsOf, ssOf] using V.l12
  have tlen : (tellsOf xs h.eLo h.eHi (ssOf ls)).length = ls.length := by simp [tellsOf, ssOf]
  have hta : ∀ x, Tells 0 131072 (tellsOf xs h.eLo h.eHi (ssOf ls)) (Ey.allS ls.length) (tellsOf xs h.eLo h.eHi (ssOf ls)).length x ↔ Tru 0 131072 (tellsOf xs h.eLo h.eHi (ssOf ls)) x := fun x => by
    have := tells_all (sLo := 0) (sHi := 131072) hl12 x
    rw [show (tellsOf xs (m0 h sa ns scap).eLo (m0 h sa ns scap).eHi (ssOf ls)) = tellsOf xs h.eLo h.eHi (ssOf ls) from rfl, tlen] at this
    rw [tlen]; exact this
  have hp0 : Ey.placeR (h0 h) xs ls (i : Int) = Ey.askR (Ey.ovW (h0 h) xs ls 0) (5 + (i : Int).toNat) := by
    unfold Ey.placeR; rw [if_pos hv0, if_pos him0]
  have hp1 : Ey.placeR h xs ls (i : Int) = Ey.askR (Ey.ovW h xs ls 0) (5 + (i : Int).toNat) := by
    unfold Ey.placeR; rw [if_pos hv, if_pos him]
  have ei : (i : Int).toNat = i := by omega
  rw [ei] at hp0 hp1
  by_cases ht : ∃ x, Ey.TrS (h0 h) (ls.map (Ey.travOf h xs)) ls h.eyes.toNat (Ey.allS ls.length) (Ey.allS h.eyes.toNat) x
  · have htm : ∃ x, Tru (m0 h sa ns scap).sLo (m0 h sa ns scap).sHi (tellsOf xs (m0 h sa ns scap).eLo (m0 h sa ns scap).eHi (ssOf ls)) x := by
      obtain ⟨x, hx⟩ := ht
      exact ⟨_, (hta _).1 (tr_to hv hx)⟩
    have hup : ∀ x, Ey.TrS (h0 h) (ls.map (Ey.travOf h xs)) ls h.eyes.toNat (Ey.allS ls.length) (Ey.allS h.eyes.toNat) x → Ey.TrS h (ls.map (Ey.travOf h xs)) ls h.eyes.toNat (Ey.allS ls.length) (Ey.allS h.eyes.toNat) x := fun x hx =>
      ⟨fun m hm => by
        have := hx.hab m hm
        rw [hab0] at this
        have hb := V.hb
        unfold Ey.habS; split <;> (dsimp only at this ⊢; omega), hx.look⟩
    obtain ⟨x0, hx0⟩ := ht
    obtain ⟨b0, hb0⟩ := Ey.ov_yes k0 (base := 0) (.inl rfl) hx0
    obtain ⟨b1, hb1⟩ := Ey.ov_yes k1 (base := 0) (.inl rfl) (hup x0 hx0)
    have ho0 : Ey.ovW (h0 h) xs ls 0 = some b0 := hb0
    have ho1 : Ey.ovW h xs ls 0 = some b1 := hb1
    rw [ho0] at hp0
    rw [ho1] at hp1
    have hc : hasC (i : Int) (cntsOf (ssOf ls)) = Ey.seenB ls (i : Int) ls.length := by
      rw [hasC_cnts]
      unfold Ey.seenB ssOf
      rw [List.take_length, List.any_map]
      congr 1
      funext l
      simp only [Function.comp, settOf]
      rw [Bool.eq_iff_iff, beq_iff_eq, beq_iff_eq]
      exact eq_comm
    cases hs : Ey.seenB ls (i : Int) ls.length
    · have hnin : ¬ Ey.inS ls h.eyes.toNat (Ey.allS ls.length) (5 + i) := by
        rintro (h1 | ⟨e, he, h1⟩ | ⟨j, hj, _, h1⟩)
        · omega
        · have := k0.e4; omega
        · have hy := k0.im j hj
          have : Ey.seenB ls (i : Int) ls.length = true := Ey.seen_iff.2 ⟨j, hj, by omega⟩
          rw [hs] at this; cases this
      rw [hs] at hc
      have e2 := place_doubt hvm himm htm hc
      have e0 : Ey.placeR (h0 h) xs ls (i : Int) = .error 12 := by
        rw [hp0]; unfold Ey.askR; dsimp only
        rw [(Ey.ov_some k0 (.inl rfl) hb0).2.2 _ hnin]
      exact ⟨0, 0, 12, a, b, d, by rw [e0]; rfl, by rw [e2]; rfl, e3, fun h => by cases h⟩
    · obtain ⟨j, hj, ej⟩ := Ey.seen_iff.1 hs
      have hin : Ey.inS ls h.eyes.toNat (Ey.allS ls.length) (5 + i) := .inr (.inr ⟨j, hj, Ey.setI_allS V.l12 hj, by rw [ej, ei]⟩)
      rw [hs] at hc
      obtain ⟨lo, hi', e2, hext⟩ := place_ok hvm himm htm hc
      rw [ei] at hext
      obtain ⟨s0, q0, n0⟩ := (Ey.ov_some k0 (.inl rfl) hb0).2.1 _ hin
      obtain ⟨s1, q1, n1⟩ := (Ey.ov_some k1 (.inl rfl) hb1).2.1 _ hin
      have e0 : Ey.placeR (h0 h) xs ls (i : Int) = .ok (.agg #[.int .i64 s0.1, .int .i64 s0.2]) := by
        rw [hp0]; unfold Ey.askR; dsimp only; rw [q0]
      have e1 : Ey.placeR h xs ls (i : Int) = .ok (.agg #[.int .i64 s1.1, .int .i64 s1.2]) := by
        rw [hp1]; unfold Ey.askR; dsimp only; rw [q1]
      have hsame : s0.1 = lo ∧ s0.2 = hi' := by
        obtain ⟨ha, ⟨y, hy, ey⟩, z, hz, ez⟩ := hext
        obtain ⟨y', hy', ey'⟩ := n0.lo
        obtain ⟨z', hz', ez'⟩ := n0.hi
        have f1 := ha _ ((hta _).1 (tr_to hv hy'))
        have f2 := ha _ ((hta _).1 (tr_to hv hz'))
        have f3 := n0.all _ (tr_of hv ((hta _).2 hy))
        have f4 := n0.all _ (tr_of hv ((hta _).2 hz))
        have n2 : ¬ 2 + i < 2 := by omega
        have n5 : ¬ 5 + i < 5 := by omega
        have m1 : 2 + i + 3 = 5 + i := by omega
        have m2 : 5 + i - 3 = 2 + i := by omega
        simp only [if_neg n2, if_neg n5, m1, m2, if_pos (show (0 : Nat) < 2 by omega), if_pos (show (0 : Nat) < 5 by omega)] at f1 f2 f3 f4
        omega
      refine ⟨lo, hi', 0, s1.1, s1.2, 0, by rw [e0, hsame.1, hsame.2]; rfl, by rw [e2]; rfl, by rw [e1]; rfl, fun _ => ⟨rfl, ?_⟩⟩
      obtain ⟨y', hy', ey'⟩ := n0.lo
      obtain ⟨z', hz', ez'⟩ := n0.hi
      have f1 := n1.all _ (hup _ hy')
      have f2 := n1.all _ (hup _ hz')
      omega
  · have hc : Ey.canW (h0 h) (ls.map (Ey.travOf h xs)) ls h.eyes.toNat (Ey.allS ls.length) (Ey.allS h.eyes.toNat) = false := by
      cases hc : Ey.canW (h0 h) (ls.map (Ey.travOf h xs)) ls h.eyes.toNat (Ey.allS ls.length) (Ey.allS h.eyes.toNat)
      · rfl
      · exact absurd ((Ey.can_iff k0).1 hc) ht
    have ho : Ey.ovW (h0 h) xs ls 0 = none := (Ey.ov_none k0 (.inl rfl)).2 hc
    rw [ho] at hp0
    have htm : ¬ ∃ x, Tru (m0 h sa ns scap).sLo (m0 h sa ns scap).sHi (tellsOf xs (m0 h sa ns scap).eLo (m0 h sa ns scap).eHi (ssOf ls)) x := by
      rintro ⟨y, hy⟩
      exact ht ⟨_, tr_of hv ((hta _).2 hy)⟩
    have e2 := place_clash hvm himm htm
    exact ⟨0, 0, 10, a, b, d, by rw [hp0]; rfl, by rw [e2]; rfl, e3, fun h => by cases h⟩
end
end Ta
end Go.Proofs.YtcfjakifeihbpaaGreat
