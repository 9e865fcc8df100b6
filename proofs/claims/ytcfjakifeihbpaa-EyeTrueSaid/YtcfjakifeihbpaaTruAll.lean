/- 'EyeTrue': for every slice of numbers, in whatever memory, on every order of evaluation that Go leaves open: the call returns true, and what came in reads as before. No condition. -/
import Derived.Test.YtcfjakifeihbpaaEmm
import Derived.Test.YtcfjakifeihbpaaEtk
import Derived.Deep.CutRange
import Derived.Test.YtcfjakifeihbpaaEar
import Derived.OpenShut
namespace Go.Proofs.Ytcfjakifeihbpaa
namespace Ey
open Go.RowKit Nb

def ErrOk (xs : List (Int × Int)) : Prop := ∀ e ∈ xs, -7 ≤ e.1 ∧ e.1 ≤ e.2 ∧ e.2 ≤ 7
def HabOk (a b : Int) (hs : List Int) : Prop := ∀ n ∈ hs, a ≤ n ∧ n ≤ b
def PlaOk (ps : List Int) : Prop := ∀ p ∈ ps, 300 ≤ p ∧ p ≤ 3299
def LookOk (xs : List (Int × Int)) (hs ps : List Int) (e1 e2 : Int) (l : LkV) : Prop :=
  (0 ≤ l.1 ∧ l.1 < hs.length) ∧ (0 ≤ l.2.1 ∧ l.2.1 < ps.length) ∧ (0 ≤ l.2.2 ∧ l.2.2 / 1000 < xs.length) ∧
  l.2.2 + (xs.getD (l.2.2 / 1000).toNat (0, 0)).1 + e1 ≤ ps.getD l.2.1.toNat 0 - hs.getD l.1.toNat 0 ∧ ps.getD l.2.1.toNat 0 - hs.getD l.1.toNat 0 ≤ l.2.2 + (xs.getD (l.2.2 / 1000).toNat (0, 0)).2 + e2
structure MadeR (h : Wd) (xs : List (Int × Int)) (ls : List LkV) (hs ps : List Int) (E I : Nat) : Prop where
  v : validW h xs ls = true
  n : ls.length = h.ln
  e : h.eyes = (E : Int)
  i : h.images = (I : Int)
  hl : hs.length = E
  pl : ps.length = I
  hb : ∀ e, e < E → (h.hLo ≤ hs.getD e 0 ∧ hs.getD e 0 ≤ h.hHi) ∧ -200 ≤ hs.getD e 0 ∧ hs.getD e 0 ≤ 200
  pb : ∀ i, i < I → 300 ≤ ps.getD i 0 ∧ ps.getD i 0 ≤ 3299
  lk : ∀ k, k < ls.length → (travOf h xs (ls.getD k (0, 0, 0))).1 ≤ ps.getD (ls.getD k (0, 0, 0)).2.1.toNat 0 - hs.getD (ls.getD k (0, 0, 0)).1.toNat 0 ∧ ps.getD (ls.getD k (0, 0, 0)).2.1.toNat 0 - hs.getD (ls.getD k (0, 0, 0)).1.toNat 0 ≤ (travOf h xs (ls.getD k (0, 0, 0))).2
theorem getD_mem' {α : Type} {l : List α} {d : α} {k : Nat} (h : k < l.length) : l.getD k d ∈ l := by
  have e : l.getD k d = l[k] := by simp [List.getD, h]
  rw [e]; exact List.getElem_mem h
theorem made_of {h : Wd} {xs : List (Int × Int)} {ls : List LkV} {hs ps : List Int} (hx : ErrOk xs) (hn : xs.length = 4) (he : -5 ≤ h.eLo ∧ h.eLo ≤ 0 ∧ 0 ≤ h.eHi ∧ h.eHi ≤ 5) (hi : 1 ≤ h.images ∧ h.images ≤ 4) (hy : 1 ≤ h.eyes ∧ h.eyes ≤ 4) (hb : -39 ≤ h.hLo ∧ h.hLo ≤ 0 ∧ 0 ≤ h.hHi ∧ h.hHi ≤ 39)
    (hl : (hs.length : Int) = h.eyes) (pl : (ps.length : Int) = h.images) (hH : HabOk h.hLo h.hHi hs) (hP : PlaOk ps) (h12 : ls.length ≤ 12) (hln : ls.length = h.ln) (hL : ∀ l ∈ ls, LookOk xs hs ps h.eLo h.eHi l) : MadeR h xs ls hs ps hs.length ps.length := by
  have hev : evB (-100) 100 xs = true := by
    unfold evB
    rw [List.all_eq_true]
    intro e hm
    have := hx e hm
    simp [holdB]; omega
  have hvb : validB xs h.eLo h.eHi = true := by
    unfold validB
    rw [Bool.and_eq_true, Bool.and_eq_true, hold_iff, hold_iff]
    exact ⟨⟨by omega, hev⟩, by omega⟩
  have hv : validW h xs ls = true := by
    unfold validW
    simp only [Bool.and_eq_true, decide_eq_true_eq, hold_iff]
    refine ⟨⟨⟨⟨⟨⟨?_, by omega⟩, by omega⟩, by omega⟩, by omega⟩, h12⟩, List.all_eq_true.2 (fun l hm => ?_)⟩
    · unfold saysB hasTrn
      rw [hvb]
      simp
      omega
    · obtain ⟨g1, g2, g3, _⟩ := hL l hm
      unfold lookB
      rw [Bool.and_eq_true, Bool.and_eq_true, img_iff, img_iff]
      refine ⟨⟨by omega, by omega⟩, ?_⟩
      unfold saysB hasTrn
      rw [hvb]
      simp
      omega
  refine ⟨hv, hln, by omega, by omega, rfl, rfl, fun e he' => ?_, fun i hi' => hP _ (getD_mem' hi'), fun k hk => ?_⟩
  · have := hH _ (getD_mem' (d := 0) he'); omega
  · rw [trav_val hv hk]
    exact (hL _ (getD_mem' hk)).2.2.2
/-- The truth. -/
def truX (hs ps : List Int) (k : Nat) : Int := if k = 0 then 0 else if k < 5 then hs.getD (k - 1) 0 else ps.getD (k - 5) 0
theorem truX_e {hs ps : List Int} {e : Nat} (h : e < 4) : truX hs ps (1 + e) = hs.getD e 0 := by
  unfold truX
  rw [if_neg (by omega), if_pos (by omega), show 1 + e - 1 = e by omega]
theorem truX_p {hs ps : List Int} {i : Nat} : truX hs ps (5 + i) = ps.getD i 0 := by
  unfold truX
  rw [if_neg (by omega), if_neg (by omega), show 5 + i - 5 = i by omega]
/-- How many have a habit. -/
def cntTo (hs : List Int) : Nat → Int
  | 0 => 0
  | k + 1 => if hs.getD k 0 = 0 then cntTo hs k else cntTo hs k + 1
theorem cnt_rng (hs : List Int) : ∀ k, 0 ≤ cntTo hs k ∧ cntTo hs k ≤ k
  | 0 => by simp [cntTo]
  | k + 1 => by
    have := cnt_rng hs k
    rw [cntTo]; split <;> omega
def cp (p : Nat → Bool) : Nat → Int
  | 0 => 0
  | k + 1 => if p k then cp p k + 1 else cp p k
theorem popc_cp (p : Nat → Bool) (n : Nat) (hn : n ≤ 4) : popc (sureTo p n) = cp p n := by
  have : n = 0 ∨ n = 1 ∨ n = 2 ∨ n = 3 ∨ n = 4 := by omega
  rcases this with rfl | rfl | rfl | rfl | rfl
  · show popc 0 = 0; decide
  · cases h0 : p 0 <;> simp [sureTo, cp, h0] <;> decide
  · cases h0 : p 0 <;> cases h1 : p 1 <;> simp [sureTo, cp, h0, h1] <;> decide
  · cases h0 : p 0 <;> cases h1 : p 1 <;> cases h2 : p 2 <;> simp [sureTo, cp, h0, h1, h2] <;> decide
  · cases h0 : p 0 <;> cases h1 : p 1 <;> cases h2 : p 2 <;> cases h3 : p 3 <;> simp [sureTo, cp, h0, h1, h2, h3] <;> decide
theorem cnt_cp (hs : List Int) : ∀ n, cntTo hs n = cp (fun e => decide (hs.getD e 0 ≠ 0)) n
  | 0 => rfl
  | n + 1 => by
    rw [cntTo, cp, cnt_cp hs n]
    by_cases hz : hs.getD n 0 = 0
    · rw [if_pos hz, if_neg (by simpa using hz)]
    · rw [if_neg hz, if_pos (by simpa using hz)]
theorem popc_cnt {hs : List Int} {E : Nat} (h4 : E ≤ 4) : popc (sureTo (fun e => decide (hs.getD e 0 ≠ 0)) E) = cntTo hs E := by
  rw [popc_cp _ E h4, cnt_cp]
theorem made_tr {h : Wd} {xs : List (Int × Int)} {ls : List LkV} {hs ps : List Int} {E I : Nat} (m : MadeR h xs ls hs ps E I) {H : Int} (hH : ∀ e, e < E → hs.getD e 0 ≠ 0 → setI H e = true) (S : Int) : TrS h (ls.map (travOf h xs)) ls E S H (truX hs ps) := by
  have V := validW_iff m.v
  have hE4 : E ≤ 4 := by have := V.ey; have := m.e; omega
  refine ⟨fun e he => ?_, fun k hk _ => ?_⟩
  · have h1 := m.hb e he
    have h0 : truX hs ps 0 = 0 := rfl
    rw [truX_e (by omega), h0]
    unfold habS
    split
    · dsimp only; omega
    · rename_i hn
      have : hs.getD e 0 = 0 := by
        by_cases hz : hs.getD e 0 = 0
        · exact hz
        · exact absurd (hH e he hz) hn
      rw [this]; simp
  · have h1 := m.lk k hk
    have h2 := (V.lk _ (getD_mem' (d := (0, 0, 0)) hk)).1
    rw [getD_map hk, truX_p, truX_e (by have := m.e; omega)]
    exact h1
structure TU (h : Wd) (xs : List (Int × Int)) (ls : List LkV) (hs ps : List Int) (E I : Nat) (sure who : Int) : Prop where
  cl : replyI (clashA h xs ls) = .tuple #[.int .i64 0, .int .i64 0]
  dr : replyI (dropA h xs ls) = .tuple #[.int .i64 0, .int .i64 0]
  su : replyI (sureA h xs ls) = .tuple #[.int .i64 sure, .int .i64 0]
  ex : replyI (explainA h xs ls) = .tuple #[.int .i64 who, .int .i64 0]
  hb : ∀ a : Nat, a < E → ∃ s1 s2 : Int, reply (habitR h xs ls a) = .tuple #[.agg #[.int .i64 s1, .int .i64 s2], .int .i64 0] ∧ (s1 ≤ hs.getD a 0 ∧ hs.getD a 0 ≤ s2) ∧ (hs.getD a 0 = 0 → sure / 2 ^ a % 2 = 0)
  bt : ∀ a b : Nat, a < E → b < E → ∃ s1 s2 : Int, reply (betweenR h xs ls a b) = .tuple #[.agg #[.int .i64 s1, .int .i64 s2], .int .i64 0] ∧ (s1 ≤ hs.getD b 0 - hs.getD a 0 ∧ hs.getD b 0 - hs.getD a 0 ≤ s2)
  pl : ∀ i : Nat, i < I → ∃ s1 s2 c : Int, reply (placeR h xs ls i) = .tuple #[.agg #[.int .i64 s1, .int .i64 s2], .int .i64 c] ∧ (seenB ls i ls.length = false ∧ c = 12 ∨ seenB ls i ls.length = true ∧ c = 0 ∧ s1 ≤ ps.getD i 0 ∧ ps.getD i 0 ≤ s2)
  an : bits .andNot .i64 sure who = 0
  le : popc who ≤ cntTo hs E
  rg : (0 ≤ sure ∧ sure < 16) ∧ 0 ≤ who ∧ who < 4096
set_option maxRecDepth 100000 in
theorem made_facts {h : Wd} {xs : List (Int × Int)} {ls : List LkV} {hs ps : List Int} {E I : Nat} (m : MadeR h xs ls hs ps E I) : ∃ sure who, TU h xs ls hs ps E I sure who := by
  have hv := m.v
  have hn := m.n
  have V := validW_iff hv
  have k := wok_of hv hn m.e
  have hE4 : 1 ≤ E ∧ E ≤ 4 := by have := V.ey; have := m.e; omega
  have hEn : h.eyes.toNat = E := by rw [m.e]; rfl
  have htr : ∀ S, TrS h (ls.map (travOf h xs)) ls E S (allS E) (truX hs ps) := fun S => made_tr m (fun e he _ => setI_allS (by omega) he) S
  have hcan : ∀ S, canW h (ls.map (travOf h xs)) ls E S (allS E) = true := fun S => (can_iff k).2 ⟨_, htr S⟩
  obtain ⟨b, hb⟩ := ov_yes k (.inl rfl) (htr (allS ls.length))
  obtain ⟨_, r1, r2⟩ := ov_some k (.inl rfl) hb
  have hine : ∀ a, a < E → inS ls E (allS ls.length) (1 + a) := fun a ha => .inr (.inl ⟨a, ha, rfl⟩)
  obtain ⟨W, D, o, al, g, q1, q2, cf⟩ := clash_facts hv hn (y := 0) (by omega)
  have hcs : W = 0 ∧ D = 0 := by
    rcases cf.cs with ⟨h1, h2, _⟩ | ⟨_, _, _, h4⟩
    · exact ⟨h1, h2⟩
    · exfalso
      have hEe : eyesN h = E := hEn
      unfold canB at h4
      rw [hEe, hcan] at h4
      cases h4
  obtain ⟨rfl, rfl⟩ := hcs
  obtain ⟨X, cx, x1, x2, x3⟩ := explain_min hv k
  have hX : cx = 0 ∧ ∀ q : Nat, q < 2 ^ E → canW h (ls.map (travOf h xs)) ls E (allS ls.length) q = true → popc (X : Int) ≤ popc (q : Int) := by
    rcases x3 with ⟨h1, _, _⟩ | ⟨_, h2, _, h4⟩
    · rw [hcan] at h1; cases h1
    · exact ⟨h2, h4⟩
  obtain ⟨rfl, hmin⟩ := hX
  have hsure := sure_eq hv m.e hb
  obtain ⟨c', who', sure', g', xf⟩ := explain_facts hv hn (m := 0) (by have := m.e; omega)
  have ew : who' = X ∧ c' = 0 := by
    have := xf.w.symm.trans x1
    simpa using this
  have es : sure' = sureTo (sureP b) E := by
    have := xf.s.symm.trans hsure
    have h2 : sure' = sureTo (sureP b) E ∧ c' = 0 := by simpa using this
    exact h2.1
  have han : bits .andNot .i64 (sureTo (sureP b) E) (X : Int) = 0 := by
    rcases xf.cs with ⟨h1, _⟩ | ⟨_, _, _, _, h5, _⟩
    · omega
    · rw [es, ew.1] at h5; exact h5
  have hp16 : 2 ^ E ≤ 16 := (by decide : ∀ k : Fin 5, 2 ^ k.val ≤ 16) ⟨E, by omega⟩
  have hpE := (pow_12 (n := E) (by omega)).2.2
  have hsr := sure_rng (sureP b) E
  obtain ⟨H0, e0, l0⟩ := set_nat (n := E) (by omega) (fun e => decide (hs.getD e 0 ≠ 0))
  have hle : popc (X : Int) ≤ cntTo hs E := by
    rw [← popc_cnt hE4.2, e0]
    refine hmin H0 l0 ((can_iff k).2 ⟨_, made_tr m (fun e he hz => ?_) _⟩)
    rw [← e0, setI_sureTo (by omega) he]
    simpa using hz
  have hme : ∀ a : Nat, a < E → isImg h.eyes (a : Int) = true := fun a ha => img_iff.2 (by have := m.e; omega)
  have hmi : ∀ a : Nat, a < I → isImg h.images (a : Int) = true := fun a ha => img_iff.2 (by have := m.i; omega)
  refine ⟨_, (X : Int), cf.w, cf.d, hsure, x1, fun a ha => ?_, fun a c ha hc => ?_, fun i hi => ?_, han, hle, ⟨⟨hsr.1, by omega⟩, by omega, by omega⟩⟩
  · obtain ⟨s, e1, A⟩ := r1 _ (hine a ha)
    have h1 := A.all _ (htr _)
    rw [truX_e (by omega), show truX hs ps 0 = 0 from rfl] at h1
    refine ⟨s.1, s.2, ?_, by omega, fun hz => ?_⟩
    · unfold habitR ovW
      rw [hv, hme a ha, hEn, hb]
      simp only [if_true]
      unfold askR
      dsimp only
      rw [show 1 + ((a : Int)).toNat = 1 + a by omega, e1]; rfl
    · rw [bit_of _ E a ha]
      have : sureP b a = false := by
        unfold sureP
        rw [e1]
        unfold holdB
        simp
        omega
      rw [this]; rfl
  · have hb1 : isBase E (1 + a) := .inr ⟨a, ha, rfl⟩
    obtain ⟨b2, hb2⟩ := ov_yes k hb1 (htr (allS ls.length))
    obtain ⟨s, e1, A⟩ := (ov_some k hb1 hb2).2.1 _ (hine c hc)
    have h1 := A.all _ (htr _)
    rw [truX_e (by omega), truX_e (by omega)] at h1
    refine ⟨s.1, s.2, ?_, h1⟩
    unfold betweenR ovW
    rw [hv, hme a ha, hme c hc, hEn]
    simp only [if_true]
    rw [show 1 + ((a : Int)).toNat = 1 + a by omega, hb2]
    unfold askR
    dsimp only
    rw [show 1 + ((c : Int)).toNat = 1 + c by omega, e1]; rfl
  · have hpl : placeR h xs ls i = askR (some b) (5 + i) := by
      unfold placeR ovW
      rw [hv, hmi i hi, hEn, hb]
      rfl
    have hin : inS ls E (allS ls.length) (5 + i) ↔ seenB ls i ls.length = true := by
      rw [seen_iff]
      constructor
      · rintro (h1 | ⟨e, he, h1⟩ | ⟨j, hj, _, h1⟩)
        · omega
        · omega
        · exact ⟨j, hj, by have := (k.im j hj).1; omega⟩
      · rintro ⟨j, hj, h1⟩
        exact .inr (.inr ⟨j, hj, setI_allS k.l12 hj, by rw [h1]; simp⟩)
    cases hsn : seenB ls i ls.length
    · refine ⟨0, 0, 12, ?_, .inl ⟨rfl, rfl⟩⟩
      rw [hpl]
      unfold askR
      dsimp only
      rw [r2 _ (fun hc => by rw [hin.1 hc] at hsn; cases hsn)]; rfl
    · obtain ⟨s, e1, A⟩ := r1 _ (hin.2 hsn)
      have h1 := A.all _ (htr _)
      rw [truX_p, show truX hs ps 0 = 0 from rfl] at h1
      refine ⟨s.1, s.2, 0, ?_, .inr ⟨rfl, rfl, by omega, by omega⟩⟩
      rw [hpl]
      unfold askR
      dsimp only
      rw [e1]; rfl
end Ey
end Go.Proofs.Ytcfjakifeihbpaa

namespace Go.Proofs.Ytcfjakifeihbpaa
namespace Ey
open Go.RowKit

structure DS (X : World) (gA gY c yb yo yn yc : Nat) : Prop where
  ca : X.cell? ⟨gA, 0, none⟩ = some (.int .i64 c)
  sa : Slots gA 1 X
  cy : X.cell? ⟨gY, 0, none⟩ = some (.slice (some ⟨yb, yo, none⟩) yn yc)
  el : ∀ k, k < yn → ∃ v : Int, X.cell? ⟨yb, yo + k, none⟩ = some (.int .u16 v) ∧ 0 ≤ v ∧ v ≤ 65535
def DrawR (w : World) (gA c : Nat) (m : Int) (e : Ending) (w' : World) : Prop :=
  ∃ d : Int, (e = .returned (.int .i64 d) ∧ w' = (w.setCell ⟨gA, 0, none⟩ (.int .i64 ((c : Int) + 1))).drew) ∧ 0 ≤ d ∧ d < m
set_option maxRecDepth 100000 in
set_option maxHeartbeats 4000000 in
theorem draw_any (gA gY c yb yo yn yc : Nat) (m : Int) (w : World) (hd : DS w gA gY c yb yo yn yc) (hc : c ≤ 1000) (hy : 1 ≤ yn) (hyn : yn ≤ 9223372036854775807) (hm : 1 ≤ m ∧ m ≤ 1000000) (hne : gA ≠ gY) (hnb : yb ≠ gA) :
    Calls Try.prog 70 #[.int .i64 m, .pointer (some ⟨gA, 0, none⟩), .pointer (some ⟨gY, 0, none⟩)] w (DrawR w gA c m) := by
  obtain ⟨u0, p0, f0⟩ := hd.sa.get 0 (by omega)
  have hca := hd.ca
  obtain ⟨j, hj⟩ : ∃ j : Nat, (c + 1) % yn = j := ⟨_, rfl⟩
  have hjn : j < yn := by rw [← hj]; exact Nat.mod_lt _ (by omega)
  obtain ⟨v, hv, v0, v1⟩ := hd.el j hjn
  have hx0 : (w.setCell ⟨gA, 0, none⟩ (.int .i64 ((c : Int) + 1))).cell? ⟨gA, 0, none⟩ = some (.int .i64 ((c : Int) + 1)) := World.cell?_setCell_same _ _ _ hca
  have hx1 : (w.setCell ⟨gA, 0, none⟩ (.int .i64 ((c : Int) + 1))).cell? ⟨gY, 0, none⟩ = some (.slice (some ⟨yb, yo, none⟩) yn yc) := by
    rw [World.cell?_setCell_other _ _ _ _ (by intro he; injection he; omega)]; exact hd.cy
  have hx2 : (w.setCell ⟨gA, 0, none⟩ (.int .i64 ((c : Int) + 1))).cell? ⟨yb, yo + j, none⟩ = some (.int .u16 v) := by
    rw [World.cell?_setCell_other _ _ _ _ (by intro he; injection he; omega)]; exact hv
  have e1 : Int.tmod ((c : Int) + 1) (yn : Int) = (j : Int) := by
    have e : (c : Int) + 1 = ((c + 1 : Nat) : Int) := by omega
    rw [e, ← Int.ofNat_tmod, hj]
  have e2 : IntKind.i64.wrap (31 * ((c : Int) + 1)) = 31 * ((c : Int) + 1) := IntWalk.i64_in _ (by omega)
  have e3 : IntKind.i64.wrap v = v := IntWalk.i64_in _ (by omega)
  have e4 : IntKind.i64.wrap (v + 31 * ((c : Int) + 1)) = v + 31 * ((c : Int) + 1) := IntWalk.i64_in _ (by omega)
  have hnn : 0 ≤ v + 31 * ((c : Int) + 1) := by omega
  have e5 : Int.tmod (v + 31 * ((c : Int) + 1)) m = (v + 31 * ((c : Int) + 1)) % m := Int.tmod_eq_emod_of_nonneg hnn
  have hd0 : 0 ≤ (v + 31 * ((c : Int) + 1)) % m := Int.emod_nonneg _ (by omega)
  have hd1 : (v + 31 * ((c : Int) + 1)) % m < m := Int.emod_lt_of_pos _ (by omega)
  have hyn0 : ¬ (yn : Int) = 0 := by omega
  have hm0 : ¬ m = 0 := by omega
  have hyn1 : ¬ yn = 0 := by omega
  have hj0 : (0 : Int) ≤ (j : Int) := by omega
  have hjI : (j : Int) < (yn : Int) := by omega
  have hc1 : ((c : Int) + 1) ≤ 1001 := by omega
  have E := Lib.hid (And.intro e1 (And.intro e2 (And.intro e3 (And.intro e4 e5))))
  clear hd hj e1 e2 e3 e4 e5 p0 hv
  go_enter Try.func70, Try.ntmps70
  go_upto_region 2 with fail
  refine wp_region_seq [(0, true), (1, true), (2, true), (3, true), (4, true), (5, true), (6, true), (7, true), (8, true), (9, true), (10, true), (11, true), (12, true), (13, true)] (fun w' => w'.cell? ⟨gA, 0, none⟩ = some (.int .i64 ((c : Int) + 1)) ∧ w'.cell? ⟨gY, 0, none⟩ = some (.slice (some ⟨yb, yo, none⟩) yn yc) ∧ w'.cell? ⟨yb, yo + j, none⟩ = some (.int .u16 v)) (by kernel_rfl) (by kernel_rfl) (fun _ _ d _ _ h => by cases d <;> exact h) ⟨hx0, hx1, hx2⟩ ?_
  obtain ⟨e1, e2, e3, e4, e5⟩ := E.out
  repeat (first | (refine seq_read rfl (by rfl) _ (fun w' hS => by (try dsimp only at hS); go_simp; (try with_reducible rfl)) ?_; (try simp only [Act.put, List.setIfInBounds_toArray, List.set_cons_zero, List.set_cons_succ])) | (refine seq_skip rfl (by rfl) ?_; (try simp only [Act.put, List.setIfInBounds_toArray, List.set_cons_zero, List.set_cons_succ])))
  refine seq_end ?_
  generalize (v + 31 * ((c : Int) + 1)) % m = d at *
  show Exit.then _ _ Exit.normal _ _
  go_wp2
  go_ret
  exact ⟨d, ⟨rfl, rfl⟩, hd0, hd1⟩

def DrawsR (w : World) (yb yo yn yc : Nat) (e : Ending) (w' : World) : Prop :=
  ∃ gA gY : Nat, e = .returned (.func (.func 70) #[] #[.pointer (some ⟨gA, 0, none⟩), .pointer (some ⟨gY, 0, none⟩)]) ∧ Below w.heap.size w w' ∧ DS w' gA gY 0 yb yo yn yc ∧
    (w.heap.size ≤ gA ∧ gA < w'.heap.size) ∧ (w.heap.size ≤ gY ∧ gY < w'.heap.size) ∧ gA ≠ gY
set_option maxRecDepth 100000 in
theorem draws_any (yb yo yn yc : Nat) (w : World) (hb : yb < w.heap.size) (hel : ∀ k, k < yn → ∃ v : Int, w.cell? ⟨yb, yo + k, none⟩ = some (.int .u16 v) ∧ 0 ≤ v ∧ v ≤ 65535) :
    Calls Try.prog 29 #[.slice (some ⟨yb, yo, none⟩) yn yc] w (DrawsR w yb yo yn yc) := by
  have hmf : ∀ (fn : Fn) (first cap : Array Value) (w : World), (Instr.makeFunc fn first cap).run Try.prog w = .ok (.func fn first cap) w := fun _ _ _ _ => rfl
  have hB : Below w.heap.size w ((w.alloc (.cells #[.slice (some ⟨yb, yo, none⟩) yn yc] 40)).alloc (.cells #[.int .i64 0] 3)) := by (repeat (first | assumption | exact Below.refl _ _ | refine BA ?_ _ | refine BC ?_ _ _ (by omega) _ | refine Below.drew ?_ | refine BT ?_ (by assumption)))
  have hD : Hid (DS ((w.alloc (.cells #[.slice (some ⟨yb, yo, none⟩) yn yc] 40)).alloc (.cells #[.int .i64 0] 3)) (w.heap.size + 1) w.heap.size 0 yb yo yn yc) := by
    refine ⟨by simp [go_sem], ?_, by simp [go_sem], fun k hk => ?_⟩
    · intro o ho
      obtain rfl : o = 0 := by omega
      simp [go_sem]
    · obtain ⟨v, hv, h1⟩ := hel k hk
      exact ⟨v, (hB.cell (p := ⟨yb, yo + k, none⟩) hb).trans hv, h1⟩
  go_enter Try.func29, Try.ntmps29
  go_wp2
  go_ret
  exact ⟨w.heap.size + 1, w.heap.size, rfl, hB, hD.out, ⟨by omega, by simp⟩, ⟨by omega, by simp; omega⟩, by omega⟩

structure MF where
  gA : Nat
  gY : Nat
  B : Nat
  M : Nat
  yb : Nat
  yo : Nat
  yn : Nat
  yc : Nat
  wb : World
structure MFok (f : MF) : Prop where
  a1 : f.wb.heap.size ≤ f.gA
  a2 : f.gA < f.M
  y1 : f.wb.heap.size ≤ f.gY
  y2 : f.gY < f.M
  b1 : f.wb.heap.size ≤ f.B
  b2 : f.B < f.M
  yl : f.yb < f.wb.heap.size
  n1 : f.gA ≠ f.gY
  n2 : f.gA ≠ f.B
  n3 : f.gY ≠ f.B
  p1 : 1 ≤ f.yn
  p2 : f.yn ≤ 9223372036854775807
/-- What stands in memory while a watch is made. -/
structure MC (f : MF) (X : World) (c : Nat) (ve vl : Value) (e1 e2 im ey h1 h2 : Int) : Prop where
  ds : DS X f.gA f.gY c f.yb f.yo f.yn f.yc
  c0 : X.cell? ⟨f.B, 0, none⟩ = some ve
  c1 : X.cell? ⟨f.B, 1, none⟩ = some (.int .i64 e1)
  c2 : X.cell? ⟨f.B, 2, none⟩ = some (.int .i64 e2)
  c3 : X.cell? ⟨f.B, 3, none⟩ = some (.int .i64 im)
  c4 : X.cell? ⟨f.B, 4, none⟩ = some (.int .i64 ey)
  c5 : X.cell? ⟨f.B, 5, none⟩ = some (.int .i64 h1)
  c6 : X.cell? ⟨f.B, 6, none⟩ = some (.int .i64 h2)
  c7 : X.cell? ⟨f.B, 7, none⟩ = some vl
  sl : Slots f.B 8 X
  bel : Below f.wb.heap.size f.wb X
  sz : f.M ≤ X.heap.size
structure MR (f : MF) (X : World) (ve vl vh : Value) (xs : List (Int × Int)) (ls : List LkV) (hs : List Int) : Prop where
  re : X.ownsRow f.M 24 2 ve xs.length (xs.flatMap spanV)
  rl : X.ownsRow f.M 47 3 vl ls.length (ls.flatMap lookV)
  rh : X.ownsRow f.M 3 1 vh hs.length (hs.map fun p => .int .i64 p)
/-- The row of places: it lies behind that of habits. -/
structure PR (f : MF) (M3 : Nat) (X : World) (vh vp : Value) (ps : List Int) : Prop where
  rp : X.ownsRow M3 3 1 vp ps.length (ps.map fun p => .int .i64 p)
  lo : ∀ b, vh.ownBlock = some b → b < M3
  m3 : f.M ≤ M3
theorem grown_below' {X X' : World} (hb : Below X.heap.size X X') (row : Option Nat) : X.grownBy X' row := ⟨hb.os, hb.tape, hb.output, hb.size, fun i hi _ => hb.block i hi⟩
theorem BX.drew (B : Nat) (w : World) : BX B w w.drew := ⟨rfl, rfl, rfl, Nat.le_refl _, fun _ _ _ => rfl⟩
section
variable {f : MF} {X X' : World} {c M3 : Nat} {ve vl vh vp : Value} {e1 e2 im ey h1 h2 : Int} {xs : List (Int × Int)} {ls : List LkV} {hs ps : List Int}
theorem MC.by (ok : MFok f) (k : MC f X c ve vl e1 e2 im ey h1 h2) {row : Option Nat} (hg : X.grownBy X' row) (hr : ∀ b, row = some b → f.M ≤ b) : MC f X' c ve vl e1 e2 im ey h1 h2 := by
  have hne : ∀ b, b < f.M → some b ≠ row := fun b hb e => by have := hr b e.symm; omega
  have hA := hne _ ok.a2
  have hY := hne _ ok.y2
  have hB := hne _ ok.b2
  have hyb := hne f.yb (by have := ok.yl; have := ok.a1; have := ok.a2; omega)
  have hw : f.wb.heap.size ≤ f.M := by have := ok.a1; have := ok.a2; omega
  refine ⟨⟨hg.cell k.ds.ca hA, slots_grownBy k.ds.sa hg hA, hg.cell k.ds.cy hY, fun j hj => ?_⟩, hg.cell k.c0 hB, hg.cell k.c1 hB, hg.cell k.c2 hB, hg.cell k.c3 hB, hg.cell k.c4 hB, hg.cell k.c5 hB, hg.cell k.c6 hB, hg.cell k.c7 hB, slots_grownBy k.sl hg hB, ?_, Nat.le_trans k.sz hg.size⟩
  · obtain ⟨v, hv, h1⟩ := k.ds.el j hj
    exact ⟨v, hg.cell hv hyb, h1⟩
  · exact k.bel.grown hg (Nat.le_trans hw k.sz) (fun b hb => Nat.le_trans hw (hr b hb))
theorem MC.grown (ok : MFok f) (k : MC f X c ve vl e1 e2 im ey h1 h2) (hb : Below X.heap.size X X') : MC f X' c ve vl e1 e2 im ey h1 h2 := k.by ok (grown_below' hb none) (fun b e => by cases e)
theorem MC.far (ok : MFok f) (k : MC f X c ve vl e1 e2 im ey h1 h2) {g : Nat} (hg : f.M ≤ g) (o : Nat) (v : Value) : MC f (X.setCell ⟨g, o, none⟩ v) c ve vl e1 e2 im ey h1 h2 :=
  k.by ok (grownBy_set X g o v) (fun b e => by injection e with e; omega)
theorem MR.by (k : MR f X ve vl vh xs ls hs) {row : Option Nat} (hg : X.grownBy X' row) (h1 : ve.ownBlock = none ∨ ve.ownBlock ≠ row) (h2 : vl.ownBlock = none ∨ vl.ownBlock ≠ row) (h3 : vh.ownBlock = none ∨ vh.ownBlock ≠ row) : MR f X' ve vl vh xs ls hs :=
  ⟨k.re.kept hg h1, k.rl.kept hg h2, k.rh.kept hg h3⟩
theorem MR.grown (k : MR f X ve vl vh xs ls hs) (hb : Below X.heap.size X X') : MR f X' ve vl vh xs ls hs :=
  k.by (grown_below' hb none) (by cases ve.ownBlock <;> simp) (by cases vl.ownBlock <;> simp) (by cases vh.ownBlock <;> simp)
theorem MR.set (k : MR f X ve vl vh xs ls hs) (g o : Nat) (v : Value) (h1 : ve.ownBlock ≠ some g) (h2 : vl.ownBlock ≠ some g) (h3 : vh.ownBlock ≠ some g) : MR f (X.setCell ⟨g, o, none⟩ v) ve vl vh xs ls hs :=
  k.by (grownBy_set X g o v) (.inr h1) (.inr h2) (.inr h3)
theorem MR.low (k : MR f X ve vl vh xs ls hs) (g o : Nat) (v : Value) (h : g < f.M) : MR f (X.setCell ⟨g, o, none⟩ v) ve vl vh xs ls hs :=
  k.set g o v (fun e => by have := (k.re.lt g e).1; omega) (fun e => by have := (k.rl.lt g e).1; omega) (fun e => by have := (k.rh.lt g e).1; omega)
theorem MR.bx (k : MR f X ve vl vh xs ls hs) {g : Nat} (hg : g < f.M) (hx : BX g X X') : MR f X' ve vl vh xs ls hs := by
  have hby : X.grownBy X' (some g) := ⟨hx.os, hx.tape, hx.output, hx.size, fun k hk hn => hx.block k hk (by simpa using hn)⟩
  exact k.by hby (.inr fun e => by have := (k.re.lt g e).1; omega) (.inr fun e => by have := (k.rl.lt g e).1; omega) (.inr fun e => by have := (k.rh.lt g e).1; omega)
theorem PR.by (k : PR f M3 X vh vp ps) {row : Option Nat} (hg : X.grownBy X' row) (h1 : vp.ownBlock = none ∨ vp.ownBlock ≠ row) : PR f M3 X' vh vp ps := ⟨k.rp.kept hg h1, k.lo, k.m3⟩
theorem PR.grown (k : PR f M3 X vh vp ps) (hb : Below X.heap.size X X') : PR f M3 X' vh vp ps := k.by (grown_below' hb none) (by cases vp.ownBlock <;> simp)
theorem PR.set (k : PR f M3 X vh vp ps) (g o : Nat) (v : Value) (h1 : vp.ownBlock ≠ some g) : PR f M3 (X.setCell ⟨g, o, none⟩ v) vh vp ps := k.by (grownBy_set X g o v) (.inr h1)
theorem PR.low (k : PR f M3 X vh vp ps) (g o : Nat) (v : Value) (h : g < f.M) : PR f M3 (X.setCell ⟨g, o, none⟩ v) vh vp ps := k.set g o v (fun e => by have := (k.rp.lt g e).1; have := k.m3; omega)
theorem PR.bx (k : PR f M3 X vh vp ps) {g : Nat} (hg : g < f.M) (hx : BX g X X') : PR f M3 X' vh vp ps := by
  have hby : X.grownBy X' (some g) := ⟨hx.os, hx.tape, hx.output, hx.size, fun k hk hn => hx.block k hk (by simpa using hn)⟩
  exact k.by hby (.inr fun e => by have := (k.rp.lt g e).1; have := k.m3; omega)
theorem MC.draw (ok : MFok f) (k : MC f X c ve vl e1 e2 im ey h1 h2) : MC f (X.setCell ⟨f.gA, 0, none⟩ (.int .i64 ((c : Int) + 1))).drew (c + 1) ve vl e1 e2 im ey h1 h2 := by
  have n2 := ok.n2
  have n1 := ok.n1
  have h1 := ok.yl
  have h2 := ok.a1
  have ho : ∀ (b o : Nat) (u : Value), b ≠ f.gA → X.cell? ⟨b, o, none⟩ = some u → (X.setCell ⟨f.gA, 0, none⟩ (.int .i64 ((c : Int) + 1))).cell? ⟨b, o, none⟩ = some u := fun b o u hb hu => by
    rw [World.cell?_setCell_other _ _ _ _ (by intro he; injection he; omega)]; exact hu
  refine ⟨⟨?_, ((k.ds.sa).set _ _).drew, ho _ _ _ (Ne.symm n1) k.ds.cy, fun j hj => ?_⟩, ho _ _ _ (Ne.symm n2) k.c0, ho _ _ _ (Ne.symm n2) k.c1, ho _ _ _ (Ne.symm n2) k.c2, ho _ _ _ (Ne.symm n2) k.c3, ho _ _ _ (Ne.symm n2) k.c4, ho _ _ _ (Ne.symm n2) k.c5, ho _ _ _ (Ne.symm n2) k.c6, ho _ _ _ (Ne.symm n2) k.c7, (k.sl.set _ _).drew, ?_, ?_⟩
  · have e : ((c + 1 : Nat) : Int) = (c : Int) + 1 := by omega
    rw [e]
    exact World.cell?_setCell_same _ _ _ k.ds.ca
  · obtain ⟨v, hv, h3⟩ := k.ds.el j hj
    exact ⟨v, ho _ _ _ (by omega) hv, h3⟩
  · exact Below.drew (BC k.bel f.gA 0 ok.a1 _)
  · have := k.sz; simpa using this
theorem MC.put (ok : MFok f) (k : MC f X c ve vl e1 e2 im ey h1 h2) (o : Nat) (v : Value) : DS (X.setCell ⟨f.B, o, none⟩ v) f.gA f.gY c f.yb f.yo f.yn f.yc ∧ Slots f.B 8 (X.setCell ⟨f.B, o, none⟩ v) ∧ Below f.wb.heap.size f.wb (X.setCell ⟨f.B, o, none⟩ v) ∧ f.M ≤ (X.setCell ⟨f.B, o, none⟩ v).heap.size := by
  have n2 := ok.n2
  have n3 := ok.n3
  have h1 := ok.yl
  have h2 := ok.b1
  have ho : ∀ (b q : Nat) (u : Value), b ≠ f.B → X.cell? ⟨b, q, none⟩ = some u → (X.setCell ⟨f.B, o, none⟩ v).cell? ⟨b, q, none⟩ = some u := fun b q u hb hu => by
    rw [World.cell?_setCell_other _ _ _ _ (by intro he; injection he; omega)]; exact hu
  refine ⟨⟨ho _ _ _ n2 k.ds.ca, k.ds.sa.set _ _, ho _ _ _ n3 k.ds.cy, fun j hj => ?_⟩, k.sl.set _ _, BC k.bel f.B o ok.b1 _, by have := k.sz; simpa using this⟩
  obtain ⟨u, hu, h3⟩ := k.ds.el j hj
  exact ⟨u, ho _ _ _ (by omega) hu, h3⟩
theorem cell_else {X : World} {B o o' : Nat} {u v : Value} (h : X.cell? ⟨B, o', none⟩ = some u) (hne : o' ≠ o) : (X.setCell ⟨B, o, none⟩ v).cell? ⟨B, o', none⟩ = some u := by
  rw [World.cell?_setCell_other _ _ _ _ (by intro he; injection he; omega)]; exact h
theorem MC.put0 (ok : MFok f) (k : MC f X c ve vl e1 e2 im ey h1 h2) (v : Value) : MC f (X.setCell ⟨f.B, 0, none⟩ v) c v vl e1 e2 im ey h1 h2 := by
  obtain ⟨h1, h2, h3, h4⟩ := k.put ok 0 v
  exact ⟨h1, World.cell?_setCell_same _ _ _ k.c0, cell_else k.c1 (by omega), cell_else k.c2 (by omega), cell_else k.c3 (by omega), cell_else k.c4 (by omega), cell_else k.c5 (by omega), cell_else k.c6 (by omega), cell_else k.c7 (by omega), h2, h3, h4⟩
theorem MC.put1 (ok : MFok f) (k : MC f X c ve vl e1 e2 im ey h1 h2) (v : Int) : MC f (X.setCell ⟨f.B, 1, none⟩ (.int .i64 v)) c ve vl v e2 im ey h1 h2 := by
  obtain ⟨h1, h2, h3, h4⟩ := k.put ok 1 (.int .i64 v)
  exact ⟨h1, cell_else k.c0 (by omega), World.cell?_setCell_same _ _ _ k.c1, cell_else k.c2 (by omega), cell_else k.c3 (by omega), cell_else k.c4 (by omega), cell_else k.c5 (by omega), cell_else k.c6 (by omega), cell_else k.c7 (by omega), h2, h3, h4⟩
theorem MC.put2 (ok : MFok f) (k : MC f X c ve vl e1 e2 im ey h1 h2) (v : Int) : MC f (X.setCell ⟨f.B, 2, none⟩ (.int .i64 v)) c ve vl e1 v im ey h1 h2 := by
  obtain ⟨h1, h2, h3, h4⟩ := k.put ok 2 (.int .i64 v)
  exact ⟨h1, cell_else k.c0 (by omega), cell_else k.c1 (by omega), World.cell?_setCell_same _ _ _ k.c2, cell_else k.c3 (by omega), cell_else k.c4 (by omega), cell_else k.c5 (by omega), cell_else k.c6 (by omega), cell_else k.c7 (by omega), h2, h3, h4⟩
theorem MC.put3 (ok : MFok f) (k : MC f X c ve vl e1 e2 im ey h1 h2) (v : Int) : MC f (X.setCell ⟨f.B, 3, none⟩ (.int .i64 v)) c ve vl e1 e2 v ey h1 h2 := by
  obtain ⟨h1, h2, h3, h4⟩ := k.put ok 3 (.int .i64 v)
  exact ⟨h1, cell_else k.c0 (by omega), cell_else k.c1 (by omega), cell_else k.c2 (by omega), World.cell?_setCell_same _ _ _ k.c3, cell_else k.c4 (by omega), cell_else k.c5 (by omega), cell_else k.c6 (by omega), cell_else k.c7 (by omega), h2, h3, h4⟩
theorem MC.put4 (ok : MFok f) (k : MC f X c ve vl e1 e2 im ey h1 h2) (v : Int) : MC f (X.setCell ⟨f.B, 4, none⟩ (.int .i64 v)) c ve vl e1 e2 im v h1 h2 := by
  obtain ⟨h1, h2, h3, h4⟩ := k.put ok 4 (.int .i64 v)
  exact ⟨h1, cell_else k.c0 (by omega), cell_else k.c1 (by omega), cell_else k.c2 (by omega), cell_else k.c3 (by omega), World.cell?_setCell_same _ _ _ k.c4, cell_else k.c5 (by omega), cell_else k.c6 (by omega), cell_else k.c7 (by omega), h2, h3, h4⟩
theorem MC.put5 (ok : MFok f) (k : MC f X c ve vl e1 e2 im ey h1 h2) (v : Int) : MC f (X.setCell ⟨f.B, 5, none⟩ (.int .i64 v)) c ve vl e1 e2 im ey v h2 := by
  obtain ⟨h1, h2, h3, h4⟩ := k.put ok 5 (.int .i64 v)
  exact ⟨h1, cell_else k.c0 (by omega), cell_else k.c1 (by omega), cell_else k.c2 (by omega), cell_else k.c3 (by omega), cell_else k.c4 (by omega), World.cell?_setCell_same _ _ _ k.c5, cell_else k.c6 (by omega), cell_else k.c7 (by omega), h2, h3, h4⟩
theorem MC.put6 (ok : MFok f) (k : MC f X c ve vl e1 e2 im ey h1 h2) (v : Int) : MC f (X.setCell ⟨f.B, 6, none⟩ (.int .i64 v)) c ve vl e1 e2 im ey h1 v := by
  obtain ⟨h1, h2, h3, h4⟩ := k.put ok 6 (.int .i64 v)
  exact ⟨h1, cell_else k.c0 (by omega), cell_else k.c1 (by omega), cell_else k.c2 (by omega), cell_else k.c3 (by omega), cell_else k.c4 (by omega), cell_else k.c5 (by omega), World.cell?_setCell_same _ _ _ k.c6, cell_else k.c7 (by omega), h2, h3, h4⟩
theorem MC.put7 (ok : MFok f) (k : MC f X c ve vl e1 e2 im ey h1 h2) (v : Value) : MC f (X.setCell ⟨f.B, 7, none⟩ v) c ve v e1 e2 im ey h1 h2 := by
  obtain ⟨h1, h2, h3, h4⟩ := k.put ok 7 v
  exact ⟨h1, cell_else k.c0 (by omega), cell_else k.c1 (by omega), cell_else k.c2 (by omega), cell_else k.c3 (by omega), cell_else k.c4 (by omega), cell_else k.c5 (by omega), cell_else k.c6 (by omega), World.cell?_setCell_same _ _ _ k.c7, h2, h3, h4⟩
theorem own_apart {w : World} {b1 b2 n1 n2 t1 t2 z1 z2 : Nat} {v1 v2 : Value} {l1 l2 : List Value} (ht : t1 ≠ t2) (h1 : w.ownsRow b1 t1 z1 v1 n1 l1) (h2 : w.ownsRow b2 t2 z2 v2 n2 l2) : v1.ownBlock = none ∨ v1.ownBlock ≠ v2.ownBlock := by
  rcases h1.2 with ⟨r1, _⟩ | ⟨g1, c1, u1, r1, _, k1, _⟩
  · subst r1; exact .inl rfl
  · rcases h2.2 with ⟨r2, _⟩ | ⟨g2, c2, u2, r2, _, k2, _⟩
    · subst r1; subst r2; exact .inr (fun e => by cases e)
    · subst r1; subst r2
      refine .inr (fun e => ?_)
      have e : g1 = g2 := by simpa [Value.ownBlock] using e
      subst e
      rw [k1] at k2
      injection k2 with k2
      injection k2 with _ k3
      exact ht k3
/-- One more of a row, the field not yet set. -/
theorem MR.puse (k : MR f X ve vl vh xs ls hs) (hg : X.grownBy X' ve.ownBlock) {g cap : Nat} {s : Int × Int} (hr : X'.ownsRow f.M 24 2 (.slice (some ⟨g, 0, none⟩) (xs.length + 1) cap) (xs.length + 1) (xs.flatMap spanV ++ spanV s)) :
    MR f X' (.slice (some ⟨g, 0, none⟩) (xs.length + 1) cap) vl vh (xs ++ [s]) ls hs :=
  ⟨by simpa [List.flatMap_append] using hr, k.rl.kept hg (own_apart (by decide) k.rl k.re), k.rh.kept hg (own_apart (by decide) k.rh k.re)⟩
theorem MR.pusl (k : MR f X ve vl vh xs ls hs) (hg : X.grownBy X' vl.ownBlock) {v : Value} {s : LkV} (hr : X'.ownsRow f.M 47 3 v (ls.length + 1) (ls.flatMap lookV ++ lookV s)) :
    MR f X' ve v vh xs (ls ++ [s]) hs :=
  ⟨k.re.kept hg (own_apart (by decide) k.re k.rl), by simpa [List.flatMap_append] using hr, k.rh.kept hg (own_apart (by decide) k.rh k.rl)⟩
theorem PR.pusl (k : PR f M3 X vh vp ps) (m : MR f X ve vl vh xs ls hs) (hg : X.grownBy X' vl.ownBlock) : PR f M3 X' vh vp ps := k.by hg (own_apart (by decide) k.rp m.rl)
theorem MR.push (k : MR f X ve vl vh xs ls hs) (hg : X.grownBy X' vh.ownBlock) {g cap : Nat} {s : Int} (hr : X'.ownsRow f.M 3 1 (.slice (some ⟨g, 0, none⟩) (hs.length + 1) cap) (hs.length + 1) ((hs.map fun p => .int .i64 p) ++ [.int .i64 s])) :
    MR f X' ve vl (.slice (some ⟨g, 0, none⟩) (hs.length + 1) cap) xs ls (hs ++ [s]) :=
  ⟨k.re.kept hg (own_apart (by decide) k.re k.rh), k.rl.kept hg (own_apart (by decide) k.rl k.rh), by simpa using hr⟩
theorem MR.pusp (m : MR f X ve vl vh xs ls hs) (k : PR f M3 X vh vp ps) (hg : X.grownBy X' vp.ownBlock) : MR f X' ve vl vh xs ls hs :=
  m.by hg (own_apart (by decide) m.re k.rp) (own_apart (by decide) m.rl k.rp) (by
    cases hv : vh.ownBlock with
    | none => exact .inl rfl
    | some b => exact .inr (fun e => by have h1 := k.lo b hv; have h2 := (k.rp.lt b e.symm).1; omega))
theorem PR.pusp (k : PR f M3 X vh vp ps) {g cap : Nat} {s : Int} (hr : X'.ownsRow M3 3 1 (.slice (some ⟨g, 0, none⟩) (ps.length + 1) cap) (ps.length + 1) ((ps.map fun p => .int .i64 p) ++ [.int .i64 s])) : PR f M3 X' vh (.slice (some ⟨g, 0, none⟩) (ps.length + 1) cap) (ps ++ [s]) :=
  ⟨by simpa using hr, k.lo, k.m3⟩
def DrawM (f : MF) (X : World) (c : Nat) (m : Int) (ve vl : Value) (e1 e2 im ey h1 h2 : Int) (e : Ending) (w' : World) : Prop :=
  ∃ d : Int, e = .returned (.int .i64 d) ∧ (0 ≤ d ∧ d < m) ∧ MC f w' (c + 1) ve vl e1 e2 im ey h1 h2 ∧ BX f.gA X w'
theorem draw_mc (ok : MFok f) (k : MC f X c ve vl e1 e2 im ey h1 h2) (m : Int) (hc : c ≤ 1000) (hm : 1 ≤ m ∧ m ≤ 1000000) :
    Calls Try.prog 70 #[.int .i64 m, .pointer (some ⟨f.gA, 0, none⟩), .pointer (some ⟨f.gY, 0, none⟩)] X (DrawM f X c m ve vl e1 e2 im ey h1 h2) := by
  refine (draw_any f.gA f.gY c f.yb f.yo f.yn f.yc m X k.ds hc ok.p1 ok.p2 hm ok.n1 (by have := ok.yl; have := ok.a1; omega)).mono ?_
  rintro e w' ⟨d, ⟨rfl, rfl⟩, h0, h1⟩
  exact ⟨d, rfl, ⟨h0, h1⟩, k.draw ok, (BX.set f.gA 0 X _).trans (BX.drew _ _)⟩
end
theorem info3 : (Try.prog.info? 3).map (fun i => (i.zero, i.size, i.bytes)) = some (some (.int .i64 0), 1, 8) := by kernel_rfl
def Ints (X : World) (a : Option Addr) (ps : List Int) : Prop := ∃ g, a = some ⟨g, 0, none⟩ ∧ g < X.heap.size ∧ ∀ k, k < ps.length → X.cell? ⟨g, k, none⟩ = some (.int .i64 (ps.getD k 0))
theorem Ints.below {X X' : World} {a : Option Addr} {ps : List Int} (k : Ints X a ps) (hb : Below X.heap.size X X') : Ints X' a ps := by
  obtain ⟨g, h1, h2, h3⟩ := k
  exact ⟨g, h1, Nat.lt_of_lt_of_le h2 hb.size, fun j hj => cellB (h3 j hj) hb⟩
theorem ints_row {X : World} {base g n cap : Nat} {ps : List Int} (h : X.ownsRow base 3 1 (.slice (some ⟨g, 0, none⟩) n cap) n (ps.map fun p => .int .i64 p)) (hn : ps.length = n) : ∀ k, k < ps.length → X.cell? ⟨g, k, none⟩ = some (.int .i64 (ps.getD k 0)) := fun k hk => by
  rw [h.cellAt _ (by omega)]
  simp [List.getD, hk]
end Ey
end Go.Proofs.Ytcfjakifeihbpaa

namespace Go.Proofs.Ytcfjakifeihbpaa
namespace Ey
open Go.RowKit

structure MadeO (wb : World) (e : Ending) (w' : World) : Prop where
  out : ∃ (h : Wd) (xs : List (Int × Int)) (ls : List LkV) (hs ps : List Int) (ha : Option Addr) (hc : Nat) (pa : Option Addr) (pc : Nat),
    e = .returned (.tuple #[h.val, .slice ha hs.length hc, .slice pa ps.length pc]) ∧ Below wb.heap.size wb w' ∧ HasW w' h xs ls ∧ Ints w' ha hs ∧ Ints w' pa ps ∧ MadeR h xs ls hs ps hs.length ps.length
theorem info3p : ∃ i, Try.prog.info? 3 = some i ∧ i.zero = some (.int .i64 0) ∧ i.size = 1 ∧ i.bytes = 8 := by
  have h := info3
  cases hi : Try.prog.info? 3 with
  | none => rw [hi] at h; cases h
  | some i =>
    rw [hi] at h
    simp at h
    exact ⟨i, rfl, h.1, h.2.1, h.2.2⟩
theorem slots_new8 (w : World) (t : TypeId) : Slots w.heap.size 8 (w.alloc (.cells #[.slice none 0 0, .int .i64 0, .int .i64 0, .int .i64 0, .int .i64 0, .int .i64 0, .int .i64 0, .slice none 0 0] t)) := slots8 w _ _ 0 0 0 0 0 0 t
theorem spans_at {X : World} {base g n cap : Nat} {xs : List (Int × Int)} (h : X.ownsRow base 24 2 (.slice (some ⟨g, 0, none⟩) n cap) n (xs.flatMap spanV)) (hn : xs.length = n) {k : Nat} (hk : k < xs.length) :
    X.cell? ⟨g, k * 2, none⟩ = some (.int .i64 (xs.getD k (0, 0)).1) ∧ X.cell? ⟨g, k * 2 + 1, none⟩ = some (.int .i64 (xs.getD k (0, 0)).2) := by
  obtain ⟨f0, f1⟩ := flat_span xs k hk
  exact ⟨by rw [h.cellAt _ (by omega), f0], by rw [h.cellAt _ (by omega), f1]⟩
/-- The box of a look that is made. -/
structure LB (f : MF) (X : World) (gl : Nat) (ve vl vh vp : Value) : Prop where
  m : f.M ≤ gl
  sl : Slots gl 3 X
  q1 : ve.ownBlock ≠ some gl
  q2 : vl.ownBlock ≠ some gl
  q3 : vh.ownBlock ≠ some gl
  q4 : vp.ownBlock ≠ some gl
theorem Slots.bx2 {X X' : World} {g g' n : Nat} (k : Slots g n X) (hx : BX g' X X') (hne : g ≠ g') : Slots g n X' := fun o ho => by
  have hl : g < X.heap.size := by
    have := (k o ho).1
    cases hc : X.cell? ⟨g, o, none⟩ with
    | none => rw [hc] at this; cases this
    | some v => exact World.block_lt_of_cell? _ _ hc
  have hb := hx.block g hl hne
  rw [World.cell?_of_block (a := ⟨g, o, none⟩) hb, World.frozen?_of_block (a := ⟨g, o, none⟩) hb]; exact k o ho
theorem lt3 {g : Nat} {X : World} (k : Slots g 3 X) : g < X.heap.size := by
  obtain ⟨v, h, _⟩ := k.get 0 (by omega)
  exact World.block_lt_of_cell? _ _ h
theorem LB.bx {f : MF} {X X' : World} {gl : Nat} {ve vl vh vp : Value} (ok : MFok f) (k : LB f X gl ve vl vh vp) (hx : BX f.gA X X') : LB f X' gl ve vl vh vp :=
  ⟨k.m, Slots.bx2 k.sl hx (by have := ok.a2; have := k.m; omega), k.q1, k.q2, k.q3, k.q4⟩
theorem LB.cell {f : MF} {X X' : World} {gl : Nat} {ve vl vh vp : Value} (ok : MFok f) (k : LB f X gl ve vl vh vp) (hx : BX f.gA X X') {o : Nat} {v : Value} (h : X.cell? ⟨gl, o, none⟩ = some v) : X'.cell? ⟨gl, o, none⟩ = some v :=
  (hx.cell gl o (lt3 k.sl) (by have := ok.a2; have := k.m; omega)).trans h
theorem LB.grown {f : MF} {X X' : World} {gl : Nat} {ve vl vh vp : Value} (k : LB f X gl ve vl vh vp) (hb : Below X.heap.size X X') : LB f X' gl ve vl vh vp := ⟨k.m, k.sl.below hb (lt3 k.sl), k.q1, k.q2, k.q3, k.q4⟩
theorem LB.set {f : MF} {X : World} {gl : Nat} {ve vl vh vp : Value} (k : LB f X gl ve vl vh vp) (o : Nat) (v : Value) : LB f (X.setCell ⟨gl, o, none⟩ v) gl ve vl vh vp := ⟨k.m, k.sl.set _ _, k.q1, k.q2, k.q3, k.q4⟩
theorem three_new (w : World) (a b c : Int) (t : TypeId) : Slots w.heap.size 3 (w.alloc (.cells #[.int .i64 a, .int .i64 b, .int .i64 c] t)) := by
  intro o ho
  have : o = 0 ∨ o = 1 ∨ o = 2 := by omega
  rcases this with rfl | rfl | rfl <;> simp [go_sem]
theorem lb_new {f : MF} {X : World} {M3 : Nat} {ve vl vh vp : Value} {xs : List (Int × Int)} {ls : List LkV} {hs ps : List Int} (hM : f.M ≤ X.heap.size) (r : MR f X ve vl vh xs ls hs) (p : PR f M3 X vh vp ps) (a b c : Int) (t : TypeId) : LB f (X.alloc (.cells #[.int .i64 a, .int .i64 b, .int .i64 c] t)) X.heap.size ve vl vh vp :=
  ⟨hM, three_new X a b c t, fun e => by have := (r.re.lt _ e).2; omega, fun e => by have := (r.rl.lt _ e).2; omega, fun e => by have := (r.rh.lt _ e).2; omega, fun e => by have := (p.rp.lt _ e).2; omega⟩
theorem three_set {X : World} {g : Nat} (k : Slots g 3 X) (a b c : Int) : (((X.setCell ⟨g, 0, none⟩ (.int .i64 a)).setCell ⟨g, 1, none⟩ (.int .i64 b)).setCell ⟨g, 2, none⟩ (.int .i64 c)).cell? ⟨g, 0, none⟩ = some (.int .i64 a) ∧
    (((X.setCell ⟨g, 0, none⟩ (.int .i64 a)).setCell ⟨g, 1, none⟩ (.int .i64 b)).setCell ⟨g, 2, none⟩ (.int .i64 c)).cell? ⟨g, 1, none⟩ = some (.int .i64 b) ∧
    (((X.setCell ⟨g, 0, none⟩ (.int .i64 a)).setCell ⟨g, 1, none⟩ (.int .i64 b)).setCell ⟨g, 2, none⟩ (.int .i64 c)).cell? ⟨g, 2, none⟩ = some (.int .i64 c) := by
  obtain ⟨v0, a0, _⟩ := k.get 0 (by omega)
  obtain ⟨v1, a1, _⟩ := k.get 1 (by omega)
  obtain ⟨v2, a2, _⟩ := k.get 2 (by omega)
  refine ⟨?_, ?_, ?_⟩ <;> simp [go_sem, a0, a1, a2]
set_option maxRecDepth 100000 in
set_option maxHeartbeats 16000000 in
theorem made_any (gA gY yb yo yn yc : Nat) (wb w : World) (hwb : Below wb.heap.size wb w) (hd : DS w gA gY 0 yb yo yn yc) (hA : wb.heap.size ≤ gA) (hY : wb.heap.size ≤ gY) (hne : gA ≠ gY) (hyb : yb < wb.heap.size) (hp : 1 ≤ yn) (hp2 : yn ≤ 9223372036854775807) :
    Calls Try.prog 28 #[.func (.func 70) #[] #[.pointer (some ⟨gA, 0, none⟩), .pointer (some ⟨gY, 0, none⟩)]] w (MadeO wb) := by
  obtain ⟨f, hf⟩ : ∃ f : MF, f = ⟨gA, gY, w.heap.size, w.heap.size + 1, yb, yo, yn, yc, wb⟩ := ⟨_, rfl⟩
  have lA : gA < w.heap.size := World.block_lt_of_cell? _ _ hd.ca
  have lY : gY < w.heap.size := World.block_lt_of_cell? _ _ hd.cy
  have ok : MFok f := by
    subst hf
    exact ⟨hA, by show gA < w.heap.size + 1; omega, hY, by show gY < w.heap.size + 1; omega, hwb.size, by show w.heap.size < w.heap.size + 1; omega, hyb, hne, by show gA ≠ w.heap.size; omega, by show gY ≠ w.heap.size; omega, hp, hp2⟩
  have hW := newB w (.cells #[.slice none 0 0, .int .i64 0, .int .i64 0, .int .i64 0, .int .i64 0, .int .i64 0, .int .i64 0, .slice none 0 0] 29)
  have hk0 : MC f (w.alloc (.cells #[.slice none 0 0, .int .i64 0, .int .i64 0, .int .i64 0, .int .i64 0, .int .i64 0, .int .i64 0, .slice none 0 0] 29)) 0 (.slice none 0 0) (.slice none 0 0) 0 0 0 0 0 0 := by
    subst hf
    refine ⟨⟨cellB hd.ca hW, hd.sa.below hW lA, cellB hd.cy hW, fun j hj => ?_⟩, by simp [go_sem], by simp [go_sem], by simp [go_sem], by simp [go_sem], by simp [go_sem], by simp [go_sem], by simp [go_sem], by simp [go_sem], slots_new8 w 29, BT hwb hW, by show w.heap.size + 1 ≤ _; simp⟩
    obtain ⟨v, hv, h1⟩ := hd.el j hj
    exact ⟨v, cellB hv hW, h1⟩
  have hr0 : MR f (w.alloc (.cells #[.slice none 0 0, .int .i64 0, .int .i64 0, .int .i64 0, .int .i64 0, .int .i64 0, .int .i64 0, .slice none 0 0] 29)) (.slice none 0 0) (.slice none 0 0) (.slice none 0 0) [] [] [] := ⟨World.ownsRow_nil _ _ _ _, World.ownsRow_nil _ _ _ _, World.ownsRow_nil _ _ _ _⟩
  have eA : f.gA = gA := by rw [hf]
  have eY : f.gY = gY := by rw [hf]
  have eB : f.B = w.heap.size := by rw [hf]
  have eW : f.wb = wb := by rw [hf]
  clear hd hW hwb hA hY hne hyb hp hp2 lA lY
  rw [← eA, ← eY, ← eW]
  clear hf eA eY eW
  go_enter Try.func28, Try.ntmps28
  go_upto_region 2 with fail
  rw [← eB] at *
  clear eB
  generalize w.alloc (.cells #[.slice none 0 0, .int .i64 0, .int .i64 0, .int .i64 0, .int .i64 0, .int .i64 0, .int .i64 0, .slice none 0 0] 29) = w0 at hk0 hr0 ⊢
  obtain ⟨i24, j24, z24, s24, b24⟩ := infoSpP
  obtain ⟨i3, j3, z3, s3, b3⟩ := info3p
  have I24 := Lib.hid (And.intro j24 (And.intro z24 (And.intro s24 b24)))
  have I3 := Lib.hid (And.intro j3 (And.intro z3 (And.intro s3 b3)))
  clear j24 z24 s24 b24 j3 z3 s3 b3
  go_loopw [12] (fun i wr => ∃ (k c : Nat) (ve : Value) (xs : List (Int × Int)), k ≤ 4 ∧ i = .int .i64 k ∧ xs.length = k ∧ c ≤ 3 * k ∧ Hid (MC f wr c ve (.slice none 0 0) 0 0 0 0 0 0) ∧ Hid (MR f wr ve (.slice none 0 0) (.slice none 0 0) xs [] []) ∧ ErrOk xs) (fun i _ => 4 - (intOf i).toNat)
  case atStart => exact ⟨0, 0, _, [], by omega, rfl, rfl, by omega, hk0, hr0, fun e he => by cases he⟩
  case round =>
    clear hk0 hr0
    obtain ⟨k, c, ve, xs, hk, rfl, hxl, hc, hkc, hkr, hE⟩ := hrel
    subst hxl
    have hk0 : (0 : Int) ≤ (xs.length : Int) := by omega
    by_cases hlt : xs.length < 4
    · have hlt' : (xs.length : Int) < 4 := by omega
      go_wp2_with fail
      refine (draw_mc ok hkc.out 9 (by omega) (by omega)).mono ?_
      rintro e w2 ⟨d, rfl, ⟨hd0, hd1⟩, hk2, hx2⟩
      have hr2 := hkr.out.bx ok.a2 hx2
      clear hkc hkr hx2
      go_upto_region 4 with fail
      obtain ⟨n, hn⟩ : ∃ n : Int, d - 4 = n := ⟨_, rfl⟩
      rw [hn]
      have hn0 : -4 ≤ n ∧ n ≤ 4 := by omega
      clear hn hd0 hd1
      have hk3 := hk2.grown ok (Below.drew (Below.refl _ _))
      have hr3 := hr2.grown (Below.drew (Below.refl _ _))
      clear hk2 hr2
      refine wp_region_seq [(0, true), (1, true), (2, true), (3, true), (4, true), (7, true), (8, true), (5, false), (6, true), (9, false), (10, true), (11, false), (12, false), (13, false), (14, true), (15, true), (16, false)] (fun w' => w'.cell? ⟨f.B, 0, none⟩ = some ve) (by kernel_rfl) (by kernel_rfl) (fun _ _ d _ _ h => by cases d <;> exact h) hk3.c0 ?_
      generalize w2.drew = X0 at hk3 hr3 ⊢
      repeat (first | (refine seq_read rfl (by rfl) _ (fun w' hS => by (try dsimp only at hS); go_simp; (try with_reducible rfl)) ?_; (try simp only [Act.put, List.setIfInBounds_toArray, List.set_cons_zero, List.set_cons_succ])) | (refine seq_skip rfl (by rfl) ?_; (try simp only [Act.put, List.setIfInBounds_toArray, List.set_cons_zero, List.set_cons_succ])))
      refine seq_do rfl (by rfl) (fun K hK => ?_)
      go_simp
      refine (draw_mc ok hk3 4 (by omega) (by omega)).mono ?_
      rintro e X1 ⟨d1, rfl, ⟨hd0, hd1⟩, hk4, hx4⟩
      have hr4 := hr3.bx ok.a2 hx4
      clear hk3 hr3 hx4
      refine hK _ _ hk4.c0 ?_
      clear hK K
      (try simp only [Act.put, List.setIfInBounds_toArray, List.set_cons_zero, List.set_cons_succ])
      have elo : IntKind.i64.wrap (n - d1) = n - d1 := IntWalk.i64_in _ (by omega)
      repeat (first | (refine seq_read rfl (by rfl) _ (fun w' hS => by (try dsimp only at hS); go_simp; (try with_reducible rfl)) ?_; (try simp only [Act.put, List.setIfInBounds_toArray, List.set_cons_zero, List.set_cons_succ])) | (refine seq_skip rfl (by rfl) ?_; (try simp only [Act.put, List.setIfInBounds_toArray, List.set_cons_zero, List.set_cons_succ])))
      obtain ⟨lo, hlo⟩ : ∃ lo : Int, n - d1 = lo := ⟨_, rfl⟩
      have hlo0 : -7 ≤ lo ∧ lo ≤ n := by omega
      clear elo
      rw [hlo]
      clear hlo hd0 hd1
      refine seq_do rfl (by rfl) (fun K hK => ?_)
      go_simp
      refine (draw_mc ok hk4 4 (by omega) (by omega)).mono ?_
      rintro e X2 ⟨d2, rfl, ⟨hd0, hd1⟩, hk5, hx4⟩
      have hr5 := hr4.bx ok.a2 hx4
      clear hk4 hr4 hx4
      refine hK _ _ hk5.c0 ?_
      clear hK K
      (try simp only [Act.put, List.setIfInBounds_toArray, List.set_cons_zero, List.set_cons_succ])
      have ehi : IntKind.i64.wrap (n + d2) = n + d2 := IntWalk.i64_in _ (by omega)
      repeat (first | (refine seq_read rfl (by rfl) _ (fun w' hS => by (try dsimp only at hS); go_simp; (try with_reducible rfl)) ?_; (try simp only [Act.put, List.setIfInBounds_toArray, List.set_cons_zero, List.set_cons_succ])) | (refine seq_skip rfl (by rfl) ?_; (try simp only [Act.put, List.setIfInBounds_toArray, List.set_cons_zero, List.set_cons_succ])))
      obtain ⟨hi, hhi⟩ : ∃ hi : Int, n + d2 = hi := ⟨_, rfl⟩
      have hhi0 : lo ≤ hi ∧ hi ≤ 7 := by omega
      clear ehi
      rw [hhi]
      clear hhi hd0 hd1
      refine seq_do rfl (by rfl) (fun K hK => ?_)
      go_simp
      refine (spanL_any _ _ _).mono ?_
      rintro e X3 ⟨rfl, hx2⟩
      have hk6 := hk5.grown ok hx2
      have hr6 := hr5.grown hx2
      clear hk5 hr5 hx2
      refine hK _ _ hk6.c0 ?_
      clear hK K
      (try simp only [Act.put, List.setIfInBounds_toArray, List.set_cons_zero, List.set_cons_succ])
      refine seq_do rfl (by rfl) (fun K hK => ?_)
      have hk7 := hk6.grown ok (newB X3 (.cells #[.int .i64 lo, .int .i64 hi] 24))
      have hr7 := hr6.grown (newB X3 (.cells #[.int .i64 lo, .int .i64 hi] 24))
      have hnw : ∀ j u, (spanV (lo, hi))[j]? = some u → (X3.alloc (.cells #[.int .i64 lo, .int .i64 hi] 24)).cell? ((⟨X3.heap.size, 0, none⟩ : Addr).add j) = some u := World.news_of_block (heap_alloc_new X3 _)
      clear hk6 hr6
      go_simp
      generalize X3.heap.size = gs at hnw ⊢
      generalize X3.alloc (.cells #[.int .i64 lo, .int .i64 hi] 24) = X4 at hk7 hr7 hnw ⊢
      refine hK _ _ hk7.c0 ?_
      clear hK K
      (try simp only [Act.put, List.setIfInBounds_toArray, List.set_cons_zero, List.set_cons_succ])
      refine seq_do rfl (by rfl) (fun K hK => ?_)
      obtain ⟨j24, z24, s24, b24⟩ := I24.out
      refine wp_append_lies X4 (.tmp 19) (.tmp 29) 22 rfl f.M 24 i24 (.agg #[.int .i64 0, .int .i64 0]) 2 16 Try.underlying22 j24 z24 s24 b24 rfl (by decide) ve xs.length (xs.flatMap spanV) (by rfl) hr7.re ⟨gs, 0, none⟩ 1 1 (spanV (lo, hi)) (by rfl) rfl hnw (by intro u hu; simp [spanV] at hu; rcases hu with rfl | rfl <;> rfl) (by omega) (by unfold maxLen; omega) (by omega) hk7.sz _ rfl ?_
      intro g cap X5 hrow hgr _ _
      have hk8 := hk7.by ok hgr (fun b hb => (hr7.re.lt b hb).1)
      have hr8 := hr7.puse hgr hrow
      clear hk7 hr7 hnw hrow hgr j24 z24 s24 b24
      refine hK _ _ hk8.c0 ?_
      clear hK K
      (try simp only [Act.put, List.setIfInBounds_toArray, List.set_cons_zero, List.set_cons_succ])
      repeat (first | (refine seq_read rfl (by rfl) _ (fun w' hS => by (try dsimp only at hS); go_simp; (try with_reducible rfl)) ?_; (try simp only [Act.put, List.setIfInBounds_toArray, List.set_cons_zero, List.set_cons_succ])) | (refine seq_skip rfl (by rfl) ?_; (try simp only [Act.put, List.setIfInBounds_toArray, List.set_cons_zero, List.set_cons_succ])))
      refine seq_last rfl (by rfl) (by kernel_rfl) (fun K hK => ?_)
      obtain ⟨u6, q6, f6⟩ := hk8.sl.get 0 (by omega)
      go_simp
      refine hK _ _ ?_
      clear hK K
      (try simp only [Act.put, List.setIfInBounds_toArray, List.set_cons_zero, List.set_cons_succ])
      have hk9 := Lib.hid (hk8.put0 ok (.slice (some ⟨g, 0, none⟩) (xs.length + 1) cap))
      have hr9 := Lib.hid (hr8.low f.B 0 (.slice (some ⟨g, 0, none⟩) (xs.length + 1) cap) ok.b2)
      clear hk8 hr8 q6 f6
      generalize X5.setCell ⟨f.B, 0, none⟩ (.slice (some ⟨g, 0, none⟩) (xs.length + 1) cap) = X6 at hk9 hr9 ⊢
      first | show Exit.inBlock _ _ Exit.normal _ _ | show Exit.then _ _ Exit.normal _ _
      go_wp2_with fail
      go_roundw
      case rel => exact ⟨xs.length + 1, _, _, _, by omega, by go_num, by simp, by omega, hk9, hr9, fun e he => by
        rcases List.mem_append.1 he with h1 | h1
        · exact hE e h1
        · rw [List.mem_singleton.1 h1]; exact ⟨hlo0.1, hhi0.1, hhi0.2⟩⟩
      case measure => simp [intOf]; omega
    · have hx4 : xs.length = 4 := by omega
      have HX4 := Lib.hid hx4
      have hxl : xs.length ≤ 4 := by omega
      have hc12 : c ≤ 12 := by omega
      have hltI : ¬ (xs.length : Int) < 4 := by omega
      clear hk hk0 hx4 hlt
      have hk1 := hkc.out
      have hr1 := hkr.out
      obtain ⟨ge, ce, rfl, _, _⟩ := hr1.re.form (by have := HX4.out; omega)
      clear hkc hkr hc
      go_wp2_with fail
      refine (draw_mc ok hk1 6 (by omega) (by omega)).mono ?_
      rintro e w2 ⟨a1, rfl, ⟨hqa10, hqa11⟩, hk2, hx⟩
      have hr2 := hr1.bx ok.a2 hx
      clear hk1 hr1 hx
      clear hltI
      go_wp2_with fail
      refine (draw_mc ok hk2 6 (by omega) (by omega)).mono ?_
      rintro e w3 ⟨a2, rfl, ⟨hqa20, hqa21⟩, hk3, hx⟩
      have hr3 := hr2.bx ok.a2 hx
      clear hk2 hr2 hx
      go_wp2_with fail
      refine (spanL_any _ _ _).mono ?_
      rintro e w4 ⟨rfl, hx4⟩
      have hkq := hk3.grown ok hx4
      have hrq := hr3.grown hx4
      obtain ⟨u1, p1, f1⟩ := hkq.sl.get 1 (by omega)
      obtain ⟨u2, p2, f2⟩ := hkq.sl.get 2 (by omega)
      have hk5 := (hkq.put1 ok (-a1)).put2 ok (a2)
      have hr5 := (hrq.low f.B 1 (.int .i64 (-a1)) ok.b2).low f.B 2 (.int .i64 (a2)) ok.b2
      clear hk3 hr3 hx4 hkq hrq
      go_upto_region 7 with fail
      clear p1 f1 p2 f2
      generalize (w4.setCell ⟨f.B, 1, none⟩ (.int .i64 (-a1))).setCell ⟨f.B, 2, none⟩ (.int .i64 (a2)) = w5 at hk5 hr5 ⊢
      obtain ⟨e1, he1⟩ : ∃ e1 : Int, -a1 = e1 := ⟨_, rfl⟩
      rw [he1] at hk5
      have he10 : -5 ≤ e1 ∧ e1 ≤ 0 := by omega
      have he20 : 0 ≤ a2 ∧ a2 ≤ 5 := by omega
      clear he1 hqa10 hqa11 hqa20 hqa21
      go_wp2_with fail
      refine (draw_mc ok hk5 4 (by omega) (by omega)).mono ?_
      rintro e w6 ⟨a3, rfl, ⟨hqa30, hqa31⟩, hk6, hx⟩
      have hr6 := hr5.bx ok.a2 hx
      clear hk5 hr5 hx
      go_wp2_with fail
      refine (draw_mc ok hk6 4 (by omega) (by omega)).mono ?_
      rintro e w7 ⟨a4, rfl, ⟨hqa40, hqa41⟩, hk7, hx⟩
      have hr7 := hr6.bx ok.a2 hx
      clear hk6 hr6 hx
      obtain ⟨u3, p3, f3⟩ := hk7.sl.get 3 (by omega)
      obtain ⟨u4, p4, f4⟩ := hk7.sl.get 4 (by omega)
      have hk8 := (hk7.put3 ok (1 + a3)).put4 ok (1 + a4)
      have hr8 := (hr7.low f.B 3 (.int .i64 (1 + a3)) ok.b2).low f.B 4 (.int .i64 (1 + a4)) ok.b2
      clear hk7 hr7
      go_upto_region 8 with fail
      clear p3 f3 p4 f4
      generalize (w7.setCell ⟨f.B, 3, none⟩ (.int .i64 (1 + a3))).setCell ⟨f.B, 4, none⟩ (.int .i64 (1 + a4)) = w8 at hk8 hr8 ⊢
      obtain ⟨im, him⟩ : ∃ im : Int, 1 + a3 = im := ⟨_, rfl⟩
      obtain ⟨ey, hey⟩ : ∃ ey : Int, 1 + a4 = ey := ⟨_, rfl⟩
      rw [him, hey] at hk8
      have him0 : 1 ≤ im ∧ im ≤ 4 := by omega
      have hey0 : 1 ≤ ey ∧ ey ≤ 4 := by omega
      clear him hey hqa30 hqa31 hqa40 hqa41
      go_wp2_with fail
      refine (draw_mc ok hk8 40 (by omega) (by omega)).mono ?_
      rintro e w9 ⟨a5, rfl, ⟨hqa50, hqa51⟩, hk9, hx⟩
      have hr9 := hr8.bx ok.a2 hx
      clear hk8 hr8 hx
      go_wp2_with fail
      refine (draw_mc ok hk9 40 (by omega) (by omega)).mono ?_
      rintro e w10 ⟨h2, rfl, ⟨hqh20, hqh21⟩, hk10, hx⟩
      have hr10 := hr9.bx ok.a2 hx
      clear hk9 hr9 hx
      go_wp2_with fail
      refine (spanL_any _ _ _).mono ?_
      rintro e w11 ⟨rfl, hx4⟩
      have hkq := hk10.grown ok hx4
      have hrq := hr10.grown hx4
      obtain ⟨u1, p1, f1⟩ := hkq.sl.get 5 (by omega)
      obtain ⟨u2, p2, f2⟩ := hkq.sl.get 6 (by omega)
      have hk12 := (hkq.put5 ok (-a5)).put6 ok (h2)
      have hr12 := (hrq.low f.B 5 (.int .i64 (-a5)) ok.b2).low f.B 6 (.int .i64 (h2)) ok.b2
      clear hk10 hr10 hx4 hkq hrq
      go_upto_region 9 with fail
      clear p1 f1 p2 f2
      generalize (w11.setCell ⟨f.B, 5, none⟩ (.int .i64 (-a5))).setCell ⟨f.B, 6, none⟩ (.int .i64 (h2)) = w12 at hk12 hr12 ⊢
      obtain ⟨h1, hh1⟩ : ∃ h1 : Int, -a5 = h1 := ⟨_, rfl⟩
      rw [hh1] at hk12
      have hh0 : -39 ≤ h1 ∧ h1 ≤ 0 ∧ 0 ≤ h2 ∧ h2 ≤ 39 := by omega
      clear hh1 hqa50 hqa51 hqh20 hqh21
      obtain ⟨cd, hcd, hk13⟩ : ∃ cd, cd ≤ 20 ∧ MC f w12 cd (.slice (some ⟨ge, 0, none⟩) xs.length ce) (.slice none 0 0) e1 a2 im ey h1 h2 := ⟨_, by omega, hk12⟩
      clear hk12 hc12
      have c4 := hk13.c4
      go_upto_region 10 with fail
      clear c4
      go_loopw [59, 3] (fun i v wr => ∃ (k c : Nat) (hs : List Int), (k : Int) ≤ ey ∧ i = .int .i64 k ∧ hs.length = k ∧ c ≤ 20 + 2 * k ∧ Hid (MC f wr c (.slice (some ⟨ge, 0, none⟩) xs.length ce) (.slice none 0 0) e1 a2 im ey h1 h2) ∧ Hid (MR f wr (.slice (some ⟨ge, 0, none⟩) xs.length ce) (.slice none 0 0) v xs [] hs) ∧ HabOk h1 h2 hs) (fun i _ _ => ey.toNat - (intOf i).toNat)
      case atStart => exact ⟨0, _, [], by omega, rfl, rfl, by omega, hk13, hr12, fun p hp => by cases hp⟩
      case round =>
        clear hk13 hr12
        obtain ⟨k, c, hs, hk, rfl, hpl, hc, hkc, hkr, hP⟩ := hrel
        subst hpl
        have hk0 : (0 : Int) ≤ (hs.length : Int) := by omega
        by_cases hlt : (hs.length : Int) < ey
        · skip
          go_wp2_with fail
          refine (draw_mc ok hkc.out 2 (by omega) (by omega)).mono ?_
          rintro e w2 ⟨d, rfl, ⟨hqd0, hqd1⟩, hk2, hx⟩
          have hr2 := hkr.out.bx ok.a2 hx
          clear hkc hkr hx
          by_cases hd : d = 0
          · subst hd
            go_upto_region 13 with fail
            have hbd := Below.drew (Below.refl w2.heap.size w2)
            have hk3 := hk2.grown ok hbd
            have hr3 := hr2.grown hbd
            clear hk2 hr2 hbd hqd0 hqd1
            have q1 : IntKind.i64.wrap (h2 - h1) = h2 - h1 := IntWalk.i64_in _ (by omega)
            have q2 : IntKind.i64.wrap (h2 - h1 + 1) = h2 - h1 + 1 := IntWalk.i64_in _ (by omega)
            have hqs : 1 ≤ h2 - h1 + 1 ∧ h2 - h1 + 1 ≤ 1000000 := by omega
            refine wp_region_seq [(0, true), (1, true), (2, true), (3, true), (4, true), (5, true), (6, true), (7, true), (8, true), (9, true), (10, true), (11, true), (12, false), (13, true), (14, true)] (fun w' => w'.cell? ⟨f.B, 5, none⟩ = some (.int .i64 h1) ∧ w'.cell? ⟨f.B, 6, none⟩ = some (.int .i64 h2)) (by kernel_rfl) (by kernel_rfl) (fun _ _ d _ _ h => by cases d <;> exact h) ⟨hk3.c5, hk3.c6⟩ ?_
            generalize w2.drew = X1 at hk3 hr3 ⊢
            repeat (first | (refine seq_read rfl (by rfl) _ (fun w' hS => by (try dsimp only at hS); go_simp; (try with_reducible rfl)) ?_; (try simp only [Act.put, List.setIfInBounds_toArray, List.set_cons_zero, List.set_cons_succ])) | (refine seq_skip rfl (by rfl) ?_; (try simp only [Act.put, List.setIfInBounds_toArray, List.set_cons_zero, List.set_cons_succ])))
            clear q1 q2
            refine seq_do rfl (by rfl) (fun K hK => ?_)
            go_simp
            refine (draw_mc ok hk3 (h2 - h1 + 1) (by omega) hqs).mono ?_
            rintro e X2 ⟨dd, rfl, ⟨hd0, hd1⟩, hk4, hx⟩
            have hr4 := hr3.bx ok.a2 hx
            refine hK _ _ ⟨hk4.c5, hk4.c6⟩ ?_
            clear hK K hk3 hr3 hx hqs
            (try simp only [Act.put, List.setIfInBounds_toArray, List.set_cons_zero, List.set_cons_succ])
            have k3 : IntKind.i64.wrap (h1 + dd) = h1 + dd := IntWalk.i64_in _ (by omega)
            repeat (first | (refine seq_read rfl (by rfl) _ (fun w' hS => by (try dsimp only at hS); go_simp; (try with_reducible rfl)) ?_; (try simp only [Act.put, List.setIfInBounds_toArray, List.set_cons_zero, List.set_cons_succ])) | (refine seq_skip rfl (by rfl) ?_; (try simp only [Act.put, List.setIfInBounds_toArray, List.set_cons_zero, List.set_cons_succ])))
            clear k3
            obtain ⟨n, hn⟩ : ∃ n : Int, h1 + dd = n := ⟨_, rfl⟩
            try rw [hn]
            have hn0 : h1 ≤ n ∧ n ≤ h2 := by omega
            clear hn hd0 hd1
            refine seq_end ?_
            first | show Exit.inBlock _ _ Exit.normal _ _ | show Exit.then _ _ Exit.normal _ _
            go_upto_region 14 with fail
            have hbn := newB X2 (.cells #[.int .i64 n] 3)
            have hkn := hk4.grown ok hbn
            have hrn := hr4.grown hbn
            have hnw : ∀ j u, ([.int .i64 n] : List Value)[j]? = some u → (X2.alloc (.cells #[.int .i64 n] 3)).cell? ((⟨X2.heap.size, 0, none⟩ : Addr).add j) = some u := World.news_of_block (heap_alloc_new X2 _)
            have HKN := Lib.hid hkn
            have HRN := Lib.hid hrn
            have HNW := Lib.hid hnw
            have hP2 : HabOk h1 h2 (hs ++ [n]) := fun p hp => by
              rcases List.mem_append.1 hp with h1' | h1'
              · exact hP p h1'
              · rw [List.mem_singleton.1 h1']; omega
            have HP2 := Lib.hid hP2
            clear hk4 hr4 hkn hrn hnw hP2 hbn
            obtain ⟨j3, z3, s3, b3⟩ := I3.out
            go_wp2_with (at_builtin; refine wpList_append_lies _ rfl _ _ 41 rfl f.M 3 i3 (.int .i64 0) 1 8 Try.underlying41 j3 z3 s3 b3 rfl (by decide) _ _ _ rfl HRN.out.rh ⟨X2.heap.size, 0, none⟩ 1 1 [.int .i64 n] rfl rfl HNW.out ?ca2 (by decide) ?ca3 ?ca4 HKN.out.sz _ rfl ?_)
            case ca2 => intro u hu; simp at hu; rcases hu with rfl; rfl
            case ca3 => unfold maxLen; omega
            case ca4 => omega
            · intro g cap w4 hrow hgr _ _
              have hk5 := Lib.hid (HKN.out.by ok hgr (fun b hb => (HRN.out.rh.lt b hb).1))
              have hr5 := Lib.hid (HRN.out.push hgr hrow)
              clear HKN HRN HNW hrow hgr
              go_wp2_with fail
              go_roundw
              case rel => exact ⟨hs.length + 1, _, _, by omega, by go_num, by simp, by omega, hk5, hr5, HP2.out⟩
              case measure => simp [intOf]; omega
          · have hd' : (d == 0) = false := beq_eq_false_iff_ne.2 hd
            go_upto_region 14 with fail
            clear hd hd' hqd0 hqd1
            have hbn := newB w2 (.cells #[.int .i64 0] 3)
            have hkn := hk2.grown ok hbn
            have hrn := hr2.grown hbn
            have hnw : ∀ j u, ([.int .i64 0] : List Value)[j]? = some u → (w2.alloc (.cells #[.int .i64 0] 3)).cell? ((⟨w2.heap.size, 0, none⟩ : Addr).add j) = some u := World.news_of_block (heap_alloc_new w2 _)
            have HKN := Lib.hid hkn
            have HRN := Lib.hid hrn
            have HNW := Lib.hid hnw
            have hP2 : HabOk h1 h2 (hs ++ [0]) := fun p hp => by
              rcases List.mem_append.1 hp with h1' | h1'
              · exact hP p h1'
              · rw [List.mem_singleton.1 h1']; omega
            have HP2 := Lib.hid hP2
            clear hk2 hr2 hkn hrn hnw hP2 hbn
            obtain ⟨j3, z3, s3, b3⟩ := I3.out
            go_wp2_with (at_builtin; refine wpList_append_lies _ rfl _ _ 41 rfl f.M 3 i3 (.int .i64 0) 1 8 Try.underlying41 j3 z3 s3 b3 rfl (by decide) _ _ _ rfl HRN.out.rh ⟨w2.heap.size, 0, none⟩ 1 1 [.int .i64 0] rfl rfl HNW.out ?cb2 (by decide) ?cb3 ?cb4 HKN.out.sz _ rfl ?_)
            case cb2 => intro u hu; simp at hu; rcases hu with rfl; rfl
            case cb3 => unfold maxLen; omega
            case cb4 => omega
            · intro g cap w4 hrow hgr _ _
              have hk5 := Lib.hid (HKN.out.by ok hgr (fun b hb => (HRN.out.rh.lt b hb).1))
              have hr5 := Lib.hid (HRN.out.push hgr hrow)
              clear HKN HRN HNW hrow hgr
              go_wp2_with fail
              go_roundw
              case rel => exact ⟨hs.length + 1, _, _, by omega, by go_num, by simp, by omega, hk5, hr5, HP2.out⟩
              case measure => simp [intOf]; omega
        · have hle : (hs.length : Int) = ey := by omega
          obtain ⟨gh, chp, rfl, _, _⟩ := hkr.out.rh.form (by omega)
          have HLE := Lib.hid hle
          have hhb : 1 ≤ hs.length ∧ hs.length ≤ 4 := by omega
          have hc30 : c ≤ 30 := by omega
          have hk1 := hkc.out
          have hr1 := hkr.out
          obtain ⟨M3, hM3⟩ : ∃ M3 : Nat, M3 = wr.heap.size := ⟨_, rfl⟩
          have hp1 : PR f M3 wr (.slice (some ⟨gh, 0, none⟩) hs.length chp) (.slice none 0 0) [] := ⟨World.ownsRow_nil _ _ _ _, fun b e => by rw [hM3]; exact (hr1.rh.lt b e).2, by rw [hM3]; exact hk1.sz⟩
          have hm3 : M3 ≤ wr.heap.size := by omega
          have HHP := Lib.hid hP
          clear hle hk hk0 hc hkc hkr hM3 hP
          obtain ⟨w20, rfl⟩ : ∃ w20 : World, w20 = wr := ⟨_, rfl⟩
          have c3 := hk1.c3
          go_upto_region 17 with fail
          clear c3 hlt
          go_loopw [85, 4] (fun i v wr => ∃ (k c : Nat) (ps : List Int), (k : Int) ≤ im ∧ i = .int .i64 k ∧ ps.length = k ∧ c ≤ 30 + k ∧ Hid (MC f wr c (.slice (some ⟨ge, 0, none⟩) xs.length ce) (.slice none 0 0) e1 a2 im ey h1 h2) ∧ Hid (MR f wr (.slice (some ⟨ge, 0, none⟩) xs.length ce) (.slice none 0 0) (.slice (some ⟨gh, 0, none⟩) hs.length chp) xs [] hs) ∧ Hid (PR f M3 wr (.slice (some ⟨gh, 0, none⟩) hs.length chp) v ps) ∧ M3 ≤ wr.heap.size ∧ PlaOk ps) (fun i _ _ => im.toNat - (intOf i).toNat)
          case atStart => exact ⟨0, _, [], by omega, rfl, rfl, by omega, hk1, hr1, hp1, hm3, fun p hp => by cases hp⟩
          case round =>
            clear hk1 hr1 hp1 hm3
            obtain ⟨k, c, ps, hk, rfl, hpl, hc, hkc, hkr, hkp, hm3, hP⟩ := hrel
            subst hpl
            have hk0 : (0 : Int) ≤ (ps.length : Int) := by omega
            by_cases hlt : (ps.length : Int) < im
            · go_wp2_with fail
              refine (draw_mc ok hkc.out 3000 (by omega) (by omega)).mono ?_
              rintro e w2 ⟨d, rfl, ⟨hd0, hd1⟩, hk2, hx⟩
              have hr2 := hkr.out.bx ok.a2 hx
              have hp2 := hkp.out.bx ok.a2 hx
              have hm4 : M3 ≤ w2.heap.size := Nat.le_trans hm3 hx.size
              clear hkc hkr hkp hx hm3
              have hbn := newB w2 (.cells #[.int .i64 (300 + d)] 3)
              have hkn := hk2.grown ok hbn
              have hrn := hr2.grown hbn
              have hpn := hp2.grown hbn
              have hnw : ∀ j u, ([.int .i64 (300 + d)] : List Value)[j]? = some u → (w2.alloc (.cells #[.int .i64 (300 + d)] 3)).cell? ((⟨w2.heap.size, 0, none⟩ : Addr).add j) = some u := World.news_of_block (heap_alloc_new w2 _)
              have hm5 : M3 ≤ (w2.alloc (.cells #[.int .i64 (300 + d)] 3)).heap.size := Nat.le_trans hm4 hbn.size
              have HKN := Lib.hid hkn
              have HRN := Lib.hid hrn
              have HPN := Lib.hid hpn
              have HNW := Lib.hid hnw
              have HM5 := Lib.hid hm5
              have hP2 : PlaOk (ps ++ [300 + d]) := fun p hp => by
                rcases List.mem_append.1 hp with h1' | h1'
                · exact hP p h1'
                · rw [List.mem_singleton.1 h1']; omega
              have HP2 := Lib.hid hP2
              clear hk2 hr2 hp2 hkn hrn hpn hnw hP2 hbn hm4 hm5
              obtain ⟨j3, z3, s3, b3⟩ := I3.out
              go_wp2_with (at_builtin; refine wpList_append_lies _ rfl _ _ 41 rfl M3 3 i3 (.int .i64 0) 1 8 Try.underlying41 j3 z3 s3 b3 rfl (by decide) _ _ _ rfl HPN.out.rp ⟨w2.heap.size, 0, none⟩ 1 1 [.int .i64 (300 + d)] rfl rfl HNW.out ?c2 (by decide) ?c3 ?c4 HM5.out _ rfl ?_)
              case c2 => intro u hu; simp at hu; rcases hu with rfl; rfl
              case c3 => unfold maxLen; omega
              case c4 => omega
              · intro g cap w4 hrow hgr _ _
                have hk5 := Lib.hid (HKN.out.by ok hgr (fun b hb => Nat.le_trans HPN.out.m3 (HPN.out.rp.lt b hb).1))
                have hr5 := Lib.hid (HRN.out.pusp HPN.out hgr)
                have hp5 := Lib.hid (HPN.out.pusp hrow)
                have hm6 : M3 ≤ w4.heap.size := Nat.le_trans HM5.out hgr.size
                clear HKN HRN HPN HNW HM5 hrow hgr
                go_wp2_with fail
                go_roundw
                case rel => exact ⟨ps.length + 1, _, _, by omega, by go_num, by simp, by omega, hk5, hr5, hp5, hm6, HP2.out⟩
                case measure => simp [intOf]; omega
            · have hpe : (ps.length : Int) = im := by omega
              obtain ⟨gp, cpp, rfl, _, _⟩ := hkp.out.rp.form (by omega)
              have HPE := Lib.hid hpe
              have hpb : 1 ≤ ps.length ∧ ps.length ≤ 4 := by omega
              have hc34 : c ≤ 34 := by omega
              have HPP := Lib.hid hP
              clear hpe hk hk0 hc hP hm3
              go_wp2_with fail
              refine (draw_mc ok hkc.out 13 (by omega) (by omega)).mono ?_
              rintro e w13 ⟨dn, rfl, ⟨hqdn0, hqdn1⟩, hk14, hx⟩
              have hr14 := hkr.out.bx ok.a2 hx
              have hp14 := hkp.out.bx ok.a2 hx
              clear hkc hkr hkp hx
              obtain ⟨nd, rfl⟩ : ∃ nd : Nat, dn = (nd : Int) := ⟨dn.toNat, by omega⟩
              have hnd : nd ≤ 12 := by omega
              clear hqdn0 hqdn1 hlt
              go_upto_region 21 with fail
              go_loopw [96] (fun i wr => ∃ (k c : Nat) (vl : Value) (ls : List LkV), k ≤ nd ∧ i = .int .i64 k ∧ ls.length ≤ k ∧ c ≤ 40 + 62 * k ∧ Hid (MC f wr c (.slice (some ⟨ge, 0, none⟩) xs.length ce) vl e1 a2 im ey h1 h2) ∧ Hid (MR f wr (.slice (some ⟨ge, 0, none⟩) xs.length ce) vl (.slice (some ⟨gh, 0, none⟩) hs.length chp) xs ls hs) ∧ Hid (PR f M3 wr (.slice (some ⟨gh, 0, none⟩) hs.length chp) (.slice (some ⟨gp, 0, none⟩) ps.length cpp) ps) ∧ Hid (∀ l ∈ ls, LookOk xs hs ps e1 a2 l)) (fun i _ => nd - (intOf i).toNat)
              case atStart => exact ⟨0, _, _, [], by omega, rfl, by simp, by omega, hk14, hr14, hp14, fun s hs => by cases hs⟩
              case round =>
                clear hk14 hr14 hp14
                obtain ⟨k, c, vl, ls, hk, rfl, hsl, hc, hkc, hkr, hkp, hL⟩ := hrel
                have hk0 : (0 : Int) ≤ (k : Int) := by omega
                by_cases hlt : k < nd
                · have hlt' : (k : Int) < (nd : Int) := by omega
                  have hbd := Below.drew (Below.refl wr.heap.size wr)
                  have hk3 := hkc.out.grown ok hbd
                  have hr3 := hkr.out.grown hbd
                  have hp3 := hkp.out.grown hbd
                  clear hkc hkr hkp hbd
                  go_upto_region 22 with fail
                  go_cut [7] from 98 to 106 (fun a7 X => ∃ (gl i j c' : Nat), a7 = .pointer (some ⟨gl, 0, none⟩) ∧ i < hs.length ∧ j < ps.length ∧ c' ≤ c + 2 ∧ Hid (MC f X c' (.slice (some ⟨ge, 0, none⟩) xs.length ce) vl e1 a2 im ey h1 h2) ∧ Hid (MR f X (.slice (some ⟨ge, 0, none⟩) xs.length ce) vl (.slice (some ⟨gh, 0, none⟩) hs.length chp) xs ls hs) ∧ Hid (PR f M3 X (.slice (some ⟨gh, 0, none⟩) hs.length chp) (.slice (some ⟨gp, 0, none⟩) ps.length cpp) ps) ∧ LB f X gl (.slice (some ⟨ge, 0, none⟩) xs.length ce) vl (.slice (some ⟨gh, 0, none⟩) hs.length chp) (.slice (some ⟨gp, 0, none⟩) ps.length cpp) ∧ X.cell? ⟨gl, 0, none⟩ = some (.int .i64 i) ∧ X.cell? ⟨gl, 1, none⟩ = some (.int .i64 j))
                  case first =>
                    refine wp_region_tree (.read 0 (.read 1 (.read 2 (.read 4 (.read 5 (.read 6 (.two 3 (.two 7 (.read 8 (.one 9 (.one 10 (.leaf)))) 9 (.one 7 (.read 8 (.one 10 (.leaf))))) 9 (.one 3 (.one 7 (.read 8 (.one 10 (.leaf)))))))))))) (fun w' => w'.cell? ⟨f.B, 3, none⟩ = some (.int .i64 im) ∧ w'.cell? ⟨f.B, 4, none⟩ = some (.int .i64 ey)) (by kernel_rfl) (by kernel_rfl) (fun _ _ d _ _ h => by cases d <;> exact h) ⟨hk3.c3, hk3.c4⟩ ?_
                    generalize wr.drew = X0 at hk3 hr3 hp3 ⊢
                    repeat (first | (refine tr_read rfl (by rfl) _ (fun w' hS => by (try dsimp only at hS); go_simp; (try with_reducible rfl)) ?_; (try simp only [Act.put, List.setIfInBounds_toArray, List.set_cons_zero, List.set_cons_succ])) | (refine tr_skip rfl (by rfl) ?_; (try simp only [Act.put, List.setIfInBounds_toArray, List.set_cons_zero, List.set_cons_succ])))
                    refine ⟨?_, ?_⟩
                    · skip
                      refine tr_step rfl (by rfl) (fun K hK => ?_)
                      go_simp
                      refine (draw_mc ok hk3 ey (by omega) ⟨by omega, by omega⟩).mono ?_
                      rintro e X1 ⟨dq, rfl, ⟨dq0, dq1⟩, hk1, hx⟩
                      obtain ⟨i, rfl⟩ : ∃ i : Nat, dq = (i : Int) := ⟨dq.toNat, by omega⟩
                      have hil : i < hs.length := by have := HLE.out; omega
                      have hr1 := hr3.bx ok.a2 hx
                      have hp1 := hp3.bx ok.a2 hx
                      refine hK _ _ ⟨hk1.c3, hk1.c4⟩ ?_
                      clear hK K hk3 hr3 hp3 hx dq0 dq1
                      (try simp only [Act.put, List.setIfInBounds_toArray, List.set_cons_zero, List.set_cons_succ])
                      refine ⟨?_, ?_⟩
                      · skip
                        refine tr_step rfl (by rfl) (fun K hK => ?_)
                        go_simp
                        refine (draw_mc ok hk1 im (by omega) ⟨by omega, by omega⟩).mono ?_
                        rintro e X2 ⟨dq, rfl, ⟨dq0, dq1⟩, hk2, hx⟩
                        obtain ⟨j, rfl⟩ : ∃ j : Nat, dq = (j : Int) := ⟨dq.toNat, by omega⟩
                        have hjl : j < ps.length := by have := HPE.out; omega
                        have hr2 := hr1.bx ok.a2 hx
                        have hp2 := hp1.bx ok.a2 hx
                        refine hK _ _ ⟨hk2.c3, hk2.c4⟩ ?_
                        clear hK K hk1 hr1 hp1 hx dq0 dq1
                        (try simp only [Act.put, List.setIfInBounds_toArray, List.set_cons_zero, List.set_cons_succ])
                        repeat (first | (refine tr_read rfl (by rfl) _ (fun w' hS => by (try dsimp only at hS); go_simp; (try with_reducible rfl)) ?_; (try simp only [Act.put, List.setIfInBounds_toArray, List.set_cons_zero, List.set_cons_succ])) | (refine tr_skip rfl (by rfl) ?_; (try simp only [Act.put, List.setIfInBounds_toArray, List.set_cons_zero, List.set_cons_succ])))
                        refine tr_step rfl (by rfl) (fun K hK => ?_)
                        have hz := newB X2 (.cells #[.int .i64 0, .int .i64 0, .int .i64 0] 47)
                        have hk3 := hk2.grown ok hz
                        have hr3 := hr2.grown hz
                        have hp3 := hp2.grown hz
                        have hb3 := lb_new hk2.sz hr2 hp2 0 0 0 47
                        clear hk2 hr2 hp2 hz
                        go_simp
                        generalize X2.heap.size = gl at *
                        generalize X2.alloc (.cells #[.int .i64 0, .int .i64 0, .int .i64 0] 47) = X3 at *
                        refine hK _ _ ⟨hk3.c3, hk3.c4⟩ ?_
                        clear hK K
                        (try simp only [Act.put, List.setIfInBounds_toArray, List.set_cons_zero, List.set_cons_succ])
                        refine tr_step rfl (by rfl) (fun K hK => ?_)
                        obtain ⟨u0, p0, z0⟩ := hb3.sl.get 0 (by omega)
                        obtain ⟨u1, p1, z1⟩ := hb3.sl.get 1 (by omega)
                        obtain ⟨u2, p2, z2⟩ := hb3.sl.get 2 (by omega)
                        have hk4 := ((hk3.far ok hb3.m 0 (.int .i64 i)).far ok hb3.m 1 (.int .i64 j)).far ok hb3.m 2 (.int .i64 0)
                        have hr4 := ((hr3.set gl 0 (.int .i64 i) hb3.q1 hb3.q2 hb3.q3).set gl 1 (.int .i64 j) hb3.q1 hb3.q2 hb3.q3).set gl 2 (.int .i64 0) hb3.q1 hb3.q2 hb3.q3
                        have hp4 := ((hp3.set gl 0 (.int .i64 i) hb3.q4).set gl 1 (.int .i64 j) hb3.q4).set gl 2 (.int .i64 0) hb3.q4
                        have hb4 := ((hb3.set 0 (.int .i64 i)).set 1 (.int .i64 j)).set 2 (.int .i64 0)
                        have h3 := three_set hb3.sl i j 0
                        clear hk3 hr3 hp3 hb3
                        go_simp
                        clear p0 z0 p1 z1 p2 z2
                        generalize (((X3.setCell ⟨gl, 0, none⟩ (.int .i64 i)).setCell ⟨gl, 1, none⟩ (.int .i64 j)).setCell ⟨gl, 2, none⟩ (.int .i64 0)) = X4 at *
                        refine hK _ _ ⟨hk4.c3, hk4.c4⟩ ?_
                        clear hK K
                        (try simp only [Act.put, List.setIfInBounds_toArray, List.set_cons_zero, List.set_cons_succ])
                        show Exit.then _ _ Exit.normal _ _
                        go_wp2_with fail
                        go_meet
                        exact ⟨gl, i, j, c + 2, rfl, hil, hjl, Nat.le_refl _, Lib.hid hk4, Lib.hid hr4, Lib.hid hp4, hb4, h3.1, h3.2.1⟩
                      · skip
                        refine tr_step rfl (by rfl) (fun K hK => ?_)
                        have hz := newB X1 (.cells #[.int .i64 0, .int .i64 0, .int .i64 0] 47)
                        have hk5 := hk1.grown ok hz
                        have hr5 := hr1.grown hz
                        have hp5 := hp1.grown hz
                        have hb5 := lb_new hk1.sz hr1 hp1 0 0 0 47
                        clear hk1 hr1 hp1 hz
                        go_simp
                        generalize X1.heap.size = gl at *
                        generalize X1.alloc (.cells #[.int .i64 0, .int .i64 0, .int .i64 0] 47) = X5 at *
                        refine hK _ _ ⟨hk5.c3, hk5.c4⟩ ?_
                        clear hK K
                        (try simp only [Act.put, List.setIfInBounds_toArray, List.set_cons_zero, List.set_cons_succ])
                        refine tr_step rfl (by rfl) (fun K hK => ?_)
                        go_simp
                        refine (draw_mc ok hk5 im (by omega) ⟨by omega, by omega⟩).mono ?_
                        rintro e X6 ⟨dq, rfl, ⟨dq0, dq1⟩, hk6, hx⟩
                        obtain ⟨j, rfl⟩ : ∃ j : Nat, dq = (j : Int) := ⟨dq.toNat, by omega⟩
                        have hjl : j < ps.length := by have := HPE.out; omega
                        have hr6 := hr5.bx ok.a2 hx
                        have hp6 := hp5.bx ok.a2 hx
                        have hb6 := hb5.bx ok hx
                        refine hK _ _ ⟨hk6.c3, hk6.c4⟩ ?_
                        clear hK K hk5 hr5 hp5 hx dq0 dq1 hb5
                        (try simp only [Act.put, List.setIfInBounds_toArray, List.set_cons_zero, List.set_cons_succ])
                        repeat (first | (refine tr_read rfl (by rfl) _ (fun w' hS => by (try dsimp only at hS); go_simp; (try with_reducible rfl)) ?_; (try simp only [Act.put, List.setIfInBounds_toArray, List.set_cons_zero, List.set_cons_succ])) | (refine tr_skip rfl (by rfl) ?_; (try simp only [Act.put, List.setIfInBounds_toArray, List.set_cons_zero, List.set_cons_succ])))
                        refine tr_step rfl (by rfl) (fun K hK => ?_)
                        obtain ⟨u0, p0, z0⟩ := hb6.sl.get 0 (by omega)
                        obtain ⟨u1, p1, z1⟩ := hb6.sl.get 1 (by omega)
                        obtain ⟨u2, p2, z2⟩ := hb6.sl.get 2 (by omega)
                        have hk7 := ((hk6.far ok hb6.m 0 (.int .i64 i)).far ok hb6.m 1 (.int .i64 j)).far ok hb6.m 2 (.int .i64 0)
                        have hr7 := ((hr6.set gl 0 (.int .i64 i) hb6.q1 hb6.q2 hb6.q3).set gl 1 (.int .i64 j) hb6.q1 hb6.q2 hb6.q3).set gl 2 (.int .i64 0) hb6.q1 hb6.q2 hb6.q3
                        have hp7 := ((hp6.set gl 0 (.int .i64 i) hb6.q4).set gl 1 (.int .i64 j) hb6.q4).set gl 2 (.int .i64 0) hb6.q4
                        have hb7 := ((hb6.set 0 (.int .i64 i)).set 1 (.int .i64 j)).set 2 (.int .i64 0)
                        have h3 := three_set hb6.sl i j 0
                        clear hk6 hr6 hp6 hb6
                        go_simp
                        clear p0 z0 p1 z1 p2 z2
                        generalize (((X6.setCell ⟨gl, 0, none⟩ (.int .i64 i)).setCell ⟨gl, 1, none⟩ (.int .i64 j)).setCell ⟨gl, 2, none⟩ (.int .i64 0)) = X7 at *
                        refine hK _ _ ⟨hk7.c3, hk7.c4⟩ ?_
                        clear hK K
                        (try simp only [Act.put, List.setIfInBounds_toArray, List.set_cons_zero, List.set_cons_succ])
                        show Exit.then _ _ Exit.normal _ _
                        go_wp2_with fail
                        go_meet
                        exact ⟨gl, i, j, c + 2, rfl, hil, hjl, Nat.le_refl _, Lib.hid hk7, Lib.hid hr7, Lib.hid hp7, hb7, h3.1, h3.2.1⟩
                    · skip
                      refine tr_step rfl (by rfl) (fun K hK => ?_)
                      have hz := newB X0 (.cells #[.int .i64 0, .int .i64 0, .int .i64 0] 47)
                      have hk8 := hk3.grown ok hz
                      have hr8 := hr3.grown hz
                      have hp8 := hp3.grown hz
                      have hb8 := lb_new hk3.sz hr3 hp3 0 0 0 47
                      clear hk3 hr3 hp3 hz
                      go_simp
                      generalize X0.heap.size = gl at *
                      generalize X0.alloc (.cells #[.int .i64 0, .int .i64 0, .int .i64 0] 47) = X8 at *
                      refine hK _ _ ⟨hk8.c3, hk8.c4⟩ ?_
                      clear hK K
                      (try simp only [Act.put, List.setIfInBounds_toArray, List.set_cons_zero, List.set_cons_succ])
                      refine tr_step rfl (by rfl) (fun K hK => ?_)
                      go_simp
                      refine (draw_mc ok hk8 ey (by omega) ⟨by omega, by omega⟩).mono ?_
                      rintro e X9 ⟨dq, rfl, ⟨dq0, dq1⟩, hk9, hx⟩
                      obtain ⟨i, rfl⟩ : ∃ i : Nat, dq = (i : Int) := ⟨dq.toNat, by omega⟩
                      have hil : i < hs.length := by have := HLE.out; omega
                      have hr9 := hr8.bx ok.a2 hx
                      have hp9 := hp8.bx ok.a2 hx
                      have hb9 := hb8.bx ok hx
                      refine hK _ _ ⟨hk9.c3, hk9.c4⟩ ?_
                      clear hK K hk8 hr8 hp8 hx dq0 dq1 hb8
                      (try simp only [Act.put, List.setIfInBounds_toArray, List.set_cons_zero, List.set_cons_succ])
                      refine tr_step rfl (by rfl) (fun K hK => ?_)
                      go_simp
                      refine (draw_mc ok hk9 im (by omega) ⟨by omega, by omega⟩).mono ?_
                      rintro e X10 ⟨dq, rfl, ⟨dq0, dq1⟩, hk10, hx⟩
                      obtain ⟨j, rfl⟩ : ∃ j : Nat, dq = (j : Int) := ⟨dq.toNat, by omega⟩
                      have hjl : j < ps.length := by have := HPE.out; omega
                      have hr10 := hr9.bx ok.a2 hx
                      have hp10 := hp9.bx ok.a2 hx
                      have hb10 := hb9.bx ok hx
                      refine hK _ _ ⟨hk10.c3, hk10.c4⟩ ?_
                      clear hK K hk9 hr9 hp9 hx dq0 dq1 hb9
                      (try simp only [Act.put, List.setIfInBounds_toArray, List.set_cons_zero, List.set_cons_succ])
                      repeat (first | (refine tr_read rfl (by rfl) _ (fun w' hS => by (try dsimp only at hS); go_simp; (try with_reducible rfl)) ?_; (try simp only [Act.put, List.setIfInBounds_toArray, List.set_cons_zero, List.set_cons_succ])) | (refine tr_skip rfl (by rfl) ?_; (try simp only [Act.put, List.setIfInBounds_toArray, List.set_cons_zero, List.set_cons_succ])))
                      refine tr_step rfl (by rfl) (fun K hK => ?_)
                      obtain ⟨u0, p0, z0⟩ := hb10.sl.get 0 (by omega)
                      obtain ⟨u1, p1, z1⟩ := hb10.sl.get 1 (by omega)
                      obtain ⟨u2, p2, z2⟩ := hb10.sl.get 2 (by omega)
                      have hk11 := ((hk10.far ok hb10.m 0 (.int .i64 i)).far ok hb10.m 1 (.int .i64 j)).far ok hb10.m 2 (.int .i64 0)
                      have hr11 := ((hr10.set gl 0 (.int .i64 i) hb10.q1 hb10.q2 hb10.q3).set gl 1 (.int .i64 j) hb10.q1 hb10.q2 hb10.q3).set gl 2 (.int .i64 0) hb10.q1 hb10.q2 hb10.q3
                      have hp11 := ((hp10.set gl 0 (.int .i64 i) hb10.q4).set gl 1 (.int .i64 j) hb10.q4).set gl 2 (.int .i64 0) hb10.q4
                      have hb11 := ((hb10.set 0 (.int .i64 i)).set 1 (.int .i64 j)).set 2 (.int .i64 0)
                      have h3 := three_set hb10.sl i j 0
                      clear hk10 hr10 hp10 hb10
                      go_simp
                      clear p0 z0 p1 z1 p2 z2
                      generalize (((X10.setCell ⟨gl, 0, none⟩ (.int .i64 i)).setCell ⟨gl, 1, none⟩ (.int .i64 j)).setCell ⟨gl, 2, none⟩ (.int .i64 0)) = X11 at *
                      refine hK _ _ ⟨hk11.c3, hk11.c4⟩ ?_
                      clear hK K
                      (try simp only [Act.put, List.setIfInBounds_toArray, List.set_cons_zero, List.set_cons_succ])
                      show Exit.then _ _ Exit.normal _ _
                      go_wp2_with fail
                      go_meet
                      exact ⟨gl, i, j, c + 2, rfl, hil, hjl, Nat.le_refl _, Lib.hid hk11, Lib.hid hr11, Lib.hid hp11, hb11, h3.1, h3.2.1⟩
                  case rest =>
                  obtain ⟨gl, i, j, c2, rfl, hil, hjl, hc2, hkc, hkr, hkp, hb, y0, y1⟩ := hcut
                  obtain ⟨w30, rfl⟩ : ∃ w30 : World, w30 = wc := ⟨_, rfl⟩
                  obtain ⟨pv, hpv⟩ : ∃ pv : Int, ps.getD j 0 = pv := ⟨_, rfl⟩
                  obtain ⟨hv, hhv⟩ : ∃ hv : Int, hs.getD i 0 = hv := ⟨_, rfl⟩
                  have hpr : 300 ≤ pv ∧ pv ≤ 3299 := by rw [← hpv]; exact HPP.out _ (getD_mem' hjl)
                  have hhr : -39 ≤ hv ∧ hv ≤ 39 := by have := HHP.out _ (getD_mem' (d := 0) hil); rw [hhv] at this; omega
                  have v0 := ints_row hkp.out.rp rfl j hjl
                  have v1 := ints_row hkr.out.rh rfl i hil
                  rw [hpv] at v0
                  rw [hhv] at v1
                  have HPV := Lib.hid hpv
                  have HHV := Lib.hid hhv
                  clear hpv hhv
                  have hbd := Below.drew (Below.refl w30.heap.size w30)
                  have hk4 := hkc.out.grown ok hbd
                  have hr4 := hkr.out.grown hbd
                  have hp4 := hkp.out.grown hbd
                  have hb4 := hb.grown hbd
                  have y0 := cellB y0 hbd
                  have y1 := cellB y1 hbd
                  have v0 := cellB v0 hbd
                  have v1 := cellB v1 hbd
                  clear hkc hkr hkp hb hbd
                  have hjI : (j : Int) < (ps.length : Int) := by omega
                  have hiI : (i : Int) < (hs.length : Int) := by omega
                  have hi0 : (0 : Int) ≤ (i : Int) := by omega
                  have hj0 : (0 : Int) ≤ (j : Int) := by omega
                  have e5 : IntKind.i64.wrap (pv - hv) = pv - hv := IntWalk.i64_in _ (by omega)
                  go_upto_region 23 with fail
                  refine wp_region_seq [(0, true), (1, true), (2, true), (3, true), (4, true), (5, true), (6, true), (7, true), (8, true), (9, true), (10, true), (11, true)] (fun w' => w'.cell? ⟨gl, 0, none⟩ = some (.int .i64 i) ∧ w'.cell? ⟨gl, 1, none⟩ = some (.int .i64 j) ∧ w'.cell? ⟨gp, j, none⟩ = some (.int .i64 pv) ∧ w'.cell? ⟨gh, i, none⟩ = some (.int .i64 hv)) (by kernel_rfl) (by kernel_rfl) (fun _ _ d _ _ h => by cases d <;> exact h) ⟨y0, y1, v0, v1⟩ ?_
                  generalize w30.drew = X0 at hk4 hr4 hp4 hb4 y0 y1 v0 v1 ⊢
                  repeat (first | (refine seq_read rfl (by rfl) _ (fun w' hS => by (try dsimp only at hS); go_simp; (try with_reducible rfl)) ?_; (try simp only [Act.put, List.setIfInBounds_toArray, List.set_cons_zero, List.set_cons_succ])) | (refine seq_skip rfl (by rfl) ?_; (try simp only [Act.put, List.setIfInBounds_toArray, List.set_cons_zero, List.set_cons_succ])))
                  clear e5 v0 v1
                  refine seq_end ?_
                  first | show Exit.inBlock _ _ Exit.normal _ _ | show Exit.then _ _ Exit.normal _ _
                  obtain ⟨tr, htr⟩ : ∃ tr : Int, pv - hv = tr := ⟨_, rfl⟩
                  try rw [htr]
                  have HTR := Lib.hid htr
                  have htr0 : 261 ≤ tr ∧ tr ≤ 3338 := by omega
                  clear htr
                  obtain ⟨u2, p2, z2⟩ := hb4.sl.get 2 (by omega)
                  have y2 : (X0.setCell ⟨gl, 2, none⟩ (.int .i64 tr)).cell? ⟨gl, 2, none⟩ = some (.int .i64 tr) := World.cell?_setCell_same _ _ _ p2
                  have y0 : (X0.setCell ⟨gl, 2, none⟩ (.int .i64 tr)).cell? ⟨gl, 0, none⟩ = some (.int .i64 i) := cell_else y0 (by omega)
                  have y1 : (X0.setCell ⟨gl, 2, none⟩ (.int .i64 tr)).cell? ⟨gl, 1, none⟩ = some (.int .i64 j) := cell_else y1 (by omega)
                  have hk5 := Lib.hid (hk4.far ok hb4.m 2 (.int .i64 tr))
                  have hr5 := Lib.hid (hr4.set gl 2 (.int .i64 tr) hb4.q1 hb4.q2 hb4.q3)
                  have hp5 := Lib.hid (hp4.set gl 2 (.int .i64 tr) hb4.q4)
                  have hb5 := hb4.set 2 (.int .i64 tr)
                  clear hk4 hr4 hp4 hb4
                  go_upto_region 26 with fail
                  clear p2 z2
                  generalize X0.setCell ⟨gl, 2, none⟩ (.int .i64 tr) = w31 at *
                  go_loopw [120] (fun t wr => ∃ (m c3 : Nat) (r : Int), m ≤ 60 ∧ t = .int .i64 m ∧ c3 ≤ c2 + m ∧ (tr - 20 ≤ r ∧ r ≤ tr + 20) ∧ Hid (MC f wr c3 (.slice (some ⟨ge, 0, none⟩) xs.length ce) vl e1 a2 im ey h1 h2) ∧ Hid (MR f wr (.slice (some ⟨ge, 0, none⟩) xs.length ce) vl (.slice (some ⟨gh, 0, none⟩) hs.length chp) xs ls hs) ∧ Hid (PR f M3 wr (.slice (some ⟨gh, 0, none⟩) hs.length chp) (.slice (some ⟨gp, 0, none⟩) ps.length cpp) ps) ∧ LB f wr gl (.slice (some ⟨ge, 0, none⟩) xs.length ce) vl (.slice (some ⟨gh, 0, none⟩) hs.length chp) (.slice (some ⟨gp, 0, none⟩) ps.length cpp) ∧ wr.cell? ⟨gl, 0, none⟩ = some (.int .i64 i) ∧ wr.cell? ⟨gl, 1, none⟩ = some (.int .i64 j) ∧ wr.cell? ⟨gl, 2, none⟩ = some (.int .i64 r)) (fun t _ => 60 - (intOf t).toNat)
                  case atStart => exact ⟨0, _, tr, by omega, rfl, by omega, by omega, hk5, hr5, hp5, hb5, y0, y1, y2⟩
                  case round =>
                    clear hk5 hr5 hp5 hb5 y0 y1 y2
                    obtain ⟨m, c3, r, hm, rfl, hc3, hr0, hkc, hkr, hkp, hb, y0, y1, y2⟩ := hrel
                    have hm0 : (0 : Int) ≤ (m : Int) := by omega
                    by_cases hlm : m < 60
                    · have hlm' : (m : Int) < 60 := by omega
                      obtain ⟨q, hq⟩ : ∃ q : Nat, r / 1000 = (q : Int) := ⟨(r / 1000).toNat, by omega⟩
                      have hq4 : q < xs.length := by have := HX4.out; omega
                      have hrp : 0 ≤ r := by omega
                      have hqI : (q : Int) < (xs.length : Int) := by omega
                      have hq0 : (0 : Int) ≤ (q : Int) := by omega
                      obtain ⟨lo, hlo⟩ : ∃ lo : Int, (xs.getD q (0, 0)).1 = lo := ⟨_, rfl⟩
                      obtain ⟨hi, hhi⟩ : ∃ hi : Int, (xs.getD q (0, 0)).2 = hi := ⟨_, rfl⟩
                      obtain ⟨v0, v1⟩ := spans_at hkr.out.re rfl hq4
                      have her := hE _ (getD_mem' (d := (0, 0)) hq4)
                      rw [hlo] at v0 her
                      rw [hhi] at v1 her
                      have HLO := Lib.hid hlo
                      have HHI := Lib.hid hhi
                      have c0 := hkc.out.c0
                      clear hlo hhi
                      go_upto_region 29 with fail
                      have hz := newB wr (.cells #[.int .i64 lo, .int .i64 hi] 24)
                      have x0 := (two_newT wr lo hi 24).1
                      have x1 := (two_newT wr lo hi 24).2
                      have hgx := hkc.out.sz
                      have hk6 := hkc.out.grown ok hz
                      have hr6 := hkr.out.grown hz
                      have hp6 := hkp.out.grown hz
                      have hb6 := hb.grown hz
                      have y0 := cellB y0 hz
                      have y1 := cellB y1 hz
                      have y2 := cellB y2 hz
                      have hlx : wr.heap.size < (wr.alloc (.cells #[.int .i64 lo, .int .i64 hi] 24)).heap.size := by simp
                      clear hkc hkr hkp hb hz v0 v1 c0
                      generalize wr.heap.size = gx at x0 x1 hgx hlx ⊢
                      generalize wr.alloc (.cells #[.int .i64 lo, .int .i64 hi] 24) = X0 at hk6 hr6 hp6 hb6 y0 y1 y2 x0 x1 hlx ⊢
                      have hbd := Below.drew (Below.refl X0.heap.size X0)
                      have hk7 := hk6.grown ok hbd
                      have hr7 := hr6.grown hbd
                      have hp7 := hp6.grown hbd
                      have hb7 := hb6.grown hbd
                      have y0 := cellB y0 hbd
                      have y1 := cellB y1 hbd
                      have y2 := cellB y2 hbd
                      have x0 := cellB x0 hbd
                      have x1 := cellB x1 hbd
                      have hlx : gx < X0.drew.heap.size := hlx
                      clear hk6 hr6 hp6 hb6 hbd
                      have w1 : IntKind.i64.wrap (lo + e1) = lo + e1 := IntWalk.i64_in _ (by omega)
                      have w2 : IntKind.i64.wrap (hi - lo) = hi - lo := IntWalk.i64_in _ (by omega)
                      have w3 : IntKind.i64.wrap (hi - lo + a2) = hi - lo + a2 := IntWalk.i64_in _ (by omega)
                      have w4 : IntKind.i64.wrap (hi - lo + a2 - e1) = hi - lo + a2 - e1 := IntWalk.i64_in _ (by omega)
                      have w5 : IntKind.i64.wrap (hi - lo + a2 - e1 + 1) = hi - lo + a2 - e1 + 1 := IntWalk.i64_in _ (by omega)
                      have hqs : 1 ≤ hi - lo + a2 - e1 + 1 ∧ hi - lo + a2 - e1 + 1 ≤ 1000000 := by omega
                      refine wp_region_seq [(0, true), (1, true), (2, true), (3, true), (4, true), (5, true), (6, true), (7, true), (8, true), (9, true), (10, true), (11, true), (12, true), (13, true), (14, true), (15, true), (16, true), (17, true), (18, true), (19, true), (20, true), (21, true), (22, true), (23, true), (24, false), (25, true), (26, true)] (fun w' => w'.cell? ⟨gx, 0, none⟩ = some (.int .i64 lo) ∧ w'.cell? ⟨gx, 1, none⟩ = some (.int .i64 hi) ∧ w'.cell? ⟨f.B, 1, none⟩ = some (.int .i64 e1) ∧ w'.cell? ⟨f.B, 2, none⟩ = some (.int .i64 a2)) (by kernel_rfl) (by kernel_rfl) (fun _ _ d _ _ h => by cases d <;> exact h) ⟨x0, x1, hk7.c1, hk7.c2⟩ ?_
                      generalize X0.drew = X1 at hk7 hr7 hp7 hb7 y0 y1 y2 x0 x1 hlx ⊢
                      repeat (first | (refine seq_read rfl (by rfl) _ (fun w' hS => by (try dsimp only at hS); go_simp; (try with_reducible rfl)) ?_; (try simp only [Act.put, List.setIfInBounds_toArray, List.set_cons_zero, List.set_cons_succ])) | (refine seq_skip rfl (by rfl) ?_; (try simp only [Act.put, List.setIfInBounds_toArray, List.set_cons_zero, List.set_cons_succ])))
                      clear w1 w2 w3 w4 w5
                      refine seq_do rfl (by rfl) (fun K hK => ?_)
                      go_simp
                      refine (draw_mc ok hk7 (hi - lo + a2 - e1 + 1) (by omega) hqs).mono ?_
                      rintro e X2 ⟨d, rfl, ⟨hd0, hd1⟩, hk8, hx⟩
                      have hr8 := hr7.bx ok.a2 hx
                      have hp8 := hp7.bx ok.a2 hx
                      have hb8 := hb7.bx ok hx
                      have y0 := hb7.cell ok hx y0
                      have y1 := hb7.cell ok hx y1
                      have y2 := hb7.cell ok hx y2
                      have hnx : gx ≠ f.gA := by have := ok.a2; omega
                      have x0 := (hx.cell gx 0 hlx hnx).trans x0
                      have x1 := (hx.cell gx 1 hlx hnx).trans x1
                      refine hK _ _ ⟨x0, x1, hk8.c1, hk8.c2⟩ ?_
                      clear hK K hk7 hr7 hp7 hb7 hx hqs hlx hnx hgx
                      (try simp only [Act.put, List.setIfInBounds_toArray, List.set_cons_zero, List.set_cons_succ])
                      have w6 : IntKind.i64.wrap (lo + e1 + d) = lo + e1 + d := IntWalk.i64_in _ (by omega)
                      repeat (first | (refine seq_read rfl (by rfl) _ (fun w' hS => by (try dsimp only at hS); go_simp; (try with_reducible rfl)) ?_; (try simp only [Act.put, List.setIfInBounds_toArray, List.set_cons_zero, List.set_cons_succ])) | (refine seq_skip rfl (by rfl) ?_; (try simp only [Act.put, List.setIfInBounds_toArray, List.set_cons_zero, List.set_cons_succ])))
                      clear w6 x0 x1
                      refine seq_end ?_
                      first | show Exit.inBlock _ _ Exit.normal _ _ | show Exit.then _ _ Exit.normal _ _
                      obtain ⟨off, hoff⟩ : ∃ off : Int, lo + e1 + d = off := ⟨_, rfl⟩
                      try rw [hoff]
                      have ho0 : lo + e1 ≤ off ∧ off ≤ hi + a2 := by omega
                      clear hoff hd0 hd1
                      obtain ⟨u2, p2, z2⟩ := hb8.sl.get 2 (by omega)
                      obtain ⟨r2, hr2⟩ : ∃ r2 : Int, tr - off = r2 := ⟨_, rfl⟩
                      have hr20 : tr - 12 ≤ r2 ∧ r2 ≤ tr + 12 := by omega
                      have y2 : (X2.setCell ⟨gl, 2, none⟩ (.int .i64 (tr - off))).cell? ⟨gl, 2, none⟩ = some (.int .i64 (tr - off)) := World.cell?_setCell_same _ _ _ p2
                      have y0 : (X2.setCell ⟨gl, 2, none⟩ (.int .i64 (tr - off))).cell? ⟨gl, 0, none⟩ = some (.int .i64 i) := cell_else y0 (by omega)
                      have y1 : (X2.setCell ⟨gl, 2, none⟩ (.int .i64 (tr - off))).cell? ⟨gl, 1, none⟩ = some (.int .i64 j) := cell_else y1 (by omega)
                      have hk9 := hk8.far ok hb8.m 2 (.int .i64 (tr - off))
                      have hr9 := hr8.set gl 2 (.int .i64 (tr - off)) hb8.q1 hb8.q2 hb8.q3
                      have hp9 := hp8.set gl 2 (.int .i64 (tr - off)) hb8.q4
                      have hb9 := hb8.set 2 (.int .i64 (tr - off))
                      clear hk8 hr8 hp8 hb8
                      go_upto_region 31 with fail
                      clear p2 z2
                      rw [hr2] at hk9 hr9 hp9 hb9 y0 y1 y2
                      try rw [hr2]
                      have HR2 := Lib.hid hr2
                      clear hr2
                      generalize X2.setCell ⟨gl, 2, none⟩ (.int .i64 r2) = X3 at hk9 hr9 hp9 hb9 y0 y1 y2 ⊢
                      have hr2p : 0 ≤ r2 := by omega
                      by_cases hqe : r2 / 1000 = (q : Int)
                      · have hok : LookOk xs hs ps e1 a2 ((i : Int), (j : Int), r2) := by
                          unfold LookOk
                          dsimp only
                          rw [hqe, Int.toNat_natCast, Int.toNat_natCast, Int.toNat_natCast, HLO.out, HHI.out, HPV.out, HHV.out]
                          have h1' := HTR.out
                          have h2' := HR2.out
                          exact ⟨⟨hi0, hiI⟩, ⟨hj0, hjI⟩, ⟨hr2p, hqI⟩, by omega, by omega⟩
                        have HOK := Lib.hid hok
                        clear hok
                        have hbn := newB X3 (.cells #[.int .i64 i, .int .i64 j, .int .i64 r2] 47)
                        have c7 := hk9.c7
                        have HKN := Lib.hid (hk9.grown ok hbn)
                        have HRN := Lib.hid (hr9.grown hbn)
                        have HPN := Lib.hid (hp9.grown hbn)
                        have HNW := Lib.hid (new_look X3 i j r2 47)
                        clear hk9 hr9 hp9 hb9 hbn
                        obtain ⟨iL, jL, zL, sL, bL⟩ := info_parts infoLk
                        go_wp2_with (at_builtin; refine wpList_append_lies _ rfl _ _ 27 rfl f.M 47 iL (.agg #[.int .i64 0, .int .i64 0, .int .i64 0]) 3 24 Try.underlying27 jL zL sL bL rfl (by decide) _ _ _ rfl HRN.out.rl ⟨X3.heap.size, 0, none⟩ 1 1 (lookV ((i : Int), (j : Int), r2)) rfl rfl HNW.out ?c2 (by decide) ?c3 ?c4 HKN.out.sz _ rfl ?_)
                        case c2 => intro u hu; simp [lookV] at hu; rcases hu with rfl | rfl | rfl <;> rfl
                        case c3 => unfold maxLen; omega
                        case c4 => omega
                        · intro g cap w4 hrow hgr _ _
                          have hk5 := HKN.out.by ok hgr (fun b hb => (HRN.out.rl.lt b hb).1)
                          have hr5 := HRN.out.pusl hgr hrow
                          have hp5 := HPN.out.pusl HRN.out hgr
                          obtain ⟨u7, p7, z7⟩ := hk5.sl.get 7 (by omega)
                          have hk6 := Lib.hid (hk5.put7 ok (.slice (some ⟨g, 0, none⟩) (ls.length + 1) cap))
                          have hr6 := Lib.hid (hr5.low f.B 7 (.slice (some ⟨g, 0, none⟩) (ls.length + 1) cap) ok.b2)
                          have hp6 := Lib.hid (hp5.low f.B 7 (.slice (some ⟨g, 0, none⟩) (ls.length + 1) cap) ok.b2)
                          clear HKN HRN HPN HNW hrow hgr hk5 hr5 hp5 y0 y1 y2 c7
                          go_wp2_with fail
                          go_roundw
                          case rel => exact ⟨k + 1, _, _, ls ++ [((i : Int), (j : Int), r2)], by omega, by go_num, by simp; omega, by omega, hk6, hr6, hp6, fun l hl => by
                            rcases List.mem_append.1 hl with h1' | h1'
                            · exact hL.out l h1'
                            · rw [List.mem_singleton.1 h1']; exact HOK.out⟩
                          case measure => simp [intOf]; omega
                      · have hqe' : (r2 / 1000 == (q : Int)) = false := beq_eq_false_iff_ne.2 hqe
                        go_wp2_with fail
                        go_roundw
                        case rel => exact ⟨m + 1, _, r2, by omega, by go_num, by omega, by omega, Lib.hid hk9, Lib.hid hr9, Lib.hid hp9, hb9, y0, y1, y2⟩
                        case measure => simp [intOf]; omega
                    · go_wp2_with fail
                      go_roundw
                      case rel => exact ⟨k + 1, _, vl, ls, by omega, by go_num, by omega, by omega, hkc, hkr, hkp, hL⟩
                      case measure => simp [intOf]; omega
                · obtain hke : k = nd := by omega
                  have hk := hkc.out
                  have hr := hkr.out
                  have hp := hkp.out
                  have hrd : ∀ l ∈ ls, l.2.2 ≤ 9223372036854775807 := fun l hl => by
                    have := (hL.out l hl).2.2.1
                    omega
                  obtain ⟨sa, cs, rfl, hss, _⟩ := row_looks hr.rl rfl hrd
                  have hxs : Spans wr (some ⟨ge, 0, none⟩) xs := .inr ⟨ge, 0, rfl, (hr.re.lt ge rfl).2, fun j hj => by have := spans_at hr.re rfl hj; simpa using this⟩
                  have hl12 : ls.length ≤ 12 := by omega
                  have hmd : MadeR ⟨some ⟨ge, 0, none⟩, xs.length, ce, e1, a2, im, ey, h1, h2, sa, ls.length, cs⟩ xs ls hs ps hs.length ps.length := made_of hE HX4.out ⟨he10.1, he10.2, he20.1, he20.2⟩ him0 hey0 hh0 HLE.out HPE.out HHP.out HPP.out hl12 rfl hL.out
                  have HF : Hid (MC f ((((((((wr.setCell ⟨f.B, 0, none⟩ (.slice (some ⟨ge, 0, none⟩) xs.length ce)).setCell ⟨f.B, 1, none⟩ (.int .i64 e1)).setCell ⟨f.B, 2, none⟩ (.int .i64 a2)).setCell ⟨f.B, 3, none⟩ (.int .i64 im)).setCell ⟨f.B, 4, none⟩ (.int .i64 ey)).setCell ⟨f.B, 5, none⟩ (.int .i64 h1)).setCell ⟨f.B, 6, none⟩ (.int .i64 h2)).setCell ⟨f.B, 7, none⟩ (.slice sa ls.length cs)) c (.slice (some ⟨ge, 0, none⟩) xs.length ce) (.slice sa ls.length cs) e1 a2 im ey h1 h2) := ((((((((hk.put0 ok (.slice (some ⟨ge, 0, none⟩) xs.length ce)).put1 ok e1).put2 ok a2).put3 ok im).put4 ok ey).put5 ok h1).put6 ok h2).put7 ok (.slice sa ls.length cs))
                  have HR : Hid (MR f ((((((((wr.setCell ⟨f.B, 0, none⟩ (.slice (some ⟨ge, 0, none⟩) xs.length ce)).setCell ⟨f.B, 1, none⟩ (.int .i64 e1)).setCell ⟨f.B, 2, none⟩ (.int .i64 a2)).setCell ⟨f.B, 3, none⟩ (.int .i64 im)).setCell ⟨f.B, 4, none⟩ (.int .i64 ey)).setCell ⟨f.B, 5, none⟩ (.int .i64 h1)).setCell ⟨f.B, 6, none⟩ (.int .i64 h2)).setCell ⟨f.B, 7, none⟩ (.slice sa ls.length cs)) (.slice (some ⟨ge, 0, none⟩) xs.length ce) (.slice sa ls.length cs) (.slice (some ⟨gh, 0, none⟩) hs.length chp) xs ls hs) := ((((((((hr.low f.B 0 _ ok.b2).low f.B 1 _ ok.b2).low f.B 2 _ ok.b2).low f.B 3 _ ok.b2).low f.B 4 _ ok.b2).low f.B 5 _ ok.b2).low f.B 6 _ ok.b2).low f.B 7 _ ok.b2)
                  have HP : Hid (PR f M3 ((((((((wr.setCell ⟨f.B, 0, none⟩ (.slice (some ⟨ge, 0, none⟩) xs.length ce)).setCell ⟨f.B, 1, none⟩ (.int .i64 e1)).setCell ⟨f.B, 2, none⟩ (.int .i64 a2)).setCell ⟨f.B, 3, none⟩ (.int .i64 im)).setCell ⟨f.B, 4, none⟩ (.int .i64 ey)).setCell ⟨f.B, 5, none⟩ (.int .i64 h1)).setCell ⟨f.B, 6, none⟩ (.int .i64 h2)).setCell ⟨f.B, 7, none⟩ (.slice sa ls.length cs)) (.slice (some ⟨gh, 0, none⟩) hs.length chp) (.slice (some ⟨gp, 0, none⟩) ps.length cpp) ps) := ((((((((hp.low f.B 0 _ ok.b2).low f.B 1 _ ok.b2).low f.B 2 _ ok.b2).low f.B 3 _ ok.b2).low f.B 4 _ ok.b2).low f.B 5 _ ok.b2).low f.B 6 _ ok.b2).low f.B 7 _ ok.b2)
                  obtain ⟨u0, p0, f0⟩ := hk.sl.get 0 (by omega)
                  obtain ⟨u1, p1, f1⟩ := hk.sl.get 1 (by omega)
                  obtain ⟨u2, p2, f2⟩ := hk.sl.get 2 (by omega)
                  obtain ⟨u3, p3, f3⟩ := hk.sl.get 3 (by omega)
                  obtain ⟨u4, p4, f4⟩ := hk.sl.get 4 (by omega)
                  obtain ⟨u5, p5, f5⟩ := hk.sl.get 5 (by omega)
                  obtain ⟨u6, p6, f6⟩ := hk.sl.get 6 (by omega)
                  obtain ⟨u7, p7, f7⟩ := hk.sl.get 7 (by omega)
                  have c0 := hk.c0
                  have c1 := hk.c1
                  have c2 := hk.c2
                  have c3 := hk.c3
                  have c4 := hk.c4
                  have c5 := hk.c5
                  have c6 := hk.c6
                  have c7 := hk.c7
                  have HRD := Lib.hid hrd
                  have HMD := Lib.hid hmd
                  have hxl' : xs.length ≤ 9223372036854775807 := by omega
                  clear p0 p1 p2 p3 p4 p5 p6 p7 hkc hkr hkp hL hk hr hp hss hxs hrd hmd
                  go_wp2_with fail
                  clear f0 f1 f2 f3 f4 f5 f6 f7 c0 c1 c2 c3 c4 c5 c6 c7
                  generalize ((((((((wr.setCell ⟨f.B, 0, none⟩ (.slice (some ⟨ge, 0, none⟩) xs.length ce)).setCell ⟨f.B, 1, none⟩ (.int .i64 e1)).setCell ⟨f.B, 2, none⟩ (.int .i64 a2)).setCell ⟨f.B, 3, none⟩ (.int .i64 im)).setCell ⟨f.B, 4, none⟩ (.int .i64 ey)).setCell ⟨f.B, 5, none⟩ (.int .i64 h1)).setCell ⟨f.B, 6, none⟩ (.int .i64 h2)).setCell ⟨f.B, 7, none⟩ (.slice sa ls.length cs)) = WF at HF HR HP ⊢
                  have d0 := HF.out.c0
                  have d1 := HF.out.c1
                  have d2 := HF.out.c2
                  have d3 := HF.out.c3
                  have d4 := HF.out.c4
                  have d5 := HF.out.c5
                  have d6 := HF.out.c6
                  have d7 := HF.out.c7
                  obtain ⟨sa', cs', he, hss, _⟩ := row_looks HR.out.rl rfl HRD.out
                  injection he with he1 _ he3
                  subst he1
                  have hxs : Spans WF (some ⟨ge, 0, none⟩) xs := .inr ⟨ge, 0, rfl, (HR.out.re.lt ge rfl).2, fun j hj => by have := spans_at HR.out.re rfl hj; simpa using this⟩
                  have hhs : Ints WF (some ⟨gh, 0, none⟩) hs := ⟨gh, rfl, (HR.out.rh.lt gh rfl).2, ints_row HR.out.rh rfl⟩
                  have hps : Ints WF (some ⟨gp, 0, none⟩) ps := ⟨gp, rfl, (HP.out.rp.lt gp rfl).2, ints_row HP.out.rp rfl⟩
                  exact bodyPost_ret (v := .tuple #[Wd.val ⟨some ⟨ge, 0, none⟩, xs.length, ce, e1, a2, im, ey, h1, h2, sa, ls.length, cs⟩, (.slice (some ⟨gh, 0, none⟩) hs.length chp), (.slice (some ⟨gp, 0, none⟩) ps.length cpp)]) (by unfold Wd.val; simp [results, Try.results28, go_sem, d0, d1, d2, d3, d4, d5, d6, d7]) rfl
                    ⟨⟨_, xs, ls, hs, ps, _, chp, _, cpp, rfl, HF.out.bel, ⟨hxs, hss, rfl, rfl, by omega, by omega⟩, hhs, hps, HMD.out⟩⟩
end Ey
end Go.Proofs.Ytcfjakifeihbpaa

namespace Go.Proofs.Ytcfjakifeihbpaa
namespace Ey
open Go.RowKit

structure TZ (Y : World) (B : Nat) (h : Wd) (xs : List (Int × Int)) (ls : List LkV) (hs ps : List Int) (gh gp : Nat) : Prop where
  bw : BoxA Y B h xs ls
  ih : ∀ k, k < hs.length → Y.cell? ⟨gh, k, none⟩ = some (.int .i64 (hs.getD k 0))
  ip : ∀ k, k < ps.length → Y.cell? ⟨gp, k, none⟩ = some (.int .i64 (ps.getD k 0))
theorem TZ.grown {Y Y' : World} {B : Nat} {h : Wd} {xs : List (Int × Int)} {ls : List LkV} {hs ps : List Int} {gh gp : Nat} (k : TZ Y B h xs ls hs ps gh gp) (hb : Below Y.heap.size Y Y') : TZ Y' B h xs ls hs ps gh gp :=
  ⟨k.bw.grown hb, fun j hj => cellB (k.ih j hj) hb, fun j hj => cellB (k.ip j hj) hb⟩
set_option maxRecDepth 100000 in
theorem inside_yes (lo hi n : Int) (h1 : lo ≤ n) (h2 : n ≤ hi) (w : World) : Calls Try.prog 31 #[.agg #[.int .i64 lo, .int .i64 hi], .int .i64 n] w (Ret (.bool true) w) := by
  have hX := newB w (.cells #[.int .i64 lo, .int .i64 hi] 24)
  go_enter Try.func31, Try.ntmps31
  go_wp2
  go_ret
  exact ⟨rfl, hX⟩
set_option maxRecDepth 100000 in
set_option maxHeartbeats 16000000 in
theorem true_walk (a : Option Addr) (n cap : Nat) (w : World) (hn : n ≤ 9223372036854775807)
    (hy : n = 0 ∨ ∃ yb yo, a = some ⟨yb, yo, none⟩ ∧ yb < w.heap.size ∧ ∀ k, k < n → ∃ v : Int, w.cell? ⟨yb, yo + k, none⟩ = some (.int .u16 v) ∧ 0 ≤ v ∧ v ≤ 65535) :
    Calls Try.prog 5 #[.slice a n cap] w (Ret (.bool true) w) := by
  have hnI : (n : Int) ≤ 9223372036854775807 := by omega
  go_enter Try.func5, Try.ntmps5
  by_cases h0 : n = 0
  case pos =>
    subst h0
    clear hy hnI
    go_wp2_with fail
    refine (awake_any _).mono ?_
    rintro e w1 ⟨rfl, hb⟩
    go_wp2
    go_ret
    exact ⟨rfl, hb⟩
  obtain ⟨yb, yo, rfl, hyb, hel⟩ := hy.resolve_left h0
  clear hy
  have h0I : ¬ (n : Int) = 0 := by omega
  go_wp2_with fail
  refine (draws_any yb yo n cap w hyb hel).mono ?_
  rintro e w1 ⟨gA, gY, rfl, hB1, hd, ⟨hA1, hA2⟩, ⟨hY1, hY2⟩, hne⟩
  go_wp2_with fail
  refine (made_any gA gY yb yo n cap w w1 hB1 hd hA1 hY1 hne hyb (by omega) hn).mono ?_
  rintro e w2 ⟨h, xs, ls, hs, ps, ha, hc, pa, pc, rfl, hB2, hM, hIh, hIp, hR⟩
  clear hd hA1 hA2 hY1 hY2 hne hB1 hel hyb h0 h0I hn hnI
  unfold Wd.val
  have hZ := newB w2 (.cells #[.slice h.a h.n h.cap, .int .i64 h.eLo, .int .i64 h.eHi, .int .i64 h.images, .int .i64 h.eyes, .int .i64 h.hLo, .int .i64 h.hHi, .slice h.la h.ln h.lcap] 29)
  obtain ⟨gh, rfl, hgh, hIh⟩ := hIh
  obtain ⟨gp, rfl, hgp, hIp⟩ := hIp
  have hT : TZ (w2.alloc (.cells #[.slice h.a h.n h.cap, .int .i64 h.eLo, .int .i64 h.eHi, .int .i64 h.images, .int .i64 h.eyes, .int .i64 h.hLo, .int .i64 h.hHi, .slice h.la h.ln h.lcap] 29)) w2.heap.size h xs ls hs ps gh gp := ⟨⟨boxW_new w2 h _, hM.below hZ⟩, fun k hk => cellB (hIh k hk) hZ, fun k hk => cellB (hIp k hk) hZ⟩
  have hBz := BT hB2 hZ
  go_upto_region 4 with fail
  generalize w2.heap.size = B at hT ⊢
  generalize w2.alloc (.cells #[.slice h.a h.n h.cap, .int .i64 h.eLo, .int .i64 h.eHi, .int .i64 h.images, .int .i64 h.eyes, .int .i64 h.hLo, .int .i64 h.hHi, .slice h.la h.ln h.lcap] 29) = w3 at hT hBz hZ ⊢
  have HT := Lib.hid hT
  have HNL := Lib.hid hM.nl
  clear hT hZ hB2 hgh hgp hIh hIp
  have V := validW_iff hR.v
  have hE4 : 1 ≤ hs.length ∧ hs.length ≤ 4 := by have := V.ey; have := hR.e; omega
  have hI6 : 1 ≤ ps.length ∧ ps.length ≤ 6 := by have := V.im; have := hR.i; omega
  have hl12 : h.ln ≤ 12 := by rw [← HNL.out]; exact V.l12
  have HSY : Hid (∀ k, k < ls.length → saysB xs h.eLo h.eHi (ls.getD k (0, 0, 0)).2.2 = true ∧ (0 ≤ (ls.getD k (0, 0, 0)).1 ∧ (ls.getD k (0, 0, 0)).1 < hs.length) ∧ (0 ≤ (ls.getD k (0, 0, 0)).2.1 ∧ (ls.getD k (0, 0, 0)).2.1 < ps.length)) := fun k hk => by
    have := V.lk _ (getD_mem' (d := (0, 0, 0)) hk)
    have h1 := hR.e
    have h2 := hR.i
    exact ⟨this.2.2, by omega, by omega⟩
  have HR := Lib.hid hR
  clear V hR hM
  obtain ⟨sure, who, tu⟩ := made_facts HR.out
  have TU' := Lib.hid tu
  clear tu
  have c7 := HT.out.bw.box.c7
  have hnI : (h.ln : Int) ≤ 12 := by omega
  go_upto_region 5 with fail
  clear c7
  go_loopw [48] (fun p wr => ∃ k : Nat, k ≤ h.ln ∧ p = .int .i64 k ∧ TZ wr B h xs ls hs ps gh gp ∧ Below w.heap.size w wr) (fun p _ => h.ln - (intOf p).toNat)
  case atStart => exact ⟨0, by omega, rfl, HT.out, hBz⟩
  case round =>
    obtain ⟨k, hk, rfl, hT, hBz⟩ := hrel
    have HT := Lib.hid hT
    clear hT
    by_cases hlt : k < h.ln
    · have hlt' : (k : Int) < (h.ln : Int) := by omega
      have hk0 : (0 : Int) ≤ (k : Int) := by omega
      have hkl : k < ls.length := by rw [HNL.out]; exact hlt
      rcases HT.out.bw.has.lk with hnil | ⟨bt, ot, hla, hbt, hct⟩
      · exfalso; rw [hnil] at hkl; simp at hkl
      obtain ⟨d0, d1, d2, d3⟩ := hct k hkl
      obtain ⟨hsyk, hek, hik⟩ := HSY.out k hkl
      have hlk := HR.out.lk k hkl
      have hHB := HR.out.hb
      have hPB := HR.out.pb
      rw [hla]
      clear hla hct
      generalize ls.getD k (0, 0, 0) = lv at *
      obtain ⟨ey, im, rd⟩ := lv
      dsimp only at d0 d1 d2 d3 hsyk hek hik hlk
      obtain ⟨en, rfl⟩ : ∃ en : Nat, ey = en := ⟨ey.toNat, by omega⟩
      obtain ⟨mn, rfl⟩ : ∃ mn : Nat, im = mn := ⟨im.toNat, by omega⟩
      have hel : en < hs.length := by omega
      have hil : mn < ps.length := by omega
      rw [Int.toNat_natCast, Int.toNat_natCast] at hlk
      have hvb := (hHB en hel).2
      have pvb := hPB mn hil
      obtain ⟨q1, q2, htr⟩ : ∃ q1 q2 : Int, travOf h xs ((en : Int), (mn : Int), rd) = (q1, q2) := ⟨_, _, rfl⟩
      rw [htr] at hlk
      dsimp only at hlk
      have v0 := HT.out.ip mn hil
      have v1 := HT.out.ih en hel
      generalize hs.getD en 0 = hv at hlk hvb v1
      generalize ps.getD mn 0 = pv at hlk pvb v0
      have HLK := Lib.hid hlk
      clear hHB hPB hlk
      go_upto_region 7 with fail
      have hZ := newB wr (.cells #[.int .i64 en, .int .i64 mn, .int .i64 rd] 47)
      have t0 : (wr.alloc (.cells #[.int .i64 en, .int .i64 mn, .int .i64 rd] 47)).cell? ⟨wr.heap.size, 0, none⟩ = some (.int .i64 en) := by simp [go_sem]
      have t1 : (wr.alloc (.cells #[.int .i64 en, .int .i64 mn, .int .i64 rd] 47)).cell? ⟨wr.heap.size, 1, none⟩ = some (.int .i64 mn) := by simp [go_sem]
      have t2 : (wr.alloc (.cells #[.int .i64 en, .int .i64 mn, .int .i64 rd] 47)).cell? ⟨wr.heap.size, 2, none⟩ = some (.int .i64 rd) := by simp [go_sem]
      have v0 := cellB v0 hZ
      have v1 := cellB v1 hZ
      have HT := Lib.hid (HT.out.grown hZ)
      have hBz := BT hBz hZ
      clear d0 d1 d2 hbt hZ
      generalize wr.alloc (.cells #[.int .i64 en, .int .i64 mn, .int .i64 rd] 47) = w5 at *
      generalize wr.heap.size = g7 at *
      obtain ⟨⟨c0, c1, c2, c3, c4, c5, c6, c7⟩, hh⟩ := HT.out.bw
      have htv := travel_any16 h.a h.cap h.eLo h.eHi rd xs _ hh.sp hh.lx d3
      rw [hh.nx, travelR_of h xs ((en : Int), (mn : Int), rd) hsyk, htr] at htv
      dsimp only [reply] at htv
      clear hh c3 c4 c5 c6 c7
      go_wp2_with fail
      refine htv.mono ?_
      rintro e x1 ⟨rfl, hx1⟩
      have hZ := BT hx1 (newB x1 (.cells #[.int .i64 q1, .int .i64 q2] 24))
      have m0 := (two_newT x1 q1 q2 24).1
      have m1 := (two_newT x1 q1 q2 24).2
      have v0 := cellB v0 hZ
      have v1 := cellB v1 hZ
      have t0 := cellB t0 hZ
      have t1 := cellB t1 hZ
      have HT := Lib.hid (HT.out.grown hZ)
      have hBz := BT hBz hZ
      clear c0 c1 c2 t2 hx1 hZ htv htr d3 hsyk
      go_upto_region 8 with fail
      generalize x1.alloc (.cells #[.int .i64 q1, .int .i64 q2] 24) = w6 at *
      generalize x1.heap.size = g8 at *
      have hbd := Below.drew (Below.refl w6.heap.size w6)
      have hjI : (mn : Int) < (ps.length : Int) := by omega
      have hiI : (en : Int) < (hs.length : Int) := by omega
      have hi0 : (0 : Int) ≤ (en : Int) := by omega
      have hj0 : (0 : Int) ≤ (mn : Int) := by omega
      have e5 : IntKind.i64.wrap (pv - hv) = pv - hv := IntWalk.i64_in _ (by omega)
      have HSS : Hid (∀ X, Below w6.heap.size w6 X → X.cell? ⟨g8, 0, none⟩ = some (.int .i64 q1) ∧ X.cell? ⟨g8, 1, none⟩ = some (.int .i64 q2) ∧ X.cell? ⟨g7, 0, none⟩ = some (.int .i64 en) ∧ X.cell? ⟨g7, 1, none⟩ = some (.int .i64 mn) ∧ X.cell? ⟨gp, mn, none⟩ = some (.int .i64 pv) ∧ X.cell? ⟨gh, en, none⟩ = some (.int .i64 hv)) := fun X hX => ⟨cellB m0 hX, cellB m1 hX, cellB t0 hX, cellB t1 hX, cellB v0 hX, cellB v1 hX⟩
      refine wp_region_seq [(0, true), (1, true), (2, true), (3, true), (4, true), (5, true), (6, true), (7, true), (8, true), (9, true), (10, true), (11, true), (12, true), (13, true), (14, true), (15, false), (16, true), (17, true)] (fun w' => w'.cell? ⟨g8, 0, none⟩ = some (.int .i64 q1) ∧ w'.cell? ⟨g8, 1, none⟩ = some (.int .i64 q2) ∧ w'.cell? ⟨g7, 0, none⟩ = some (.int .i64 en) ∧ w'.cell? ⟨g7, 1, none⟩ = some (.int .i64 mn) ∧ w'.cell? ⟨gp, mn, none⟩ = some (.int .i64 pv) ∧ w'.cell? ⟨gh, en, none⟩ = some (.int .i64 hv)) (by kernel_rfl) (by kernel_rfl) (fun _ _ d _ _ h => by cases d <;> exact h) (HSS.out _ hbd) ?_
      generalize w6.drew = X0 at hbd ⊢
      clear m0 m1 t0 t1 v0 v1
      repeat (first | (refine seq_read rfl (by rfl) _ (fun w' hS => by (try dsimp only at hS); go_simp; (try with_reducible rfl)) ?_; (try simp only [Act.put, List.setIfInBounds_toArray, List.set_cons_zero, List.set_cons_succ])) | (refine seq_skip rfl (by rfl) ?_; (try simp only [Act.put, List.setIfInBounds_toArray, List.set_cons_zero, List.set_cons_succ])))
      clear e5
      refine seq_do rfl (by rfl) (fun K hK => ?_)
      go_simp
      refine (inside_yes q1 q2 (pv - hv) HLK.out.1 HLK.out.2 _).mono ?_
      rintro e X1 ⟨rfl, hz⟩
      have hb1 := BT hbd hz
      refine hK _ _ (HSS.out _ hb1) ?_
      clear hK K hbd hz
      (try simp only [Act.put, List.setIfInBounds_toArray, List.set_cons_zero, List.set_cons_succ])
      repeat (first | (refine seq_read rfl (by rfl) _ (fun w' hS => by (try dsimp only at hS); go_simp; (try with_reducible rfl)) ?_; (try simp only [Act.put, List.setIfInBounds_toArray, List.set_cons_zero, List.set_cons_succ])) | (refine seq_skip rfl (by rfl) ?_; (try simp only [Act.put, List.setIfInBounds_toArray, List.set_cons_zero, List.set_cons_succ])))
      refine seq_end ?_
      first | show Exit.inBlock _ _ Exit.normal _ _ | show Exit.then _ _ Exit.normal _ _
      have HT := Lib.hid (HT.out.grown hb1)
      have hBz := BT hBz hb1
      clear HSS hb1
      go_wp2_with fail
      go_roundw
      case rel => exact ⟨k + 1, by omega, by go_num, HT.out, hBz⟩
      case measure => simp [intOf]; omega
    · obtain rfl : k = h.ln := by omega
      have HC1 : Hid (∀ Y, BoxA Y B h xs ls → Calls Try.prog 22 #[.agg #[.slice h.a h.n h.cap, .int .i64 h.eLo, .int .i64 h.eHi, .int .i64 h.images, .int .i64 h.eyes, .int .i64 h.hLo, .int .i64 h.hHi, .slice h.la h.ln h.lcap]] Y (Ret (.tuple #[.int .i64 0, .int .i64 0]) Y)) := fun Y hY => by
        have := clash_any h xs ls Y hY.has
        rw [TU'.out.cl] at this; exact this
      have HC2 : Hid (∀ Y, BoxA Y B h xs ls → Calls Try.prog 24 #[.agg #[.slice h.a h.n h.cap, .int .i64 h.eLo, .int .i64 h.eHi, .int .i64 h.images, .int .i64 h.eyes, .int .i64 h.hLo, .int .i64 h.hHi, .slice h.la h.ln h.lcap]] Y (Ret (.tuple #[.int .i64 0, .int .i64 0]) Y)) := fun Y hY => by
        have := drop_any h xs ls Y hY.has
        rw [TU'.out.dr] at this; exact this
      have HC3 : Hid (∀ Y, BoxA Y B h xs ls → Calls Try.prog 20 #[.agg #[.slice h.a h.n h.cap, .int .i64 h.eLo, .int .i64 h.eHi, .int .i64 h.images, .int .i64 h.eyes, .int .i64 h.hLo, .int .i64 h.hHi, .slice h.la h.ln h.lcap]] Y (Ret (.tuple #[.int .i64 sure, .int .i64 0]) Y)) := fun Y hY => by
        have := sure_any h xs ls Y hY.has
        rw [TU'.out.su] at this; exact this
      have HC4 : Hid (∀ Y, BoxA Y B h xs ls → Calls Try.prog 26 #[.agg #[.slice h.a h.n h.cap, .int .i64 h.eLo, .int .i64 h.eHi, .int .i64 h.images, .int .i64 h.eyes, .int .i64 h.hLo, .int .i64 h.hHi, .slice h.la h.ln h.lcap]] Y (Ret (.tuple #[.int .i64 who, .int .i64 0]) Y)) := fun Y hY => by
        have := explain_any h xs ls Y hY.has
        rw [TU'.out.ex] at this; exact this
      obtain ⟨⟨c0, c1, c2, c3, c4, c5, c6, c7⟩, hh⟩ := HT.out.bw
      clear hh
      go_wp2_with fail
      refine (HC1.out _ HT.out.bw).mono ?_
      rintro e z1 ⟨rfl, hz⟩
      have hBz := BT hBz hz
      have HT := Lib.hid (HT.out.grown hz)
      clear hz c0 c1 c2 c3 c4 c5 c6 c7 HC1
      go_upto_region 12 with fail
      obtain ⟨⟨c0, c1, c2, c3, c4, c5, c6, c7⟩, hh⟩ := HT.out.bw
      clear hh
      go_wp2_with fail
      refine (HC2.out _ HT.out.bw).mono ?_
      rintro e z2 ⟨rfl, hz⟩
      have hBz := BT hBz hz
      have HT := Lib.hid (HT.out.grown hz)
      clear hz c0 c1 c2 c3 c4 c5 c6 c7 HC2
      go_upto_region 13 with fail
      obtain ⟨⟨c0, c1, c2, c3, c4, c5, c6, c7⟩, hh⟩ := HT.out.bw
      clear hh
      go_wp2_with fail
      refine (HC3.out _ HT.out.bw).mono ?_
      rintro e z3 ⟨rfl, hz⟩
      have hBz := BT hBz hz
      have HT := Lib.hid (HT.out.grown hz)
      clear hz c0 c1 c2 c3 c4 c5 c6 c7 HC3
      go_upto_region 14 with fail
      obtain ⟨⟨c0, c1, c2, c3, c4, c5, c6, c7⟩, hh⟩ := HT.out.bw
      clear hh
      go_wp2_with fail
      refine (HC4.out _ HT.out.bw).mono ?_
      rintro e z4 ⟨rfl, hz⟩
      have hBz := BT hBz hz
      have HT := Lib.hid (HT.out.grown hz)
      clear hz c0 c1 c2 c3 c4 c5 c6 c7 HC4
      go_upto_region 15 with fail
      have hEI : (hs.length : Int) ≤ 4 := by omega
      have hII : (ps.length : Int) ≤ 6 := by omega
      have hE9 : hs.length ≤ 9223372036854775807 := by omega
      go_upto_region 19 with fail
      go_loopw [123, 18] (fun p v wr => ∃ k : Nat, k ≤ hs.length ∧ p = .int .i64 k ∧ v = .int .i64 (cntTo hs k) ∧ TZ wr B h xs ls hs ps gh gp ∧ Below w.heap.size w wr) (fun p _ _ => hs.length - (intOf p).toNat)
      case atStart => exact ⟨0, by omega, rfl, rfl, HT.out, hBz⟩
      case round =>
        obtain ⟨k, hk, rfl, rfl, hT, hBz⟩ := hrel
        have HT := Lib.hid hT
        clear hT
        by_cases hlt : k < hs.length
        · skip
          have hlt' : (k : Int) < (hs.length : Int) := by omega
          have hk0 : (0 : Int) ≤ (k : Int) := by omega
          obtain ⟨s1, s2, eh, ⟨n1, n2⟩, hbit⟩ := TU'.out.hb k hlt
          have v0 := HT.out.ih k hlt
          have hHB := (HR.out.hb k hlt).2
          have hst : Hid (cntTo hs (k + 1) = if hs.getD k 0 = 0 then cntTo hs k else cntTo hs k + 1) := rfl
          have hcr := cnt_rng hs k
          have HBT : Hid (∀ b : Nat, b < hs.length → ∃ t1 t2 : Int, reply (betweenR h xs ls k b) = .tuple #[.agg #[.int .i64 t1, .int .i64 t2], .int .i64 0] ∧ (t1 ≤ hs.getD b 0 - hs.getD k 0 ∧ hs.getD b 0 - hs.getD k 0 ≤ t2)) := fun b hb => TU'.out.bt k b hlt hb
          obtain ⟨n, hn⟩ : ∃ n : Int, hs.getD k 0 = n := ⟨_, rfl⟩
          rw [hn] at n1 n2 hbit v0 hst hHB
          have HN := Lib.hid hn
          clear hn
          generalize cntTo hs k = cn at hst hcr ⊢
          have HN12 := Lib.hid (And.intro n1 n2)
          have hsr := TU'.out.rg.1
          have hd : 0 ≤ sure / 2 ^ k ∧ sure / 2 ^ k < 16 := by
            have h2 : (0 : Int) < 2 ^ k := Int.pow_pos (by decide)
            exact ⟨Int.ediv_nonneg hsr.1 (by omega), Int.lt_of_le_of_lt (Int.ediv_le_self _ hsr.1) hsr.2⟩
          have hand := and_one12 (x := sure / 2 ^ k) (by omega)
          have HHI := Lib.hid (And.intro hbit hand)
          clear n1 n2 hbit hand hd hsr
          have HH : Hid (∀ Y, BoxA Y B h xs ls → Calls Try.prog 14 #[.agg #[.slice h.a h.n h.cap, .int .i64 h.eLo, .int .i64 h.eHi, .int .i64 h.images, .int .i64 h.eyes, .int .i64 h.hLo, .int .i64 h.hHi, .slice h.la h.ln h.lcap], .int .i64 k] Y (Ret (.tuple #[.agg #[.int .i64 s1, .int .i64 s2], .int .i64 0]) Y)) := fun Y hY => by
            have := habit_any k h xs ls Y hY.has
            rw [eh] at this; exact this
          clear eh
          go_upto_region 21 with fail
          clear v0
          obtain ⟨⟨c0, c1, c2, c3, c4, c5, c6, c7⟩, hh⟩ := HT.out.bw
          clear hh
          go_wp2_with fail
          refine (HH.out _ HT.out.bw).mono ?_
          rintro e y1 ⟨rfl, hx1⟩
          clear c0 c1 c2 c3 c4 c5 c6 c7 HH
          have hZ := BT hx1 (newB y1 (.cells #[.int .i64 s1, .int .i64 s2] 24))
          have x0 := (two_newT y1 s1 s2 24).1
          have x1 := (two_newT y1 s1 s2 24).2
          go_upto_region 22 with fail
          generalize y1.heap.size = g21 at x0 x1 ⊢
          generalize y1.alloc (.cells #[.int .i64 s1, .int .i64 s2] 24) = v21 at hZ x0 x1 ⊢
          have hBz := BT hBz hZ
          have HT := Lib.hid (HT.out.grown hZ)
          clear hZ hx1
          go_wp2_with fail
          refine (inside_yes s1 s2 n HN12.out.1 HN12.out.2 _).mono ?_
          rintro e z5 ⟨rfl, hz⟩
          have hBz := BT hBz hz
          have HT := Lib.hid (HT.out.grown hz)
          clear hz x0 x1 HN12
          by_cases hz0 : n = 0
          · have hb2 : bits .and .i64 (sure / 2 ^ k) 1 = 0 := by rw [HHI.out.2, HHI.out.1 hz0]
            have hcn : Hid (cntTo hs (k + 1) = cn) := by show _ = _; rw [hst.out, if_pos hz0]
            subst hz0
            clear hst HHI
            go_upto_region 26 with fail
            clear hb2
            go_upto_region 27 with fail
            go_loopw [159] (fun p wq => ∃ j : Nat, j ≤ hs.length ∧ p = .int .i64 j ∧ TZ wq B h xs ls hs ps gh gp ∧ Below w.heap.size w wq) (fun p _ => hs.length - (intOf p).toNat)
            case atStart => exact ⟨0, by omega, rfl, HT.out, hBz⟩
            case round =>
              obtain ⟨j, hj, rfl, hT, hBz⟩ := hrel
              have HT := Lib.hid hT
              clear hT
              by_cases hjl : j < hs.length
              · have hj' : (j : Int) < (hs.length : Int) := by omega
                have hj0 : (0 : Int) ≤ (j : Int) := by omega
                obtain ⟨t1, t2, eb, o1, o2⟩ := HBT.out j hjl
                have v0 := HT.out.ih j hjl
                have hHC := (HR.out.hb j hjl).2
                rw [HN.out] at o1 o2
                generalize hs.getD j 0 = m at o1 o2 v0 hHC
                have HO := Lib.hid (And.intro o1 o2)
                clear o1 o2
                have HB : Hid (∀ Y, BoxA Y B h xs ls → Calls Try.prog 16 #[.agg #[.slice h.a h.n h.cap, .int .i64 h.eLo, .int .i64 h.eHi, .int .i64 h.images, .int .i64 h.eyes, .int .i64 h.hLo, .int .i64 h.hHi, .slice h.la h.ln h.lcap], .int .i64 k, .int .i64 j] Y (Ret (.tuple #[.agg #[.int .i64 t1, .int .i64 t2], .int .i64 0]) Y)) := fun Y hY => by
                  have := between_any k j h xs ls Y hY.has
                  rw [eb] at this; exact this
                clear eb
                go_upto_region 29 with fail
                clear v0
                obtain ⟨⟨c0, c1, c2, c3, c4, c5, c6, c7⟩, hh⟩ := HT.out.bw
                clear hh
                go_wp2_with fail
                refine (HB.out _ HT.out.bw).mono ?_
                rintro e y1 ⟨rfl, hx1⟩
                clear c0 c1 c2 c3 c4 c5 c6 c7 HB
                have hZ := BT hx1 (newB y1 (.cells #[.int .i64 t1, .int .i64 t2] 24))
                have x0 := (two_newT y1 t1 t2 24).1
                have x1 := (two_newT y1 t1 t2 24).2
                go_upto_region 30 with fail
                generalize y1.heap.size = g25 at x0 x1 ⊢
                generalize y1.alloc (.cells #[.int .i64 t1, .int .i64 t2] 24) = v25 at hZ x0 x1 ⊢
                have hBz := BT hBz hZ
                have HT := Lib.hid (HT.out.grown hZ)
                clear hZ hx1
                go_wp2_with fail
                refine (inside_yes t1 t2 (m) (by have := HO.out.1; omega) (by have := HO.out.2; omega) _).mono ?_
                rintro e z6 ⟨rfl, hz⟩
                have hBz := BT hBz hz
                have HT := Lib.hid (HT.out.grown hz)
                clear hz x0 x1 HO
                go_wp2_with fail
                go_roundw
                case rel => first | exact ⟨j + 1, by omega, by go_num, HT.out, hBz⟩ | ((repeat apply Exists.intro); exact ⟨⟨j + 1, by omega, by go_num, HT.out, hBz⟩, rfl⟩)
                case measure => simp [intOf]; omega
              · obtain rfl : j = hs.length := by omega
                go_wp2_with fail
                go_roundw
                case rel => exact ⟨k + 1, by omega, by go_num, by rw [hcn.out], HT.out, hBz⟩
                case measure => simp [intOf]; omega
          · have hcn : Hid (cntTo hs (k + 1) = cn + 1) := by show _ = _; rw [hst.out, if_neg hz0]
            have hzb : (n == 0) = false := beq_eq_false_iff_ne.2 hz0
            have hzn : (n != 0) = true := by rw [bne, hzb]; rfl
            clear hst HHI
            go_upto_region 26 with fail
            clear hz0
            go_upto_region 27 with fail
            go_loopw [159] (fun p wq => ∃ j : Nat, j ≤ hs.length ∧ p = .int .i64 j ∧ TZ wq B h xs ls hs ps gh gp ∧ Below w.heap.size w wq) (fun p _ => hs.length - (intOf p).toNat)
            case atStart => exact ⟨0, by omega, rfl, HT.out, hBz⟩
            case round =>
              obtain ⟨j, hj, rfl, hT, hBz⟩ := hrel
              have HT := Lib.hid hT
              clear hT
              by_cases hjl : j < hs.length
              · have hj' : (j : Int) < (hs.length : Int) := by omega
                have hj0 : (0 : Int) ≤ (j : Int) := by omega
                obtain ⟨t1, t2, eb, o1, o2⟩ := HBT.out j hjl
                have v0 := HT.out.ih j hjl
                have hHC := (HR.out.hb j hjl).2
                rw [HN.out] at o1 o2
                generalize hs.getD j 0 = m at o1 o2 v0 hHC
                have HO := Lib.hid (And.intro o1 o2)
                clear o1 o2
                have HB : Hid (∀ Y, BoxA Y B h xs ls → Calls Try.prog 16 #[.agg #[.slice h.a h.n h.cap, .int .i64 h.eLo, .int .i64 h.eHi, .int .i64 h.images, .int .i64 h.eyes, .int .i64 h.hLo, .int .i64 h.hHi, .slice h.la h.ln h.lcap], .int .i64 k, .int .i64 j] Y (Ret (.tuple #[.agg #[.int .i64 t1, .int .i64 t2], .int .i64 0]) Y)) := fun Y hY => by
                  have := between_any k j h xs ls Y hY.has
                  rw [eb] at this; exact this
                clear eb
                go_upto_region 29 with fail
                clear v0
                obtain ⟨⟨c0, c1, c2, c3, c4, c5, c6, c7⟩, hh⟩ := HT.out.bw
                clear hh
                go_wp2_with fail
                refine (HB.out _ HT.out.bw).mono ?_
                rintro e y1 ⟨rfl, hx1⟩
                clear c0 c1 c2 c3 c4 c5 c6 c7 HB
                have hZ := BT hx1 (newB y1 (.cells #[.int .i64 t1, .int .i64 t2] 24))
                have x0 := (two_newT y1 t1 t2 24).1
                have x1 := (two_newT y1 t1 t2 24).2
                go_upto_region 30 with fail
                generalize y1.heap.size = g25 at x0 x1 ⊢
                generalize y1.alloc (.cells #[.int .i64 t1, .int .i64 t2] 24) = v25 at hZ x0 x1 ⊢
                have hBz := BT hBz hZ
                have HT := Lib.hid (HT.out.grown hZ)
                clear hZ hx1
                go_wp2_with fail
                refine (inside_yes t1 t2 (m - n) (by have := HO.out.1; omega) (by have := HO.out.2; omega) _).mono ?_
                rintro e z6 ⟨rfl, hz⟩
                have hBz := BT hBz hz
                have HT := Lib.hid (HT.out.grown hz)
                clear hz x0 x1 HO
                go_wp2_with fail
                go_roundw
                case rel => first | exact ⟨j + 1, by omega, by go_num, HT.out, hBz⟩ | ((repeat apply Exists.intro); exact ⟨⟨j + 1, by omega, by go_num, HT.out, hBz⟩, rfl⟩)
                case measure => simp [intOf]; omega
              · obtain rfl : j = hs.length := by omega
                go_wp2_with fail
                go_roundw
                case rel => exact ⟨k + 1, by omega, by go_num, by rw [hcn.out], HT.out, hBz⟩
                case measure => simp [intOf]; omega
        · obtain rfl : k = hs.length := by omega
          have hcE := cnt_rng hs hs.length
          have hle := TU'.out.le
          have han := Lib.hid TU'.out.an
          have HZ := Lib.hid (sizeR_any who TU'.out.rg.2)
          have HLEQ := Lib.hid hle
          generalize cntTo hs hs.length = many at *
          generalize popc who = pw at *
          clear hle hcE
          go_upto_region 35 with fail
          clear hlt
          go_loopw [185] (fun p wr => ∃ k : Nat, k ≤ ps.length ∧ p = .int .i64 k ∧ TZ wr B h xs ls hs ps gh gp ∧ Below w.heap.size w wr) (fun p _ => ps.length - (intOf p).toNat)
          case atStart => exact ⟨0, by omega, rfl, HT.out, hBz⟩
          case round =>
            obtain ⟨k, hk, rfl, hT, hBz⟩ := hrel
            have HT := Lib.hid hT
            clear hT
            by_cases hlt : k < ps.length
            · skip
              have hlt' : (k : Int) < (ps.length : Int) := by omega
              have hk0 : (0 : Int) ≤ (k : Int) := by omega
              obtain ⟨s1, s2, c, ep, hcs⟩ := TU'.out.pl k hlt
              have v0 := HT.out.ip k hlt
              generalize ps.getD k 0 = pn at hcs v0
              have HCS := Lib.hid hcs
              have HP : Hid (∀ Y, BoxA Y B h xs ls → Calls Try.prog 18 #[.agg #[.slice h.a h.n h.cap, .int .i64 h.eLo, .int .i64 h.eHi, .int .i64 h.images, .int .i64 h.eyes, .int .i64 h.hLo, .int .i64 h.hHi, .slice h.la h.ln h.lcap], .int .i64 k] Y (Ret (.tuple #[.agg #[.int .i64 s1, .int .i64 s2], .int .i64 c]) Y)) := fun Y hY => by
                have := place_any k h xs ls Y hY.has
                rw [ep] at this; exact this
              clear ep hcs
              have c7 := HT.out.bw.box.c7
              go_upto_region 39 with fail
              clear v0 c7
              go_loopw [193, 29] (fun p v wq => ∃ j : Nat, j ≤ h.ln ∧ p = .int .i64 j ∧ v = .bool (seenB ls (k : Int) j) ∧ TZ wq B h xs ls hs ps gh gp ∧ Below w.heap.size w wq) (fun p _ _ => h.ln - (intOf p).toNat)
              case atStart => exact ⟨0, by omega, rfl, by rw [seen_zero], HT.out, hBz⟩
              case round =>
                obtain ⟨j, hj, rfl, rfl, hT, hBz⟩ := hrel
                have HT := Lib.hid hT
                clear hT
                by_cases hlj : j < h.ln
                · skip
                  have hj' : (j : Int) < (h.ln : Int) := by omega
                  have hj0 : (0 : Int) ≤ (j : Int) := by omega
                  have hjl : j < ls.length := by rw [HNL.out]; exact hlj
                  rcases HT.out.bw.has.lk with hnil | ⟨bt, ot, hla, hbt, hct⟩
                  · exfalso; rw [hnil] at hjl; simp at hjl
                  obtain ⟨d0, d1, d2, d3⟩ := hct j hjl
                  have hsy := Lib.hid (fun he => seen_yes (ls := ls) (i := (k : Int)) hjl he)
                  have hsn := Lib.hid (fun he => seen_no (ls := ls) (i := (k : Int)) hjl he)
                  rw [hla]
                  clear hla hct
                  generalize ls.getD j (0, 0, 0) = lv at *
                  obtain ⟨ey, im, rd⟩ := lv
                  dsimp only at d0 d1 d2 d3 hsy hsn
                  have hZ := newB wr (.cells #[.int .i64 ey, .int .i64 im, .int .i64 rd] 47)
                  have t1 : (wr.alloc (.cells #[.int .i64 ey, .int .i64 im, .int .i64 rd] 47)).cell? ⟨wr.heap.size, 1, none⟩ = some (.int .i64 im) := by simp [go_sem]
                  have HT := Lib.hid (HT.out.grown hZ)
                  have hBz := BT hBz hZ
                  go_upto_region 41 with fail
                  clear d0 d1 d2 d3 hbt hZ
                  generalize wr.alloc (.cells #[.int .i64 ey, .int .i64 im, .int .i64 rd] 47) = w5 at *
                  generalize wr.heap.size = g7 at *
                  cases hb : seenB ls (k : Int) j
                  · by_cases hki : im = (k : Int)
                    · have hse := Lib.hid (hsy.out hki)
                      subst hki
                      clear hsy hsn hb
                      go_wp2_with fail
                      go_roundw
                      case rel => exact ⟨j + 1, by omega, by go_num, by rw [hse.out], HT.out, hBz⟩
                      case measure => simp [intOf]; omega
                    · have hse := Lib.hid ((hsn.out hki).trans hb)
                      have hib : (im == (k : Int)) = false := beq_eq_false_iff_ne.2 hki
                      clear hsy hsn hb
                      go_wp2_with fail
                      go_roundw
                      case rel => exact ⟨j + 1, by omega, by go_num, by rw [hse.out], HT.out, hBz⟩
                      case measure => simp [intOf]; omega
                  · have hse : Hid (seenB ls (k : Int) (j + 1) = true) := by
                      by_cases hki : im = (k : Int)
                      · exact hsy.out hki
                      · exact (hsn.out hki).trans hb
                    clear hsy hsn hb
                    go_wp2_with fail
                    go_roundw
                    case rel => exact ⟨j + 1, by omega, by go_num, by rw [hse.out], HT.out, hBz⟩
                    case measure => simp [intOf]; omega
                · obtain hje : j = ls.length := by rw [HNL.out]; omega
                  have hcs := HCS.out
                  rw [← hje] at hcs
                  clear hje HCS
                  rcases hcs with ⟨hsb, hc⟩ | ⟨hsb, hc, o1, o2⟩
                  · subst hc
                    rw [hsb]
                    clear hsb
                    go_upto_region 43 with fail
                    clear hlj
                    obtain ⟨⟨c0, c1, c2, c3, c4, c5, c6, c7⟩, hh⟩ := HT.out.bw
                    clear hh
                    go_wp2_with fail
                    refine (HP.out _ HT.out.bw).mono ?_
                    rintro e y1 ⟨rfl, hx1⟩
                    clear c0 c1 c2 c3 c4 c5 c6 c7 HP
                    have hZ := BT hx1 (newB y1 (.cells #[.int .i64 s1, .int .i64 s2] 24))
                    have x0 := (two_newT y1 s1 s2 24).1
                    have x1 := (two_newT y1 s1 s2 24).2
                    go_upto_region 44 with fail
                    generalize y1.heap.size = g32 at x0 x1 ⊢
                    generalize y1.alloc (.cells #[.int .i64 s1, .int .i64 s2] 24) = v32 at hZ x0 x1 ⊢
                    have hBz := BT hBz hZ
                    have HT := Lib.hid (HT.out.grown hZ)
                    clear hZ hx1
                    clear x0 x1
                    go_wp2_with fail
                    go_roundw
                    case rel => exact ⟨k + 1, by omega, by go_num, HT.out, hBz⟩
                    case measure => simp [intOf]; omega
                  · subst hc
                    rw [hsb]
                    have HO := Lib.hid (And.intro o1 o2)
                    clear hsb o1 o2
                    go_upto_region 43 with fail
                    clear hlj
                    obtain ⟨⟨c0, c1, c2, c3, c4, c5, c6, c7⟩, hh⟩ := HT.out.bw
                    clear hh
                    go_wp2_with fail
                    refine (HP.out _ HT.out.bw).mono ?_
                    rintro e y1 ⟨rfl, hx1⟩
                    clear c0 c1 c2 c3 c4 c5 c6 c7 HP
                    have hZ := BT hx1 (newB y1 (.cells #[.int .i64 s1, .int .i64 s2] 24))
                    have x0 := (two_newT y1 s1 s2 24).1
                    have x1 := (two_newT y1 s1 s2 24).2
                    go_upto_region 44 with fail
                    generalize y1.heap.size = g32 at x0 x1 ⊢
                    generalize y1.alloc (.cells #[.int .i64 s1, .int .i64 s2] 24) = v32 at hZ x0 x1 ⊢
                    have hBz := BT hBz hZ
                    have HT := Lib.hid (HT.out.grown hZ)
                    clear hZ hx1
                    go_wp2_with fail
                    refine (inside_yes s1 s2 pn HO.out.1 HO.out.2 _).mono ?_
                    rintro e z7 ⟨rfl, hz⟩
                    have hBz := BT hBz hz
                    have HT := Lib.hid (HT.out.grown hz)
                    clear hz x0 x1 HO
                    go_wp2_with fail
                    go_roundw
                    case rel => exact ⟨k + 1, by omega, by go_num, HT.out, hBz⟩
                    case measure => simp [intOf]; omega
            · obtain rfl : k = ps.length := by omega
              have han' := han.out
              have hle' := HLEQ.out
              go_wp2_with fail
              refine (HZ.out _).mono ?_
              rintro e z8 ⟨rfl, hz⟩
              have hBz := BT hBz hz
              clear hz
              go_wp2_with fail
              refine (awake_any _).mono ?_
              rintro e z9 ⟨rfl, hz⟩
              have hBz := BT hBz hz
              go_wp2
              go_ret
              exact ⟨rfl, hBz⟩
end Ey
end Go.Proofs.Ytcfjakifeihbpaa

namespace Go.Proofs.Ytcfjakifeihbpaa.EyeTrueRow
open Go.ChangeShapes Go.WideShapes Go.ChangeAt Go.RowKit Ey

theorem own : ownKnob Try.prog.godebug = none := by kernel_rfl
theorem c54 : Try.prog.cellsOf 54 = 1 := by kernel_rfl
theorem maxE : IntKind.u16.max = 65535 := by decide
theorem minE : IntKind.u16.min = 0 := by decide
set_option maxRecDepth 100000 in
/-- A slice of numbers that came in. -/
theorem open_by {H : Type} {enc : TypeId × Value → H} {w : World} {base : Nat} {spare : Nat → Bool} {held : Bool} {r : Reach} {b0 : Nat} {v : Value} {d : DataW H} {p : List MemPlace} (hval : Value.okWide Try.prog w r b0 40 v) (h : DataW.Trod enc Try.prog w base spare held 40 v d p) :
    ∃ (a : Option Addr) (n cap : Nat), v = .slice a n cap ∧ n ≤ 9223372036854775807 ∧ (n = 0 ∨ ∃ yb yo, a = some ⟨yb, yo, none⟩ ∧ yb < w.heap.size ∧ ∀ k, k < n → ∃ u : Int, w.cell? ⟨yb, yo + k, none⟩ = some (.int .u16 u) ∧ 0 ≤ u ∧ u ≤ 65535) := by
  obtain ⟨a0, len, cap, rfl⟩ := okWide_slice Try.underlying40 hval
  obtain ⟨fuel, hf⟩ := h
  refine ⟨a0, len, cap, rfl, ?_⟩
  rcases open_ints Try.underlying40 Try.underlying54 c54 hf with ⟨hcs, hx⟩ | ⟨a, len', cap', zs, hcs, _, hl, hm, hz, hx, hcell, hwz⟩
  · simp [Value.cells] at hcs
    obtain ⟨_, h1, _⟩ := hcs
    exact ⟨by omega, .inl (by omega)⟩
  · simp [Value.cells] at hcs
    obtain ⟨h1, h2, h3⟩ := hcs
    subst h1; subst h2; subst h3
    unfold maxLen at hm
    refine ⟨by omega, ?_⟩
    by_cases h0 : len = 0
    · exact .inl h0
    · right
      have hzl : len ≤ zs.length := by rw [hz]; split <;> omega
      obtain ⟨b, off, e, hc⟩ := ints_at hcell (by omega)
      subst e
      have hb : b < w.heap.size := World.block_lt_of_cell? _ _ (hc 0 (by omega))
      refine ⟨b, off, rfl, hb, fun k hk => ⟨zs.getD k 0, hc k (by omega), ?_⟩⟩
      have hw := hwz (zs.getD k 0) (by rw [List.getD_eq_getElem?_getD, List.getElem?_eq_getElem (show k < zs.length by omega)]; exact List.getElem_mem _)
      simp only [Lit.wf, minE, maxE, Bool.and_eq_true, decide_eq_true_eq] at hw
      exact hw

set_option maxRecDepth 100000 in
theorem lifted (os : Os) (started : os.Started) (H : Type) (enc : TypeId × Value → H) :
    ReturnsInHanded {} Try.checked os 5 .any (Rows.eyeTrueSpec.pre6 enc Try.prog Try.f5 Rows.eyeTrueRow.domain false) (Rows.eyeTrueSpec.post enc Try.prog Try.f5 false true false false) := by
  refine returnsInHanded_of_change (C := Try.checked) own started (by kernel_rfl) Try.func5
    (ChangeSpec.witness6 (enc := enc) (C := Try.checked) false ⟨#[], #[.slice none 0 0], []⟩ 8 (by kernel_rfl) (by kernel_rfl) (by kernel_rfl) (by kernel_rfl)) ?_
  intro W base args ds gs before hval0 hW hcnd _
  have hval : ∀ (j : Nat) t v, Try.f5.params[j]? = some t → args[j]? = some v → Value.okWide Try.prog W .any base t v := hval0
  have hW' := hW
  obtain ⟨p, q, hA0, hV, rfl, hfz, hnd⟩ := hW
  have hA : DataW.TrodAll enc Try.prog W 0 (fun _ => true) true Try.f5.params.toList args.toList ds p := hA0
  rw [Try.params5] at hA hval
  obtain ⟨v0, vs0, d0, ds0, p0, q0, hargs, rfl, rfl, h0, r0⟩ := trodAll_cons hA
  obtain ⟨rfl, rfl, rfl⟩ := trodAll_nil r0
  obtain rfl : args = #[v0] := Array.toList_inj.1 (by simpa using hargs)
  obtain ⟨a, n, cap, rfl, hn, hy⟩ := open_by (hval 0 40 v0 rfl rfl) h0
  obtain ⟨rfl, rfl⟩ := trodVars_none hV
  refine (true_walk a n cap W hn hy).mono fun e W' ⟨he, hb⟩ => ?_
  subst he
  refine ⟨_, rfl, law_last rfl (by decide +kernel) (fun _ _ _ => trodAll_cons_mk (shut_bool Try.underlying4 _) trodAll_mk0) (ok_one (by kernel_rfl) rfl (okWide_bool_mk Try.underlying4 _)) hW' rfl rfl rfl hb⟩

theorem over : Rows.eyeTrueRow.holds Try.pinned (OpenSpec.ofChange Rows.eyeTrueSpec) :=
  OpenClaim.holds_of_wide 5 Try.f5 rfl rfl rfl rfl rfl rfl rfl ⟨rfl, rfl, rfl, rfl, rfl⟩ rfl rfl rfl rfl rfl (by kernel_rfl) Try.func5 (by kernel_rfl)
    (of_decide_eq_true (by kernel_rfl)) (by unfold Func.isWrapper; first | (rw [if_pos (by decide +kernel)]; kernel_rfl) | (rw [if_neg (by decide +kernel)]; exact ⟨rfl, rfl⟩))
    (fun os started H enc _ => lifted os started H enc)

theorem eyeTrue_holds : Rows.EyeTrueSaid := over
#print axioms eyeTrue_holds
end Go.Proofs.Ytcfjakifeihbpaa.EyeTrueRow
